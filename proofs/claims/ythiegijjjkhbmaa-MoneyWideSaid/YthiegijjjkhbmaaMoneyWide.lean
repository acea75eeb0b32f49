/- money.Mul and money.Div answer what the document's own answers say, at any three words; no condition. -/
import Derived.Test.YthiegijjjkhbmaaShell
import Derived.Test.YthiegijjjkhbmaaWakes
import Derived.Deep.QuietTactic
import Derived.BigQuiet
namespace Go.Proofs.Ythiegijjjkhbmaa.Law
open Go.ChangeShapes Go.WideShapes Go.ChangeAt Go.RowKit Bits Money Ref

def dQ (hi lo c : Int) : Int := if hi < c then (hi * 18446744073709551616 + lo) / c else 0
def dR (hi lo c : Int) : Int := if hi < c then (hi * 18446744073709551616 + lo) % c else 0
def dK (hi c : Int) : Bool := decide (hi < c)
theorem d_yes {hi lo c : Int} (h : hi < c) : dQ hi lo c = (hi * 18446744073709551616 + lo) / c ∧ dR hi lo c = (hi * 18446744073709551616 + lo) % c ∧ dK hi c = true := by
  unfold dQ dR dK; rw [if_pos h, if_pos h]; exact ⟨rfl, rfl, decide_eq_true h⟩
theorem d_no {hi lo c : Int} (h : ¬ hi < c) : dQ hi lo c = 0 ∧ dR hi lo c = 0 ∧ dK hi c = false := by
  unfold dQ dR dK; rw [if_neg h, if_neg h]; exact ⟨rfl, rfl, decide_eq_false h⟩
theorem div_all (hi lo c : Int) (w : World) (h0 : 0 ≤ hi) (c1 : c ≤ 18446744073709551615) (l0 : 0 ≤ lo) (l1 : lo ≤ 18446744073709551615) :
    Calls Try.prog 23 #[.int .u64 hi, .int .u64 lo, .int .u64 c] w fun e w' => e = .returned (.tuple #[.int .u64 (dQ hi lo c), .int .u64 (dR hi lo c), .bool (dK hi c)]) ∧ ∃ n, w' = w.drewN n := by
  by_cases h : hi < c
  · rw [(d_yes h).1, (d_yes h).2.1, (d_yes (lo := lo) h).2.2]
    exact Money.div_ok hi lo c w h0 h c1 l0 l1
  · rw [(d_no h).1, (d_no h).2.1, (d_no (lo := lo) h).2.2]
    exact (Money.div_no hi lo c w (by omega)).mono fun _ _ h => ⟨h.1, 0, h.2.symm⟩
theorem rdiv_all (hi lo c : Int) (w : World) (h0 : 0 ≤ hi) (c1 : c ≤ 18446744073709551615) (l0 : 0 ≤ lo) (l1 : lo ≤ 18446744073709551615) :
    Calls Try.prog 24 #[.int .u64 hi, .int .u64 lo, .int .u64 c] w fun e w' => e = .returned (.agg #[.int .u64 (dQ hi lo c), .int .u64 (dR hi lo c), .bool (dK hi c)]) ∧ Below w.heap.size w w' := by
  by_cases h : hi < c
  · rw [(d_yes h).1, (d_yes h).2.1, (d_yes (lo := lo) h).2.2]
    exact Ref.div_ok hi lo c w h0 h c1 l0 l1
  · rw [(d_no h).1, (d_no h).2.1, (d_no (lo := lo) h).2.2]
    exact Ref.div_no hi lo c w (Or.inr (by omega))

set_option maxHeartbeats 400000 in
theorem wide_walk (a b c : Int) (w : World) (a0 : 0 ≤ a) (a1 : a ≤ 18446744073709551615) (b0 : 0 ≤ b) (b1 : b ≤ 18446744073709551615) (c1 : c ≤ 18446744073709551615) :
    Calls Try.prog 5 #[.int .u64 a, .int .u64 b, .int .u64 c] w fun e w' => e = .returned (.bool true) ∧ Below w.heap.size w w' := by
  have p0 : 0 ≤ a * b / 18446744073709551616 := Int.ediv_nonneg (Int.mul_nonneg a0 b0) (by omega)
  have p2 : 0 ≤ a * b % 18446744073709551616 := by omega
  have p3 : a * b % 18446744073709551616 ≤ 18446744073709551615 := by omega
  go_enter Try.func5, Try.ntmps5
  go_wp2_with fail
  refine (Money.mul_any _ _ _ a0 a1 b0 b1).mono ?_
  rintro e w1 ⟨rfl, rfl⟩
  go_wp2_with fail
  refine (Ref.mul_any _ _ _ a0 a1 b0 b1).mono ?_
  rintro e w1 ⟨rfl, hb1⟩
  generalize a * b / 18446744073709551616 = hi at *
  generalize a * b % 18446744073709551616 = lo at *
  go_wp2_with fail
  refine (div_all _ _ _ _ p0 c1 p2 p3).mono ?_
  rintro e w2 ⟨rfl, n, rfl⟩
  go_wp2_with fail
  refine (rdiv_all _ _ _ _ p0 c1 p2 p3).mono ?_
  rintro e w3 ⟨rfl, hb3⟩
  have x0 := fresh hb3 0
  have x1 := fresh hb3 1
  simp at x0 x1
  have hz3 : w1.heap.size + 1 ≤ w3.heap.size := by have := hb3.size; simpa using this
  go_wp2_with fail
  refine (div_all _ _ _ _ a0 c1 b0 b1).mono ?_
  rintro e w4 ⟨rfl, m, rfl⟩
  go_wp2_with fail
  refine (rdiv_all _ _ _ _ a0 c1 b0 b1).mono ?_
  rintro e w5 ⟨rfl, hb5⟩
  have y0 := carry hb5 (by omega) x0
  have y1 := carry hb5 (by omega) x1
  have z0 := fresh hb5 0
  have z1 := fresh hb5 1
  have z2 := fresh hb5 2
  simp at z0 z1 z2
  clear x0 x1
  have hz5 : w3.heap.size + 1 ≤ w5.heap.size := by have := hb5.size; simpa using this
  have q1 : w1.heap.size < w5.heap.size := by omega
  have q3 : w3.heap.size < w5.heap.size := by omega
  go_wp2_with fail
  refine (wakes_any _).mono ?_
  rintro e w6 ⟨rfl, k, rfl⟩
  go_wp2_with fail
  go_ret
  refine ⟨rfl, ?_⟩
  exact below_drewN (below_new (below_via (below_drewN (below_new (below_via (below_drewN (below_new hb1 _) _) hb3) _) _) hb5) _) _

set_option maxRecDepth 100000 in
theorem moneyWide_lifted (os : Os) (started : os.Started) (H : Type) (enc : TypeId × Value → H) :
    ReturnsInHanded {} Try.checked os 5 .any (Rows.moneyWideSpec.pre6 enc Try.prog Try.f5 Rows.moneyWideRow.domain false) (Rows.moneyWideSpec.post enc Try.prog Try.f5 false true false false) := by
  refine Shell.law_lifted (C := Try.checked) (tb := 4) (by kernel_rfl) started (by kernel_rfl) Try.func5
    (ChangeSpec.witness6 (enc := enc) (C := Try.checked) false ⟨#[], #[.int .u64 0, .int .u64 0, .int .u64 0], []⟩ 8 (by kernel_rfl) (by kernel_rfl) (by kernel_rfl) (by kernel_rfl))
    (by kernel_rfl) (by kernel_rfl) rfl rfl Try.underlying4 ?_
  intro W base args ds p hval0 hA0
  have hval : ∀ (j : Nat) t v, Try.f5.params[j]? = some t → args[j]? = some v → Value.okWide Try.prog W .any base t v := hval0
  have hA : DataW.TrodAll enc Try.prog W 0 (fun _ => true) true Try.f5.params.toList args.toList ds p := hA0
  clear hval0 hA0
  rw [Try.params5] at hA hval
  obtain ⟨v0, vs0, d0, ds0, p0, q0, hargs, rfl, rfl, h0, r0⟩ := trodAll_cons hA
  obtain ⟨v1, vs1, d1, ds1, p1, q1, rfl, rfl, rfl, h1, r1⟩ := trodAll_cons r0
  obtain ⟨v2, vs2, d2, ds2, p2, q2, rfl, rfl, rfl, h2, r2⟩ := trodAll_cons r1
  obtain ⟨rfl, rfl, rfl⟩ := trodAll_nil r2
  obtain rfl : args = #[v0, v1, v2] := by cases args; simp_all
  refine ⟨rfl, ?_⟩
  obtain ⟨a, rfl, -, -, ha⟩ := open_int Try.underlying38 (hval 0 38 v0 rfl rfl) h0
  obtain ⟨b, rfl, -, -, hb⟩ := open_int Try.underlying38 (hval 1 38 v1 rfl rfl) h1
  obtain ⟨c, rfl, -, -, hc⟩ := open_int Try.underlying38 (hval 2 38 v2 rfl rfl) h2
  have ba := bounds_u64 ha
  have bb := bounds_u64 hb
  have bc := bounds_u64 hc
  exact wide_walk a b c W ba.1 ba.2 bb.1 bb.2 bc.2

theorem moneyWide_over : Rows.moneyWideRow.holds Try.pinned (OpenSpec.ofChange Rows.moneyWideSpec) :=
  OpenClaim.holds_of_wide 5 Try.f5 rfl rfl rfl rfl rfl rfl rfl ⟨rfl, rfl, rfl, rfl, rfl⟩ rfl rfl rfl rfl rfl (by kernel_rfl) Try.func5 (by kernel_rfl)
    (of_decide_eq_true (by kernel_rfl)) (by unfold Func.isWrapper; first | (rw [if_pos (by decide +kernel)]; kernel_rfl) | (rw [if_neg (by decide +kernel)]; exact ⟨rfl, rfl⟩))
    (fun os st H enc _ => moneyWide_lifted os st H enc)

/-- The statement. -/
theorem moneyWide_proved : Rows.MoneyWideSaid := moneyWide_over
end Go.Proofs.Ythiegijjjkhbmaa.Law
