/- By money.MulDiv, Down is not above Even, Even not above Up, Up at most one more than Down, and Down and Up are one just where nothing is left over; no condition. -/
import Derived.Test.YthiegijjjkhbmaaShell
import Derived.Test.YthiegijjjkhbmaaWakes
import Derived.Test.YthiegijjjkhbmaaRnd
import Derived.Deep.QuietTactic
import Derived.BigQuiet
namespace Go.Proofs.Ythiegijjjkhbmaa.Law
open Go.ChangeShapes Go.WideShapes Go.ChangeAt Go.RowKit Bits Money Ref

theorem prod_bd (a b : Int) (a0 : 0 ≤ a) (a1 : a ≤ 4294967295) (b0 : 0 ≤ b) (b1 : b ≤ 1000) : 0 ≤ a * b ∧ a * b ≤ 4294967295000 := by
  refine ⟨Int.mul_nonneg a0 b0, ?_⟩
  have := Int.mul_le_mul a1 b1 b0 (by omega : (0 : Int) ≤ 4294967295)
  simpa using this

set_option maxHeartbeats 400000 in
theorem rounds_walk (a b c : Int) (w : World) (a0 : 0 ≤ a) (a1 : a ≤ 4294967295) (b0 : 0 ≤ b) (b1 : b ≤ 4294967295) (c0 : 0 ≤ c) (c1 : c ≤ 65535) :
    Calls Try.prog 6 #[.int .u32 a, .int .u32 b, .int .u16 c] w fun e w' => e = .returned (.bool true) ∧ Below w.heap.size w w' := by
  obtain ⟨p0, p1⟩ := prod_bd a (b % 1000) a0 a1 (by omega) (by omega)
  obtain ⟨t1, t2, t3, t4, t5, t6, t7, t8⟩ := rnd_three p0 (by omega : 0 < c + 1)
  obtain ⟨s0, s1⟩ := rnd_small (how := 0) p0 (by omega) (by omega : 0 < c + 1)
  obtain ⟨s2, s3⟩ := rnd_small (how := 1) p0 (by omega) (by omega : 0 < c + 1)
  obtain ⟨s4, s5⟩ := rnd_small (how := 2) p0 (by omega) (by omega : 0 < c + 1)
  generalize hx : rnd a (b % 1000) (c + 1) 0 = x at *
  generalize hy : rnd a (b % 1000) (c + 1) 2 = y at *
  generalize hz : rnd a (b % 1000) (c + 1) 1 = z at *
  have HX := Lib.hid hx
  have HY := Lib.hid hy
  have HZ := Lib.hid hz
  clear hx hy hz
  have both : ((x == z) = true ∧ (a * (b % 1000) % (c + 1) == 0) = true) ∨ ((x == z) = false ∧ (a * (b % 1000) % (c + 1) == 0) = false) := by
    by_cases h : a * (b % 1000) % (c + 1) = 0
    · exact Or.inl ⟨beq_iff_eq.2 (t4 h), beq_iff_eq.2 h⟩
    · exact Or.inr ⟨beq_eq_false_iff_ne.2 (t5 h), beq_eq_false_iff_ne.2 h⟩
  clear t4 t5
  rcases both with ⟨hb1, hb2⟩ | ⟨hb1, hb2⟩
  all_goals
    go_enter Try.func6, Try.ntmps6
    go_wp2_with fail
    refine (md_small _ _ _ _ _ (by omega) (by omega) (by omega) (by omega) (by omega) (by omega) (by omega) (by omega) (by omega)).mono ?_
    rw [HX.out]
    rintro e w1 ⟨rfl, n, rfl⟩
    go_wp2_with fail
    refine (md_small _ _ _ _ _ (by omega) (by omega) (by omega) (by omega) (by omega) (by omega) (by omega) (by omega) (by omega)).mono ?_
    rw [HY.out]
    rintro e w1 ⟨rfl, m, rfl⟩
    go_wp2_with fail
    refine (md_small _ _ _ _ _ (by omega) (by omega) (by omega) (by omega) (by omega) (by omega) (by omega) (by omega) (by omega)).mono ?_
    rw [HZ.out]
    rintro e w1 ⟨rfl, k, rfl⟩
    go_wp2_with fail
    refine (wakes_any _).mono ?_
    rintro e w6 ⟨rfl, j, rfl⟩
    go_wp2_with fail
    go_ret
    exact ⟨rfl, below_drewN (Below.refl _ _) _⟩

set_option maxRecDepth 100000 in
theorem moneyRounds_lifted (os : Os) (started : os.Started) (H : Type) (enc : TypeId × Value → H) :
    ReturnsInHanded {} Try.checked os 6 .any (Rows.moneyRoundsSpec.pre6 enc Try.prog Try.f6 Rows.moneyRoundsRow.domain false) (Rows.moneyRoundsSpec.post enc Try.prog Try.f6 false true false false) := by
  refine Shell.law_lifted (C := Try.checked) (tb := 4) (by kernel_rfl) started (by kernel_rfl) Try.func6
    (ChangeSpec.witness6 (enc := enc) (C := Try.checked) false ⟨#[], #[.int .u32 0, .int .u32 0, .int .u16 0], []⟩ 8 (by kernel_rfl) (by kernel_rfl) (by kernel_rfl) (by kernel_rfl))
    (by kernel_rfl) (by kernel_rfl) rfl rfl Try.underlying4 ?_
  intro W base args ds p hval0 hA0
  have hval : ∀ (j : Nat) t v, Try.f6.params[j]? = some t → args[j]? = some v → Value.okWide Try.prog W .any base t v := hval0
  have hA : DataW.TrodAll enc Try.prog W 0 (fun _ => true) true Try.f6.params.toList args.toList ds p := hA0
  clear hval0 hA0
  rw [Try.params6] at hA hval
  obtain ⟨v0, vs0, d0, ds0, p0, q0, hargs, rfl, rfl, h0, r0⟩ := trodAll_cons hA
  obtain ⟨v1, vs1, d1, ds1, p1, q1, rfl, rfl, rfl, h1, r1⟩ := trodAll_cons r0
  obtain ⟨v2, vs2, d2, ds2, p2, q2, rfl, rfl, rfl, h2, r2⟩ := trodAll_cons r1
  obtain ⟨rfl, rfl, rfl⟩ := trodAll_nil r2
  obtain rfl : args = #[v0, v1, v2] := by cases args; simp_all
  refine ⟨rfl, ?_⟩
  obtain ⟨a, rfl, -, -, ha⟩ := open_int Try.underlying50 (hval 0 50 v0 rfl rfl) h0
  obtain ⟨b, rfl, -, -, hb⟩ := open_int Try.underlying50 (hval 1 50 v1 rfl rfl) h1
  obtain ⟨c, rfl, -, -, hc⟩ := open_int Try.underlying51 (hval 2 51 v2 rfl rfl) h2
  have ba := bounds_u32 ha
  have bb := bounds_u32 hb
  have bc := bounds_u16 hc
  exact rounds_walk a b c W ba.1 ba.2 bb.1 bb.2 bc.1 bc.2

theorem moneyRounds_over : Rows.moneyRoundsRow.holds Try.pinned (OpenSpec.ofChange Rows.moneyRoundsSpec) :=
  OpenClaim.holds_of_wide 6 Try.f6 rfl rfl rfl rfl rfl rfl rfl ⟨rfl, rfl, rfl, rfl, rfl⟩ rfl rfl rfl rfl rfl (by kernel_rfl) Try.func6 (by kernel_rfl)
    (of_decide_eq_true (by kernel_rfl)) (by unfold Func.isWrapper; first | (rw [if_pos (by decide +kernel)]; kernel_rfl) | (rw [if_neg (by decide +kernel)]; exact ⟨rfl, rfl⟩))
    (fun os st H enc _ => moneyRounds_lifted os st H enc)

/-- The statement. -/
theorem moneyRounds_proved : Rows.MoneyRoundsSaid := moneyRounds_over
end Go.Proofs.Ythiegijjjkhbmaa.Law
