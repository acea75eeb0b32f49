/- Cents and Ppm answer what the document's own Cents and Ppm answer, at every float64; no condition. -/
import Derived.Test.YtiaiahdejihlbaaShell
import Derived.Test.YtiaiahdejihlbaaRealWakes
namespace Go.Proofs.Ytiaiahdejihlbaa.Law
open Go.ChangeShapes Go.WideShapes Go.ChangeAt Go.RowKit Bits Money Flo Fl

theorem money_walk (b : Nat) (w : World) (hb : b < 18446744073709551616) :
    Calls Try.prog 4 #[.float .f64 b] w fun e w' => e = .returned (.bool true) ∧ Below w.heap.size w w' := by
  have h1 := cents_any b
  have h2 := rcents_any b
  have h3 := ppm_any b
  have h4 := rppm_any b
  generalize tV b 100 = v at *
  generalize tE b 100 = x at *
  generalize pV b = p at *
  generalize pE b = y at *
  have hv : (v == v) = true := by simp
  have hx : (x == x) = true := by simp
  have hp : (p == p) = true := by simp
  have hy : (y == y) = true := by simp
  go_enter Try.func4, Try.ntmps4
  go_wp2_with fail
  refine (h1 _ hb).mono ?_
  rintro e w1 ⟨rfl, n, rfl⟩
  go_wp2_with fail
  refine (h2 _ hb).mono ?_
  rintro e w2 ⟨rfl, hb2⟩
  go_wp2_with fail
  refine (h3 _ hb).mono ?_
  rintro e w3 ⟨rfl, n3, rfl⟩
  go_wp2_with fail
  refine (h4 _ hb).mono ?_
  rintro e w4 ⟨rfl, hb4⟩
  go_wp2_with fail
  refine (wakes_real _).mono ?_
  rintro e w5 ⟨rfl, m, rfl⟩
  go_wp2_with fail
  go_ret
  exact ⟨rfl, below_drewN (below_via (below_drewN (below_via (below_drewN (Below.refl _ _) _) hb2) _) hb4) _⟩

set_option maxRecDepth 100000 in
theorem realMoney_lifted (os : Os) (started : os.Started) (H : Type) (enc : TypeId × Value → H) :
    ReturnsInHanded {} Try.checked os 4 .any (Rows.realMoneySpec.pre6 enc Try.prog Try.f4 Rows.realMoneyRow.domain false) (Rows.realMoneySpec.post enc Try.prog Try.f4 false true false false) := by
  refine Shell.law_lifted (C := Try.checked) (tb := 4) (by kernel_rfl) started (by kernel_rfl) Try.func4
    (ChangeSpec.witness6 (enc := enc) (C := Try.checked) false ⟨#[], #[.float .f64 0], []⟩ 8 (by kernel_rfl) (by kernel_rfl) (by kernel_rfl) (by kernel_rfl))
    (by kernel_rfl) (by kernel_rfl) rfl rfl Try.underlying4 ?_
  intro W base args ds p hval0 hA0
  have hval : ∀ (j : Nat) t v, Try.f4.params[j]? = some t → args[j]? = some v → Value.okWide Try.prog W .any base t v := hval0
  have hA : DataW.TrodAll enc Try.prog W 0 (fun _ => true) true Try.f4.params.toList args.toList ds p := hA0
  clear hval0 hA0
  rw [Try.params4] at hA hval
  obtain ⟨v0, vs0, d0, ds0, p0, q0, hargs, rfl, rfl, h0, r0⟩ := trodAll_cons hA
  obtain ⟨rfl, rfl, rfl⟩ := trodAll_nil r0
  obtain rfl : args = #[v0] := by cases args; simp_all
  refine ⟨rfl, ?_⟩
  obtain ⟨b, rfl, -, -, hb⟩ := open_float Try.underlying22 (hval 0 22 v0 rfl rfl) h0
  exact money_walk b W (float_lt hb)

theorem realMoney_over : Rows.realMoneyRow.holds Try.pinned (OpenSpec.ofChange Rows.realMoneySpec) :=
  OpenClaim.holds_of_wide 4 Try.f4 rfl rfl rfl rfl rfl rfl rfl ⟨rfl, rfl, rfl, rfl, rfl⟩ rfl rfl rfl rfl rfl (by kernel_rfl) Try.func4 (by kernel_rfl)
    (of_decide_eq_true (by kernel_rfl)) (by unfold Func.isWrapper; first | (rw [if_pos (by decide +kernel)]; kernel_rfl) | (rw [if_neg (by decide +kernel)]; exact ⟨rfl, rfl⟩))
    (fun os st H enc _ => realMoney_lifted os st H enc)

/-- The statement. -/
theorem realMoney_proved : Rows.RealMoneySaid := realMoney_over
end Go.Proofs.Ytiaiahdejihlbaa.Law
