/- annuitykeep.Mod at 1000001. -/
import Derived.Test.YtiaiahdejihlbaaFloBack
namespace Go.Proofs.Ytiaiahdejihlbaa.Fl
open Go.ChangeShapes Go.WideShapes Go.ChangeAt Go.RowKit Bits Money Flo Law

theorem tmod_range (x n : Int) (h : 0 < n) : -n < x.tmod n ∧ x.tmod n < n := ⟨Int.lt_tmod_of_pos x h, Int.tmod_lt_of_pos x h⟩
theorem mod_any (x : Int) (w : World) : Calls Try.prog 27 #[.int .i64 x, .int .i64 1000001] w fun e w' => (∃ p : Nat, p ≤ 1000000 ∧ e = .returned (.int .i64 (p : Int))) ∧ w = w' := by
  go_enter Try.func27, Try.ntmps27
  go_wp2
  go_ret
  obtain ⟨h1, h2⟩ := tmod_range x 1000001 (by decide)
  have e : wrap64 (x.tmod 1000001 + 1000001) = x.tmod 1000001 + 1000001 := by unfold wrap64; omega
  have h3 : 0 ≤ x.tmod 1000001 + 1000001 := by omega
  refine ⟨⟨((wrap64 (x.tmod 1000001 + 1000001)).tmod 1000001).toNat, ?_, ?_⟩, rfl⟩
  · rw [e, Int.tmod_eq_emod_of_nonneg h3]; omega
  · rw [e, Int.tmod_eq_emod_of_nonneg h3, Int.toNat_of_nonneg (by omega)]
    rfl
end Go.Proofs.Ytiaiahdejihlbaa.Fl
