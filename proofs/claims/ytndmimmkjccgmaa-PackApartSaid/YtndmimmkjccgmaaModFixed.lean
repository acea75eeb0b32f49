/- annuitykeep.Mod, its answer named ahead of the call. Of no one law. -/
import Derived.Test.YtndmimmkjccgmaaMod
namespace Go.Proofs.Ytndmimmkjccgmaa.Mod
open Go.ChangeShapes Go.WideShapes Go.ChangeAt Go.RowKit

theorem mod_fixed (x n : Int) (h : 1 ≤ n) (h2 : n ≤ 1000000000) : ∃ p : Nat, (p : Int) < n ∧ ∀ w, Calls Try.prog 23 #[.int .i64 x, .int .i64 n] w fun e w' => e = .returned (.int .i64 (p : Int)) ∧ w = w' := by
  obtain ⟨W1, W2, W3⟩ := mod_facts x n h h2
  refine ⟨((x.tmod n + n).tmod n).toNat, by rw [Int.toNat_of_nonneg W2]; exact W3, fun w => ?_⟩
  have W2 := Lib.hid W2
  have hn : (n == 0) = false := by rw [beq_eq_false_iff_ne]; omega
  have hn1 : decide (n < 1) = false := decide_eq_false (by omega)
  have hn2 : ¬ n = -1 := by omega
  have hn3 : (n == -1) = false := by rw [beq_eq_false_iff_ne]; exact hn2
  clear h2 W3
  rw [Int.toNat_of_nonneg W2.out]
  go_enter Try.func23, Try.ntmps23
  go_wp2
  go_ret
  exact ⟨rfl, rfl⟩
end Go.Proofs.Ytndmimmkjccgmaa.Mod
