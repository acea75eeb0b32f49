/- annuitykeep.Mod, at any divisor from 1 on that is no giant. Of no one law. -/
import Derived.Test.YtkegmgjagcefhaaChecked
import Derived.WalkKit
import Derived.ProofKit
import Derived.Handy
import Derived.Lib.Hide
namespace Go.Proofs.Ytkegmgjagcefhaa.Mod
open Go.ChangeShapes Go.WideShapes Go.ChangeAt Go.RowKit

theorem tmod_range (x n : Int) (h : 0 < n) : -n < x.tmod n ∧ x.tmod n < n := ⟨Int.lt_tmod_of_pos x h, Int.tmod_lt_of_pos x h⟩
theorem mod_facts (x n : Int) (h : 1 ≤ n) (h2 : n ≤ 1000000000) : wrap64 (x.tmod n + n) = x.tmod n + n ∧ 0 ≤ (x.tmod n + n).tmod n ∧ (x.tmod n + n).tmod n < n := by
  obtain ⟨h3, h4⟩ := tmod_range x n (by omega)
  refine ⟨by unfold wrap64; omega, ?_, ?_⟩
  · rw [Int.tmod_eq_emod_of_nonneg (by omega)]; exact Int.emod_nonneg _ (by omega)
  · rw [Int.tmod_eq_emod_of_nonneg (by omega)]; exact Int.emod_lt_of_pos _ (by omega)
theorem mod_any (x n : Int) (w : World) (h : 1 ≤ n) (h2 : n ≤ 1000000000) : Calls Try.prog 26 #[.int .i64 x, .int .i64 n] w fun e w' => (∃ p : Nat, (p : Int) < n ∧ e = .returned (.int .i64 (p : Int))) ∧ w = w' := by
  obtain ⟨W1, W2, W3⟩ := mod_facts x n h h2
  have W2 := Lib.hid W2
  have W3 := Lib.hid W3
  have hn : (n == 0) = false := by rw [beq_eq_false_iff_ne]; omega
  have hn1 : decide (n < 1) = false := decide_eq_false (by omega)
  have hn2 : ¬ n = -1 := by omega
  have hn3 : (n == -1) = false := by rw [beq_eq_false_iff_ne]; exact hn2
  clear h2
  go_enter Try.func26, Try.ntmps26
  go_wp2
  go_ret
  refine ⟨⟨((x.tmod n + n).tmod n).toNat, ?_, ?_⟩, rfl⟩
  · rw [Int.toNat_of_nonneg W2.out]; exact W3.out
  · rw [Int.toNat_of_nonneg W2.out]; rfl
theorem u8_nat {s : Int} (h : (Lit.int .u8 s).wf = true) : ∃ n : Nat, s = n ∧ n < 256 := by
  have h1 : 0 ≤ s ∧ s ≤ 255 := by simpa [Lit.wf, IntKind.min, IntKind.max, IntKind.bits, IntKind.signed] using h
  exact ⟨s.toNat, by omega, by omega⟩
end Go.Proofs.Ytkegmgjagcefhaa.Mod
