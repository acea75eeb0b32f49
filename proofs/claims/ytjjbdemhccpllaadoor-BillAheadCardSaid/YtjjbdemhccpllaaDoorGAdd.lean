/- What money's must, plus, told, Add and Sub do: a sum that is too great is told by a panic, and kept within. What Add and Sub answer, money's and the document's own, at any two numbers. What the document's own Good, Add and Sub of layer 1 come to, at any numbers. -/
import Derived.Test.YtjjbdemhccpllaaDoorGNum
import Derived.Defers
import Derived.Recover
import Derived.WalkLawsBesides
import Derived.Shelf.Abstract
namespace Go.Proofs.YtjjbdemhccpllaaDoor.Money
open Go.ChangeShapes Go.WideShapes Go.ChangeAt Go.RowKit Bits

/-- The panic of a sum that is too great. -/
def tooGreat : List PanicEntry := [{ v := .iface 41 (.int .i64 14), recovered := false }]

theorem wrap_good {a b : Int} (ha : goodB a = true) (hb : goodB b = true) : IntKind.i64.wrap (a + b) = a + b := by
  rw [goodB_iff] at ha hb; exact IntWalk.i64_in _ (by omega)

end Go.Proofs.YtjjbdemhccpllaaDoor.Money
namespace Go.Proofs.YtjjbdemhccpllaaDoor.Money
open Go.ChangeShapes Go.WideShapes Go.ChangeAt Go.RowKit Bits

/-- The sum, if it is one. -/
def plusO (a b : Int) : Option Int := if goodB a = true ∧ goodB b = true ∧ goodB (a + b) = true then some (a + b) else none
theorem plusO_some {a b : Int} (h : goodB a = true ∧ goodB b = true ∧ goodB (a + b) = true) : plusO a b = some (a + b) := if_pos h
theorem plusO_none {a b : Int} (h : ¬ (goodB a = true ∧ goodB b = true ∧ goodB (a + b) = true)) : plusO a b = none := if_neg h
def valO : Option Int → Int
  | some n => n
  | none => 0
def errO : Option Int → Int
  | some _ => 0
  | none => 14

open Law

/-- Who takes b away adds what it is below 0: of what is no money either way nothing comes. -/
theorem minus (a b : Int) (hb : -9223372036854775808 ≤ b) (hb1 : b ≤ 9223372036854775807) : plusO a (wrap64 (-b)) = plusO a (-b) := by
  by_cases h : b = -9223372036854775808
  · subst h
    rw [plusO_none, plusO_none]
    · intro h; have := (goodB_iff _).1 h.2.1; omega
    · intro h; have := (goodB_iff _).1 h.2.1; unfold wrap64 at this; omega
  · rw [IntWalk.wrap64_in _ (by omega)]
end Go.Proofs.YtjjbdemhccpllaaDoor.Money
namespace Go.Proofs.YtjjbdemhccpllaaDoor.Ref
open Go.ChangeShapes Go.WideShapes Go.ChangeAt Go.RowKit Bits Money

theorem good_any (a : Int) (w : World) : Calls Tryd.prog 42 #[.int .i64 a] w fun e w' => e = .returned (.bool (goodB a)) ∧ w = w' := by
  by_cases h1 : -10000000000000 ≤ a
  · by_cases h2 : a ≤ 10000000000000
    · have H : Hid (goodB a = true) := (goodB_iff a).2 ⟨h1, h2⟩
      go_enter Tryd.func42, Tryd.ntmps42
      go_wp2
      go_ret
      exact ⟨ret_bool H.out.symm, rfl⟩
    · have H : Hid (goodB a = false) := by show goodB a = false; rw [Bool.eq_false_iff]; intro h; exact h2 ((goodB_iff a).1 h).2
      go_enter Tryd.func42, Tryd.ntmps42
      go_wp2
      go_ret
      exact ⟨ret_bool H.out.symm, rfl⟩
  · have H : Hid (goodB a = false) := by show goodB a = false; rw [Bool.eq_false_iff]; intro h; exact h1 ((goodB_iff a).1 h).1
    go_enter Tryd.func42, Tryd.ntmps42
    go_wp2
    go_ret
    exact ⟨ret_bool H.out.symm, rfl⟩

theorem good_neg (b : Int) : goodB (-b) = goodB b := by
  rw [Bool.eq_iff_iff, goodB_iff, goodB_iff]; omega

end Go.Proofs.YtjjbdemhccpllaaDoor.Ref
