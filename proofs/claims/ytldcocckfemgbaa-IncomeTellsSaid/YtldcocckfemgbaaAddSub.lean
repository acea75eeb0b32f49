/- What Add and Sub answer, money's and the document's own, at any two numbers. -/
import Derived.Test.YtldcocckfemgbaaAdd
import Derived.Shelf.Abstract
namespace Go.Proofs.Ytldcocckfemgbaa.Money
open Go.ChangeShapes Go.WideShapes Go.ChangeAt Go.RowKit Bits

/-- The sum, if it is one. -/
def plusO (a b : Int) : Option Int := if goodB a = true ∧ goodB b = true ∧ goodB (a + b) = true then some (a + b) else none
theorem plusO_some {a b : Int} (h : goodB a = true ∧ goodB b = true ∧ goodB (a + b) = true) : plusO a b = some (a + b) := if_pos h
theorem plusO_none {a b : Int} (h : ¬ (goodB a = true ∧ goodB b = true ∧ goodB (a + b) = true)) : plusO a b = none := if_neg h
def valO : Option Int → Int
  | some n => n
  | none => 0
def errO : Option Int → Int
  | some _ => 0
  | none => 14

open Law

/-- Who takes b away adds what it is below 0: of what is no money either way nothing comes. -/
theorem minus (a b : Int) (hb : -9223372036854775808 ≤ b) (hb1 : b ≤ 9223372036854775807) : plusO a (wrap64 (-b)) = plusO a (-b) := by
  by_cases h : b = -9223372036854775808
  · subst h
    rw [plusO_none, plusO_none]
    · intro h; have := (goodB_iff _).1 h.2.1; omega
    · intro h; have := (goodB_iff _).1 h.2.1; unfold wrap64 at this; omega
  · rw [IntWalk.wrap64_in _ (by omega)]
end Go.Proofs.Ytldcocckfemgbaa.Money
