/- What money's must, plus, told, Add and Sub do: a sum that is too great is told by a panic, and kept within. -/
import Derived.Test.YtldcocckfemgbaaWakes
import Derived.Defers
import Derived.Recover
import Derived.WalkLawsBesides
namespace Go.Proofs.Ytldcocckfemgbaa.Money
open Go.ChangeShapes Go.WideShapes Go.ChangeAt Go.RowKit Bits

/-- The panic of a sum that is too great. -/
def tooGreat : List PanicEntry := [{ v := .iface 24 (.int .i64 14), recovered := false }]

theorem wrap_good {a b : Int} (ha : goodB a = true) (hb : goodB b = true) : IntKind.i64.wrap (a + b) = a + b := by
  rw [goodB_iff] at ha hb; exact IntWalk.i64_in _ (by omega)

end Go.Proofs.Ytldcocckfemgbaa.Money
