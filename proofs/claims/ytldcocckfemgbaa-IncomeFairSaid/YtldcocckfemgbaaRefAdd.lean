/- What the document's own Good, Add and Sub of layer 1 come to, at any numbers. -/
import Derived.Test.YtldcocckfemgbaaAddSub
namespace Go.Proofs.Ytldcocckfemgbaa.Ref
open Go.ChangeShapes Go.WideShapes Go.ChangeAt Go.RowKit Bits Money

theorem good_neg (b : Int) : goodB (-b) = goodB b := by
  rw [Bool.eq_iff_iff, goodB_iff, goodB_iff]; omega

end Go.Proofs.Ytldcocckfemgbaa.Ref
