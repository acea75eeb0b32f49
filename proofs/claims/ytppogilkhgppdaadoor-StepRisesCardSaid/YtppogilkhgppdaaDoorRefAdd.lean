/- What the document's own Good, Add and Sub of layer 1 come to, at any numbers. -/
import Derived.Test.YtppogilkhgppdaaDoorAddSub
namespace Go.Proofs.YtppogilkhgppdaaDoor.Ref
open Go.ChangeShapes Go.WideShapes Go.ChangeAt Go.RowKit Bits Money

theorem good_any (a : Int) (w : World) : Calls Tryd.prog 11 #[.int .i64 a] w fun e w' => e = .returned (.bool (goodB a)) ∧ w = w' := by
  by_cases h1 : -10000000000000 ≤ a
  · by_cases h2 : a ≤ 10000000000000
    · have H : Hid (goodB a = true) := (goodB_iff a).2 ⟨h1, h2⟩
      go_enter Tryd.func11, Tryd.ntmps11
      go_wp2
      go_ret
      exact ⟨ret_bool H.out.symm, rfl⟩
    · have H : Hid (goodB a = false) := by show goodB a = false; rw [Bool.eq_false_iff]; intro h; exact h2 ((goodB_iff a).1 h).2
      go_enter Tryd.func11, Tryd.ntmps11
      go_wp2
      go_ret
      exact ⟨ret_bool H.out.symm, rfl⟩
  · have H : Hid (goodB a = false) := by show goodB a = false; rw [Bool.eq_false_iff]; intro h; exact h1 ((goodB_iff a).1 h).1
    go_enter Tryd.func11, Tryd.ntmps11
    go_wp2
    go_ret
    exact ⟨ret_bool H.out.symm, rfl⟩

theorem good_neg (b : Int) : goodB (-b) = goodB b := by
  rw [Bool.eq_iff_iff, goodB_iff, goodB_iff]; omega

end Go.Proofs.YtppogilkhgppdaaDoor.Ref
