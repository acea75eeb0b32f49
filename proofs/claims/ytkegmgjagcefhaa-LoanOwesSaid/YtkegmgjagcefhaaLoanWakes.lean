/- The examples of layer 14. -/
import Derived.Test.YtkegmgjagcefhaaLoanCB
namespace Go.Proofs.Ytkegmgjagcefhaa.Law
open Go.ChangeShapes Go.WideShapes Go.ChangeAt Go.RowKit Accr Box Loan

def lw0 : Ln := { ln0 with id := 1, prin := 100, intr := 2500000, status := 2, entered := -1 }
def lw1 : Ln := { lw0 with prin := 102, intr := 500000, status := 5, entered := 9 }
def lw2 : Ln := { lw1 with prin := 0, intr := 0, fees := 0, closed := 1 }
set_option maxRecDepth 20000 in
theorem wakes_loan (w : World) : Calls Try.prog 17 #[] w fun e w' => e = .returned (.bool true) ∧ Below w.heap.size w w' := by
  have K1 : Hid (∀ W, Calls Try.prog 18 #[.agg #[.int .i64 1, .int .i64 100, .int .i64 2500000, .int .i64 0, .int .i64 0, .int .i64 0, .bool false, .int .i64 2, .int .i64 0, .int .i64 (-1), .int .i64 0, .int .i64 0, .int .i64 0], .int .i64 5, .int .i64 9] W fun e w' => e = .returned (.tuple #[.agg lw1.cells, .int .i64 0]) ∧ Below W.heap.size W w') := fun W => by
    have h := c_turn lw0 5 9 W
    rw [show turnR lw0 5 9 = (lw1, 0) by kernel_rfl] at h
    exact h
  have K2 : Hid (∀ W, Calls Try.prog 24 #[.agg lw1.cells, .int .i64 0, .int .i64 0, .int .i64 102] W fun e w' => e = .returned (.tuple #[.agg lw2.cells, .int .i64 0]) ∧ Below W.heap.size W w') := fun W => by
    have h := c_pay lw1 0 0 102 W
    rwa [show payR lw1 0 0 102 = (lw2, 0) by kernel_rfl] at h
  have K3 : Hid (∀ W, Calls Try.prog 8 #[.agg lw1.cells] W fun e w' => e = .returned (.tuple #[.int .i64 102, .int .i64 0]) ∧ Below W.heap.size W w') := fun W => by
    have h := c_owes lw1 W
    rwa [show owesR lw1 = (102, 0) by kernel_rfl] at h
  have K4 : Hid (∀ W, Calls Try.prog 14 #[.agg lw1.cells] W fun e w' => e = .returned (.bool true) ∧ Below W.heap.size W w') := fun W => by
    have h := good_c lw1 W
    rwa [show goodL lw1 = true by kernel_rfl] at h
  have XA1 : Hid (lw1.cells[1]? = some (.int .i64 102)) := show _ = _ from rfl
  have XA2 : Hid (lw1.cells[2]? = some (.int .i64 500000)) := show _ = _ from rfl
  have XA9 : Hid (lw1.cells[9]? = some (.int .i64 9)) := show _ = _ from rfl
  have XB8 : Hid (lw2.cells[8]? = some (.int .i64 1)) := show _ = _ from rfl
  have XB2 : Hid (lw2.cells[2]? = some (.int .i64 0)) := show _ = _ from rfl
  have HSA := Lib.hid (ln_info lw1)
  have HOA := Lib.hid (ln_one lw1)
  have HZA : Hid (13 = (lw1).cells.size) := show _ = _ from rfl
  have HSB := Lib.hid (ln_info lw2)
  have HOB := Lib.hid (ln_one lw2)
  have HZB : Hid (13 = (lw2).cells.size) := show _ = _ from rfl
  have HW := Lib.hid (Below.refl w.heap.size w)
  generalize lw1.cells = C1 at *
  generalize lw2.cells = C2 at *
  go_enter Try.func17, Try.ntmps17
  go_upto_region 2 with (first
    | (go_at_call 18; with_reducible refine (K1.out _).mono ?_; rintro e y1 ⟨rfl, hb⟩; replace HW := Lib.hid (below_to HW.out hb); clear hb)
    | (refine o_store rfl 23 _ _ rfl rfl y1.heap.size _ rfl rfl _ _ (heap_alloc_last _ _) HSA.out HZA.out HOA.out ?_; intro z1 hr ho; have HA := Lib.hid hr; replace HW := Lib.hid (below_one_of (below_to HW.out (below_one _ _)) ho HW.out.size (below_to HW.out (below_one _ _)).size); clear hr ho))
  go_upto_region 3 with (first
    | (refine o_load rfl 23 _ rfl _ rfl _ _ _ HA.out Try.underlying23 rfl HSA.out ?_)
    | (go_at_call 24; with_reducible refine (K2.out _).mono ?_; rintro e y2 ⟨rfl, hb⟩; replace HA := Lib.hid (HA.out.below hb); replace HW := Lib.hid (below_to HW.out hb); clear hb)
    | (refine o_store rfl 23 _ _ rfl rfl y2.heap.size _ rfl rfl _ _ (heap_alloc_last _ _) HSB.out HZB.out HOB.out ?_; intro z2 hr ho; replace HA := Lib.hid ((HA.out.below (below_one _ _)).one ho (Nat.ne_of_lt HA.out.lt)); have HB := Lib.hid hr; replace HW := Lib.hid (below_one_of (below_to HW.out (below_one _ _)) ho HW.out.size (below_to HW.out (below_one _ _)).size); clear hr ho))
  go_upto_region 4 with (first
    | (refine o_load rfl 23 _ rfl _ rfl _ _ _ HA.out Try.underlying23 rfl HSA.out ?_)
    | (refine o_load rfl 23 _ rfl _ rfl _ _ _ HB.out Try.underlying23 rfl HSB.out ?_)
    | (go_at_call 8; with_reducible refine (K3.out _).mono ?_; rintro e y3 ⟨rfl, hb⟩; replace HA := Lib.hid (HA.out.below hb); replace HB := Lib.hid (HB.out.below hb); replace HW := Lib.hid (below_to HW.out hb); clear hb))
  have a1 := (HA.out.cell (i := 1)).trans XA1.out
  have a2 := (HA.out.cell (i := 2)).trans XA2.out
  have a9 := (HA.out.cell (i := 9)).trans XA9.out
  have b8 := (HB.out.cell (i := 8)).trans XB8.out
  have b2 := (HB.out.cell (i := 2)).trans XB2.out
  go_wp2_with (first
    | (refine o_load rfl 23 _ rfl _ rfl _ _ _ HA.out Try.underlying23 rfl HSA.out ?_)
    | (refine o_load rfl 23 _ rfl _ rfl _ _ _ HB.out Try.underlying23 rfl HSB.out ?_)
    | (go_at_call 14; with_reducible refine (K4.out _).mono ?_; rintro e y4 ⟨rfl, hb⟩; replace HA := Lib.hid (HA.out.below hb); replace HB := Lib.hid (HB.out.below hb); replace HW := Lib.hid (below_to HW.out hb); clear hb))
  go_ret
  exact ⟨rfl, HW.out⟩
end Go.Proofs.Ytkegmgjagcefhaa.Law
