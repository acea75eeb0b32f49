/- The examples that every law of layer 4 asks beside its own sentence. -/
import Derived.Test.YtkhimogdkcibmaaDoorDate3
namespace Go.Proofs.YtkhimogdkcibmaaDoor.Date
open Go.ChangeShapes Go.WideShapes Go.ChangeAt Go.RowKit Cal

/-- A cell of the block that was laid just ahead, behind calls that make memory of their own. -/
theorem fresh_cell {a b : World} {C : Array Value} {T : TypeId} (hb : Below (a.alloc (.cells C T)).heap.size (a.alloc (.cells C T)) b) (i : Nat) : b.cell? ⟨a.heap.size, i, none⟩ = C[i]? := by
  have hz : a.heap.size < (a.alloc (.cells C T)).heap.size := by simp
  rw [hb.cell (p := ⟨a.heap.size, i, none⟩) hz]
  exact World.cell?_alloc_new _ _ _ _
theorem ex_week : wekV 0 = 5 ∧ wekE 0 = 0 := by decide
theorem ex_long : longB 2000 = true ∧ longB 2100 = false := by decide
theorem ex_days : daysI 1960 2 = 29 := by decide
theorem wakes_date (w : World) (L : Laid w) : Calls Tryd.prog 15 #[] w fun e w' => e = .returned (.bool true) ∧ Below w.heap.size w w' := by
  go_enter Tryd.func15, Tryd.ntmps15
  go_wp2_with fail
  refine (d_of _ _ _ _ L).mono ?_
  rw [ex_of.1, ex_of.2]
  rintro e w1 ⟨rfl, b1⟩
  replace L := L.of b1
  go_wp2_with fail
  refine (d_add _ _ _ L).mono ?_
  rw [ex_add.1, ex_add.2]
  rintro e w2 ⟨rfl, b2⟩
  replace L := L.of b2
  go_wp2_with fail
  refine (d_civil _ _ L).mono ?_
  rw [ex_civ.1, ex_civ.2.1, ex_civ.2.2.1, ex_civ.2.2.2]
  rintro e w3 ⟨rfl, b3⟩
  replace L := L.of b3
  go_wp2_with fail
  refine (d_week _ _ L).mono ?_
  rw [ex_week.1, ex_week.2]
  rintro e w4 ⟨rfl, b4⟩
  replace L := L.of b4
  go_wp2_with fail
  refine (d_long _ _ L).mono ?_
  rw [ex_long.1]
  rintro e w5 ⟨rfl, b5⟩
  replace L := L.of b5
  go_wp2_with fail
  refine (d_long _ _ L).mono ?_
  rw [ex_long.2]
  rintro e w6 ⟨rfl, b6⟩
  replace L := L.of b6
  go_wp2_with fail
  refine (d_days _ _ _ L).mono ?_
  rw [ex_days]
  rintro e w7 ⟨rfl, b7⟩
  replace L := L.of b7
  go_wp2_with fail
  go_ret
  exact ⟨rfl, below_via (below_via (below_via (below_via (below_via (below_via b1 b2) b3) b4) b5) b6) b7⟩
end Go.Proofs.YtkhimogdkcibmaaDoor.Date
