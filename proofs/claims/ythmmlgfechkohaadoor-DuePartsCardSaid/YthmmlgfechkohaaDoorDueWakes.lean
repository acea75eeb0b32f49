/- The examples that every law of layer 5 asks beside its own sentence. -/
import Derived.Test.YthmmlgfechkohaaDoorDue
import Derived.Test.YthmmlgfechkohaaDoorRefDue3
namespace Go.Proofs.YthmmlgfechkohaaDoor.Due
open Go.ChangeShapes Go.WideShapes Go.ChangeAt Go.RowKit Cal Date Slice

/-- A slice that was written out: its numbers. -/
theorem lit_ints (w : World) (T : TypeId) (k : IntKind) (zs : List Int) (hl : zs.length ≤ 9223372036854775807) :
    Ints (w.alloc (.cells (zs.map (Value.int k)).toArray T)) (w.alloc (.cells (zs.map (Value.int k)).toArray T)).heap.size k (.slice (some ⟨w.heap.size, 0, none⟩) zs.length zs.length) zs := by
  refine ⟨some ⟨w.heap.size, 0, none⟩, zs.length, rfl, hl, fun h => (by cases h), fun h0 => ⟨w.heap.size, 0, rfl, by simp, fun i hi => ?_⟩⟩
  rw [World.cell?_alloc_new]
  simp [List.getD_eq_getElem?_getD, hi]
theorem lit_one (w : World) (T : TypeId) (z : Int) : Ints (w.alloc (.cells #[.int .i64 z] T)) (w.alloc (.cells #[.int .i64 z] T)).heap.size .i64 (.slice (some ⟨w.heap.size, 0, none⟩) 1 1) [z] := lit_ints w T .i64 [z] (by simp)
theorem ex_months : monL 0 31 = [1] := by kernel_rfl
theorem ex_late : lateV 1 50 = 4 := by kernel_rfl
theorem ex_in : inB 1 46 = true ∧ inB 1 47 = false := ⟨by kernel_rfl, by kernel_rfl⟩
theorem ex_whole : whoV 30 58 = 0 ∧ whoV 30 59 = 1 := ⟨by kernel_rfl, by kernel_rfl⟩
theorem ex_year : yrV 59 1 = 424 ∧ yrE 59 1 = 0 := ⟨by kernel_rfl, by kernel_rfl⟩
set_option maxHeartbeats 400000 in
theorem wakes_due (w : World) (L : Laid w) : Calls Tryd.prog 11 #[] w fun e w' => e = .returned (.bool true) ∧ Below w.heap.size w w' := by
  go_enter Tryd.func11, Tryd.ntmps11
  go_wp2_with fail
  refine (u_year _ _ _ L).mono ?_
  rw [ex_year.1, ex_year.2]
  rintro e w1 ⟨rfl, b1⟩
  replace L := L.of b1
  go_wp2_with fail
  refine (u_months _ _ _ L).mono ?_
  rw [ex_months]
  rintro e w2 ⟨v, rfl, i2, b2⟩
  replace L := L.of b2
  obtain ⟨A, c, rfl, -, -, -⟩ := id i2
  have I2 := Lib.hid i2
  clear i2
  go_wp2_with fail
  refine (ints_same [1] _ _ (w2.alloc (.cells #[.int .i64 1] 3)).heap.size _ ((I2.out.alloc (Nat.le_refl _) _).more (by simp)) (lit_one w2 _ 1)).mono ?_
  rintro e w3 ⟨rfl, n3, rfl⟩
  have L3 := (L.alloc (.cells #[.int .i64 1] 3)).drewN n3
  go_wp2_with fail
  refine (u_late _ _ _ L3).mono ?_
  rw [ex_late]
  rintro e w4 ⟨rfl, b4⟩
  have L4 := L3.of b4
  go_wp2_with fail
  refine (u_in _ _ _ L4).mono ?_
  rw [ex_in.1]
  rintro e w5 ⟨rfl, b5⟩
  have L5 := L4.of b5
  go_wp2_with fail
  refine (u_in _ _ _ L5).mono ?_
  rw [ex_in.2]
  rintro e w6 ⟨rfl, b6⟩
  have L6 := L5.of b6
  go_wp2_with fail
  refine (u_whole _ _ _ L6).mono ?_
  rw [ex_whole.1]
  rintro e w7 ⟨rfl, b7⟩
  have L7 := L6.of b7
  go_wp2_with fail
  refine (u_whole _ _ _ L7).mono ?_
  rw [ex_whole.2]
  rintro e w8 ⟨rfl, b8⟩
  go_wp2_with fail
  go_ret
  exact ⟨rfl, below_via (below_via (below_via (below_via (below_via (below_drewN (below_new (below_via b1 b2) _) n3) b4) b5) b6) b7) b8⟩
end Go.Proofs.YthmmlgfechkohaaDoor.Due
