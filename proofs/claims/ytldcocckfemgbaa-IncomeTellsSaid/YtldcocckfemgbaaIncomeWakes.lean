/- The examples that every law of layer 17 asks beside its own sentence. -/
import Derived.Test.YtldcocckfemgbaaRefIncome
namespace Go.Proofs.Ytldcocckfemgbaa.Law
open Go.ChangeShapes Go.WideShapes Go.ChangeAt Go.RowKit Bits Money Slice Income

theorem lit_ints (w : World) (T : TypeId) (k : IntKind) (zs : List Int) (hl : zs.length ≤ 9223372036854775807) :
    Ints (w.alloc (.cells (zs.map (Value.int k)).toArray T)) (w.alloc (.cells (zs.map (Value.int k)).toArray T)).heap.size k (.slice (some ⟨w.heap.size, 0, none⟩) zs.length zs.length) zs := by
  refine ⟨some ⟨w.heap.size, 0, none⟩, zs.length, rfl, hl, fun h => (by cases h), fun h0 => ⟨w.heap.size, 0, rfl, by simp, fun i hi => ?_⟩⟩
  rw [World.cell?_alloc_new]
  simp [List.getD_eq_getElem?_getD, hi]
theorem lit_1 (w : World) (T : TypeId) (z : Int) : Ints (w.alloc (.cells #[.int .i64 z] T)) (w.alloc (.cells #[.int .i64 z] T)).heap.size .i64 (.slice (some ⟨w.heap.size, 0, none⟩) 1 1) [z] := lit_ints w T .i64 [z] (by simp)
theorem lit_2 (w : World) (T : TypeId) (y z : Int) : Ints (w.alloc (.cells #[.int .i64 y, .int .i64 z] T)) (w.alloc (.cells #[.int .i64 y, .int .i64 z] T)).heap.size .i64 (.slice (some ⟨w.heap.size, 0, none⟩) 2 2) [y, z] := lit_ints w T .i64 [y, z] (by simp)
theorem tab_1 : Tab [1000] := ⟨by decide, by decide, fun j hj => by
  obtain rfl : j = 0 := by simp at hj; omega
  exact ⟨by decide, by decide⟩, fun j hj => by simp at hj⟩
theorem tab_2 : Tab [1000, 1000] := ⟨by decide, by decide, fun j hj => by
  rcases j with _ | _ | j
  · exact ⟨by decide, by decide⟩
  · exact ⟨by decide, by decide⟩
  · exact absurd (show j + 1 + 1 < 2 from hj) (by omega), fun j hj => by
  rcases j with _ | j
  · decide
  · exact absurd (show j + 1 + 1 < 2 from hj) (by omega)⟩
theorem tab_54 : ¬ Tab [5, 4] := fun h => absurd (h.2.2.2 0 (by decide)) (by decide)
theorem ex_line : lV [1000] 3 = 1500 ∧ lE [1000] 3 = 0 := by
  obtain ⟨h1, h2⟩ := l_yes (zs := [1000]) (f := 3) ⟨tab_1, by decide, by decide⟩
  exact ⟨h1.trans (by decide +kernel), h2⟩
theorem ex_ask : aV [1000] 1 13500 = 100 ∧ aE [1000] 1 13500 = 0 := by
  obtain ⟨h1, h2⟩ := a_yes (zs := [1000]) (f := 1) (n := 13500) ⟨⟨tab_1, by decide, by decide⟩, by decide, by decide⟩
  exact ⟨h1.trans (by decide +kernel), h2⟩
set_option maxHeartbeats 400000 in
theorem wakes_income (w : World) : Calls Try.prog 5 #[] w fun e w' => e = .returned (.bool true) ∧ Below w.heap.size w w' := by
  have K1 := Lib.hid (fun v B W g => Income.line_is [1000] 3 1500 0 v B W g ex_line.1 ex_line.2)
  have K2 := Lib.hid (fun v B W g => Income.ask_is [1000] 1 13500 100 0 v B W g ex_ask.1 ex_ask.2)
  have K3 := Lib.hid (fun v B W g => Income.good_is [1000, 1000] v B true W g (tabB_yes tab_2))
  have K4 := Lib.hid (fun v B W g => Income.good_is [5, 4] v B false W g (tabB_no tab_54))
  go_enter Try.func5, Try.ntmps5
  go_wp2_with fail
  refine (K1.out _ _ _ (lit_1 w _ 1000)).mono ?_
  rintro e w1 ⟨rfl, n1, hw⟩
  have B1 : Hid (Below w.heap.size w w1) := show Below _ _ _ by rw [hw]; exact below_drewN (below_new (Below.refl _ _) _) _
  clear hw
  go_wp2_with fail
  refine (K2.out _ _ _ (lit_1 w1 _ 1000)).mono ?_
  rintro e w2 ⟨rfl, n2, hw⟩
  have B2 : Hid (Below w.heap.size w w2) := show Below _ _ _ by rw [hw]; exact below_drewN (below_new B1.out _) _
  clear hw
  go_wp2_with fail
  refine (K3.out _ _ _ (lit_2 w2 _ 1000 1000)).mono ?_
  rintro e w3 ⟨rfl, n3, hw⟩
  have B3 : Hid (Below w.heap.size w w3) := show Below _ _ _ by rw [hw]; exact below_drewN (below_new B2.out _) _
  clear hw
  go_wp2_with fail
  refine (K4.out _ _ _ (lit_2 w3 _ 5 4)).mono ?_
  rintro e w4 ⟨rfl, n4, hw⟩
  have B4 : Hid (Below w.heap.size w w4) := show Below _ _ _ by rw [hw]; exact below_drewN (below_new B3.out _) _
  clear hw
  go_wp2_with fail
  go_ret
  exact ⟨rfl, B4.out⟩
end Go.Proofs.Ytldcocckfemgbaa.Law
