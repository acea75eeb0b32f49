/- The bytes of every event, and the event of any bytes, or that there are none; whether two are alike; no condition. -/
import Derived.Test.YtcmdonckilajjaaShell
import Derived.Test.YtcmdonckilajjaaEventWakes
import Derived.Test.YtcmdonckilajjaaOpenEv
import Derived.ChangeMaps5
namespace Go.Proofs.Ytcmdonckilajjaa.Law
open Go.ChangeShapes Go.WideShapes Go.ChangeAt Go.RowKit Go.Proofs.Ytcmdonckilajjaa.Event Fl Date Cal Pack

set_option maxRecDepth 20000 in
set_option maxHeartbeats 4000000 in
theorem codes_long (e f : Ev) (b : ByteArray) (w : World) (h : 20000 < b.size) :
    Calls Try.prog 3 #[.agg e.cells, .agg f.cells, .string b] w fun e w' => e = .returned (.bool true) ∧ Below w.heap.size w w' := by
  have t0 : decide ((20000 : Int) < (b.size : Int)) = true := decide_eq_true (by omega)
  generalize e.cells = C
  generalize f.cells = F
  have HW := Lib.hid (((Below.refl _ w).alloc (Nat.le_refl _) (.cells C 25)).alloc (by rw [Deep.nblk_alloc]; omega) (.cells F 25))
  go_enter Try.func3, Try.ntmps3
  go_wp2_with fail
  refine (wakes_event _).mono ?_
  rintro e w2 ⟨rfl, hb⟩
  have HW2 := Lib.hid (below_via HW.out hb)
  clear hb
  go_wp2_with fail
  go_ret
  exact ⟨rfl, HW2.out⟩
set_option maxRecDepth 20000 in
set_option maxHeartbeats 4000000 in
theorem codes_short (e f : Ev) (b : ByteArray) (w : World) (he : e.Fit) (h : b.size ≤ 20000) :
    Calls Try.prog 3 #[.agg e.cells, .agg f.cells, .string b] w fun e w' => e = .returned (.bool true) ∧ Below w.heap.size w w' := by
  have t0 : decide ((20000 : Int) < (b.size : Int)) = false := decide_eq_false (by omega)
  have HP : Hid (∀ W, Calls Try.prog 9 #[.agg e.cells] W fun z w' => z = .returned (.tuple #[.string (encT e), .int .i64 (encX e)]) ∧ Below W.heap.size W w') := fun W => c_encode e W he
  have HQ : Hid (∀ W, Calls Try.prog 10 #[.agg e.cells] W fun z w' => z = .returned (.tuple #[.string (encT e), .int .i64 (encX e)]) ∧ Below W.heap.size W w') := fun W => r_encode e W he
  have HO : Hid (∀ W, Calls Try.prog 11 #[.string b] W fun z w' => z = .returned (.tuple #[.agg (decE b).cells, .int .i64 (decX b)]) ∧ Below W.heap.size W w') := fun W => c_decode b W (by omega)
  have HR : Hid (∀ W, Calls Try.prog 12 #[.string b] W fun z w' => z = .returned (.tuple #[.agg (decE b).cells, .int .i64 (decX b)]) ∧ Below W.heap.size W w') := fun W => r_decode b W (by omega)
  have HF : Hid (∀ W, Calls Try.prog 13 #[.agg e.cells] W fun z w' => z = .returned (.bool (goodE e)) ∧ Below W.heap.size W w') := fun W => c_good e W he
  have HG : Hid (∀ W, Calls Try.prog 14 #[.agg e.cells] W fun z w' => z = .returned (.bool (goodE e)) ∧ Below W.heap.size W w') := fun W => r_good e W he
  have HK : Hid (∀ W, Calls Try.prog 15 #[.agg (decE b).cells, .agg (decE b).cells] W fun z w' => z = .returned (.bool true) ∧ Below W.heap.size W w') := fun W => by
    have := k_event (decE b) (decE b) W
    rwa [eqE_self] at this
  have HM : Hid (∀ W, Calls Try.prog 16 #[.agg e.cells, .agg f.cells] W fun z w' => z = .returned (.bool (eqE e f)) ∧ Below W.heap.size W w') := fun W => c_same e f W
  have HN : Hid (∀ W, Calls Try.prog 15 #[.agg e.cells, .agg f.cells] W fun z w' => z = .returned (.bool (eqE e f)) ∧ Below W.heap.size W w') := fun W => k_event e f W
  have HT : Hid (∀ W, Calls Try.prog 16 #[.agg e.cells, .agg e.cells] W fun z w' => z = .returned (.bool true) ∧ Below W.heap.size W w') := fun W => by
    have := c_same e e W
    rwa [eqE_self] at this
  have HS := Lib.hid (ev_info e)
  have HSF := Lib.hid (ev_info f)
  have HSD := Lib.hid (ev_info (decE b))
  have HOD := Lib.hid (ev_one (decE b))
  have HLD : (decE b).cells.size = 11 := rfl
  obtain ⟨g, wa, e1, e2, hA, ha⟩ := boxd_new w e.cells 25
  obtain ⟨g2, wb, e3, e4, hB, hb⟩ := boxd_new wa f.cells 25
  have e5 : g2 = w.heap.size + 1 := by rw [e3, e2, Deep.nblk_alloc]
  have HB := Lib.hid (hA.below hb)
  have HF2 := Lib.hid hB
  have HW := Lib.hid (below_via ha hb)
  clear hA hB ha hb h he
  generalize e.cells = C at *
  generalize f.cells = F at *
  generalize (decE b).cells = D at *
  generalize encT e = s at *
  generalize encX e = x at *
  generalize decX b = y at *
  generalize goodE e = q at *
  generalize eqE e f = r at *
  have q1 : (q == q) = true := by cases q <;> rfl
  have r1 : (r == r) = true := by cases r <;> rfl
  have x1 : (x == x) = true := by simp
  have y1 : (y == y) = true := by simp
  go_enter Try.func3, Try.ntmps3
  go_upto_region 1 with fail
  rw [← e2, ← e4, ← e5, ← e1]
  clear e1 e2 e3 e4 e5
  go_upto_region 6 with (first
    | (refine load_want (by rfl) 25 _ rfl _ rfl _ _ _ HB1.out Try.underlying25 rfl HS.out ?_)
    | (refine load_want (by rfl) 25 _ rfl _ rfl _ _ _ HB.out Try.underlying25 rfl HS.out ?_)
    | (go_at_call 9
       with_reducible refine (HP.out wb).mono ?_
       rintro e y1 ⟨rfl, hb⟩
       have HB1 := Lib.hid (HB.out.below hb)
       have HW1 := Lib.hid (below_via HW.out hb)
       have HF21 := Lib.hid (HF2.out.below hb)
       clear hb)
    | (go_at_call 10
       with_reducible refine (HQ.out y1).mono ?_
       rintro e y2 ⟨rfl, hb⟩
       have HB2 := Lib.hid (HB1.out.below hb)
       have HW2 := Lib.hid (below_via HW1.out hb)
       have HF22 := Lib.hid (HF21.out.below hb)
       clear hb)
    | (go_at_call 11
       with_reducible refine (HO.out y2).mono ?_
       rintro e y3 ⟨rfl, hb⟩
       have HB3 := Lib.hid (HB2.out.below hb)
       have HW3 := Lib.hid (below_via HW2.out hb)
       have HF23 := Lib.hid (HF22.out.below hb)
       clear hb)
    | (refine store_row rfl 25 _ _ rfl rfl _ _ rfl rfl _ _ (heap_alloc_last _ _) HSD.out (by rw [HLD]; rfl) HOD.out ?_; rw [World.setRow_alloc_new]))
  obtain ⟨g3, w3, e1, e2, hB, hb⟩ := boxd_new y3 D 25
  rw [← e2, ← e1]
  clear e1 e2
  have HC3n := Lib.hid hB
  have HB3n := Lib.hid (HB3.out.below hb)
  have HF23n := Lib.hid (HF23.out.below hb)
  have HW3n := Lib.hid (below_via HW3.out hb)
  clear hB hb
  go_upto_region 7 with (first
    | (go_at_call 12
       with_reducible refine (HR.out w3).mono ?_
       rintro e y4 ⟨rfl, hb⟩
       have HB4 := Lib.hid (HB3n.out.below hb)
       have HW4 := Lib.hid (below_via HW3n.out hb)
       have HF24 := Lib.hid (HF23n.out.below hb)
       have HC4 := Lib.hid (HC3n.out.below hb)
       clear hb)
    | (refine store_row rfl 25 _ _ rfl rfl _ _ rfl rfl _ _ (heap_alloc_last _ _) HSD.out (by rw [HLD]; rfl) HOD.out ?_; rw [World.setRow_alloc_new]))
  obtain ⟨g4, w4, e1, e2, hB, hb⟩ := boxd_new y4 D 25
  rw [← e2, ← e1]
  clear e1 e2
  have HD4n := Lib.hid hB
  have HB4n := Lib.hid (HB4.out.below hb)
  have HC4n := Lib.hid (HC4.out.below hb)
  have HF24n := Lib.hid (HF24.out.below hb)
  have HW4n := Lib.hid (below_via HW4.out hb)
  clear hB hb
  have hS0 : Boxd w4.drew g C 25 ∧ Boxd w4.drew g2 F 25 ∧ Boxd w4.drew g3 D 25 ∧ Boxd w4.drew g4 D 25 ∧ Below w.heap.size w w4.drew := ⟨HB4n.out, HF24n.out, HC4n.out, HD4n.out, below_drew HW4n.out⟩
  refine wp_region_held_drew (S := (fun w' => Boxd w' g C 25 ∧ Boxd w' g2 F 25 ∧ Boxd w' g3 D 25 ∧ Boxd w' g4 D 25 ∧ Below w.heap.size w w')) (by kernel_rfl) hS0 (fun hHeld => ?_)
  refine take_row 0 39 rfl rfl (by kernel_rfl) (by kernel_rfl) (by kernel_rfl) 25 _ rfl g rfl C _ Try.underlying25 rfl HS.out (fun _ h => h.1) (fun _ _ _ h => h) (by rfl) (by assumption) ?_
  (try simp only [Act.put, List.setIfInBounds_toArray, List.set_cons_zero, List.set_cons_succ])
  refine take_row 2 41 rfl rfl (by kernel_rfl) (by kernel_rfl) (by kernel_rfl) 25 _ rfl g rfl C _ Try.underlying25 rfl HS.out (fun _ h => h.1) (fun _ _ _ h => h) (by rfl) (by assumption) ?_
  (try simp only [Act.put, List.setIfInBounds_toArray, List.set_cons_zero, List.set_cons_succ])
  refine wpAnyH_ready (rs := [1]) (by kernel_rfl) (by simp) (AllReadyH.cons rfl (fun K hK => ?_) AllReadyH.nil)
  go_simp
  (go_at_call 13; with_reducible refine (held_rows4 (by assumption) (HF.out _)).mono ?_; rintro e y5 ⟨rfl, hS1⟩)
  go_wp2_with fail
  refine hK.out _ _ ?_ (fun hHeld => ?_)
  · exact hS1
  clear hK K
  (try simp only [Act.put, List.setIfInBounds_toArray, List.set_cons_zero, List.set_cons_succ])
  refine wpAnyH_ready (rs := [3]) (by kernel_rfl) (by simp) (AllReadyH.cons rfl (fun K hK => ?_) AllReadyH.nil)
  go_simp
  (go_at_call 14; with_reducible refine (held_rows4 (by assumption) (HG.out _)).mono ?_; rintro e y6 ⟨rfl, hS2⟩)
  go_wp2_with fail
  refine hK.out _ _ ?_ (fun hHeld => ?_)
  · exact hS2
  clear hK K
  (try simp only [Act.put, List.setIfInBounds_toArray, List.set_cons_zero, List.set_cons_succ])
  refine ByHand.take_yes (v := ?_) 4 43 rfl rfl (by kernel_rfl) (by kernel_rfl) (by kernel_rfl) (fun _ _ _ h => h) (by rfl) ?_ (by assumption) ?_
  rotate_left
  · intro w' hSw
    (try dsimp only at hSw)
    go_simp
    all_goals with_reducible rfl
  (try simp only [Act.put, List.setIfInBounds_toArray, List.set_cons_zero, List.set_cons_succ])
  refine ByHand.take_yes (v := ?_) 5 44 rfl rfl (by kernel_rfl) (by kernel_rfl) (by kernel_rfl) (fun _ _ _ h => h) (by rfl) ?_ (by assumption) ?_
  rotate_left
  · intro w' hSw
    (try dsimp only at hSw)
    go_simp
    all_goals with_reducible rfl
  (try simp only [Act.put, List.setIfInBounds_toArray, List.set_cons_zero, List.set_cons_succ])
  refine ByHand.take_yes (v := ?_) 6 45 rfl rfl (by kernel_rfl) (by kernel_rfl) (by kernel_rfl) (fun _ _ _ h => h) (by rfl) ?_ (by assumption) ?_
  rotate_left
  · intro w' hSw
    (try dsimp only at hSw)
    go_simp
    all_goals with_reducible rfl
  (try simp only [Act.put, List.setIfInBounds_toArray, List.set_cons_zero, List.set_cons_succ])
  refine ByHand.take_yes (v := ?_) 7 46 rfl rfl (by kernel_rfl) (by kernel_rfl) (by kernel_rfl) (fun _ _ _ h => h) (by rfl) ?_ (by assumption) ?_
  rotate_left
  · intro w' hSw
    (try dsimp only at hSw)
    go_simp
    all_goals with_reducible rfl
  (try simp only [Act.put, List.setIfInBounds_toArray, List.set_cons_zero, List.set_cons_succ])
  refine ByHand.take_yes (v := ?_) 8 47 rfl rfl (by kernel_rfl) (by kernel_rfl) (by kernel_rfl) (fun _ _ _ h => h) (by rfl) ?_ (by assumption) ?_
  rotate_left
  · intro w' hSw
    (try dsimp only at hSw)
    go_simp
    all_goals with_reducible rfl
  (try simp only [Act.put, List.setIfInBounds_toArray, List.set_cons_zero, List.set_cons_succ])
  refine ByHand.take_yes (v := ?_) 9 48 rfl rfl (by kernel_rfl) (by kernel_rfl) (by kernel_rfl) (fun _ _ _ h => h) (by rfl) ?_ (by assumption) ?_
  rotate_left
  · intro w' hSw
    (try dsimp only at hSw)
    go_simp
    all_goals with_reducible rfl
  (try simp only [Act.put, List.setIfInBounds_toArray, List.set_cons_zero, List.set_cons_succ])
  refine ByHand.take_yes (v := ?_) 10 49 rfl rfl (by kernel_rfl) (by kernel_rfl) (by kernel_rfl) (fun _ _ _ h => h) (by rfl) ?_ (by assumption) ?_
  rotate_left
  · intro w' hSw
    (try dsimp only at hSw)
    go_simp
    all_goals with_reducible rfl
  (try simp only [Act.put, List.setIfInBounds_toArray, List.set_cons_zero, List.set_cons_succ])
  refine ByHand.take_yes (v := ?_) 11 50 rfl rfl (by kernel_rfl) (by kernel_rfl) (by kernel_rfl) (fun _ _ _ h => h) (by rfl) ?_ (by assumption) ?_
  rotate_left
  · intro w' hSw
    (try dsimp only at hSw)
    go_simp
    all_goals with_reducible rfl
  (try simp only [Act.put, List.setIfInBounds_toArray, List.set_cons_zero, List.set_cons_succ])
  refine ByHand.take_yes (v := ?_) 12 51 rfl rfl (by kernel_rfl) (by kernel_rfl) (by kernel_rfl) (fun _ _ _ h => h) (by rfl) ?_ (by assumption) ?_
  rotate_left
  · intro w' hSw
    (try dsimp only at hSw)
    go_simp
    all_goals with_reducible rfl
  (try simp only [Act.put, List.setIfInBounds_toArray, List.set_cons_zero, List.set_cons_succ])
  refine ByHand.take_yes (v := ?_) 13 52 rfl rfl (by kernel_rfl) (by kernel_rfl) (by kernel_rfl) (fun _ _ _ h => h) (by rfl) ?_ (by assumption) ?_
  rotate_left
  · intro w' hSw
    (try dsimp only at hSw)
    go_simp
    all_goals with_reducible rfl
  (try simp only [Act.put, List.setIfInBounds_toArray, List.set_cons_zero, List.set_cons_succ])
  refine ByHand.take_yes (v := ?_) 14 53 rfl rfl (by kernel_rfl) (by kernel_rfl) (by kernel_rfl) (fun _ _ _ h => h) (by rfl) ?_ (by assumption) ?_
  rotate_left
  · intro w' hSw
    (try dsimp only at hSw)
    go_simp
    all_goals with_reducible rfl
  (try simp only [Act.put, List.setIfInBounds_toArray, List.set_cons_zero, List.set_cons_succ])
  refine ByHand.take_yes (v := ?_) 15 54 rfl rfl (by kernel_rfl) (by kernel_rfl) (by kernel_rfl) (fun _ _ _ h => h) (by rfl) ?_ (by assumption) ?_
  rotate_left
  · intro w' hSw
    (try dsimp only at hSw)
    go_simp
    all_goals with_reducible rfl
  (try simp only [Act.put, List.setIfInBounds_toArray, List.set_cons_zero, List.set_cons_succ])
  refine take_row 16 55 rfl rfl (by kernel_rfl) (by kernel_rfl) (by kernel_rfl) 25 _ rfl g3 rfl D _ Try.underlying25 rfl HSD.out (fun _ h => h.2.2.1) (fun _ _ _ h => h) (by rfl) (by assumption) ?_
  (try simp only [Act.put, List.setIfInBounds_toArray, List.set_cons_zero, List.set_cons_succ])
  refine take_row 17 56 rfl rfl (by kernel_rfl) (by kernel_rfl) (by kernel_rfl) 25 _ rfl g4 rfl D _ Try.underlying25 rfl HSD.out (fun _ h => h.2.2.2.1) (fun _ _ _ h => h) (by rfl) (by assumption) ?_
  (try simp only [Act.put, List.setIfInBounds_toArray, List.set_cons_zero, List.set_cons_succ])
  refine wpAnyH_ready (rs := [18]) (by kernel_rfl) (by simp) (AllReadyH.cons rfl (fun K hK => ?_) AllReadyH.nil)
  go_simp
  (go_at_call 15; with_reducible refine (held_rows4 (by assumption) (HK.out _)).mono ?_; rintro e y7 ⟨rfl, hS3⟩)
  go_wp2_with fail
  refine hK.out _ _ ?_ (fun hHeld => ?_)
  · exact hS3
  clear hK K
  (try simp only [Act.put, List.setIfInBounds_toArray, List.set_cons_zero, List.set_cons_succ])
  refine ByHand.take_yes (v := ?_) 19 58 rfl rfl (by kernel_rfl) (by kernel_rfl) (by kernel_rfl) (fun _ _ _ h => h) (by rfl) ?_ (by assumption) ?_
  rotate_left
  · intro w' hSw
    (try dsimp only at hSw)
    go_simp
    all_goals with_reducible rfl
  (try simp only [Act.put, List.setIfInBounds_toArray, List.set_cons_zero, List.set_cons_succ])
  refine ByHand.take_yes (v := ?_) 20 59 rfl rfl (by kernel_rfl) (by kernel_rfl) (by kernel_rfl) (fun _ _ _ h => h) (by rfl) ?_ (by assumption) ?_
  rotate_left
  · intro w' hSw
    (try dsimp only at hSw)
    go_simp
    all_goals with_reducible rfl
  (try simp only [Act.put, List.setIfInBounds_toArray, List.set_cons_zero, List.set_cons_succ])
  refine ByHand.take_yes (v := ?_) 21 60 rfl rfl (by kernel_rfl) (by kernel_rfl) (by kernel_rfl) (fun _ _ _ h => h) (by rfl) ?_ (by assumption) ?_
  rotate_left
  · intro w' hSw
    (try dsimp only at hSw)
    go_simp
    all_goals with_reducible rfl
  (try simp only [Act.put, List.setIfInBounds_toArray, List.set_cons_zero, List.set_cons_succ])
  refine ByHand.take_yes (v := ?_) 22 61 rfl rfl (by kernel_rfl) (by kernel_rfl) (by kernel_rfl) (fun _ _ _ h => h) (by rfl) ?_ (by assumption) ?_
  rotate_left
  · intro w' hSw
    (try dsimp only at hSw)
    go_simp
    all_goals with_reducible rfl
  (try simp only [Act.put, List.setIfInBounds_toArray, List.set_cons_zero, List.set_cons_succ])
  refine ByHand.take_yes (v := ?_) 23 62 rfl rfl (by kernel_rfl) (by kernel_rfl) (by kernel_rfl) (fun _ _ _ h => h) (by rfl) ?_ (by assumption) ?_
  rotate_left
  · intro w' hSw
    (try dsimp only at hSw)
    go_simp
    all_goals with_reducible rfl
  (try simp only [Act.put, List.setIfInBounds_toArray, List.set_cons_zero, List.set_cons_succ])
  refine ByHand.take_yes (v := ?_) 24 63 rfl rfl (by kernel_rfl) (by kernel_rfl) (by kernel_rfl) (fun _ _ _ h => h) (by rfl) ?_ (by assumption) ?_
  rotate_left
  · intro w' hSw
    (try dsimp only at hSw)
    go_simp
    all_goals with_reducible rfl
  (try simp only [Act.put, List.setIfInBounds_toArray, List.set_cons_zero, List.set_cons_succ])
  refine ByHand.take_yes (v := ?_) 25 64 rfl rfl (by kernel_rfl) (by kernel_rfl) (by kernel_rfl) (fun _ _ _ h => h) (by rfl) ?_ (by assumption) ?_
  rotate_left
  · intro w' hSw
    (try dsimp only at hSw)
    go_simp
    all_goals with_reducible rfl
  (try simp only [Act.put, List.setIfInBounds_toArray, List.set_cons_zero, List.set_cons_succ])
  refine take_row 26 65 rfl rfl (by kernel_rfl) (by kernel_rfl) (by kernel_rfl) 25 _ rfl g rfl C _ Try.underlying25 rfl HS.out (fun _ h => h.1) (fun _ _ _ h => h) (by rfl) (by assumption) ?_
  (try simp only [Act.put, List.setIfInBounds_toArray, List.set_cons_zero, List.set_cons_succ])
  refine take_row 27 66 rfl rfl (by kernel_rfl) (by kernel_rfl) (by kernel_rfl) 25 _ rfl g2 rfl F _ Try.underlying25 rfl HSF.out (fun _ h => h.2.1) (fun _ _ _ h => h) (by rfl) (by assumption) ?_
  (try simp only [Act.put, List.setIfInBounds_toArray, List.set_cons_zero, List.set_cons_succ])
  refine take_row 29 68 rfl rfl (by kernel_rfl) (by kernel_rfl) (by kernel_rfl) 25 _ rfl g rfl C _ Try.underlying25 rfl HS.out (fun _ h => h.1) (fun _ _ _ h => h) (by rfl) (by assumption) ?_
  (try simp only [Act.put, List.setIfInBounds_toArray, List.set_cons_zero, List.set_cons_succ])
  refine take_row 30 69 rfl rfl (by kernel_rfl) (by kernel_rfl) (by kernel_rfl) 25 _ rfl g2 rfl F _ Try.underlying25 rfl HSF.out (fun _ h => h.2.1) (fun _ _ _ h => h) (by rfl) (by assumption) ?_
  (try simp only [Act.put, List.setIfInBounds_toArray, List.set_cons_zero, List.set_cons_succ])
  refine wpAnyH_ready (rs := [28]) (by kernel_rfl) (by simp) (AllReadyH.cons rfl (fun K hK => ?_) AllReadyH.nil)
  go_simp
  (go_at_call 16; with_reducible refine (held_rows4 (by assumption) (HM.out _)).mono ?_; rintro e y8 ⟨rfl, hS4⟩)
  go_wp2_with fail
  refine hK.out _ _ ?_ (fun hHeld => ?_)
  · exact hS4
  clear hK K
  (try simp only [Act.put, List.setIfInBounds_toArray, List.set_cons_zero, List.set_cons_succ])
  refine wpAnyH_ready (rs := [31]) (by kernel_rfl) (by simp) (AllReadyH.cons rfl (fun K hK => ?_) AllReadyH.nil)
  go_simp
  (go_at_call 15; with_reducible refine (held_rows4 (by assumption) (HN.out _)).mono ?_; rintro e y9 ⟨rfl, hS5⟩)
  go_wp2_with fail
  refine hK.out _ _ ?_ (fun hHeld => ?_)
  · exact hS5
  clear hK K
  (try simp only [Act.put, List.setIfInBounds_toArray, List.set_cons_zero, List.set_cons_succ])
  refine ByHand.take_yes (v := ?_) 32 71 rfl rfl (by kernel_rfl) (by kernel_rfl) (by kernel_rfl) (fun _ _ _ h => h) (by rfl) ?_ (by assumption) ?_
  rotate_left
  · intro w' hSw
    (try dsimp only at hSw)
    go_simp
    all_goals with_reducible rfl
  (try simp only [Act.put, List.setIfInBounds_toArray, List.set_cons_zero, List.set_cons_succ])
  refine ByHand.take_yes (v := ?_) 33 72 rfl rfl (by kernel_rfl) (by kernel_rfl) (by kernel_rfl) (fun _ _ _ h => h) (by rfl) ?_ (by assumption) ?_
  rotate_left
  · intro w' hSw
    (try dsimp only at hSw)
    go_simp
    all_goals with_reducible rfl
  (try simp only [Act.put, List.setIfInBounds_toArray, List.set_cons_zero, List.set_cons_succ])
  refine ByHand.take_yes (v := ?_) 34 73 rfl rfl (by kernel_rfl) (by kernel_rfl) (by kernel_rfl) (fun _ _ _ h => h) (by rfl) ?_ (by assumption) ?_
  rotate_left
  · intro w' hSw
    (try dsimp only at hSw)
    go_simp
    all_goals with_reducible rfl
  (try simp only [Act.put, List.setIfInBounds_toArray, List.set_cons_zero, List.set_cons_succ])
  refine take_row 35 74 rfl rfl (by kernel_rfl) (by kernel_rfl) (by kernel_rfl) 25 _ rfl g rfl C _ Try.underlying25 rfl HS.out (fun _ h => h.1) (fun _ _ _ h => h) (by rfl) (by assumption) ?_
  (try simp only [Act.put, List.setIfInBounds_toArray, List.set_cons_zero, List.set_cons_succ])
  refine take_row 36 75 rfl rfl (by kernel_rfl) (by kernel_rfl) (by kernel_rfl) 25 _ rfl g rfl C _ Try.underlying25 rfl HS.out (fun _ h => h.1) (fun _ _ _ h => h) (by rfl) (by assumption) ?_
  (try simp only [Act.put, List.setIfInBounds_toArray, List.set_cons_zero, List.set_cons_succ])
  refine wpAnyH_ready (rs := [37]) (by kernel_rfl) (by simp) (AllReadyH.cons rfl (fun K hK => ?_) AllReadyH.nil)
  go_simp
  (go_at_call 16; with_reducible refine (held_rows4 (by assumption) (HT.out _)).mono ?_; rintro e y10 ⟨rfl, hS6⟩)
  go_wp2_with fail
  refine hK.out _ _ ?_ (fun hHeld => ?_)
  · exact hS6
  clear hK K
  (try simp only [Act.put, List.setIfInBounds_toArray, List.set_cons_zero, List.set_cons_succ])
  refine ByHand.take_yes (v := ?_) 38 77 rfl rfl (by kernel_rfl) (by kernel_rfl) (by kernel_rfl) (fun _ _ _ h => h) (by rfl) ?_ (by assumption) ?_
  rotate_left
  · intro w' hSw
    (try dsimp only at hSw)
    go_simp
    all_goals with_reducible rfl
  (try simp only [Act.put, List.setIfInBounds_toArray, List.set_cons_zero, List.set_cons_succ])
  refine ByHand.take_yes (v := ?_) 39 78 rfl rfl (by kernel_rfl) (by kernel_rfl) (by kernel_rfl) (fun _ _ _ h => h) (by rfl) ?_ (by assumption) ?_
  rotate_left
  · intro w' hSw
    (try dsimp only at hSw)
    go_simp
    all_goals with_reducible rfl
  (try simp only [Act.put, List.setIfInBounds_toArray, List.set_cons_zero, List.set_cons_succ])
  refine wpAnyH_ready (rs := [40]) (by kernel_rfl) (by simp) (AllReadyH.cons rfl (fun K hK => ?_) AllReadyH.nil)
  go_simp
  (go_at_call 8; with_reducible refine (held_rows4 (by assumption) (wakes_event _)).mono ?_; rintro e y11 ⟨rfl, hS7⟩)
  go_wp2_with fail
  refine hK.out _ _ ?_ (fun hHeld => ?_)
  · exact hS7
  clear hK K
  (try simp only [Act.put, List.setIfInBounds_toArray, List.set_cons_zero, List.set_cons_succ])
  refine ByHand.take_yes (v := ?_) 41 80 rfl rfl (by kernel_rfl) (by kernel_rfl) (by kernel_rfl) (fun _ _ _ h => h) (by rfl) ?_ (by assumption) ?_
  rotate_left
  · intro w' hSw
    (try dsimp only at hSw)
    go_simp
    all_goals with_reducible rfl
  (try simp only [Act.put, List.setIfInBounds_toArray, List.set_cons_zero, List.set_cons_succ])
  refine ByHand.take_yes (v := ?_) 42 6 rfl rfl (by kernel_rfl) (by kernel_rfl) (by kernel_rfl) (fun _ _ _ h => h) (by rfl) ?_ (by assumption) ?_
  rotate_left
  · intro w' hSw
    (try dsimp only at hSw)
    go_simp
    all_goals with_reducible rfl
  (try simp only [Act.put, List.setIfInBounds_toArray, List.set_cons_zero, List.set_cons_succ])
  refine wpAnyH_done (by kernel_rfl) ?_ _
  go_wp2_with fail
  go_ret
  exact ⟨rfl, hS7.2.2.2.2⟩
theorem codes_walk (e f : Ev) (b : ByteArray) (w : World) (he : e.Fit) :
    Calls Try.prog 3 #[.agg e.cells, .agg f.cells, .string b] w fun e w' => e = .returned (.bool true) ∧ Below w.heap.size w w' := by
  by_cases h : 20000 < b.size
  · exact codes_long e f b w h
  · exact codes_short e f b w he (by omega)

set_option maxRecDepth 100000 in
theorem eventCodes_lifted (os : Os) (started : os.Started) (H : Type) (enc : TypeId × Value → H) :
    ReturnsInHanded {} Try.checked os 3 .any (Rows.eventCodesSpec.pre6 enc Try.prog Try.f3 Rows.eventCodesRow.domain false) (Rows.eventCodesSpec.post enc Try.prog Try.f3 false true false false) := by
  refine Shell.law_lifted (C := Try.checked) (tb := 4) (by kernel_rfl) started (by kernel_rfl) Try.func3
    (ChangeSpec.witness6 (enc := enc) (C := Try.checked) false ⟨#[], #[.agg #[.int .i64 0, .int .i64 0, .int .u32 0, .int .i64 0, .int .i64 0, .float .f64 0, .float .f64 0, .bool false, .int .i64 0, .int .i64 0, .int .i64 0], .agg #[.int .i64 0, .int .i64 0, .int .u32 0, .int .i64 0, .int .i64 0, .float .f64 0, .float .f64 0, .bool false, .int .i64 0, .int .i64 0, .int .i64 0], .string ⟨#[]⟩], []⟩ 8 (by kernel_rfl) (by kernel_rfl) (by kernel_rfl) (by kernel_rfl))
    (by kernel_rfl) (by kernel_rfl) rfl rfl Try.underlying4 ?_
  intro W base args ds p hval0 hA0
  have hval : ∀ (j : Nat) t v, Try.f3.params[j]? = some t → args[j]? = some v → Value.okWide Try.prog W .any base t v := hval0
  have hA : DataW.TrodAll enc Try.prog W 0 (fun _ => true) true Try.f3.params.toList args.toList ds p := hA0
  clear hval0 hA0
  rw [Try.params3] at hA hval
  obtain ⟨v0, vs0, d0, ds0, p0, q0, hargs, rfl, rfl, h0, r0⟩ := trodAll_cons hA
  obtain ⟨v1, vs1, d1, ds1, p1, q1, rfl, rfl, rfl, h1, r1⟩ := trodAll_cons r0
  obtain ⟨v2, vs2, d2, ds2, p2, q2, rfl, rfl, rfl, h2, r2⟩ := trodAll_cons r1
  obtain ⟨rfl, rfl, rfl⟩ := trodAll_nil r2
  obtain rfl : args = #[v0, v1, v2] := by cases args; simp_all
  refine ⟨rfl, ?_⟩
  obtain ⟨e, rfl, he⟩ := open_ev (hval 0 25 v0 rfl rfl) h0
  obtain ⟨f, rfl, hf⟩ := open_ev (hval 1 25 v1 rfl rfl) h1
  obtain ⟨b, rfl, -, -, hb⟩ := ChangeMaps.open_string Try.underlying9 (hval 2 9 v2 rfl rfl) h2
  exact codes_walk e f b W he

theorem eventCodes_over : Rows.eventCodesRow.holds Try.pinned (OpenSpec.ofChange Rows.eventCodesSpec) :=
  OpenClaim.holds_of_wide 3 Try.f3 rfl rfl rfl rfl rfl rfl rfl ⟨rfl, rfl, rfl, rfl, rfl⟩ rfl rfl rfl rfl rfl (by kernel_rfl) Try.func3 (by kernel_rfl)
    (of_decide_eq_true (by kernel_rfl)) (by unfold Func.isWrapper; first | (rw [if_pos (by decide +kernel)]; kernel_rfl) | (rw [if_neg (by decide +kernel)]; exact ⟨rfl, rfl⟩))
    (fun os st H enc _ => eventCodes_lifted os st H enc)

/-- The statement. -/
theorem eventCodes_proved : Rows.EventCodesSaid := eventCodes_over
end Go.Proofs.Ytcmdonckilajjaa.Law
