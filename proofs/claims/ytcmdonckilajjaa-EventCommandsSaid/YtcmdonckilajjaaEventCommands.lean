/- The bytes of every command, and the command of any bytes, or that there are none; no condition. -/
import Derived.Test.YtcmdonckilajjaaShell
import Derived.Test.YtcmdonckilajjaaEventWakes
import Derived.Test.YtcmdonckilajjaaOpenEv
import Derived.ChangeMaps5
namespace Go.Proofs.Ytcmdonckilajjaa.Law
open Go.ChangeShapes Go.WideShapes Go.ChangeAt Go.RowKit Go.Proofs.Ytcmdonckilajjaa.Event Fl Date Cal Pack

set_option maxRecDepth 20000 in
set_option maxHeartbeats 4000000 in
theorem commands_long (c : Cm) (b : ByteArray) (w : World) (h : 20000 < b.size) :
    Calls Try.prog 4 #[.agg c.cells, .string b] w fun e w' => e = .returned (.bool true) ∧ Below w.heap.size w w' := by
  have t0 : decide ((20000 : Int) < (b.size : Int)) = true := decide_eq_true (by omega)
  generalize c.cells = C
  have HW := Lib.hid ((Below.refl _ w).alloc (Nat.le_refl _) (.cells C 40))
  go_enter Try.func4, Try.ntmps4
  go_wp2_with fail
  refine (wakes_event _).mono ?_
  rintro e w2 ⟨rfl, hb⟩
  have HW2 := Lib.hid (below_via HW.out hb)
  clear hb
  go_wp2_with fail
  go_ret
  exact ⟨rfl, HW2.out⟩
set_option maxRecDepth 20000 in
set_option maxHeartbeats 4000000 in
theorem commands_short (c : Cm) (b : ByteArray) (w : World) (hc : c.Fit) (h : b.size ≤ 20000) :
    Calls Try.prog 4 #[.agg c.cells, .string b] w fun e w' => e = .returned (.bool true) ∧ Below w.heap.size w w' := by
  have t0 : decide ((20000 : Int) < (b.size : Int)) = false := decide_eq_false (by omega)
  have HP : Hid (∀ W, Calls Try.prog 17 #[.agg c.cells] W fun x w' => x = .returned (.tuple #[.string (packT c), .int .i64 (packX c)]) ∧ Below W.heap.size W w') := fun W => c_pack c W hc
  have HQ : Hid (∀ W, Calls Try.prog 18 #[.agg c.cells] W fun x w' => x = .returned (.tuple #[.string (packT c), .int .i64 (packX c)]) ∧ Below W.heap.size W w') := fun W => r_pack c W hc
  have HO : Hid (∀ W, Calls Try.prog 19 #[.string b] W fun x w' => x = .returned (.tuple #[.agg (opnE b).cells, .int .i64 (opnX b)]) ∧ Below W.heap.size W w') := fun W => c_open b W (by omega)
  have HR : Hid (∀ W, Calls Try.prog 20 #[.string b] W fun x w' => x = .returned (.tuple #[.agg (opnE b).cells, .int .i64 (opnX b)]) ∧ Below W.heap.size W w') := fun W => r_open b W (by omega)
  have HF : Hid (∀ W, Calls Try.prog 21 #[.agg c.cells] W fun x w' => x = .returned (.bool (fineC c)) ∧ Below W.heap.size W w') := fun W => c_fine c W hc
  have HG : Hid (∀ W, Calls Try.prog 22 #[.agg c.cells] W fun x w' => x = .returned (.bool (fineC c)) ∧ Below W.heap.size W w') := fun W => r_fine c W hc.e
  have HK : Hid (∀ W, Calls Try.prog 23 #[.agg (opnE b).cells, .agg (opnE b).cells] W fun x w' => x = .returned (.bool true) ∧ Below W.heap.size W w') := fun W => by
    have := k_command (opnE b) (opnE b) W
    rwa [eqC_self] at this
  have HS := Lib.hid (cm_info c)
  have HSD := Lib.hid (cm_info (opnE b))
  have HOD := Lib.hid (cm_one (opnE b))
  have HLD : (opnE b).cells.size = 14 := rfl
  obtain ⟨g, wb, e1, e2, hB, hb⟩ := boxd_new w c.cells 40
  have HB := Lib.hid hB
  have HW := Lib.hid hb
  clear hB hb h hc
  generalize c.cells = C at *
  generalize (opnE b).cells = D at *
  generalize packT c = s at *
  generalize packX c = x at *
  generalize opnX b = y at *
  generalize fineC c = f at *
  have f1 : (f == f) = true := by cases f <;> rfl
  have x1 : (x == x) = true := by simp
  have y1 : (y == y) = true := by simp
  go_enter Try.func4, Try.ntmps4
  go_upto_region 1 with fail
  rw [← e2, ← e1]
  clear e1 e2
  go_upto_region 6 with (first
    | (refine load_want (by rfl) 40 _ rfl _ rfl _ _ _ HB1.out Try.underlying40 rfl HS.out ?_)
    | (refine load_want (by rfl) 40 _ rfl _ rfl _ _ _ HB.out Try.underlying40 rfl HS.out ?_)
    | (go_at_call 17
       with_reducible refine (HP.out wb).mono ?_
       rintro e y1 ⟨rfl, hb⟩
       have HB1 := Lib.hid (HB.out.below hb)
       have HW1 := Lib.hid (below_via HW.out hb)
       clear hb)
    | (go_at_call 18
       with_reducible refine (HQ.out y1).mono ?_
       rintro e y2 ⟨rfl, hb⟩
       have HB2 := Lib.hid (HB1.out.below hb)
       have HW2 := Lib.hid (below_via HW1.out hb)
       clear hb)
    | (go_at_call 19
       with_reducible refine (HO.out y2).mono ?_
       rintro e y3 ⟨rfl, hb⟩
       have HB3 := Lib.hid (HB2.out.below hb)
       have HW3 := Lib.hid (below_via HW2.out hb)
       clear hb)
    | (refine store_row rfl 40 _ _ rfl rfl _ _ rfl rfl _ _ (heap_alloc_last _ _) HSD.out (by rw [HLD]; rfl) HOD.out ?_; rw [World.setRow_alloc_new]))
  obtain ⟨g3, w3, e1, e2, hB, hb⟩ := boxd_new y3 D 40
  rw [← e2, ← e1]
  clear e1 e2
  have HC3n := Lib.hid hB
  have HB3n := Lib.hid (HB3.out.below hb)
  have HW3n := Lib.hid (below_via HW3.out hb)
  clear hB hb
  go_upto_region 7 with (first
    | (go_at_call 20
       with_reducible refine (HR.out w3).mono ?_
       rintro e y4 ⟨rfl, hb⟩
       have HB4 := Lib.hid (HB3n.out.below hb)
       have HW4 := Lib.hid (below_via HW3n.out hb)
       have HC4 := Lib.hid (HC3n.out.below hb)
       clear hb)
    | (refine store_row rfl 40 _ _ rfl rfl _ _ rfl rfl _ _ (heap_alloc_last _ _) HSD.out (by rw [HLD]; rfl) HOD.out ?_; rw [World.setRow_alloc_new]))
  obtain ⟨g4, w4, e1, e2, hB, hb⟩ := boxd_new y4 D 40
  rw [← e2, ← e1]
  clear e1 e2
  have HD4n := Lib.hid hB
  have HB4n := Lib.hid (HB4.out.below hb)
  have HC4n := Lib.hid (HC4.out.below hb)
  have HW4n := Lib.hid (below_via HW4.out hb)
  clear hB hb
  have hS0 : Boxd w4.drew g C 40 ∧ Boxd w4.drew g3 D 40 ∧ Boxd w4.drew g4 D 40 ∧ Below w.heap.size w w4.drew := ⟨HB4n.out, HC4n.out, HD4n.out, below_drew HW4n.out⟩
  refine wp_region_held_drew (S := (fun w' => Boxd w' g C 40 ∧ Boxd w' g3 D 40 ∧ Boxd w' g4 D 40 ∧ Below w.heap.size w w')) (by kernel_rfl) hS0 (fun hHeld => ?_)
  refine take_row 0 37 rfl rfl (by kernel_rfl) (by kernel_rfl) (by kernel_rfl) 40 _ rfl g rfl C _ Try.underlying40 rfl HS.out (fun _ h => h.1) (fun _ _ _ h => h) (by rfl) (by assumption) ?_
  (try simp only [Act.put, List.setIfInBounds_toArray, List.set_cons_zero, List.set_cons_succ])
  refine take_row 2 39 rfl rfl (by kernel_rfl) (by kernel_rfl) (by kernel_rfl) 40 _ rfl g rfl C _ Try.underlying40 rfl HS.out (fun _ h => h.1) (fun _ _ _ h => h) (by rfl) (by assumption) ?_
  (try simp only [Act.put, List.setIfInBounds_toArray, List.set_cons_zero, List.set_cons_succ])
  refine wpAnyH_ready (rs := [1]) (by kernel_rfl) (by simp) (AllReadyH.cons rfl (fun K hK => ?_) AllReadyH.nil)
  go_simp
  (go_at_call 21; with_reducible refine (held_rows (by assumption) (HF.out _)).mono ?_; rintro e y5 ⟨rfl, hS1⟩)
  go_wp2_with fail
  refine hK.out _ _ ?_ (fun hHeld => ?_)
  · exact hS1
  clear hK K
  (try simp only [Act.put, List.setIfInBounds_toArray, List.set_cons_zero, List.set_cons_succ])
  refine wpAnyH_ready (rs := [3]) (by kernel_rfl) (by simp) (AllReadyH.cons rfl (fun K hK => ?_) AllReadyH.nil)
  go_simp
  (go_at_call 22; with_reducible refine (held_rows (by assumption) (HG.out _)).mono ?_; rintro e y6 ⟨rfl, hS2⟩)
  go_wp2_with fail
  refine hK.out _ _ ?_ (fun hHeld => ?_)
  · exact hS2
  clear hK K
  (try simp only [Act.put, List.setIfInBounds_toArray, List.set_cons_zero, List.set_cons_succ])
  refine ByHand.take_yes (v := ?_) 4 41 rfl rfl (by kernel_rfl) (by kernel_rfl) (by kernel_rfl) (fun _ _ _ h => h) (by rfl) ?_ (by assumption) ?_
  rotate_left
  · intro w' hSw
    (try dsimp only at hSw)
    go_simp
    all_goals with_reducible rfl
  (try simp only [Act.put, List.setIfInBounds_toArray, List.set_cons_zero, List.set_cons_succ])
  refine ByHand.take_yes (v := ?_) 5 42 rfl rfl (by kernel_rfl) (by kernel_rfl) (by kernel_rfl) (fun _ _ _ h => h) (by rfl) ?_ (by assumption) ?_
  rotate_left
  · intro w' hSw
    (try dsimp only at hSw)
    go_simp
    all_goals with_reducible rfl
  (try simp only [Act.put, List.setIfInBounds_toArray, List.set_cons_zero, List.set_cons_succ])
  refine ByHand.take_yes (v := ?_) 6 43 rfl rfl (by kernel_rfl) (by kernel_rfl) (by kernel_rfl) (fun _ _ _ h => h) (by rfl) ?_ (by assumption) ?_
  rotate_left
  · intro w' hSw
    (try dsimp only at hSw)
    go_simp
    all_goals with_reducible rfl
  (try simp only [Act.put, List.setIfInBounds_toArray, List.set_cons_zero, List.set_cons_succ])
  refine ByHand.take_yes (v := ?_) 7 44 rfl rfl (by kernel_rfl) (by kernel_rfl) (by kernel_rfl) (fun _ _ _ h => h) (by rfl) ?_ (by assumption) ?_
  rotate_left
  · intro w' hSw
    (try dsimp only at hSw)
    go_simp
    all_goals with_reducible rfl
  (try simp only [Act.put, List.setIfInBounds_toArray, List.set_cons_zero, List.set_cons_succ])
  refine ByHand.take_yes (v := ?_) 8 45 rfl rfl (by kernel_rfl) (by kernel_rfl) (by kernel_rfl) (fun _ _ _ h => h) (by rfl) ?_ (by assumption) ?_
  rotate_left
  · intro w' hSw
    (try dsimp only at hSw)
    go_simp
    all_goals with_reducible rfl
  (try simp only [Act.put, List.setIfInBounds_toArray, List.set_cons_zero, List.set_cons_succ])
  refine ByHand.take_yes (v := ?_) 9 46 rfl rfl (by kernel_rfl) (by kernel_rfl) (by kernel_rfl) (fun _ _ _ h => h) (by rfl) ?_ (by assumption) ?_
  rotate_left
  · intro w' hSw
    (try dsimp only at hSw)
    go_simp
    all_goals with_reducible rfl
  (try simp only [Act.put, List.setIfInBounds_toArray, List.set_cons_zero, List.set_cons_succ])
  refine ByHand.take_yes (v := ?_) 10 47 rfl rfl (by kernel_rfl) (by kernel_rfl) (by kernel_rfl) (fun _ _ _ h => h) (by rfl) ?_ (by assumption) ?_
  rotate_left
  · intro w' hSw
    (try dsimp only at hSw)
    go_simp
    all_goals with_reducible rfl
  (try simp only [Act.put, List.setIfInBounds_toArray, List.set_cons_zero, List.set_cons_succ])
  refine ByHand.take_yes (v := ?_) 11 48 rfl rfl (by kernel_rfl) (by kernel_rfl) (by kernel_rfl) (fun _ _ _ h => h) (by rfl) ?_ (by assumption) ?_
  rotate_left
  · intro w' hSw
    (try dsimp only at hSw)
    go_simp
    all_goals with_reducible rfl
  (try simp only [Act.put, List.setIfInBounds_toArray, List.set_cons_zero, List.set_cons_succ])
  refine ByHand.take_yes (v := ?_) 12 49 rfl rfl (by kernel_rfl) (by kernel_rfl) (by kernel_rfl) (fun _ _ _ h => h) (by rfl) ?_ (by assumption) ?_
  rotate_left
  · intro w' hSw
    (try dsimp only at hSw)
    go_simp
    all_goals with_reducible rfl
  (try simp only [Act.put, List.setIfInBounds_toArray, List.set_cons_zero, List.set_cons_succ])
  refine ByHand.take_yes (v := ?_) 13 50 rfl rfl (by kernel_rfl) (by kernel_rfl) (by kernel_rfl) (fun _ _ _ h => h) (by rfl) ?_ (by assumption) ?_
  rotate_left
  · intro w' hSw
    (try dsimp only at hSw)
    go_simp
    all_goals with_reducible rfl
  (try simp only [Act.put, List.setIfInBounds_toArray, List.set_cons_zero, List.set_cons_succ])
  refine ByHand.take_yes (v := ?_) 14 51 rfl rfl (by kernel_rfl) (by kernel_rfl) (by kernel_rfl) (fun _ _ _ h => h) (by rfl) ?_ (by assumption) ?_
  rotate_left
  · intro w' hSw
    (try dsimp only at hSw)
    go_simp
    all_goals with_reducible rfl
  (try simp only [Act.put, List.setIfInBounds_toArray, List.set_cons_zero, List.set_cons_succ])
  refine ByHand.take_yes (v := ?_) 15 52 rfl rfl (by kernel_rfl) (by kernel_rfl) (by kernel_rfl) (fun _ _ _ h => h) (by rfl) ?_ (by assumption) ?_
  rotate_left
  · intro w' hSw
    (try dsimp only at hSw)
    go_simp
    all_goals with_reducible rfl
  (try simp only [Act.put, List.setIfInBounds_toArray, List.set_cons_zero, List.set_cons_succ])
  refine take_row 16 53 rfl rfl (by kernel_rfl) (by kernel_rfl) (by kernel_rfl) 40 _ rfl g3 rfl D _ Try.underlying40 rfl HSD.out (fun _ h => h.2.1) (fun _ _ _ h => h) (by rfl) (by assumption) ?_
  (try simp only [Act.put, List.setIfInBounds_toArray, List.set_cons_zero, List.set_cons_succ])
  refine take_row 17 54 rfl rfl (by kernel_rfl) (by kernel_rfl) (by kernel_rfl) 40 _ rfl g4 rfl D _ Try.underlying40 rfl HSD.out (fun _ h => h.2.2.1) (fun _ _ _ h => h) (by rfl) (by assumption) ?_
  (try simp only [Act.put, List.setIfInBounds_toArray, List.set_cons_zero, List.set_cons_succ])
  refine wpAnyH_ready (rs := [18]) (by kernel_rfl) (by simp) (AllReadyH.cons rfl (fun K hK => ?_) AllReadyH.nil)
  go_simp
  (go_at_call 23; with_reducible refine (held_rows (by assumption) (HK.out _)).mono ?_; rintro e y7 ⟨rfl, hS3⟩)
  go_wp2_with fail
  refine hK.out _ _ ?_ (fun hHeld => ?_)
  · exact hS3
  clear hK K
  (try simp only [Act.put, List.setIfInBounds_toArray, List.set_cons_zero, List.set_cons_succ])
  refine ByHand.take_yes (v := ?_) 19 56 rfl rfl (by kernel_rfl) (by kernel_rfl) (by kernel_rfl) (fun _ _ _ h => h) (by rfl) ?_ (by assumption) ?_
  rotate_left
  · intro w' hSw
    (try dsimp only at hSw)
    go_simp
    all_goals with_reducible rfl
  (try simp only [Act.put, List.setIfInBounds_toArray, List.set_cons_zero, List.set_cons_succ])
  refine ByHand.take_yes (v := ?_) 20 57 rfl rfl (by kernel_rfl) (by kernel_rfl) (by kernel_rfl) (fun _ _ _ h => h) (by rfl) ?_ (by assumption) ?_
  rotate_left
  · intro w' hSw
    (try dsimp only at hSw)
    go_simp
    all_goals with_reducible rfl
  (try simp only [Act.put, List.setIfInBounds_toArray, List.set_cons_zero, List.set_cons_succ])
  refine ByHand.take_yes (v := ?_) 21 58 rfl rfl (by kernel_rfl) (by kernel_rfl) (by kernel_rfl) (fun _ _ _ h => h) (by rfl) ?_ (by assumption) ?_
  rotate_left
  · intro w' hSw
    (try dsimp only at hSw)
    go_simp
    all_goals with_reducible rfl
  (try simp only [Act.put, List.setIfInBounds_toArray, List.set_cons_zero, List.set_cons_succ])
  refine ByHand.take_yes (v := ?_) 22 59 rfl rfl (by kernel_rfl) (by kernel_rfl) (by kernel_rfl) (fun _ _ _ h => h) (by rfl) ?_ (by assumption) ?_
  rotate_left
  · intro w' hSw
    (try dsimp only at hSw)
    go_simp
    all_goals with_reducible rfl
  (try simp only [Act.put, List.setIfInBounds_toArray, List.set_cons_zero, List.set_cons_succ])
  refine ByHand.take_yes (v := ?_) 23 60 rfl rfl (by kernel_rfl) (by kernel_rfl) (by kernel_rfl) (fun _ _ _ h => h) (by rfl) ?_ (by assumption) ?_
  rotate_left
  · intro w' hSw
    (try dsimp only at hSw)
    go_simp
    all_goals with_reducible rfl
  (try simp only [Act.put, List.setIfInBounds_toArray, List.set_cons_zero, List.set_cons_succ])
  refine ByHand.take_yes (v := ?_) 24 61 rfl rfl (by kernel_rfl) (by kernel_rfl) (by kernel_rfl) (fun _ _ _ h => h) (by rfl) ?_ (by assumption) ?_
  rotate_left
  · intro w' hSw
    (try dsimp only at hSw)
    go_simp
    all_goals with_reducible rfl
  (try simp only [Act.put, List.setIfInBounds_toArray, List.set_cons_zero, List.set_cons_succ])
  refine ByHand.take_yes (v := ?_) 25 62 rfl rfl (by kernel_rfl) (by kernel_rfl) (by kernel_rfl) (fun _ _ _ h => h) (by rfl) ?_ (by assumption) ?_
  rotate_left
  · intro w' hSw
    (try dsimp only at hSw)
    go_simp
    all_goals with_reducible rfl
  (try simp only [Act.put, List.setIfInBounds_toArray, List.set_cons_zero, List.set_cons_succ])
  refine wpAnyH_ready (rs := [26]) (by kernel_rfl) (by simp) (AllReadyH.cons rfl (fun K hK => ?_) AllReadyH.nil)
  go_simp
  (go_at_call 8; with_reducible refine (held_rows (by assumption) (wakes_event _)).mono ?_; rintro e y8 ⟨rfl, hS4⟩)
  go_wp2_with fail
  refine hK.out _ _ ?_ (fun hHeld => ?_)
  · exact hS4
  clear hK K
  (try simp only [Act.put, List.setIfInBounds_toArray, List.set_cons_zero, List.set_cons_succ])
  refine ByHand.take_yes (v := ?_) 27 64 rfl rfl (by kernel_rfl) (by kernel_rfl) (by kernel_rfl) (fun _ _ _ h => h) (by rfl) ?_ (by assumption) ?_
  rotate_left
  · intro w' hSw
    (try dsimp only at hSw)
    go_simp
    all_goals with_reducible rfl
  (try simp only [Act.put, List.setIfInBounds_toArray, List.set_cons_zero, List.set_cons_succ])
  refine ByHand.take_yes (v := ?_) 28 4 rfl rfl (by kernel_rfl) (by kernel_rfl) (by kernel_rfl) (fun _ _ _ h => h) (by rfl) ?_ (by assumption) ?_
  rotate_left
  · intro w' hSw
    (try dsimp only at hSw)
    go_simp
    all_goals with_reducible rfl
  (try simp only [Act.put, List.setIfInBounds_toArray, List.set_cons_zero, List.set_cons_succ])
  refine wpAnyH_done (by kernel_rfl) ?_ _
  go_wp2_with fail
  go_ret
  exact ⟨rfl, hS4.2.2.2⟩
theorem commands_walk (c : Cm) (b : ByteArray) (w : World) (hc : c.Fit) :
    Calls Try.prog 4 #[.agg c.cells, .string b] w fun e w' => e = .returned (.bool true) ∧ Below w.heap.size w w' := by
  by_cases h : 20000 < b.size
  · exact commands_long c b w h
  · exact commands_short c b w hc (by omega)

set_option maxRecDepth 100000 in
theorem eventCommands_lifted (os : Os) (started : os.Started) (H : Type) (enc : TypeId × Value → H) :
    ReturnsInHanded {} Try.checked os 4 .any (Rows.eventCommandsSpec.pre6 enc Try.prog Try.f4 Rows.eventCommandsRow.domain false) (Rows.eventCommandsSpec.post enc Try.prog Try.f4 false true false false) := by
  refine Shell.law_lifted (C := Try.checked) (tb := 4) (by kernel_rfl) started (by kernel_rfl) Try.func4
    (ChangeSpec.witness6 (enc := enc) (C := Try.checked) false ⟨#[], #[.agg #[.bool false, .int .u32 0, .int .i64 0, .int .i64 0, .int .u32 0, .int .i64 0, .int .i64 0, .float .f64 0, .float .f64 0, .bool false, .int .i64 0, .int .i64 0, .int .i64 0, .int .u32 0], .string ⟨#[]⟩], []⟩ 8 (by kernel_rfl) (by kernel_rfl) (by kernel_rfl) (by kernel_rfl))
    (by kernel_rfl) (by kernel_rfl) rfl rfl Try.underlying4 ?_
  intro W base args ds p hval0 hA0
  have hval : ∀ (j : Nat) t v, Try.f4.params[j]? = some t → args[j]? = some v → Value.okWide Try.prog W .any base t v := hval0
  have hA : DataW.TrodAll enc Try.prog W 0 (fun _ => true) true Try.f4.params.toList args.toList ds p := hA0
  clear hval0 hA0
  rw [Try.params4] at hA hval
  obtain ⟨v0, vs0, d0, ds0, p0, q0, hargs, rfl, rfl, h0, r0⟩ := trodAll_cons hA
  obtain ⟨v1, vs1, d1, ds1, p1, q1, rfl, rfl, rfl, h1, r1⟩ := trodAll_cons r0
  obtain ⟨rfl, rfl, rfl⟩ := trodAll_nil r1
  obtain rfl : args = #[v0, v1] := by cases args; simp_all
  refine ⟨rfl, ?_⟩
  obtain ⟨c, rfl, hc⟩ := open_cm (hval 0 40 v0 rfl rfl) h0
  obtain ⟨b, rfl, -, -, hb⟩ := ChangeMaps.open_string Try.underlying9 (hval 1 9 v1 rfl rfl) h1
  exact commands_walk c b W hc

theorem eventCommands_over : Rows.eventCommandsRow.holds Try.pinned (OpenSpec.ofChange Rows.eventCommandsSpec) :=
  OpenClaim.holds_of_wide 4 Try.f4 rfl rfl rfl rfl rfl rfl rfl ⟨rfl, rfl, rfl, rfl, rfl⟩ rfl rfl rfl rfl rfl (by kernel_rfl) Try.func4 (by kernel_rfl)
    (of_decide_eq_true (by kernel_rfl)) (by unfold Func.isWrapper; first | (rw [if_pos (by decide +kernel)]; kernel_rfl) | (rw [if_neg (by decide +kernel)]; exact ⟨rfl, rfl⟩))
    (fun os st H enc _ => eventCommands_lifted os st H enc)

/-- The statement. -/
theorem eventCommands_proved : Rows.EventCommandsSaid := eventCommands_over
end Go.Proofs.Ytcmdonckilajjaa.Law
