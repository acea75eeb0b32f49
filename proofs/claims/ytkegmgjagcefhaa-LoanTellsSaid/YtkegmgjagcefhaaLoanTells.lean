/- Whether any loan is good, what it owes, what days make of it, and what capitalizing does: loan's answers are the document's own; no condition. -/
import Derived.Test.YtkegmgjagcefhaaShell
import Derived.Test.YtkegmgjagcefhaaOpenLn
import Derived.Test.YtkegmgjagcefhaaLoanWakes
import Derived.Test.YtkegmgjagcefhaaRefLoan2
namespace Go.Proofs.Ytkegmgjagcefhaa.Law
open Go.ChangeShapes Go.WideShapes Go.ChangeAt Go.RowKit Accr Box Loan RLoan

set_option maxRecDepth 20000 in
set_option maxHeartbeats 2000000 in
theorem tells_walk (l : Ln) (d : Int) (w : World) : Calls Try.prog 3 #[.agg l.cells, .int .i64 d] w fun e w' => e = .returned (.bool true) ∧ Below w.heap.size w w' := by
  obtain ⟨g, w0, e0, f0, hB, hb⟩ := boxd_new w l.cells 23
  have HL := Lib.hid hB
  have HW := Lib.hid hb
  clear hB hb
  have K1 := Lib.hid (fun W => c_owes l W)
  have K2 := Lib.hid (fun W => r_owes l W)
  have K3 := Lib.hid (fun W => c_accrue l d W)
  have K4 := Lib.hid (fun W => r_accrue l d W)
  have K5 := Lib.hid (fun W => c_cap l W)
  have K6 := Lib.hid (fun W => r_cap l W)
  have K7 := Lib.hid (fun W => good_c l W)
  have K8 := Lib.hid (fun W => r_good l W)
  have KD := Lib.hid (fun W => alike (accR l d).1 W)
  have KE := Lib.hid (fun W => alike (capR l).1 W)
  have KW := Lib.hid wakes_loan
  have HSL := Lib.hid (ln_info l)
  have HSD := Lib.hid (ln_info (accR l d).1)
  have HOD := Lib.hid (ln_one (accR l d).1)
  have HZD : Hid (13 = ((accR l d).1).cells.size) := show _ = _ from rfl
  have HSE := Lib.hid (ln_info (capR l).1)
  have HOE := Lib.hid (ln_one (capR l).1)
  have HZE : Hid (13 = ((capR l).1).cells.size) := show _ = _ from rfl
  generalize (accR l d).1.cells = D at *
  generalize (accR l d).2 = x2 at *
  generalize (capR l).1.cells = E at *
  generalize (capR l).2 = x3 at *
  generalize (owesR l).1 = v1 at *
  generalize (owesR l).2 = x1 at *
  generalize goodL l = bb at *
  generalize l.cells = C at *
  have t1 : (bb == bb) = true := by simp
  have t2 : (v1 == v1) = true := by simp
  have t3 : (x1 == x1) = true := by simp
  have t4 : (x2 == x2) = true := by simp
  have t5 : (x3 == x3) = true := by simp
  go_enter Try.func3, Try.ntmps3
  go_upto_region 1 with fail
  rw [← f0, ← e0]
  clear e0 f0
  go_upto_region 2 with (first
    | (refine o_load rfl 23 _ rfl _ rfl _ _ _ HL.out Try.underlying23 rfl HSL.out ?_)
    | (go_at_call 8; with_reducible refine (K1.out _).mono ?_; rintro e y1 ⟨rfl, hb⟩; replace HL := Lib.hid (HL.out.below hb); replace HW := Lib.hid (below_to HW.out hb); clear hb))
  go_upto_region 3 with (first
    | (refine o_load rfl 23 _ rfl _ rfl _ _ _ HL.out Try.underlying23 rfl HSL.out ?_)
    | (go_at_call 9; with_reducible refine (K2.out _).mono ?_; rintro e y2 ⟨rfl, hb⟩; replace HL := Lib.hid (HL.out.below hb); replace HW := Lib.hid (below_to HW.out hb); clear hb))
  go_upto_region 4 with (first
    | (refine o_load rfl 23 _ rfl _ rfl _ _ _ HL.out Try.underlying23 rfl HSL.out ?_)
    | (go_at_call 10; with_reducible refine (K3.out _).mono ?_; rintro e y3 ⟨rfl, hb⟩; replace HL := Lib.hid (HL.out.below hb); replace HW := Lib.hid (below_to HW.out hb); clear hb)
    | (refine o_store rfl 23 _ _ rfl rfl y3.heap.size _ rfl rfl _ _ (heap_alloc_last _ _) HSD.out HZD.out HOD.out ?_; intro z3 hr ho; replace HL := Lib.hid ((HL.out.below (below_one _ _)).one ho (Nat.ne_of_lt HL.out.lt)); have HA := Lib.hid hr; replace HW := Lib.hid (below_one_of (below_to HW.out (below_one _ _)) ho HW.out.size (below_to HW.out (below_one _ _)).size); clear hr ho))
  go_upto_region 5 with (first
    | (refine o_load rfl 23 _ rfl _ rfl _ _ _ HL.out Try.underlying23 rfl HSL.out ?_)
    | (refine o_load rfl 23 _ rfl _ rfl _ _ _ HA.out Try.underlying23 rfl HSD.out ?_)
    | (go_at_call 11; with_reducible refine (K4.out _).mono ?_; rintro e y4 ⟨rfl, hb⟩; replace HL := Lib.hid (HL.out.below hb); replace HA := Lib.hid (HA.out.below hb); replace HW := Lib.hid (below_to HW.out hb); clear hb)
    | (refine o_store rfl 23 _ _ rfl rfl y4.heap.size _ rfl rfl _ _ (heap_alloc_last _ _) HSD.out HZD.out HOD.out ?_; intro z4 hr ho; replace HL := Lib.hid ((HL.out.below (below_one _ _)).one ho (Nat.ne_of_lt HL.out.lt)); replace HA := Lib.hid ((HA.out.below (below_one _ _)).one ho (Nat.ne_of_lt HA.out.lt)); have HB := Lib.hid hr; replace HW := Lib.hid (below_one_of (below_to HW.out (below_one _ _)) ho HW.out.size (below_to HW.out (below_one _ _)).size); clear hr ho))
  go_upto_region 6 with (first
    | (refine o_load rfl 23 _ rfl _ rfl _ _ _ HL.out Try.underlying23 rfl HSL.out ?_)
    | (refine o_load rfl 23 _ rfl _ rfl _ _ _ HA.out Try.underlying23 rfl HSD.out ?_)
    | (refine o_load rfl 23 _ rfl _ rfl _ _ _ HB.out Try.underlying23 rfl HSD.out ?_)
    | (go_at_call 12; with_reducible refine (K5.out _).mono ?_; rintro e y5 ⟨rfl, hb⟩; replace HL := Lib.hid (HL.out.below hb); replace HA := Lib.hid (HA.out.below hb); replace HB := Lib.hid (HB.out.below hb); replace HW := Lib.hid (below_to HW.out hb); clear hb)
    | (refine o_store rfl 23 _ _ rfl rfl y5.heap.size _ rfl rfl _ _ (heap_alloc_last _ _) HSE.out HZE.out HOE.out ?_; intro z5 hr ho; replace HL := Lib.hid ((HL.out.below (below_one _ _)).one ho (Nat.ne_of_lt HL.out.lt)); replace HA := Lib.hid ((HA.out.below (below_one _ _)).one ho (Nat.ne_of_lt HA.out.lt)); replace HB := Lib.hid ((HB.out.below (below_one _ _)).one ho (Nat.ne_of_lt HB.out.lt)); have HP := Lib.hid hr; replace HW := Lib.hid (below_one_of (below_to HW.out (below_one _ _)) ho HW.out.size (below_to HW.out (below_one _ _)).size); clear hr ho))
  go_upto_region 7 with (first
    | (refine o_load rfl 23 _ rfl _ rfl _ _ _ HL.out Try.underlying23 rfl HSL.out ?_)
    | (refine o_load rfl 23 _ rfl _ rfl _ _ _ HA.out Try.underlying23 rfl HSD.out ?_)
    | (refine o_load rfl 23 _ rfl _ rfl _ _ _ HB.out Try.underlying23 rfl HSD.out ?_)
    | (refine o_load rfl 23 _ rfl _ rfl _ _ _ HP.out Try.underlying23 rfl HSE.out ?_)
    | (go_at_call 13; with_reducible refine (K6.out _).mono ?_; rintro e y6 ⟨rfl, hb⟩; replace HL := Lib.hid (HL.out.below hb); replace HA := Lib.hid (HA.out.below hb); replace HB := Lib.hid (HB.out.below hb); replace HP := Lib.hid (HP.out.below hb); replace HW := Lib.hid (below_to HW.out hb); clear hb)
    | (refine o_store rfl 23 _ _ rfl rfl y6.heap.size _ rfl rfl _ _ (heap_alloc_last _ _) HSE.out HZE.out HOE.out ?_; intro z6 hr ho; replace HL := Lib.hid ((HL.out.below (below_one _ _)).one ho (Nat.ne_of_lt HL.out.lt)); replace HA := Lib.hid ((HA.out.below (below_one _ _)).one ho (Nat.ne_of_lt HA.out.lt)); replace HB := Lib.hid ((HB.out.below (below_one _ _)).one ho (Nat.ne_of_lt HB.out.lt)); replace HP := Lib.hid ((HP.out.below (below_one _ _)).one ho (Nat.ne_of_lt HP.out.lt)); have HQ := Lib.hid hr; replace HW := Lib.hid (below_one_of (below_to HW.out (below_one _ _)) ho HW.out.size (below_to HW.out (below_one _ _)).size); clear hr ho))
  generalize y3.heap.size = gA at *
  generalize y4.heap.size = gB at *
  generalize y5.heap.size = gP at *
  generalize y6.heap.size = gQ at *
  replace HL : Hid (Boxd z6.drew g C 23) := HL.out
  replace HA : Hid (Boxd z6.drew gA D 23) := HA.out
  replace HB : Hid (Boxd z6.drew gB D 23) := HB.out
  replace HP : Hid (Boxd z6.drew gP E 23) := HP.out
  replace HQ : Hid (Boxd z6.drew gQ E 23) := HQ.out
  replace HW := Lib.hid (below_drawn HW.out)
  have hS0 := And.intro HL.out (And.intro HA.out (And.intro HB.out (And.intro HP.out HQ.out)))
  refine wp_region_held_drew (S := (fun W => Boxd W g C 23 ∧ Boxd W gA D 23 ∧ Boxd W gB D 23 ∧ Boxd W gP E 23 ∧ Boxd W gQ E 23)) (by kernel_rfl) hS0 (fun hHeld => ?_)
  refine take_row 0 49 rfl rfl (by kernel_rfl) (by kernel_rfl) (by kernel_rfl) 23 _ rfl _ rfl _ _ Try.underlying23 rfl HSL.out (fun _ h => h.1) (fun _ _ _ h => h) (by rfl) (by assumption) ?_
  (try simp only [Act.put, List.setIfInBounds_toArray, List.set_cons_zero, List.set_cons_succ])
  refine take_row 2 51 rfl rfl (by kernel_rfl) (by kernel_rfl) (by kernel_rfl) 23 _ rfl _ rfl _ _ Try.underlying23 rfl HSL.out (fun _ h => h.1) (fun _ _ _ h => h) (by rfl) (by assumption) ?_
  (try simp only [Act.put, List.setIfInBounds_toArray, List.set_cons_zero, List.set_cons_succ])
  refine wpAnyH_ready (rs := [1]) (by kernel_rfl) (by simp) (AllReadyH.cons rfl (fun K hK => ?_) AllReadyH.nil)
  go_simp
  refine (K7.out _).mono ?_
  rintro e u1 ⟨rfl, hb⟩
  replace HL := Lib.hid (HL.out.below hb)
  replace HA := Lib.hid (HA.out.below hb)
  replace HB := Lib.hid (HB.out.below hb)
  replace HP := Lib.hid (HP.out.below hb)
  replace HQ := Lib.hid (HQ.out.below hb)
  replace HW := Lib.hid (below_to HW.out hb)
  clear hb
  have hS_u1 := And.intro HL.out (And.intro HA.out (And.intro HB.out (And.intro HP.out HQ.out)))
  go_wp2_with fail
  refine hK.out _ _ ?_ (fun hHeld => ?_)
  · exact hS_u1
  clear hK K
  (try simp only [Act.put, List.setIfInBounds_toArray, List.set_cons_zero, List.set_cons_succ])
  refine wpAnyH_ready (rs := [3]) (by kernel_rfl) (by simp) (AllReadyH.cons rfl (fun K hK => ?_) AllReadyH.nil)
  go_simp
  refine (K8.out _).mono ?_
  rintro e u2 ⟨rfl, hb⟩
  replace HL := Lib.hid (HL.out.below hb)
  replace HA := Lib.hid (HA.out.below hb)
  replace HB := Lib.hid (HB.out.below hb)
  replace HP := Lib.hid (HP.out.below hb)
  replace HQ := Lib.hid (HQ.out.below hb)
  replace HW := Lib.hid (below_to HW.out hb)
  clear hb
  have hS_u2 := And.intro HL.out (And.intro HA.out (And.intro HB.out (And.intro HP.out HQ.out)))
  go_wp2_with fail
  refine hK.out _ _ ?_ (fun hHeld => ?_)
  · exact hS_u2
  clear hK K
  (try simp only [Act.put, List.setIfInBounds_toArray, List.set_cons_zero, List.set_cons_succ])
  refine ByHand.take_yes (v := ?_) 4 53 rfl rfl (by kernel_rfl) (by kernel_rfl) (by kernel_rfl) (fun _ _ _ h => h) (by rfl) ?_ (by assumption) ?_
  rotate_left
  · intro w' hSw
    (try dsimp only at hSw)
    go_simp
    all_goals with_reducible rfl
  (try simp only [Act.put, List.setIfInBounds_toArray, List.set_cons_zero, List.set_cons_succ])
  refine ByHand.take_yes (v := ?_) 5 54 rfl rfl (by kernel_rfl) (by kernel_rfl) (by kernel_rfl) (fun _ _ _ h => h) (by rfl) ?_ (by assumption) ?_
  rotate_left
  · intro w' hSw
    (try dsimp only at hSw)
    go_simp
    all_goals with_reducible rfl
  (try simp only [Act.put, List.setIfInBounds_toArray, List.set_cons_zero, List.set_cons_succ])
  refine ByHand.take_yes (v := ?_) 6 55 rfl rfl (by kernel_rfl) (by kernel_rfl) (by kernel_rfl) (fun _ _ _ h => h) (by rfl) ?_ (by assumption) ?_
  rotate_left
  · intro w' hSw
    (try dsimp only at hSw)
    go_simp
    all_goals with_reducible rfl
  (try simp only [Act.put, List.setIfInBounds_toArray, List.set_cons_zero, List.set_cons_succ])
  refine ByHand.take_yes (v := ?_) 7 56 rfl rfl (by kernel_rfl) (by kernel_rfl) (by kernel_rfl) (fun _ _ _ h => h) (by rfl) ?_ (by assumption) ?_
  rotate_left
  · intro w' hSw
    (try dsimp only at hSw)
    go_simp
    all_goals with_reducible rfl
  (try simp only [Act.put, List.setIfInBounds_toArray, List.set_cons_zero, List.set_cons_succ])
  refine ByHand.take_yes (v := ?_) 8 57 rfl rfl (by kernel_rfl) (by kernel_rfl) (by kernel_rfl) (fun _ _ _ h => h) (by rfl) ?_ (by assumption) ?_
  rotate_left
  · intro w' hSw
    (try dsimp only at hSw)
    go_simp
    all_goals with_reducible rfl
  (try simp only [Act.put, List.setIfInBounds_toArray, List.set_cons_zero, List.set_cons_succ])
  refine ByHand.take_yes (v := ?_) 9 58 rfl rfl (by kernel_rfl) (by kernel_rfl) (by kernel_rfl) (fun _ _ _ h => h) (by rfl) ?_ (by assumption) ?_
  rotate_left
  · intro w' hSw
    (try dsimp only at hSw)
    go_simp
    all_goals with_reducible rfl
  (try simp only [Act.put, List.setIfInBounds_toArray, List.set_cons_zero, List.set_cons_succ])
  refine ByHand.take_yes (v := ?_) 10 59 rfl rfl (by kernel_rfl) (by kernel_rfl) (by kernel_rfl) (fun _ _ _ h => h) (by rfl) ?_ (by assumption) ?_
  rotate_left
  · intro w' hSw
    (try dsimp only at hSw)
    go_simp
    all_goals with_reducible rfl
  (try simp only [Act.put, List.setIfInBounds_toArray, List.set_cons_zero, List.set_cons_succ])
  refine ByHand.take_yes (v := ?_) 11 60 rfl rfl (by kernel_rfl) (by kernel_rfl) (by kernel_rfl) (fun _ _ _ h => h) (by rfl) ?_ (by assumption) ?_
  rotate_left
  · intro w' hSw
    (try dsimp only at hSw)
    go_simp
    all_goals with_reducible rfl
  (try simp only [Act.put, List.setIfInBounds_toArray, List.set_cons_zero, List.set_cons_succ])
  refine ByHand.take_yes (v := ?_) 12 61 rfl rfl (by kernel_rfl) (by kernel_rfl) (by kernel_rfl) (fun _ _ _ h => h) (by rfl) ?_ (by assumption) ?_
  rotate_left
  · intro w' hSw
    (try dsimp only at hSw)
    go_simp
    all_goals with_reducible rfl
  (try simp only [Act.put, List.setIfInBounds_toArray, List.set_cons_zero, List.set_cons_succ])
  refine ByHand.take_yes (v := ?_) 13 62 rfl rfl (by kernel_rfl) (by kernel_rfl) (by kernel_rfl) (fun _ _ _ h => h) (by rfl) ?_ (by assumption) ?_
  rotate_left
  · intro w' hSw
    (try dsimp only at hSw)
    go_simp
    all_goals with_reducible rfl
  (try simp only [Act.put, List.setIfInBounds_toArray, List.set_cons_zero, List.set_cons_succ])
  refine ByHand.take_yes (v := ?_) 14 63 rfl rfl (by kernel_rfl) (by kernel_rfl) (by kernel_rfl) (fun _ _ _ h => h) (by rfl) ?_ (by assumption) ?_
  rotate_left
  · intro w' hSw
    (try dsimp only at hSw)
    go_simp
    all_goals with_reducible rfl
  (try simp only [Act.put, List.setIfInBounds_toArray, List.set_cons_zero, List.set_cons_succ])
  refine ByHand.take_yes (v := ?_) 15 64 rfl rfl (by kernel_rfl) (by kernel_rfl) (by kernel_rfl) (fun _ _ _ h => h) (by rfl) ?_ (by assumption) ?_
  rotate_left
  · intro w' hSw
    (try dsimp only at hSw)
    go_simp
    all_goals with_reducible rfl
  (try simp only [Act.put, List.setIfInBounds_toArray, List.set_cons_zero, List.set_cons_succ])
  refine take_row 16 65 rfl rfl (by kernel_rfl) (by kernel_rfl) (by kernel_rfl) 23 _ rfl _ rfl _ _ Try.underlying23 rfl HSD.out (fun _ h => h.2.1) (fun _ _ _ h => h) (by rfl) (by assumption) ?_
  (try simp only [Act.put, List.setIfInBounds_toArray, List.set_cons_zero, List.set_cons_succ])
  refine take_row 17 66 rfl rfl (by kernel_rfl) (by kernel_rfl) (by kernel_rfl) 23 _ rfl _ rfl _ _ Try.underlying23 rfl HSD.out (fun _ h => h.2.2.1) (fun _ _ _ h => h) (by rfl) (by assumption) ?_
  (try simp only [Act.put, List.setIfInBounds_toArray, List.set_cons_zero, List.set_cons_succ])
  refine wpAnyH_ready (rs := [18]) (by kernel_rfl) (by simp) (AllReadyH.cons rfl (fun K hK => ?_) AllReadyH.nil)
  go_simp
  refine (KD.out _).mono ?_
  rintro e u3 ⟨rfl, hb⟩
  replace HL := Lib.hid (HL.out.below hb)
  replace HA := Lib.hid (HA.out.below hb)
  replace HB := Lib.hid (HB.out.below hb)
  replace HP := Lib.hid (HP.out.below hb)
  replace HQ := Lib.hid (HQ.out.below hb)
  replace HW := Lib.hid (below_to HW.out hb)
  clear hb
  have hS_u3 := And.intro HL.out (And.intro HA.out (And.intro HB.out (And.intro HP.out HQ.out)))
  go_wp2_with fail
  refine hK.out _ _ ?_ (fun hHeld => ?_)
  · exact hS_u3
  clear hK K
  (try simp only [Act.put, List.setIfInBounds_toArray, List.set_cons_zero, List.set_cons_succ])
  refine ByHand.take_yes (v := ?_) 19 68 rfl rfl (by kernel_rfl) (by kernel_rfl) (by kernel_rfl) (fun _ _ _ h => h) (by rfl) ?_ (by assumption) ?_
  rotate_left
  · intro w' hSw
    (try dsimp only at hSw)
    go_simp
    all_goals with_reducible rfl
  (try simp only [Act.put, List.setIfInBounds_toArray, List.set_cons_zero, List.set_cons_succ])
  refine ByHand.take_yes (v := ?_) 20 69 rfl rfl (by kernel_rfl) (by kernel_rfl) (by kernel_rfl) (fun _ _ _ h => h) (by rfl) ?_ (by assumption) ?_
  rotate_left
  · intro w' hSw
    (try dsimp only at hSw)
    go_simp
    all_goals with_reducible rfl
  (try simp only [Act.put, List.setIfInBounds_toArray, List.set_cons_zero, List.set_cons_succ])
  refine ByHand.take_yes (v := ?_) 21 70 rfl rfl (by kernel_rfl) (by kernel_rfl) (by kernel_rfl) (fun _ _ _ h => h) (by rfl) ?_ (by assumption) ?_
  rotate_left
  · intro w' hSw
    (try dsimp only at hSw)
    go_simp
    all_goals with_reducible rfl
  (try simp only [Act.put, List.setIfInBounds_toArray, List.set_cons_zero, List.set_cons_succ])
  refine ByHand.take_yes (v := ?_) 22 71 rfl rfl (by kernel_rfl) (by kernel_rfl) (by kernel_rfl) (fun _ _ _ h => h) (by rfl) ?_ (by assumption) ?_
  rotate_left
  · intro w' hSw
    (try dsimp only at hSw)
    go_simp
    all_goals with_reducible rfl
  (try simp only [Act.put, List.setIfInBounds_toArray, List.set_cons_zero, List.set_cons_succ])
  refine ByHand.take_yes (v := ?_) 23 72 rfl rfl (by kernel_rfl) (by kernel_rfl) (by kernel_rfl) (fun _ _ _ h => h) (by rfl) ?_ (by assumption) ?_
  rotate_left
  · intro w' hSw
    (try dsimp only at hSw)
    go_simp
    all_goals with_reducible rfl
  (try simp only [Act.put, List.setIfInBounds_toArray, List.set_cons_zero, List.set_cons_succ])
  refine ByHand.take_yes (v := ?_) 24 73 rfl rfl (by kernel_rfl) (by kernel_rfl) (by kernel_rfl) (fun _ _ _ h => h) (by rfl) ?_ (by assumption) ?_
  rotate_left
  · intro w' hSw
    (try dsimp only at hSw)
    go_simp
    all_goals with_reducible rfl
  (try simp only [Act.put, List.setIfInBounds_toArray, List.set_cons_zero, List.set_cons_succ])
  refine ByHand.take_yes (v := ?_) 25 74 rfl rfl (by kernel_rfl) (by kernel_rfl) (by kernel_rfl) (fun _ _ _ h => h) (by rfl) ?_ (by assumption) ?_
  rotate_left
  · intro w' hSw
    (try dsimp only at hSw)
    go_simp
    all_goals with_reducible rfl
  (try simp only [Act.put, List.setIfInBounds_toArray, List.set_cons_zero, List.set_cons_succ])
  refine take_row 26 75 rfl rfl (by kernel_rfl) (by kernel_rfl) (by kernel_rfl) 23 _ rfl _ rfl _ _ Try.underlying23 rfl HSE.out (fun _ h => h.2.2.2.1) (fun _ _ _ h => h) (by rfl) (by assumption) ?_
  (try simp only [Act.put, List.setIfInBounds_toArray, List.set_cons_zero, List.set_cons_succ])
  refine take_row 27 76 rfl rfl (by kernel_rfl) (by kernel_rfl) (by kernel_rfl) 23 _ rfl _ rfl _ _ Try.underlying23 rfl HSE.out (fun _ h => h.2.2.2.2) (fun _ _ _ h => h) (by rfl) (by assumption) ?_
  (try simp only [Act.put, List.setIfInBounds_toArray, List.set_cons_zero, List.set_cons_succ])
  refine wpAnyH_ready (rs := [28]) (by kernel_rfl) (by simp) (AllReadyH.cons rfl (fun K hK => ?_) AllReadyH.nil)
  go_simp
  refine (KE.out _).mono ?_
  rintro e u4 ⟨rfl, hb⟩
  replace HL := Lib.hid (HL.out.below hb)
  replace HA := Lib.hid (HA.out.below hb)
  replace HB := Lib.hid (HB.out.below hb)
  replace HP := Lib.hid (HP.out.below hb)
  replace HQ := Lib.hid (HQ.out.below hb)
  replace HW := Lib.hid (below_to HW.out hb)
  clear hb
  have hS_u4 := And.intro HL.out (And.intro HA.out (And.intro HB.out (And.intro HP.out HQ.out)))
  go_wp2_with fail
  refine hK.out _ _ ?_ (fun hHeld => ?_)
  · exact hS_u4
  clear hK K
  (try simp only [Act.put, List.setIfInBounds_toArray, List.set_cons_zero, List.set_cons_succ])
  refine ByHand.take_yes (v := ?_) 29 78 rfl rfl (by kernel_rfl) (by kernel_rfl) (by kernel_rfl) (fun _ _ _ h => h) (by rfl) ?_ (by assumption) ?_
  rotate_left
  · intro w' hSw
    (try dsimp only at hSw)
    go_simp
    all_goals with_reducible rfl
  (try simp only [Act.put, List.setIfInBounds_toArray, List.set_cons_zero, List.set_cons_succ])
  refine ByHand.take_yes (v := ?_) 30 79 rfl rfl (by kernel_rfl) (by kernel_rfl) (by kernel_rfl) (fun _ _ _ h => h) (by rfl) ?_ (by assumption) ?_
  rotate_left
  · intro w' hSw
    (try dsimp only at hSw)
    go_simp
    all_goals with_reducible rfl
  (try simp only [Act.put, List.setIfInBounds_toArray, List.set_cons_zero, List.set_cons_succ])
  refine ByHand.take_yes (v := ?_) 31 80 rfl rfl (by kernel_rfl) (by kernel_rfl) (by kernel_rfl) (fun _ _ _ h => h) (by rfl) ?_ (by assumption) ?_
  rotate_left
  · intro w' hSw
    (try dsimp only at hSw)
    go_simp
    all_goals with_reducible rfl
  (try simp only [Act.put, List.setIfInBounds_toArray, List.set_cons_zero, List.set_cons_succ])
  refine ByHand.take_yes (v := ?_) 32 81 rfl rfl (by kernel_rfl) (by kernel_rfl) (by kernel_rfl) (fun _ _ _ h => h) (by rfl) ?_ (by assumption) ?_
  rotate_left
  · intro w' hSw
    (try dsimp only at hSw)
    go_simp
    all_goals with_reducible rfl
  (try simp only [Act.put, List.setIfInBounds_toArray, List.set_cons_zero, List.set_cons_succ])
  refine ByHand.take_yes (v := ?_) 33 82 rfl rfl (by kernel_rfl) (by kernel_rfl) (by kernel_rfl) (fun _ _ _ h => h) (by rfl) ?_ (by assumption) ?_
  rotate_left
  · intro w' hSw
    (try dsimp only at hSw)
    go_simp
    all_goals with_reducible rfl
  (try simp only [Act.put, List.setIfInBounds_toArray, List.set_cons_zero, List.set_cons_succ])
  refine ByHand.take_yes (v := ?_) 34 83 rfl rfl (by kernel_rfl) (by kernel_rfl) (by kernel_rfl) (fun _ _ _ h => h) (by rfl) ?_ (by assumption) ?_
  rotate_left
  · intro w' hSw
    (try dsimp only at hSw)
    go_simp
    all_goals with_reducible rfl
  (try simp only [Act.put, List.setIfInBounds_toArray, List.set_cons_zero, List.set_cons_succ])
  refine ByHand.take_yes (v := ?_) 35 84 rfl rfl (by kernel_rfl) (by kernel_rfl) (by kernel_rfl) (fun _ _ _ h => h) (by rfl) ?_ (by assumption) ?_
  rotate_left
  · intro w' hSw
    (try dsimp only at hSw)
    go_simp
    all_goals with_reducible rfl
  (try simp only [Act.put, List.setIfInBounds_toArray, List.set_cons_zero, List.set_cons_succ])
  refine wpAnyH_ready (rs := [36]) (by kernel_rfl) (by simp) (AllReadyH.cons rfl (fun K hK => ?_) AllReadyH.nil)
  go_simp
  refine (KW.out _).mono ?_
  rintro e u5 ⟨rfl, hb⟩
  replace HL := Lib.hid (HL.out.below hb)
  replace HA := Lib.hid (HA.out.below hb)
  replace HB := Lib.hid (HB.out.below hb)
  replace HP := Lib.hid (HP.out.below hb)
  replace HQ := Lib.hid (HQ.out.below hb)
  replace HW := Lib.hid (below_to HW.out hb)
  clear hb
  have hS_u5 := And.intro HL.out (And.intro HA.out (And.intro HB.out (And.intro HP.out HQ.out)))
  go_wp2_with fail
  refine hK.out _ _ ?_ (fun hHeld => ?_)
  · exact hS_u5
  clear hK K
  (try simp only [Act.put, List.setIfInBounds_toArray, List.set_cons_zero, List.set_cons_succ])
  refine ByHand.take_yes (v := ?_) 37 86 rfl rfl (by kernel_rfl) (by kernel_rfl) (by kernel_rfl) (fun _ _ _ h => h) (by rfl) ?_ (by assumption) ?_
  rotate_left
  · intro w' hSw
    (try dsimp only at hSw)
    go_simp
    all_goals with_reducible rfl
  (try simp only [Act.put, List.setIfInBounds_toArray, List.set_cons_zero, List.set_cons_succ])
  refine ByHand.take_yes (v := ?_) 38 4 rfl rfl (by kernel_rfl) (by kernel_rfl) (by kernel_rfl) (fun _ _ _ h => h) (by rfl) ?_ (by assumption) ?_
  rotate_left
  · intro w' hSw
    (try dsimp only at hSw)
    go_simp
    all_goals with_reducible rfl
  (try simp only [Act.put, List.setIfInBounds_toArray, List.set_cons_zero, List.set_cons_succ])
  refine wpAnyH_done (by kernel_rfl) ?_ _
  go_wp2_with fail
  go_ret
  exact ⟨rfl, HW.out⟩
set_option maxRecDepth 100000 in
theorem loanTells_lifted (os : Os) (started : os.Started) (H : Type) (enc : TypeId × Value → H) :
    ReturnsInHanded {} Try.checked os 3 .any (Rows.loanTellsSpec.pre6 enc Try.prog Try.f3 Rows.loanTellsRow.domain false) (Rows.loanTellsSpec.post enc Try.prog Try.f3 false true false false) := by
  refine Shell.law_lifted (C := Try.checked) (tb := 4) (by kernel_rfl) started (by kernel_rfl) Try.func3
    (ChangeSpec.witness6 (enc := enc) (C := Try.checked) false ⟨#[], #[Value.agg #[.int .i64 0, .int .i64 0, .int .i64 0, .int .i64 0, .int .i64 0, .int .i64 0, .bool false, .int .i64 0, .int .i64 0, .int .i64 0, .int .i64 0, .int .i64 0, .int .i64 0], .int .i64 0], []⟩ 8 (by kernel_rfl) (by kernel_rfl) (by kernel_rfl) (by kernel_rfl))
    (by kernel_rfl) (by kernel_rfl) rfl rfl Try.underlying4 ?_
  intro W base args ds p hval0 hA0
  have hval : ∀ (j : Nat) t v, Try.f3.params[j]? = some t → args[j]? = some v → Value.okWide Try.prog W .any base t v := hval0
  have hA : DataW.TrodAll enc Try.prog W 0 (fun _ => true) true Try.f3.params.toList args.toList ds p := hA0
  clear hval0 hA0
  rw [Try.params3] at hA hval
  obtain ⟨v0, vs0, d0, ds0, p0, q0, hargs, rfl, rfl, h0, r0⟩ := trodAll_cons hA
  obtain ⟨v1, vs1, d1, ds1, p1, q1, rfl, rfl, rfl, h1, r1⟩ := trodAll_cons r0
  obtain ⟨rfl, rfl, rfl⟩ := trodAll_nil r1
  obtain rfl : args = #[v0, v1] := by cases args; simp_all
  refine ⟨rfl, ?_⟩
  obtain ⟨l, rfl, hf0⟩ := open_ln (hval 0 23 v0 rfl rfl) h0
  obtain ⟨d, rfl, -, -, g1⟩ := open_int Try.underlying3 (hval 1 3 v1 rfl rfl) h1
  exact tells_walk l d W

theorem loanTells_over : Rows.loanTellsRow.holds Try.pinned (OpenSpec.ofChange Rows.loanTellsSpec) :=
  OpenClaim.holds_of_wide 3 Try.f3 rfl rfl rfl rfl rfl rfl rfl ⟨rfl, rfl, rfl, rfl, rfl⟩ rfl rfl rfl rfl rfl (by kernel_rfl) Try.func3 (by kernel_rfl)
    (of_decide_eq_true (by kernel_rfl)) (by unfold Func.isWrapper; first | (rw [if_pos (by decide +kernel)]; kernel_rfl) | (rw [if_neg (by decide +kernel)]; exact ⟨rfl, rfl⟩))
    (fun os st H enc _ => loanTells_lifted os st H enc)

/-- The statement. -/
theorem loanTells_proved : Rows.LoanTellsSaid := loanTells_over
end Go.Proofs.Ytkegmgjagcefhaa.Law
