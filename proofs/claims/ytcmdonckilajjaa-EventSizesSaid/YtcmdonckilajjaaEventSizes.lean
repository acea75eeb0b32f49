/- Every event has 39 bytes, every command that undoes 9, every other one 44; no two that differ have the same ones; no condition. -/
import Derived.Test.YtcmdonckilajjaaShell
import Derived.Test.YtcmdonckilajjaaEventWakes
import Derived.Test.YtcmdonckilajjaaOpenEv
import Derived.ChangeMaps5
namespace Go.Proofs.Ytcmdonckilajjaa.Law
open Go.ChangeShapes Go.WideShapes Go.ChangeAt Go.RowKit Go.Proofs.Ytcmdonckilajjaa.Event Fl Date Cal Pack

set_option maxRecDepth 20000 in
set_option maxHeartbeats 4000000 in
theorem sizes_no1 (c d : Cm) (w : World) (hc : c.Fit) (hd : d.Fit) (fc : fineC c = false) :
    Calls Try.prog 7 #[.agg c.cells, .agg d.cells] w fun e w' => e = .returned (.bool true) ∧ Below w.heap.size w w' := by
  have HP1 : Hid (∀ W, Calls Try.prog 17 #[.agg c.cells] W fun x w' => x = .returned (.tuple #[.string ⟨#[]⟩, .int .i64 11]) ∧ Below W.heap.size W w') := fun W => by
    have := c_pack c W hc
    rwa [show packT c = ⟨#[]⟩ by unfold packT; simp [fc], show packX c = 11 by unfold packX; simp [fc]] at this
  have HP2 : Hid (∀ W, Calls Try.prog 17 #[.agg d.cells] W fun x w' => x = .returned (.tuple #[.string (packT d), .int .i64 (packX d)]) ∧ Below W.heap.size W w') := fun W => c_pack d W hd
  obtain ⟨g1, wa, e1, e2, hA, ha⟩ := boxd_new w c.cells 40
  obtain ⟨g2, wb, e3, e4, hB, hb⟩ := boxd_new wa d.cells 40
  have HS := Lib.hid (cm_info c)
  have HS2 := Lib.hid (cm_info d)
  have HSE := Lib.hid (ev_info' c.e)
  have HA := Lib.hid (hA.below hb)
  have HB := Lib.hid hB
  have HW := Lib.hid (below_via ha hb)
  have e5 : g2 = w.heap.size + 1 := by rw [e3, e2, Deep.nblk_alloc]
  subst e1
  have hb0 := hb
  clear ha hA hB hb
  generalize c.cells = C at *
  generalize d.cells = D at *
  clear hb0
  go_enter Try.func7, Try.ntmps7
  go_upto_region 1 with fail
  rw [← e2, ← e4, ← e5]
  clear e2 e3 e4 e5
  go_wp2_with (first
    | (refine load_want (by rfl) 40 _ rfl _ rfl _ _ _ HB2.out Try.underlying40 rfl HS2.out ?_)
    | (refine load_want (by rfl) 40 _ rfl _ rfl _ _ _ HA2.out Try.underlying40 rfl HS.out ?_)
    | (refine load_want (by rfl) 40 _ rfl _ rfl _ _ _ HB1.out Try.underlying40 rfl HS2.out ?_)
    | (refine load_want (by rfl) 40 _ rfl _ rfl _ _ _ HA.out Try.underlying40 rfl HS.out ?_)
    | (go_at_call 17
       with_reducible refine (HP1.out wb).mono ?_
       rintro e y1 ⟨rfl, hb⟩
       have HA1 := Lib.hid (HA.out.below hb)
       have HB1 := Lib.hid (HB.out.below hb)
       have HW1 := Lib.hid (below_via HW.out hb)
       clear hb)
    | (go_at_call 17
       with_reducible refine (HP2.out y1).mono ?_
       rintro e y2 ⟨rfl, hb⟩
       have HA2 := Lib.hid (HA1.out.below hb)
       have HB2 := Lib.hid (HB1.out.below hb)
       have HW2 := Lib.hid (below_via HW1.out hb)
       clear hb)
    | (go_at_call 8
       with_reducible refine (wakes_event y2).mono ?_
       rintro e y5 ⟨rfl, hb⟩
       have HWE := Lib.hid (below_via HW2.out hb)
       clear hb))
  go_ret
  exact ⟨rfl, HWE.out⟩
set_option maxRecDepth 20000 in
set_option maxHeartbeats 4000000 in
theorem sizes_no2 (c d : Cm) (w : World) (hc : c.Fit) (hd : d.Fit) (fc : fineC c = true) (fd : fineC d = false) :
    Calls Try.prog 7 #[.agg c.cells, .agg d.cells] w fun e w' => e = .returned (.bool true) ∧ Below w.heap.size w w' := by
  have HP1 : Hid (∀ W, Calls Try.prog 17 #[.agg c.cells] W fun x w' => x = .returned (.tuple #[.string (cmdS c), .int .i64 0]) ∧ Below W.heap.size W w') := fun W => by
    have := c_pack c W hc
    rwa [show packT c = cmdS c by unfold packT; simp [fc], show packX c = 0 by unfold packX; simp [fc]] at this
  have HP2 : Hid (∀ W, Calls Try.prog 17 #[.agg d.cells] W fun x w' => x = .returned (.tuple #[.string ⟨#[]⟩, .int .i64 11]) ∧ Below W.heap.size W w') := fun W => by
    have := c_pack d W hd
    rwa [show packT d = ⟨#[]⟩ by unfold packT; simp [fd], show packX d = 11 by unfold packX; simp [fd]] at this
  obtain ⟨g1, wa, e1, e2, hA, ha⟩ := boxd_new w c.cells 40
  obtain ⟨g2, wb, e3, e4, hB, hb⟩ := boxd_new wa d.cells 40
  have HS := Lib.hid (cm_info c)
  have HS2 := Lib.hid (cm_info d)
  have HSE := Lib.hid (ev_info' c.e)
  have HA := Lib.hid (hA.below hb)
  have HB := Lib.hid hB
  have HW := Lib.hid (below_via ha hb)
  have e5 : g2 = w.heap.size + 1 := by rw [e3, e2, Deep.nblk_alloc]
  subst e1
  have hb0 := hb
  clear ha hA hB hb
  generalize c.cells = C at *
  generalize d.cells = D at *
  clear hb0
  go_enter Try.func7, Try.ntmps7
  go_upto_region 1 with fail
  rw [← e2, ← e4, ← e5]
  clear e2 e3 e4 e5
  go_wp2_with (first
    | (refine load_want (by rfl) 40 _ rfl _ rfl _ _ _ HB2.out Try.underlying40 rfl HS2.out ?_)
    | (refine load_want (by rfl) 40 _ rfl _ rfl _ _ _ HA2.out Try.underlying40 rfl HS.out ?_)
    | (refine load_want (by rfl) 40 _ rfl _ rfl _ _ _ HB1.out Try.underlying40 rfl HS2.out ?_)
    | (refine load_want (by rfl) 40 _ rfl _ rfl _ _ _ HA.out Try.underlying40 rfl HS.out ?_)
    | (go_at_call 17
       with_reducible refine (HP1.out wb).mono ?_
       rintro e y1 ⟨rfl, hb⟩
       have HA1 := Lib.hid (HA.out.below hb)
       have HB1 := Lib.hid (HB.out.below hb)
       have HW1 := Lib.hid (below_via HW.out hb)
       clear hb)
    | (go_at_call 17
       with_reducible refine (HP2.out y1).mono ?_
       rintro e y2 ⟨rfl, hb⟩
       have HA2 := Lib.hid (HA1.out.below hb)
       have HB2 := Lib.hid (HB1.out.below hb)
       have HW2 := Lib.hid (below_via HW1.out hb)
       clear hb)
    | (go_at_call 8
       with_reducible refine (wakes_event y2).mono ?_
       rintro e y5 ⟨rfl, hb⟩
       have HWE := Lib.hid (below_via HW2.out hb)
       clear hb))
  go_ret
  exact ⟨rfl, HWE.out⟩
set_option maxRecDepth 20000 in
set_option maxHeartbeats 4000000 in
theorem sizes_eu (c : Cm) (w : World) (hc : c.Fit) (fc : fineC c = true) (hu : c.undo = true) :
    Calls Try.prog 7 #[.agg c.cells, .agg c.cells] w fun e w' => e = .returned (.bool true) ∧ Below w.heap.size w w' := by
  have HP1 : Hid (∀ W, Calls Try.prog 17 #[.agg c.cells] W fun x w' => x = .returned (.tuple #[.string (cmdS c), .int .i64 0]) ∧ Below W.heap.size W w') := fun W => by
    have := c_pack c W hc
    rwa [show packT c = cmdS c by unfold packT; simp [fc], show packX c = 0 by unfold packX; simp [fc]] at this
  have HP2 := HP1
  have HK : Hid (∀ W, Calls Try.prog 23 #[.agg c.cells, .agg c.cells] W fun x w' => x = .returned (.bool true) ∧ Below W.heap.size W w') := fun W => by
    have := k_command c c W
    rwa [eqC_self] at this
  have hz : (cmdS c).size = 9 := by rw [cmd_size, hu]; rfl
  obtain ⟨g1, wa, e1, e2, hA, ha⟩ := boxd_new w c.cells 40
  obtain ⟨g2, wb, e3, e4, hB, hb⟩ := boxd_new wa c.cells 40
  have a0 : wa.cell? ⟨g1, 0, none⟩ = some (.bool true) := by rw [hA.cell, ← hu]; rfl
  have l0 := World.block_lt_of_cell? wa _ a0
  have HM0 := ev_mid hA
  have HS := Lib.hid (cm_info c)
  have HSE := Lib.hid (ev_info' c.e)
  have HA := Lib.hid (hA.below hb)
  have HB := Lib.hid hB
  have HW := Lib.hid (below_via ha hb)
  have e5 : g2 = w.heap.size + 1 := by rw [e3, e2, Deep.nblk_alloc]
  subst e1
  have hb0 := hb
  clear ha hA hB hb
  generalize c.cells = C at *
  have f0 := (hb0.cell (p := ⟨w.heap.size, 0, none⟩) l0).trans a0
  have HM := Lib.hid (fun j v (hj : c.e.cells.toList[j]? = some v) => (hb0.cell (p := ⟨w.heap.size, 2 + j, none⟩) l0).trans (HM0 j v hj))
  have l1 := World.block_lt_of_cell? wb _ f0
  clear a0 l0 HM0
  clear hb0
  go_enter Try.func7, Try.ntmps7
  go_upto_region 1 with fail
  rw [← e2, ← e4, ← e5]
  clear e2 e3 e4 e5
  go_wp2_with (first
    | (refine load_want (by rfl) 40 _ rfl _ rfl _ _ _ HB2.out Try.underlying40 rfl HS.out ?_)
    | (refine load_want (by rfl) 40 _ rfl _ rfl _ _ _ HA2.out Try.underlying40 rfl HS.out ?_)
    | (refine load_want (by rfl) 40 _ rfl _ rfl _ _ _ HB1.out Try.underlying40 rfl HS.out ?_)
    | (refine load_want (by rfl) 40 _ rfl _ rfl _ _ _ HA.out Try.underlying40 rfl HS.out ?_)
    | (go_at_call 17
       with_reducible refine (HP1.out wb).mono ?_
       rintro e y1 ⟨rfl, hb⟩
       have HA1 := Lib.hid (HA.out.below hb)
       have HB1 := Lib.hid (HB.out.below hb)
       have HW1 := Lib.hid (below_via HW.out hb)
       have f1 := (hb.cell (p := ⟨w.heap.size, 0, none⟩) l1).trans f0
       have l2 := World.block_lt_of_cell? _ _ f1
       have HM1 := Lib.hid (fun j v hj => (hb.cell (p := ⟨w.heap.size, 2 + j, none⟩) l1).trans (HM.out j v hj))
       clear hb)
    | (go_at_call 17
       with_reducible refine (HP2.out y1).mono ?_
       rintro e y2 ⟨rfl, hb⟩
       have HA2 := Lib.hid (HA1.out.below hb)
       have HB2 := Lib.hid (HB1.out.below hb)
       have HW2 := Lib.hid (below_via HW1.out hb)
       have f2 := (hb.cell (p := ⟨w.heap.size, 0, none⟩) l2).trans f1
       have l3 := World.block_lt_of_cell? _ _ f2
       have HM2 := Lib.hid (fun j v hj => (hb.cell (p := ⟨w.heap.size, 2 + j, none⟩) l2).trans (HM1.out j v hj))
       clear hb)
    | (go_at_call 23
       with_reducible refine (HK.out y2).mono ?_
       rintro e y3 ⟨rfl, hb⟩
       have HA3 := Lib.hid (HA2.out.below hb)
       have HB3 := Lib.hid (HB2.out.below hb)
       have HW3 := Lib.hid (below_via HW2.out hb)
       have f3 := (hb.cell (p := ⟨w.heap.size, 0, none⟩) l3).trans f2
       have l4 := World.block_lt_of_cell? _ _ f3
       have HM3 := Lib.hid (fun j v hj => (hb.cell (p := ⟨w.heap.size, 2 + j, none⟩) l3).trans (HM2.out j v hj))
       clear hb)
    | (go_at_call 8
       with_reducible refine (wakes_event y3).mono ?_
       rintro e y5 ⟨rfl, hb⟩
       have HWE := Lib.hid (below_via HW3.out hb)
       clear hb))
  go_ret
  exact ⟨rfl, HWE.out⟩
set_option maxRecDepth 20000 in
set_option maxHeartbeats 4000000 in
theorem sizes_en (c : Cm) (w : World) (hc : c.Fit) (fc : fineC c = true) (hu : c.undo = false) :
    Calls Try.prog 7 #[.agg c.cells, .agg c.cells] w fun e w' => e = .returned (.bool true) ∧ Below w.heap.size w w' := by
  have HP1 : Hid (∀ W, Calls Try.prog 17 #[.agg c.cells] W fun x w' => x = .returned (.tuple #[.string (cmdS c), .int .i64 0]) ∧ Below W.heap.size W w') := fun W => by
    have := c_pack c W hc
    rwa [show packT c = cmdS c by unfold packT; simp [fc], show packX c = 0 by unfold packX; simp [fc]] at this
  have HP2 := HP1
  have HK : Hid (∀ W, Calls Try.prog 23 #[.agg c.cells, .agg c.cells] W fun x w' => x = .returned (.bool true) ∧ Below W.heap.size W w') := fun W => by
    have := k_command c c W
    rwa [eqC_self] at this
  have hz : (cmdS c).size = 44 := by rw [cmd_size, hu]; rfl
  have hg : goodE c.e = true := by
    unfold fineC at fc
    rw [if_neg (by rw [hu]; decide)] at fc
    simp only [Bool.and_eq_true] at fc
    exact fc.2.1
  have HE : Hid (∀ W, Calls Try.prog 9 #[.agg c.e.cells] W fun x w' => x = .returned (.tuple #[.string (encS c.e), .int .i64 0]) ∧ Below W.heap.size W w') := fun W => by
    have := c_encode c.e W hc.e
    rwa [show encT c.e = encS c.e by unfold encT; simp [hg], show encX c.e = 0 by unfold encX; simp [hg]] at this
  have hze := enc_size c.e
  have htl : (cmdS c).extract 5 44 = encS c.e := by
    have := tail_cat (catS [(0, 1), (c.key, 4)]) (encS c.e) (by rw [cat_length]; rfl)
    rw [← cmd_undo_no hu] at this
    unfold tailB at this
    rwa [hz] at this
  obtain ⟨g1, wa, e1, e2, hA, ha⟩ := boxd_new w c.cells 40
  obtain ⟨g2, wb, e3, e4, hB, hb⟩ := boxd_new wa c.cells 40
  have a0 : wa.cell? ⟨g1, 0, none⟩ = some (.bool false) := by rw [hA.cell, ← hu]; rfl
  have l0 := World.block_lt_of_cell? wa _ a0
  have HM0 := ev_mid hA
  have HS := Lib.hid (cm_info c)
  have HSE := Lib.hid (ev_info' c.e)
  have HA := Lib.hid (hA.below hb)
  have HB := Lib.hid hB
  have HW := Lib.hid (below_via ha hb)
  have e5 : g2 = w.heap.size + 1 := by rw [e3, e2, Deep.nblk_alloc]
  subst e1
  have hb0 := hb
  clear ha hA hB hb
  generalize c.cells = C at *
  have f0 := (hb0.cell (p := ⟨w.heap.size, 0, none⟩) l0).trans a0
  have HM := Lib.hid (fun j v (hj : c.e.cells.toList[j]? = some v) => (hb0.cell (p := ⟨w.heap.size, 2 + j, none⟩) l0).trans (HM0 j v hj))
  have l1 := World.block_lt_of_cell? wb _ f0
  clear a0 l0 HM0
  clear hb0
  go_enter Try.func7, Try.ntmps7
  go_upto_region 1 with fail
  rw [← e2, ← e4, ← e5]
  clear e2 e3 e4 e5
  go_wp2_with (first
    | (refine load_want (by rfl) 40 _ rfl _ rfl _ _ _ HB2.out Try.underlying40 rfl HS.out ?_)
    | (refine load_want (by rfl) 40 _ rfl _ rfl _ _ _ HA2.out Try.underlying40 rfl HS.out ?_)
    | (refine load_want (by rfl) 40 _ rfl _ rfl _ _ _ HB1.out Try.underlying40 rfl HS.out ?_)
    | (refine load_want (by rfl) 40 _ rfl _ rfl _ _ _ HA.out Try.underlying40 rfl HS.out ?_)
    | (go_at_call 17
       with_reducible refine (HP1.out wb).mono ?_
       rintro e y1 ⟨rfl, hb⟩
       have HA1 := Lib.hid (HA.out.below hb)
       have HB1 := Lib.hid (HB.out.below hb)
       have HW1 := Lib.hid (below_via HW.out hb)
       have f1 := (hb.cell (p := ⟨w.heap.size, 0, none⟩) l1).trans f0
       have l2 := World.block_lt_of_cell? _ _ f1
       have HM1 := Lib.hid (fun j v hj => (hb.cell (p := ⟨w.heap.size, 2 + j, none⟩) l1).trans (HM.out j v hj))
       clear hb)
    | (go_at_call 17
       with_reducible refine (HP2.out y1).mono ?_
       rintro e y2 ⟨rfl, hb⟩
       have HA2 := Lib.hid (HA1.out.below hb)
       have HB2 := Lib.hid (HB1.out.below hb)
       have HW2 := Lib.hid (below_via HW1.out hb)
       have f2 := (hb.cell (p := ⟨w.heap.size, 0, none⟩) l2).trans f1
       have l3 := World.block_lt_of_cell? _ _ f2
       have HM2 := Lib.hid (fun j v hj => (hb.cell (p := ⟨w.heap.size, 2 + j, none⟩) l2).trans (HM1.out j v hj))
       clear hb)
    | (go_at_call 23
       with_reducible refine (HK.out y2).mono ?_
       rintro e y3 ⟨rfl, hb⟩
       have HA3 := Lib.hid (HA2.out.below hb)
       have HB3 := Lib.hid (HB2.out.below hb)
       have HW3 := Lib.hid (below_via HW2.out hb)
       have f3 := (hb.cell (p := ⟨w.heap.size, 0, none⟩) l3).trans f2
       have l4 := World.block_lt_of_cell? _ _ f3
       have HM3 := Lib.hid (fun j v hj => (hb.cell (p := ⟨w.heap.size, 2 + j, none⟩) l3).trans (HM2.out j v hj))
       clear hb)
    | (refine load_mid_want (by rfl) 25 _ rfl _ _ rfl c.e.cells _ HM3.out Try.underlying25 rfl HSE.out ?_)
    | (go_at_call 9
       with_reducible refine (HE.out y3).mono ?_
       rintro e y4 ⟨rfl, hb⟩
       have HW4 := Lib.hid (below_via HW3.out hb)
       clear hb)
    | (go_at_call 8
       with_reducible refine (wakes_event y4).mono ?_
       rintro e y5 ⟨rfl, hb⟩
       have HWE := Lib.hid (below_via HW4.out hb)
       clear hb))
  go_ret
  exact ⟨rfl, HWE.out⟩
set_option maxRecDepth 20000 in
set_option maxHeartbeats 4000000 in
theorem sizes_nu (c d : Cm) (w : World) (hc : c.Fit) (hd : d.Fit) (fc : fineC c = true) (fd : fineC d = true) (hne : c ≠ d) (hu : c.undo = true) :
    Calls Try.prog 7 #[.agg c.cells, .agg d.cells] w fun e w' => e = .returned (.bool true) ∧ Below w.heap.size w w' := by
  have HP1 : Hid (∀ W, Calls Try.prog 17 #[.agg c.cells] W fun x w' => x = .returned (.tuple #[.string (cmdS c), .int .i64 0]) ∧ Below W.heap.size W w') := fun W => by
    have := c_pack c W hc
    rwa [show packT c = cmdS c by unfold packT; simp [fc], show packX c = 0 by unfold packX; simp [fc]] at this
  have HP2 : Hid (∀ W, Calls Try.prog 17 #[.agg d.cells] W fun x w' => x = .returned (.tuple #[.string (cmdS d), .int .i64 0]) ∧ Below W.heap.size W w') := fun W => by
    have := c_pack d W hd
    rwa [show packT d = cmdS d by unfold packT; simp [fd], show packX d = 0 by unfold packX; simp [fd]] at this
  have HK : Hid (∀ W, Calls Try.prog 23 #[.agg c.cells, .agg d.cells] W fun x w' => x = .returned (.bool false) ∧ Below W.heap.size W w') := fun W => by
    have := k_command c d W
    rwa [eqC_not hne] at this
  have hz : (cmdS c).size = 9 := by rw [cmd_size, hu]; rfl
  have hcd : cmdS c ≠ cmdS d := fun h => hne (cmd_inj hc hd fc fd h)
  have s1 : ((cmdS c).toList == (cmdS d).toList) = false := text_ne hcd
  have s2 : ¬ (cmdS c).toList = (cmdS d).toList := text_ne' hcd
  obtain ⟨g1, wa, e1, e2, hA, ha⟩ := boxd_new w c.cells 40
  obtain ⟨g2, wb, e3, e4, hB, hb⟩ := boxd_new wa d.cells 40
  have a0 : wa.cell? ⟨g1, 0, none⟩ = some (.bool true) := by rw [hA.cell, ← hu]; rfl
  have l0 := World.block_lt_of_cell? wa _ a0
  have HM0 := ev_mid hA
  have HS := Lib.hid (cm_info c)
  have HS2 := Lib.hid (cm_info d)
  have HSE := Lib.hid (ev_info' c.e)
  have HA := Lib.hid (hA.below hb)
  have HB := Lib.hid hB
  have HW := Lib.hid (below_via ha hb)
  have e5 : g2 = w.heap.size + 1 := by rw [e3, e2, Deep.nblk_alloc]
  subst e1
  have hb0 := hb
  clear ha hA hB hb
  generalize c.cells = C at *
  generalize d.cells = D at *
  have f0 := (hb0.cell (p := ⟨w.heap.size, 0, none⟩) l0).trans a0
  have HM := Lib.hid (fun j v (hj : c.e.cells.toList[j]? = some v) => (hb0.cell (p := ⟨w.heap.size, 2 + j, none⟩) l0).trans (HM0 j v hj))
  have l1 := World.block_lt_of_cell? wb _ f0
  clear a0 l0 HM0
  clear hb0
  go_enter Try.func7, Try.ntmps7
  go_upto_region 1 with fail
  rw [← e2, ← e4, ← e5]
  clear e2 e3 e4 e5
  go_wp2_with (first
    | (refine load_want (by rfl) 40 _ rfl _ rfl _ _ _ HB2.out Try.underlying40 rfl HS2.out ?_)
    | (refine load_want (by rfl) 40 _ rfl _ rfl _ _ _ HA2.out Try.underlying40 rfl HS.out ?_)
    | (refine load_want (by rfl) 40 _ rfl _ rfl _ _ _ HB1.out Try.underlying40 rfl HS2.out ?_)
    | (refine load_want (by rfl) 40 _ rfl _ rfl _ _ _ HA.out Try.underlying40 rfl HS.out ?_)
    | (go_at_call 17
       with_reducible refine (HP1.out wb).mono ?_
       rintro e y1 ⟨rfl, hb⟩
       have HA1 := Lib.hid (HA.out.below hb)
       have HB1 := Lib.hid (HB.out.below hb)
       have HW1 := Lib.hid (below_via HW.out hb)
       have f1 := (hb.cell (p := ⟨w.heap.size, 0, none⟩) l1).trans f0
       have l2 := World.block_lt_of_cell? _ _ f1
       have HM1 := Lib.hid (fun j v hj => (hb.cell (p := ⟨w.heap.size, 2 + j, none⟩) l1).trans (HM.out j v hj))
       clear hb)
    | (go_at_call 17
       with_reducible refine (HP2.out y1).mono ?_
       rintro e y2 ⟨rfl, hb⟩
       have HA2 := Lib.hid (HA1.out.below hb)
       have HB2 := Lib.hid (HB1.out.below hb)
       have HW2 := Lib.hid (below_via HW1.out hb)
       have f2 := (hb.cell (p := ⟨w.heap.size, 0, none⟩) l2).trans f1
       have l3 := World.block_lt_of_cell? _ _ f2
       have HM2 := Lib.hid (fun j v hj => (hb.cell (p := ⟨w.heap.size, 2 + j, none⟩) l2).trans (HM1.out j v hj))
       clear hb)
    | (go_at_call 23
       with_reducible refine (HK.out y2).mono ?_
       rintro e y3 ⟨rfl, hb⟩
       have HA3 := Lib.hid (HA2.out.below hb)
       have HB3 := Lib.hid (HB2.out.below hb)
       have HW3 := Lib.hid (below_via HW2.out hb)
       have f3 := (hb.cell (p := ⟨w.heap.size, 0, none⟩) l3).trans f2
       have l4 := World.block_lt_of_cell? _ _ f3
       have HM3 := Lib.hid (fun j v hj => (hb.cell (p := ⟨w.heap.size, 2 + j, none⟩) l3).trans (HM2.out j v hj))
       clear hb)
    | (go_at_call 8
       with_reducible refine (wakes_event y3).mono ?_
       rintro e y5 ⟨rfl, hb⟩
       have HWE := Lib.hid (below_via HW3.out hb)
       clear hb))
  go_ret
  exact ⟨rfl, HWE.out⟩
set_option maxRecDepth 20000 in
set_option maxHeartbeats 4000000 in
theorem sizes_nn (c d : Cm) (w : World) (hc : c.Fit) (hd : d.Fit) (fc : fineC c = true) (fd : fineC d = true) (hne : c ≠ d) (hu : c.undo = false) :
    Calls Try.prog 7 #[.agg c.cells, .agg d.cells] w fun e w' => e = .returned (.bool true) ∧ Below w.heap.size w w' := by
  have HP1 : Hid (∀ W, Calls Try.prog 17 #[.agg c.cells] W fun x w' => x = .returned (.tuple #[.string (cmdS c), .int .i64 0]) ∧ Below W.heap.size W w') := fun W => by
    have := c_pack c W hc
    rwa [show packT c = cmdS c by unfold packT; simp [fc], show packX c = 0 by unfold packX; simp [fc]] at this
  have HP2 : Hid (∀ W, Calls Try.prog 17 #[.agg d.cells] W fun x w' => x = .returned (.tuple #[.string (cmdS d), .int .i64 0]) ∧ Below W.heap.size W w') := fun W => by
    have := c_pack d W hd
    rwa [show packT d = cmdS d by unfold packT; simp [fd], show packX d = 0 by unfold packX; simp [fd]] at this
  have HK : Hid (∀ W, Calls Try.prog 23 #[.agg c.cells, .agg d.cells] W fun x w' => x = .returned (.bool false) ∧ Below W.heap.size W w') := fun W => by
    have := k_command c d W
    rwa [eqC_not hne] at this
  have hz : (cmdS c).size = 44 := by rw [cmd_size, hu]; rfl
  have hcd : cmdS c ≠ cmdS d := fun h => hne (cmd_inj hc hd fc fd h)
  have s1 : ((cmdS c).toList == (cmdS d).toList) = false := text_ne hcd
  have s2 : ¬ (cmdS c).toList = (cmdS d).toList := text_ne' hcd
  have hg : goodE c.e = true := by
    unfold fineC at fc
    rw [if_neg (by rw [hu]; decide)] at fc
    simp only [Bool.and_eq_true] at fc
    exact fc.2.1
  have HE : Hid (∀ W, Calls Try.prog 9 #[.agg c.e.cells] W fun x w' => x = .returned (.tuple #[.string (encS c.e), .int .i64 0]) ∧ Below W.heap.size W w') := fun W => by
    have := c_encode c.e W hc.e
    rwa [show encT c.e = encS c.e by unfold encT; simp [hg], show encX c.e = 0 by unfold encX; simp [hg]] at this
  have hze := enc_size c.e
  have htl : (cmdS c).extract 5 44 = encS c.e := by
    have := tail_cat (catS [(0, 1), (c.key, 4)]) (encS c.e) (by rw [cat_length]; rfl)
    rw [← cmd_undo_no hu] at this
    unfold tailB at this
    rwa [hz] at this
  obtain ⟨g1, wa, e1, e2, hA, ha⟩ := boxd_new w c.cells 40
  obtain ⟨g2, wb, e3, e4, hB, hb⟩ := boxd_new wa d.cells 40
  have a0 : wa.cell? ⟨g1, 0, none⟩ = some (.bool false) := by rw [hA.cell, ← hu]; rfl
  have l0 := World.block_lt_of_cell? wa _ a0
  have HM0 := ev_mid hA
  have HS := Lib.hid (cm_info c)
  have HS2 := Lib.hid (cm_info d)
  have HSE := Lib.hid (ev_info' c.e)
  have HA := Lib.hid (hA.below hb)
  have HB := Lib.hid hB
  have HW := Lib.hid (below_via ha hb)
  have e5 : g2 = w.heap.size + 1 := by rw [e3, e2, Deep.nblk_alloc]
  subst e1
  have hb0 := hb
  clear ha hA hB hb
  generalize c.cells = C at *
  generalize d.cells = D at *
  have f0 := (hb0.cell (p := ⟨w.heap.size, 0, none⟩) l0).trans a0
  have HM := Lib.hid (fun j v (hj : c.e.cells.toList[j]? = some v) => (hb0.cell (p := ⟨w.heap.size, 2 + j, none⟩) l0).trans (HM0 j v hj))
  have l1 := World.block_lt_of_cell? wb _ f0
  clear a0 l0 HM0
  clear hb0
  go_enter Try.func7, Try.ntmps7
  go_upto_region 1 with fail
  rw [← e2, ← e4, ← e5]
  clear e2 e3 e4 e5
  go_wp2_with (first
    | (refine load_want (by rfl) 40 _ rfl _ rfl _ _ _ HB2.out Try.underlying40 rfl HS2.out ?_)
    | (refine load_want (by rfl) 40 _ rfl _ rfl _ _ _ HA2.out Try.underlying40 rfl HS.out ?_)
    | (refine load_want (by rfl) 40 _ rfl _ rfl _ _ _ HB1.out Try.underlying40 rfl HS2.out ?_)
    | (refine load_want (by rfl) 40 _ rfl _ rfl _ _ _ HA.out Try.underlying40 rfl HS.out ?_)
    | (go_at_call 17
       with_reducible refine (HP1.out wb).mono ?_
       rintro e y1 ⟨rfl, hb⟩
       have HA1 := Lib.hid (HA.out.below hb)
       have HB1 := Lib.hid (HB.out.below hb)
       have HW1 := Lib.hid (below_via HW.out hb)
       have f1 := (hb.cell (p := ⟨w.heap.size, 0, none⟩) l1).trans f0
       have l2 := World.block_lt_of_cell? _ _ f1
       have HM1 := Lib.hid (fun j v hj => (hb.cell (p := ⟨w.heap.size, 2 + j, none⟩) l1).trans (HM.out j v hj))
       clear hb)
    | (go_at_call 17
       with_reducible refine (HP2.out y1).mono ?_
       rintro e y2 ⟨rfl, hb⟩
       have HA2 := Lib.hid (HA1.out.below hb)
       have HB2 := Lib.hid (HB1.out.below hb)
       have HW2 := Lib.hid (below_via HW1.out hb)
       have f2 := (hb.cell (p := ⟨w.heap.size, 0, none⟩) l2).trans f1
       have l3 := World.block_lt_of_cell? _ _ f2
       have HM2 := Lib.hid (fun j v hj => (hb.cell (p := ⟨w.heap.size, 2 + j, none⟩) l2).trans (HM1.out j v hj))
       clear hb)
    | (go_at_call 23
       with_reducible refine (HK.out y2).mono ?_
       rintro e y3 ⟨rfl, hb⟩
       have HA3 := Lib.hid (HA2.out.below hb)
       have HB3 := Lib.hid (HB2.out.below hb)
       have HW3 := Lib.hid (below_via HW2.out hb)
       have f3 := (hb.cell (p := ⟨w.heap.size, 0, none⟩) l3).trans f2
       have l4 := World.block_lt_of_cell? _ _ f3
       have HM3 := Lib.hid (fun j v hj => (hb.cell (p := ⟨w.heap.size, 2 + j, none⟩) l3).trans (HM2.out j v hj))
       clear hb)
    | (refine load_mid_want (by rfl) 25 _ rfl _ _ rfl c.e.cells _ HM3.out Try.underlying25 rfl HSE.out ?_)
    | (go_at_call 9
       with_reducible refine (HE.out y3).mono ?_
       rintro e y4 ⟨rfl, hb⟩
       have HW4 := Lib.hid (below_via HW3.out hb)
       clear hb)
    | (go_at_call 8
       with_reducible refine (wakes_event y4).mono ?_
       rintro e y5 ⟨rfl, hb⟩
       have HWE := Lib.hid (below_via HW4.out hb)
       clear hb))
  go_ret
  exact ⟨rfl, HWE.out⟩
theorem sizes_walk (c d : Cm) (w : World) (hc : c.Fit) (hd : d.Fit) :
    Calls Try.prog 7 #[.agg c.cells, .agg d.cells] w fun e w' => e = .returned (.bool true) ∧ Below w.heap.size w w' := by
  cases fc : fineC c with
  | false => exact sizes_no1 c d w hc hd fc
  | true =>
    cases fd : fineC d with
    | false => exact sizes_no2 c d w hc hd fc fd
    | true =>
      by_cases h : c = d
      · subst h
        cases hu : c.undo with
        | true => exact sizes_eu c w hc fc hu
        | false => exact sizes_en c w hc fc hu
      · cases hu : c.undo with
        | true => exact sizes_nu c d w hc hd fc fd h hu
        | false => exact sizes_nn c d w hc hd fc fd h hu

set_option maxRecDepth 100000 in
theorem eventSizes_lifted (os : Os) (started : os.Started) (H : Type) (enc : TypeId × Value → H) :
    ReturnsInHanded {} Try.checked os 7 .any (Rows.eventSizesSpec.pre6 enc Try.prog Try.f7 Rows.eventSizesRow.domain false) (Rows.eventSizesSpec.post enc Try.prog Try.f7 false true false false) := by
  refine Shell.law_lifted (C := Try.checked) (tb := 4) (by kernel_rfl) started (by kernel_rfl) Try.func7
    (ChangeSpec.witness6 (enc := enc) (C := Try.checked) false ⟨#[], #[.agg #[.bool false, .int .u32 0, .int .i64 0, .int .i64 0, .int .u32 0, .int .i64 0, .int .i64 0, .float .f64 0, .float .f64 0, .bool false, .int .i64 0, .int .i64 0, .int .i64 0, .int .u32 0], .agg #[.bool false, .int .u32 0, .int .i64 0, .int .i64 0, .int .u32 0, .int .i64 0, .int .i64 0, .float .f64 0, .float .f64 0, .bool false, .int .i64 0, .int .i64 0, .int .i64 0, .int .u32 0]], []⟩ 8 (by kernel_rfl) (by kernel_rfl) (by kernel_rfl) (by kernel_rfl))
    (by kernel_rfl) (by kernel_rfl) rfl rfl Try.underlying4 ?_
  intro W base args ds p hval0 hA0
  have hval : ∀ (j : Nat) t v, Try.f7.params[j]? = some t → args[j]? = some v → Value.okWide Try.prog W .any base t v := hval0
  have hA : DataW.TrodAll enc Try.prog W 0 (fun _ => true) true Try.f7.params.toList args.toList ds p := hA0
  clear hval0 hA0
  rw [Try.params7] at hA hval
  obtain ⟨v0, vs0, d0, ds0, p0, q0, hargs, rfl, rfl, h0, r0⟩ := trodAll_cons hA
  obtain ⟨v1, vs1, d1, ds1, p1, q1, rfl, rfl, rfl, h1, r1⟩ := trodAll_cons r0
  obtain ⟨rfl, rfl, rfl⟩ := trodAll_nil r1
  obtain rfl : args = #[v0, v1] := by cases args; simp_all
  refine ⟨rfl, ?_⟩
  obtain ⟨c, rfl, hc⟩ := open_cm (hval 0 40 v0 rfl rfl) h0
  obtain ⟨d, rfl, hd⟩ := open_cm (hval 1 40 v1 rfl rfl) h1
  exact sizes_walk c d W hc hd

theorem eventSizes_over : Rows.eventSizesRow.holds Try.pinned (OpenSpec.ofChange Rows.eventSizesSpec) :=
  OpenClaim.holds_of_wide 7 Try.f7 rfl rfl rfl rfl rfl rfl rfl ⟨rfl, rfl, rfl, rfl, rfl⟩ rfl rfl rfl rfl rfl (by kernel_rfl) Try.func7 (by kernel_rfl)
    (of_decide_eq_true (by kernel_rfl)) (by unfold Func.isWrapper; first | (rw [if_pos (by decide +kernel)]; kernel_rfl) | (rw [if_neg (by decide +kernel)]; exact ⟨rfl, rfl⟩))
    (fun os st H enc _ => eventSizes_lifted os st H enc)

/-- The statement. -/
theorem eventSizes_proved : Rows.EventSizesSaid := eventSizes_over
end Go.Proofs.Ytcmdonckilajjaa.Law
