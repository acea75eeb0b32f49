/- Of layer 18: Set. -/
import Derived.Test.YtkddiaiohnbjpaaGreatDoorPlanMath
import Derived.Test.YtkddiaiohnbjpaaGreatDoorGLo
import Derived.Test.YtkddiaiohnbjpaaGreatDoorGLev
namespace Go.Proofs.YtkddiaiohnbjpaaGreatDoor.Plan
open Go.ChangeShapes Go.WideShapes Go.ChangeAt Go.RowKit Loan Money Box

set_option maxRecDepth 20000 in
set_option maxHeartbeats 1000000 in
theorem c_set_bad (l : Ln) (w : World) (hg : goodL l = false) : Calls Tryz.prog 7 #[.agg l.cells] w fun e w' => e = .returned (.tuple #[.agg (ln0).cells, .int .i64 1]) ∧ Below w.heap.size w w' := by
  obtain ⟨g, wb, e1, e2, hB, hb⟩ := boxd_new w l.cells 23
  obtain ⟨g2, wc, e3, e4, hB2, hb2⟩ := boxd_new wb #[.int .i64 0, .int .i64 0, .int .i64 0, .int .i64 0, .int .i64 0, .int .i64 0, .bool false, .int .i64 0, .int .i64 0, .int .i64 0, .int .i64 0, .int .i64 0, .int .i64 0] 23
  have e5 : g2 = g + 1 := by rw [e3, e2, Deep.nblk_alloc, e1]
  have HB : Hid (Boxd wc g l.cells 23) := hB.below hb2
  have HR : Hid (Boxd wc g2 #[.int .i64 0, .int .i64 0, .int .i64 0, .int .i64 0, .int .i64 0, .int .i64 0, .bool false, .int .i64 0, .int .i64 0, .int .i64 0, .int .i64 0, .int .i64 0, .int .i64 0] 23) := hB2
  have HW : Hid (Below w.heap.size w wc) := below_to hb hb2
  have HG : Hid (w.heap.size ≤ g ∧ w.heap.size ≤ g2 ∧ ¬ g = g2 ∧ ¬ g2 = g) := show _ ∧ _ ∧ ¬ _ ∧ ¬ _ by omega
  clear hB hB2 hb hb2
  have HS := Lib.hid (ln_info l)
  have HS0 := Lib.hid (ln_info ln0)
  have HO0 := Lib.hid (ln_one ln0)
  have KG := Lib.hid (fun W => good_c l W)
  rw [hg] at KG
  generalize l.cells = C at *
  go_enter Tryz.func7, Tryz.ntmps7
  go_upto_region 1 with fail
  rw [← e2, ← e1, ← e5, ← e4]
  clear e1 e2 e3 e4 e5
  go_wp2_with (first
    | (refine o_load rfl 23 _ rfl _ rfl _ _ _ HB.out Tryz.underlying23 rfl HS.out ?_)
    | (go_at_call 24; with_reducible refine (KG.out _).mono ?_; rintro e y ⟨rfl, hb⟩; replace HB := Lib.hid (HB.out.below hb); replace HR := Lib.hid (HR.out.below hb); replace HW := Lib.hid (below_to HW.out hb); clear hb)
    | (refine o_store rfl 23 _ _ rfl rfl g2 _ rfl rfl _ _ HR.out HS0.out rfl HO0.out ?_; intro y hr ho; replace HB := Lib.hid (HB.out.one ho HG.out.2.2.1); replace HR := Lib.hid hr; replace HW := Lib.hid (below_one_of HW.out ho HG.out.2.1 HW.out.size); clear hr ho))
  refine bodyPost_ret (results_two rfl _ _ _ _ _ _ _ rfl HR.out Tryz.underlying23 rfl HS0.out rfl) rfl ?_
  exact ⟨rfl, HW.out⟩
set_option maxRecDepth 20000 in
set_option maxHeartbeats 1000000 in
theorem c_set_gone (l : Ln) (w : World) (hg : goodL l = true) (hc : l.closed ≠ 0) : Calls Tryz.prog 7 #[.agg l.cells] w fun e w' => e = .returned (.tuple #[.agg (ln0).cells, .int .i64 61]) ∧ Below w.heap.size w w' := by
  obtain ⟨g, wb, e1, e2, hB, hb⟩ := boxd_new w l.cells 23
  obtain ⟨g2, wc, e3, e4, hB2, hb2⟩ := boxd_new wb #[.int .i64 0, .int .i64 0, .int .i64 0, .int .i64 0, .int .i64 0, .int .i64 0, .bool false, .int .i64 0, .int .i64 0, .int .i64 0, .int .i64 0, .int .i64 0, .int .i64 0] 23
  have e5 : g2 = g + 1 := by rw [e3, e2, Deep.nblk_alloc, e1]
  have HB : Hid (Boxd wc g l.cells 23) := hB.below hb2
  have HR : Hid (Boxd wc g2 #[.int .i64 0, .int .i64 0, .int .i64 0, .int .i64 0, .int .i64 0, .int .i64 0, .bool false, .int .i64 0, .int .i64 0, .int .i64 0, .int .i64 0, .int .i64 0, .int .i64 0] 23) := hB2
  have HW : Hid (Below w.heap.size w wc) := below_to hb hb2
  have HG : Hid (w.heap.size ≤ g ∧ w.heap.size ≤ g2 ∧ ¬ g = g2 ∧ ¬ g2 = g) := show _ ∧ _ ∧ ¬ _ ∧ ¬ _ by omega
  clear hB hB2 hb hb2
  have HS := Lib.hid (ln_info l)
  have HS0 := Lib.hid (ln_info ln0)
  have HO0 := Lib.hid (ln_one ln0)
  have KG := Lib.hid (fun W => good_c l W)
  rw [hg] at KG
  have X8 : Hid (l.cells[8]? = some (.int .i64 l.closed)) := show _ = _ from rfl
  have X1 : Hid (l.cells[1]? = some (.int .i64 l.prin)) := show _ = _ from rfl
  have X5 : Hid (l.cells[5]? = some (.int .i64 l.ppm)) := show _ = _ from rfl
  have t8 : (l.closed != 0) = true := by rw [bne_iff_ne]; exact hc
  clear hc
  generalize l.closed = x8 at *
  generalize l.prin = x1 at *
  generalize l.ppm = x5 at *
  generalize l.cells = C at *
  go_enter Tryz.func7, Tryz.ntmps7
  go_upto_region 1 with fail
  rw [← e2, ← e1, ← e5, ← e4]
  clear e1 e2 e3 e4 e5
  go_wp2_with (first
    | (refine o_load rfl 23 _ rfl _ rfl _ _ _ HB.out Tryz.underlying23 rfl HS.out ?_)
    | (go_at_call 24; with_reducible refine (KG.out _).mono ?_; rintro e y ⟨rfl, hb⟩; replace HB := Lib.hid (HB.out.below hb); replace HR := Lib.hid (HR.out.below hb); replace HW := Lib.hid (below_to HW.out hb); clear hb; have c8 := (HB.out.cell (i := 8)).trans X8.out; have c1 := (HB.out.cell (i := 1)).trans X1.out; have c5 := (HB.out.cell (i := 5)).trans X5.out)
    | (refine o_store rfl 23 _ _ rfl rfl g2 _ rfl rfl _ _ HR.out HS0.out rfl HO0.out ?_; intro y hr ho; replace HB := Lib.hid (HB.out.one ho HG.out.2.2.1); replace HR := Lib.hid hr; replace HW := Lib.hid (below_one_of HW.out ho HG.out.2.1 HW.out.size); clear hr ho))
  refine bodyPost_ret (results_two rfl _ _ _ _ _ _ _ rfl HR.out Tryz.underlying23 rfl HS0.out rfl) rfl ?_
  exact ⟨rfl, HW.out⟩
set_option maxRecDepth 20000 in
set_option maxHeartbeats 1000000 in
theorem c_set_near (l : Ln) (w : World) (hg : goodL l = true) (hc : l.closed = 0) (h1 : Level.oE l.prin l.ppm 120 ≠ 0) : Calls Tryz.prog 7 #[.agg l.cells] w fun e w' => e = .returned (.tuple #[.agg (ln0).cells, .int .i64 (Level.oE l.prin l.ppm 120)]) ∧ Below w.heap.size w w' := by
  obtain ⟨g, wb, e1, e2, hB, hb⟩ := boxd_new w l.cells 23
  obtain ⟨g2, wc, e3, e4, hB2, hb2⟩ := boxd_new wb #[.int .i64 0, .int .i64 0, .int .i64 0, .int .i64 0, .int .i64 0, .int .i64 0, .bool false, .int .i64 0, .int .i64 0, .int .i64 0, .int .i64 0, .int .i64 0, .int .i64 0] 23
  have e5 : g2 = g + 1 := by rw [e3, e2, Deep.nblk_alloc, e1]
  have HB : Hid (Boxd wc g l.cells 23) := hB.below hb2
  have HR : Hid (Boxd wc g2 #[.int .i64 0, .int .i64 0, .int .i64 0, .int .i64 0, .int .i64 0, .int .i64 0, .bool false, .int .i64 0, .int .i64 0, .int .i64 0, .int .i64 0, .int .i64 0, .int .i64 0] 23) := hB2
  have HW : Hid (Below w.heap.size w wc) := below_to hb hb2
  have HG : Hid (w.heap.size ≤ g ∧ w.heap.size ≤ g2 ∧ ¬ g = g2 ∧ ¬ g2 = g) := show _ ∧ _ ∧ ¬ _ ∧ ¬ _ by omega
  clear hB hB2 hb hb2
  have HS := Lib.hid (ln_info l)
  have HS0 := Lib.hid (ln_info ln0)
  have HO0 := Lib.hid (ln_one ln0)
  have KG := Lib.hid (fun W => good_c l W)
  rw [hg] at KG
  have X8 : Hid (l.cells[8]? = some (.int .i64 l.closed)) := show _ = _ from rfl
  have X1 : Hid (l.cells[1]? = some (.int .i64 l.prin)) := show _ = _ from rfl
  have X5 : Hid (l.cells[5]? = some (.int .i64 l.ppm)) := show _ = _ from rfl
  have t8 : (l.closed != 0) = false := by rw [hc]; rfl
  have K1 := Lib.hid (fun W => Level.c_of l.prin l.ppm 120 W)
  have K2 := Lib.hid (fun W => Level.c_of l.prin l.ppm 300 W)
  have u1 : (Level.oE l.prin l.ppm 120 != 0) = true := by rw [bne_iff_ne]; exact h1
  clear h1 hc
  generalize l.closed = x8 at *
  generalize Level.oV l.prin l.ppm 120 = v1 at *
  generalize Level.oE l.prin l.ppm 120 = n1 at *
  generalize Level.oV l.prin l.ppm 300 = v2 at *
  generalize Level.oE l.prin l.ppm 300 = n2 at *
  generalize l.prin = x1 at *
  generalize l.ppm = x5 at *
  generalize l.cells = C at *
  go_enter Tryz.func7, Tryz.ntmps7
  go_upto_region 1 with fail
  rw [← e2, ← e1, ← e5, ← e4]
  clear e1 e2 e3 e4 e5
  go_wp2_with (first
    | (refine o_load rfl 23 _ rfl _ rfl _ _ _ HB.out Tryz.underlying23 rfl HS.out ?_)
    | (go_at_call 24; with_reducible refine (KG.out _).mono ?_; rintro e y ⟨rfl, hb⟩; replace HB := Lib.hid (HB.out.below hb); replace HR := Lib.hid (HR.out.below hb); replace HW := Lib.hid (below_to HW.out hb); clear hb; have c8 := (HB.out.cell (i := 8)).trans X8.out; have c1 := (HB.out.cell (i := 1)).trans X1.out; have c5 := (HB.out.cell (i := 5)).trans X5.out)
    | (go_at_call 25; with_reducible refine (K1.out _).mono ?_; rintro e y ⟨rfl, hb⟩; replace HB := Lib.hid (HB.out.below hb); replace HR := Lib.hid (HR.out.below hb); replace HW := Lib.hid (below_to HW.out hb); clear hb; have c8 := (HB.out.cell (i := 8)).trans X8.out; have c1 := (HB.out.cell (i := 1)).trans X1.out; have c5 := (HB.out.cell (i := 5)).trans X5.out)
    | (refine o_store rfl 23 _ _ rfl rfl g2 _ rfl rfl _ _ HR.out HS0.out rfl HO0.out ?_; intro y hr ho; replace HB := Lib.hid (HB.out.one ho HG.out.2.2.1); replace HR := Lib.hid hr; replace HW := Lib.hid (below_one_of HW.out ho HG.out.2.1 HW.out.size); clear hr ho))
  refine bodyPost_ret (results_two rfl _ _ _ _ _ _ _ rfl HR.out Tryz.underlying23 rfl HS0.out rfl) rfl ?_
  exact ⟨rfl, HW.out⟩
set_option maxRecDepth 20000 in
set_option maxHeartbeats 1000000 in
theorem c_set_far (l : Ln) (w : World) (hg : goodL l = true) (hc : l.closed = 0) (h1 : Level.oE l.prin l.ppm 120 = 0) (h2 : Level.oE l.prin l.ppm 300 ≠ 0) : Calls Tryz.prog 7 #[.agg l.cells] w fun e w' => e = .returned (.tuple #[.agg (ln0).cells, .int .i64 (Level.oE l.prin l.ppm 300)]) ∧ Below w.heap.size w w' := by
  obtain ⟨g, wb, e1, e2, hB, hb⟩ := boxd_new w l.cells 23
  obtain ⟨g2, wc, e3, e4, hB2, hb2⟩ := boxd_new wb #[.int .i64 0, .int .i64 0, .int .i64 0, .int .i64 0, .int .i64 0, .int .i64 0, .bool false, .int .i64 0, .int .i64 0, .int .i64 0, .int .i64 0, .int .i64 0, .int .i64 0] 23
  have e5 : g2 = g + 1 := by rw [e3, e2, Deep.nblk_alloc, e1]
  have HB : Hid (Boxd wc g l.cells 23) := hB.below hb2
  have HR : Hid (Boxd wc g2 #[.int .i64 0, .int .i64 0, .int .i64 0, .int .i64 0, .int .i64 0, .int .i64 0, .bool false, .int .i64 0, .int .i64 0, .int .i64 0, .int .i64 0, .int .i64 0, .int .i64 0] 23) := hB2
  have HW : Hid (Below w.heap.size w wc) := below_to hb hb2
  have HG : Hid (w.heap.size ≤ g ∧ w.heap.size ≤ g2 ∧ ¬ g = g2 ∧ ¬ g2 = g) := show _ ∧ _ ∧ ¬ _ ∧ ¬ _ by omega
  clear hB hB2 hb hb2
  have HS := Lib.hid (ln_info l)
  have HS0 := Lib.hid (ln_info ln0)
  have HO0 := Lib.hid (ln_one ln0)
  have KG := Lib.hid (fun W => good_c l W)
  rw [hg] at KG
  have X8 : Hid (l.cells[8]? = some (.int .i64 l.closed)) := show _ = _ from rfl
  have X1 : Hid (l.cells[1]? = some (.int .i64 l.prin)) := show _ = _ from rfl
  have X5 : Hid (l.cells[5]? = some (.int .i64 l.ppm)) := show _ = _ from rfl
  have t8 : (l.closed != 0) = false := by rw [hc]; rfl
  have K1 := Lib.hid (fun W => Level.c_of l.prin l.ppm 120 W)
  have K2 := Lib.hid (fun W => Level.c_of l.prin l.ppm 300 W)
  have u1 : (Level.oE l.prin l.ppm 120 != 0) = false := by rw [h1]; rfl
  have u2 : (Level.oE l.prin l.ppm 300 != 0) = true := by rw [bne_iff_ne]; exact h2
  clear h1 h2 hc
  generalize l.closed = x8 at *
  generalize Level.oV l.prin l.ppm 120 = v1 at *
  generalize Level.oE l.prin l.ppm 120 = n1 at *
  generalize Level.oV l.prin l.ppm 300 = v2 at *
  generalize Level.oE l.prin l.ppm 300 = n2 at *
  generalize l.prin = x1 at *
  generalize l.ppm = x5 at *
  generalize l.cells = C at *
  go_enter Tryz.func7, Tryz.ntmps7
  go_upto_region 1 with fail
  rw [← e2, ← e1, ← e5, ← e4]
  clear e1 e2 e3 e4 e5
  go_wp2_with (first
    | (refine o_load rfl 23 _ rfl _ rfl _ _ _ HB.out Tryz.underlying23 rfl HS.out ?_)
    | (go_at_call 24; with_reducible refine (KG.out _).mono ?_; rintro e y ⟨rfl, hb⟩; replace HB := Lib.hid (HB.out.below hb); replace HR := Lib.hid (HR.out.below hb); replace HW := Lib.hid (below_to HW.out hb); clear hb; have c8 := (HB.out.cell (i := 8)).trans X8.out; have c1 := (HB.out.cell (i := 1)).trans X1.out; have c5 := (HB.out.cell (i := 5)).trans X5.out)
    | (go_at_call 25; with_reducible refine (K1.out _).mono ?_; rintro e y ⟨rfl, hb⟩; replace HB := Lib.hid (HB.out.below hb); replace HR := Lib.hid (HR.out.below hb); replace HW := Lib.hid (below_to HW.out hb); clear hb; have c8 := (HB.out.cell (i := 8)).trans X8.out; have c1 := (HB.out.cell (i := 1)).trans X1.out; have c5 := (HB.out.cell (i := 5)).trans X5.out)
    | (go_at_call 25; with_reducible refine (K2.out _).mono ?_; rintro e y ⟨rfl, hb⟩; replace HB := Lib.hid (HB.out.below hb); replace HR := Lib.hid (HR.out.below hb); replace HW := Lib.hid (below_to HW.out hb); clear hb; have c8 := (HB.out.cell (i := 8)).trans X8.out; have c1 := (HB.out.cell (i := 1)).trans X1.out; have c5 := (HB.out.cell (i := 5)).trans X5.out)
    | (refine o_store rfl 23 _ _ rfl rfl g2 _ rfl rfl _ _ HR.out HS0.out rfl HO0.out ?_; intro y hr ho; replace HB := Lib.hid (HB.out.one ho HG.out.2.2.1); replace HR := Lib.hid hr; replace HW := Lib.hid (below_one_of HW.out ho HG.out.2.1 HW.out.size); clear hr ho))
  refine bodyPost_ret (results_two rfl _ _ _ _ _ _ _ rfl HR.out Tryz.underlying23 rfl HS0.out rfl) rfl ?_
  exact ⟨rfl, HW.out⟩
set_option maxRecDepth 20000 in
set_option maxHeartbeats 1000000 in
theorem c_set_ok (l : Ln) (w : World) (hg : goodL l = true) (hc : l.closed = 0) (h1 : Level.oE l.prin l.ppm 120 = 0) (h2 : Level.oE l.prin l.ppm 300 = 0) : Calls Tryz.prog 7 #[.agg l.cells] w fun e w' => e = .returned (.tuple #[.agg (({ l with level := Level.oV l.prin l.ppm 120, far := Level.oV l.prin l.ppm 300 } : Ln)).cells, .int .i64 0]) ∧ Below w.heap.size w w' := by
  obtain ⟨g, wb, e1, e2, hB, hb⟩ := boxd_new w l.cells 23
  obtain ⟨g2, wc, e3, e4, hB2, hb2⟩ := boxd_new wb #[.int .i64 0, .int .i64 0, .int .i64 0, .int .i64 0, .int .i64 0, .int .i64 0, .bool false, .int .i64 0, .int .i64 0, .int .i64 0, .int .i64 0, .int .i64 0, .int .i64 0] 23
  have e5 : g2 = g + 1 := by rw [e3, e2, Deep.nblk_alloc, e1]
  have HB : Hid (Boxd wc g l.cells 23) := hB.below hb2
  have HR : Hid (Boxd wc g2 #[.int .i64 0, .int .i64 0, .int .i64 0, .int .i64 0, .int .i64 0, .int .i64 0, .bool false, .int .i64 0, .int .i64 0, .int .i64 0, .int .i64 0, .int .i64 0, .int .i64 0] 23) := hB2
  have HW : Hid (Below w.heap.size w wc) := below_to hb hb2
  have HG : Hid (w.heap.size ≤ g ∧ w.heap.size ≤ g2 ∧ ¬ g = g2 ∧ ¬ g2 = g) := show _ ∧ _ ∧ ¬ _ ∧ ¬ _ by omega
  clear hB hB2 hb hb2
  have HS := Lib.hid (ln_info l)
  have HS0 := Lib.hid (ln_info ln0)
  have HO0 := Lib.hid (ln_one ln0)
  have KG := Lib.hid (fun W => good_c l W)
  rw [hg] at KG
  have X8 : Hid (l.cells[8]? = some (.int .i64 l.closed)) := show _ = _ from rfl
  have X1 : Hid (l.cells[1]? = some (.int .i64 l.prin)) := show _ = _ from rfl
  have X5 : Hid (l.cells[5]? = some (.int .i64 l.ppm)) := show _ = _ from rfl
  have t8 : (l.closed != 0) = false := by rw [hc]; rfl
  have K1 := Lib.hid (fun W => Level.c_of l.prin l.ppm 120 W)
  have K2 := Lib.hid (fun W => Level.c_of l.prin l.ppm 300 W)
  have u1 : (Level.oE l.prin l.ppm 120 != 0) = false := by rw [h1]; rfl
  have u2 : (Level.oE l.prin l.ppm 300 != 0) = false := by rw [h2]; rfl
  clear h1 h2 hc
  have I1 := Lib.hid i64_one
  have SD := Lib.hid (ln_info ({ l with level := Level.oV l.prin l.ppm 120, far := Level.oV l.prin l.ppm 300 } : Ln))
  have OD := Lib.hid (ln_one ({ l with level := Level.oV l.prin l.ppm 120, far := Level.oV l.prin l.ppm 300 } : Ln))
  have ED : Hid ((l.cells.setIfInBounds 10 (.int .i64 (Level.oV l.prin l.ppm 120))).setIfInBounds 11 (.int .i64 (Level.oV l.prin l.ppm 300)) = (({ l with level := Level.oV l.prin l.ppm 120, far := Level.oV l.prin l.ppm 300 } : Ln)).cells) := show _ = _ from rfl
  have ZD : Hid (13 = (({ l with level := Level.oV l.prin l.ppm 120, far := Level.oV l.prin l.ppm 300 } : Ln)).cells.size) := show _ = _ from rfl
  have J1 : Hid (10 < l.cells.size) := show 10 < 13 by omega
  have J2 : Hid (11 < (l.cells.setIfInBounds 10 (.int .i64 (Level.oV l.prin l.ppm 120))).size) := by rw [Array.size_setIfInBounds]; exact (show 11 < 13 by omega)
  generalize (({ l with level := Level.oV l.prin l.ppm 120, far := Level.oV l.prin l.ppm 300 } : Ln)).cells = D at *
  generalize l.closed = x8 at *
  generalize Level.oV l.prin l.ppm 120 = v1 at *
  generalize Level.oE l.prin l.ppm 120 = n1 at *
  generalize Level.oV l.prin l.ppm 300 = v2 at *
  generalize Level.oE l.prin l.ppm 300 = n2 at *
  generalize l.prin = x1 at *
  generalize l.ppm = x5 at *
  generalize l.cells = C at *
  go_enter Tryz.func7, Tryz.ntmps7
  go_upto_region 1 with fail
  rw [← e2, ← e1, ← e5, ← e4]
  clear e1 e2 e3 e4 e5
  go_wp2_with (first
    | (refine o_load rfl 23 _ rfl _ rfl _ _ _ HB.out Tryz.underlying23 rfl HS.out ?_)
    | (refine o_load rfl 23 _ rfl _ rfl _ _ _ (ED.out ▸ HB.out) Tryz.underlying23 rfl SD.out ?_)
    | (go_at_call 24; with_reducible refine (KG.out _).mono ?_; rintro e y ⟨rfl, hb⟩; replace HB := Lib.hid (HB.out.below hb); replace HR := Lib.hid (HR.out.below hb); replace HW := Lib.hid (below_to HW.out hb); clear hb; have c8 := (HB.out.cell (i := 8)).trans X8.out; have c1 := (HB.out.cell (i := 1)).trans X1.out; have c5 := (HB.out.cell (i := 5)).trans X5.out)
    | (go_at_call 25; with_reducible refine (K1.out _).mono ?_; rintro e y ⟨rfl, hb⟩; replace HB := Lib.hid (HB.out.below hb); replace HR := Lib.hid (HR.out.below hb); replace HW := Lib.hid (below_to HW.out hb); clear hb; have c8 := (HB.out.cell (i := 8)).trans X8.out; have c1 := (HB.out.cell (i := 1)).trans X1.out; have c5 := (HB.out.cell (i := 5)).trans X5.out)
    | (go_at_call 25; with_reducible refine (K2.out _).mono ?_; rintro e y ⟨rfl, hb⟩; replace HB := Lib.hid (HB.out.below hb); replace HR := Lib.hid (HR.out.below hb); replace HW := Lib.hid (below_to HW.out hb); clear hb; have c8 := (HB.out.cell (i := 8)).trans X8.out; have c1 := (HB.out.cell (i := 1)).trans X1.out; have c5 := (HB.out.cell (i := 5)).trans X5.out)
    | (refine o_put rfl 2 _ _ rfl rfl g 10 (.int .i64 v1) rfl rfl rfl 23 _ HB.out J1.out I1.out (fun y hr ho => ?_); replace HR := Lib.hid (HR.out.one ho HG.out.2.2.2); replace HB := Lib.hid hr; replace HW := Lib.hid (below_one_of HW.out ho HG.out.1 HW.out.size); clear hr ho)
    | (refine o_put rfl 2 _ _ rfl rfl g 11 (.int .i64 v2) rfl rfl rfl 23 _ HB.out J2.out I1.out (fun y hr ho => ?_); replace HR := Lib.hid (HR.out.one ho HG.out.2.2.2); replace HB := Lib.hid hr; replace HW := Lib.hid (below_one_of HW.out ho HG.out.1 HW.out.size); clear hr ho)
    | (refine o_store rfl 23 _ _ rfl rfl g2 _ rfl rfl _ _ HR.out SD.out ZD.out OD.out ?_; intro y hr ho; replace HR := Lib.hid hr; replace HW := Lib.hid (below_one_of HW.out ho HG.out.2.1 HW.out.size); clear hr ho))
  refine bodyPost_ret (results_two rfl _ _ _ _ _ _ _ rfl HR.out Tryz.underlying23 rfl SD.out rfl) rfl ?_
  exact ⟨rfl, HW.out⟩
theorem c_set (l : Ln) (w : World) : Calls Tryz.prog 7 #[.agg l.cells] w fun e w' => e = .returned (.tuple #[.agg (setR l).1.cells, .int .i64 (setR l).2]) ∧ Below w.heap.size w w' := by
  cases hg : goodL l with
  | false =>
    rw [show setR l = (ln0, 1) by unfold setR; rw [if_neg (by rw [hg]; exact Bool.false_ne_true)]]
    exact c_set_bad l w hg
  | true =>
    by_cases hc : l.closed = 0
    · by_cases h1 : Level.oE l.prin l.ppm 120 = 0
      · by_cases h2 : Level.oE l.prin l.ppm 300 = 0
        · rw [show setR l = (({ l with level := Level.oV l.prin l.ppm 120, far := Level.oV l.prin l.ppm 300 } : Ln), 0) by unfold setR; rw [if_pos hg, if_pos hc, if_pos h1, if_pos h2]]
          exact c_set_ok l w hg hc h1 h2
        · rw [show setR l = (ln0, Level.oE l.prin l.ppm 300) by unfold setR; rw [if_pos hg, if_pos hc, if_pos h1, if_neg h2]]
          exact c_set_far l w hg hc h1 h2
      · rw [show setR l = (ln0, Level.oE l.prin l.ppm 120) by unfold setR; rw [if_pos hg, if_pos hc, if_neg h1]]
        exact c_set_near l w hg hc h1
    · rw [show setR l = (ln0, 61) by unfold setR; rw [if_pos hg, if_neg hc]]
      exact c_set_gone l w hg hc
end Go.Proofs.YtkddiaiohnbjpaaGreatDoor.Plan
