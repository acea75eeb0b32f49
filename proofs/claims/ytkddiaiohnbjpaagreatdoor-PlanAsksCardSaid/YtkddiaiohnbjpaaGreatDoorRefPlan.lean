/- Of layer 18: what a plan asks of one loan, of the document's own. -/
import Derived.Test.YtkddiaiohnbjpaaGreatDoorPlanC1
import Derived.Test.YtkddiaiohnbjpaaGreatDoorGRLo
import Derived.Test.YtkddiaiohnbjpaaGreatDoorGRDue
import Derived.Test.YtkddiaiohnbjpaaGreatDoorGStep
import Derived.Test.YtkddiaiohnbjpaaGreatDoorGA
import Derived.BigFrame
namespace Go.Proofs.YtkddiaiohnbjpaaGreatDoor.Plan
open Go.ChangeShapes Go.WideShapes Go.ChangeAt Go.RowKit Loan Money Box

set_option maxRecDepth 20000 in
set_option maxHeartbeats 2000000 in
theorem r_of_bad (l : Ln) (how : Int) (day : Int) (w : World) (hg : goodL l = false) : Calls Tryz.prog 45 #[.agg l.cells, .int .i64 how, .int .i64 day] w fun e w' => e = .returned (.tuple #[.int .i64 0, .int .i64 1]) ∧ Below w.heap.size w w' := by
  obtain ⟨g, wb, e1, e2, hB, hb⟩ := boxd_new w l.cells 23
  have HB := Lib.hid hB
  have HW := Lib.hid hb
  clear hB hb
  have HS := Lib.hid (ln_info l)
  have KG := Lib.hid (fun W => RLoan.r_good l W)
  have KD := Lib.hid (fun W => Date.rday_any day W)
  have KT := Lib.hid (fun W => r_part l W)
  have KO := Lib.hid (fun W => RLoan.r_owes l W)
  have X9 : Hid (l.cells[9]? = some (.int .i64 l.entered)) := show _ = _ from rfl
  have X10 : Hid (l.cells[10]? = some (.int .i64 l.level)) := show _ = _ from rfl
  have X11 : Hid (l.cells[11]? = some (.int .i64 l.far)) := show _ = _ from rfl
  rw [hg] at KG
  clear hg
  generalize l.entered = en at *
  generalize l.level = lv at *
  generalize l.far = fr at *
  generalize l.cells = C at *
  go_enter Tryz.func45, Tryz.ntmps45
  go_upto_region 1 with fail
  rw [← e2, ← e1]
  clear e1 e2
  go_wp2_with (first
    | (refine o_load (by rfl) 23 _ rfl _ rfl _ _ _ HB.out Tryz.underlying23 rfl HS.out ?_)
    | (go_at_call 26; (with_reducible refine (KG.out _).mono ?_); rintro e y ⟨rfl, hb⟩; replace HB := Lib.hid (HB.out.below hb); replace HW := Lib.hid (below_to HW.out hb); clear hb; have c10 := (HB.out.cell (i := 10)).trans X10.out; have c11 := (HB.out.cell (i := 11)).trans X11.out))
  go_ret2
  exact ⟨rfl, HW.out⟩
set_option maxRecDepth 20000 in
set_option maxHeartbeats 2000000 in
theorem r_of_low (l : Ln) (how : Int) (day : Int) (w : World) (hg : goodL l = true) (h1 : how < 1) : Calls Tryz.prog 45 #[.agg l.cells, .int .i64 how, .int .i64 day] w fun e w' => e = .returned (.tuple #[.int .i64 0, .int .i64 1]) ∧ Below w.heap.size w w' := by
  obtain ⟨g, wb, e1, e2, hB, hb⟩ := boxd_new w l.cells 23
  have HB := Lib.hid hB
  have HW := Lib.hid hb
  clear hB hb
  have HS := Lib.hid (ln_info l)
  have KG := Lib.hid (fun W => RLoan.r_good l W)
  have KD := Lib.hid (fun W => Date.rday_any day W)
  have KT := Lib.hid (fun W => r_part l W)
  have KO := Lib.hid (fun W => RLoan.r_owes l W)
  have X9 : Hid (l.cells[9]? = some (.int .i64 l.entered)) := show _ = _ from rfl
  have X10 : Hid (l.cells[10]? = some (.int .i64 l.level)) := show _ = _ from rfl
  have X11 : Hid (l.cells[11]? = some (.int .i64 l.far)) := show _ = _ from rfl
  rw [hg] at KG
  have t1 : decide (how < 1) = true := decide_eq_true h1
  clear hg h1
  generalize l.entered = en at *
  generalize l.level = lv at *
  generalize l.far = fr at *
  generalize l.cells = C at *
  go_enter Tryz.func45, Tryz.ntmps45
  go_upto_region 1 with fail
  rw [← e2, ← e1]
  clear e1 e2
  go_wp2_with (first
    | (refine o_load (by rfl) 23 _ rfl _ rfl _ _ _ HB.out Tryz.underlying23 rfl HS.out ?_)
    | (go_at_call 26; (with_reducible refine (KG.out _).mono ?_); rintro e y ⟨rfl, hb⟩; replace HB := Lib.hid (HB.out.below hb); replace HW := Lib.hid (below_to HW.out hb); clear hb; have c10 := (HB.out.cell (i := 10)).trans X10.out; have c11 := (HB.out.cell (i := 11)).trans X11.out))
  go_ret2
  exact ⟨rfl, HW.out⟩
set_option maxRecDepth 20000 in
set_option maxHeartbeats 2000000 in
theorem r_of_high (l : Ln) (how : Int) (day : Int) (w : World) (hg : goodL l = true) (h1 : ¬ how < 1) (h2 : 3 < how) : Calls Tryz.prog 45 #[.agg l.cells, .int .i64 how, .int .i64 day] w fun e w' => e = .returned (.tuple #[.int .i64 0, .int .i64 1]) ∧ Below w.heap.size w w' := by
  obtain ⟨g, wb, e1, e2, hB, hb⟩ := boxd_new w l.cells 23
  have HB := Lib.hid hB
  have HW := Lib.hid hb
  clear hB hb
  have HS := Lib.hid (ln_info l)
  have KG := Lib.hid (fun W => RLoan.r_good l W)
  have KD := Lib.hid (fun W => Date.rday_any day W)
  have KT := Lib.hid (fun W => r_part l W)
  have KO := Lib.hid (fun W => RLoan.r_owes l W)
  have X9 : Hid (l.cells[9]? = some (.int .i64 l.entered)) := show _ = _ from rfl
  have X10 : Hid (l.cells[10]? = some (.int .i64 l.level)) := show _ = _ from rfl
  have X11 : Hid (l.cells[11]? = some (.int .i64 l.far)) := show _ = _ from rfl
  rw [hg] at KG
  have t1 : decide (how < 1) = false := decide_eq_false h1
  have t2 : decide (3 < how) = true := decide_eq_true h2
  clear hg h1 h2
  generalize l.entered = en at *
  generalize l.level = lv at *
  generalize l.far = fr at *
  generalize l.cells = C at *
  go_enter Tryz.func45, Tryz.ntmps45
  go_upto_region 1 with fail
  rw [← e2, ← e1]
  clear e1 e2
  go_wp2_with (first
    | (refine o_load (by rfl) 23 _ rfl _ rfl _ _ _ HB.out Tryz.underlying23 rfl HS.out ?_)
    | (go_at_call 26; (with_reducible refine (KG.out _).mono ?_); rintro e y ⟨rfl, hb⟩; replace HB := Lib.hid (HB.out.below hb); replace HW := Lib.hid (below_to HW.out hb); clear hb; have c10 := (HB.out.cell (i := 10)).trans X10.out; have c11 := (HB.out.cell (i := 11)).trans X11.out))
  go_ret2
  exact ⟨rfl, HW.out⟩
set_option maxRecDepth 20000 in
set_option maxHeartbeats 2000000 in
theorem r_of_day (l : Ln) (how : Int) (day : Int) (w : World) (hg : goodL l = true) (h1 : ¬ how < 1) (h2 : ¬ 3 < how) (hd : Date.dayB day = false) : Calls Tryz.prog 45 #[.agg l.cells, .int .i64 how, .int .i64 day] w fun e w' => e = .returned (.tuple #[.int .i64 0, .int .i64 1]) ∧ Below w.heap.size w w' := by
  obtain ⟨g, wb, e1, e2, hB, hb⟩ := boxd_new w l.cells 23
  have HB := Lib.hid hB
  have HW := Lib.hid hb
  clear hB hb
  have HS := Lib.hid (ln_info l)
  have KG := Lib.hid (fun W => RLoan.r_good l W)
  have KD := Lib.hid (fun W => Date.rday_any day W)
  have KT := Lib.hid (fun W => r_part l W)
  have KO := Lib.hid (fun W => RLoan.r_owes l W)
  have X9 : Hid (l.cells[9]? = some (.int .i64 l.entered)) := show _ = _ from rfl
  have X10 : Hid (l.cells[10]? = some (.int .i64 l.level)) := show _ = _ from rfl
  have X11 : Hid (l.cells[11]? = some (.int .i64 l.far)) := show _ = _ from rfl
  rw [hg] at KG
  rw [hd] at KD
  have t1 : decide (how < 1) = false := decide_eq_false h1
  have t2 : decide (3 < how) = false := decide_eq_false h2
  clear hg h1 h2 hd
  generalize l.entered = en at *
  generalize l.level = lv at *
  generalize l.far = fr at *
  generalize l.cells = C at *
  go_enter Tryz.func45, Tryz.ntmps45
  go_upto_region 1 with fail
  rw [← e2, ← e1]
  clear e1 e2
  go_wp2_with (first
    | (refine o_load (by rfl) 23 _ rfl _ rfl _ _ _ HB.out Tryz.underlying23 rfl HS.out ?_)
    | (go_at_call 26; (with_reducible refine (KG.out _).mono ?_); rintro e y ⟨rfl, hb⟩; replace HB := Lib.hid (HB.out.below hb); replace HW := Lib.hid (below_to HW.out hb); clear hb; have c10 := (HB.out.cell (i := 10)).trans X10.out; have c11 := (HB.out.cell (i := 11)).trans X11.out)
    | (go_at_call 43; (with_reducible refine (KD.out _).mono ?_); rintro e y2 ⟨rfl, rfl⟩))
  go_ret2
  exact ⟨rfl, HW.out⟩
set_option maxRecDepth 20000 in
set_option maxHeartbeats 2000000 in
theorem r_of_none (l : Ln) (how : Int) (day : Int) (w : World) (hg : goodL l = true) (h1 : ¬ how < 1) (h2 : ¬ 3 < how) (hd : Date.dayB day = true) (hp : partB l = false) : Calls Tryz.prog 45 #[.agg l.cells, .int .i64 how, .int .i64 day] w fun e w' => e = .returned (.tuple #[.int .i64 0, .int .i64 0]) ∧ Below w.heap.size w w' := by
  obtain ⟨g, wb, e1, e2, hB, hb⟩ := boxd_new w l.cells 23
  have HB := Lib.hid hB
  have HW := Lib.hid hb
  clear hB hb
  have HS := Lib.hid (ln_info l)
  have KG := Lib.hid (fun W => RLoan.r_good l W)
  have KD := Lib.hid (fun W => Date.rday_any day W)
  have KT := Lib.hid (fun W => r_part l W)
  have KO := Lib.hid (fun W => RLoan.r_owes l W)
  have X9 : Hid (l.cells[9]? = some (.int .i64 l.entered)) := show _ = _ from rfl
  have X10 : Hid (l.cells[10]? = some (.int .i64 l.level)) := show _ = _ from rfl
  have X11 : Hid (l.cells[11]? = some (.int .i64 l.far)) := show _ = _ from rfl
  rw [hg] at KG
  rw [hd] at KD
  rw [hp] at KT
  have t1 : decide (how < 1) = false := decide_eq_false h1
  have t2 : decide (3 < how) = false := decide_eq_false h2
  clear hg h1 h2 hd hp
  generalize l.entered = en at *
  generalize l.level = lv at *
  generalize l.far = fr at *
  generalize l.cells = C at *
  go_enter Tryz.func45, Tryz.ntmps45
  go_upto_region 1 with fail
  rw [← e2, ← e1]
  clear e1 e2
  go_wp2_with (first
    | (refine o_load (by rfl) 23 _ rfl _ rfl _ _ _ HB.out Tryz.underlying23 rfl HS.out ?_)
    | (go_at_call 26; (with_reducible refine (KG.out _).mono ?_); rintro e y ⟨rfl, hb⟩; replace HB := Lib.hid (HB.out.below hb); replace HW := Lib.hid (below_to HW.out hb); clear hb; have c10 := (HB.out.cell (i := 10)).trans X10.out; have c11 := (HB.out.cell (i := 11)).trans X11.out)
    | (go_at_call 43; (with_reducible refine (KD.out _).mono ?_); rintro e y2 ⟨rfl, rfl⟩)
    | (go_at_call 18; (with_reducible refine (KT.out _).mono ?_); rintro e y3 ⟨rfl, hb⟩; replace HB := Lib.hid (HB.out.below hb); replace HW := Lib.hid (below_to HW.out hb); clear hb; have c10 := (HB.out.cell (i := 10)).trans X10.out; have c11 := (HB.out.cell (i := 11)).trans X11.out))
  go_ret2
  exact ⟨rfl, HW.out⟩
set_option maxRecDepth 20000 in
set_option maxHeartbeats 2000000 in
theorem r_of_owes1 (l : Ln) (day : Int) (w : World) (hg : goodL l = true) (hd : Date.dayB day = true) (hp : partB l = true) (ho : (owesR l).2 ≠ 0) : Calls Tryz.prog 45 #[.agg l.cells, .int .i64 1, .int .i64 day] w fun e w' => e = .returned (.tuple #[.int .i64 0, .int .i64 (owesR l).2]) ∧ Below w.heap.size w w' := by
  obtain ⟨g, wb, e1, e2, hB, hb⟩ := boxd_new w l.cells 23
  have HB := Lib.hid hB
  have HW := Lib.hid hb
  clear hB hb
  have HS := Lib.hid (ln_info l)
  have KG := Lib.hid (fun W => RLoan.r_good l W)
  have KD := Lib.hid (fun W => Date.rday_any day W)
  have KT := Lib.hid (fun W => r_part l W)
  have KO := Lib.hid (fun W => RLoan.r_owes l W)
  have X9 : Hid (l.cells[9]? = some (.int .i64 l.entered)) := show _ = _ from rfl
  have X10 : Hid (l.cells[10]? = some (.int .i64 l.level)) := show _ = _ from rfl
  have X11 : Hid (l.cells[11]? = some (.int .i64 l.far)) := show _ = _ from rfl
  rw [hg] at KG
  rw [hd] at KD
  rw [hp] at KT
  have t8 : ((owesR l).2 != 0) = true := by rw [bne_iff_ne]; exact ho
  clear hg hd hp ho
  generalize (owesR l).1 = ov at *
  generalize (owesR l).2 = oe at *
  generalize l.entered = en at *
  generalize l.level = lv at *
  generalize l.far = fr at *
  generalize l.cells = C at *
  go_enter Tryz.func45, Tryz.ntmps45
  go_upto_region 1 with fail
  rw [← e2, ← e1]
  clear e1 e2
  go_wp2_with (first
    | (refine o_load (by rfl) 23 _ rfl _ rfl _ _ _ HB.out Tryz.underlying23 rfl HS.out ?_)
    | (go_at_call 26; (with_reducible refine (KG.out _).mono ?_); rintro e y ⟨rfl, hb⟩; replace HB := Lib.hid (HB.out.below hb); replace HW := Lib.hid (below_to HW.out hb); clear hb; have c10 := (HB.out.cell (i := 10)).trans X10.out; have c11 := (HB.out.cell (i := 11)).trans X11.out)
    | (go_at_call 43; (with_reducible refine (KD.out _).mono ?_); rintro e y2 ⟨rfl, rfl⟩)
    | (go_at_call 18; (with_reducible refine (KT.out _).mono ?_); rintro e y3 ⟨rfl, hb⟩; replace HB := Lib.hid (HB.out.below hb); replace HW := Lib.hid (below_to HW.out hb); clear hb; have c10 := (HB.out.cell (i := 10)).trans X10.out; have c11 := (HB.out.cell (i := 11)).trans X11.out)
    | (go_at_call 19; (with_reducible refine (KO.out _).mono ?_); rintro e y5 ⟨rfl, hb⟩; replace HB := Lib.hid (HB.out.below hb); replace HW := Lib.hid (below_to HW.out hb); clear hb; have c10 := (HB.out.cell (i := 10)).trans X10.out; have c11 := (HB.out.cell (i := 11)).trans X11.out))
  go_ret2
  exact ⟨rfl, HW.out⟩
set_option maxRecDepth 20000 in
set_option maxHeartbeats 2000000 in
theorem r_of_ok1 (l : Ln) (day : Int) (w : World) (hg : goodL l = true) (hd : Date.dayB day = true) (hp : partB l = true) (ho : (owesR l).2 = 0) : Calls Tryz.prog 45 #[.agg l.cells, .int .i64 1, .int .i64 day] w fun e w' => e = .returned (.tuple #[.int .i64 (if (owesR l).1 < l.level then (owesR l).1 else l.level), .int .i64 0]) ∧ Below w.heap.size w w' := by
  obtain ⟨g, wb, e1, e2, hB, hb⟩ := boxd_new w l.cells 23
  have HB := Lib.hid hB
  have HW := Lib.hid hb
  clear hB hb
  have HS := Lib.hid (ln_info l)
  have KG := Lib.hid (fun W => RLoan.r_good l W)
  have KD := Lib.hid (fun W => Date.rday_any day W)
  have KT := Lib.hid (fun W => r_part l W)
  have KO := Lib.hid (fun W => RLoan.r_owes l W)
  have X9 : Hid (l.cells[9]? = some (.int .i64 l.entered)) := show _ = _ from rfl
  have X10 : Hid (l.cells[10]? = some (.int .i64 l.level)) := show _ = _ from rfl
  have X11 : Hid (l.cells[11]? = some (.int .i64 l.far)) := show _ = _ from rfl
  rw [hg] at KG
  rw [hd] at KD
  rw [hp] at KT
  have t8 : ((owesR l).2 != 0) = false := by rw [ho]; rfl
  obtain ⟨q, hq⟩ : ∃ q, (if (owesR l).1 < l.level then (owesR l).1 else l.level) = q := ⟨_, rfl⟩
  rw [hq]
  clear hg hd hp ho
  generalize (owesR l).1 = ov at *
  generalize (owesR l).2 = oe at *
  generalize l.entered = en at *
  generalize l.level = lv at *
  generalize l.far = fr at *
  generalize l.cells = C at *
  go_enter Tryz.func45, Tryz.ntmps45
  go_upto_region 1 with fail
  rw [← e2, ← e1]
  clear e1 e2
  go_wp2_with (first
    | (refine o_load (by rfl) 23 _ rfl _ rfl _ _ _ HB.out Tryz.underlying23 rfl HS.out ?_)
    | (go_at_call 26; (with_reducible refine (KG.out _).mono ?_); rintro e y ⟨rfl, hb⟩; replace HB := Lib.hid (HB.out.below hb); replace HW := Lib.hid (below_to HW.out hb); clear hb; have c10 := (HB.out.cell (i := 10)).trans X10.out; have c11 := (HB.out.cell (i := 11)).trans X11.out)
    | (go_at_call 43; (with_reducible refine (KD.out _).mono ?_); rintro e y2 ⟨rfl, rfl⟩)
    | (go_at_call 18; (with_reducible refine (KT.out _).mono ?_); rintro e y3 ⟨rfl, hb⟩; replace HB := Lib.hid (HB.out.below hb); replace HW := Lib.hid (below_to HW.out hb); clear hb; have c10 := (HB.out.cell (i := 10)).trans X10.out; have c11 := (HB.out.cell (i := 11)).trans X11.out)
    | (go_at_call 19; (with_reducible refine (KO.out _).mono ?_); rintro e y5 ⟨rfl, hb⟩; replace HB := Lib.hid (HB.out.below hb); replace HW := Lib.hid (below_to HW.out hb); clear hb; have c10 := (HB.out.cell (i := 10)).trans X10.out; have c11 := (HB.out.cell (i := 11)).trans X11.out))
  go_ret2
  exact ⟨rfl, HW.out⟩
set_option maxRecDepth 20000 in
set_option maxHeartbeats 2000000 in
theorem r_of_owes2 (l : Ln) (day : Int) (w : World) (hg : goodL l = true) (hd : Date.dayB day = true) (hp : partB l = true) (ho : (owesR l).2 ≠ 0) : Calls Tryz.prog 45 #[.agg l.cells, .int .i64 2, .int .i64 day] w fun e w' => e = .returned (.tuple #[.int .i64 0, .int .i64 (owesR l).2]) ∧ Below w.heap.size w w' := by
  obtain ⟨g, wb, e1, e2, hB, hb⟩ := boxd_new w l.cells 23
  have HB := Lib.hid hB
  have HW := Lib.hid hb
  clear hB hb
  have HS := Lib.hid (ln_info l)
  have KG := Lib.hid (fun W => RLoan.r_good l W)
  have KD := Lib.hid (fun W => Date.rday_any day W)
  have KT := Lib.hid (fun W => r_part l W)
  have KO := Lib.hid (fun W => RLoan.r_owes l W)
  have X9 : Hid (l.cells[9]? = some (.int .i64 l.entered)) := show _ = _ from rfl
  have X10 : Hid (l.cells[10]? = some (.int .i64 l.level)) := show _ = _ from rfl
  have X11 : Hid (l.cells[11]? = some (.int .i64 l.far)) := show _ = _ from rfl
  rw [hg] at KG
  rw [hd] at KD
  rw [hp] at KT
  have t8 : ((owesR l).2 != 0) = true := by rw [bne_iff_ne]; exact ho
  clear hg hd hp ho
  generalize (owesR l).1 = ov at *
  generalize (owesR l).2 = oe at *
  generalize l.entered = en at *
  generalize l.level = lv at *
  generalize l.far = fr at *
  generalize l.cells = C at *
  go_enter Tryz.func45, Tryz.ntmps45
  go_upto_region 1 with fail
  rw [← e2, ← e1]
  clear e1 e2
  go_wp2_with (first
    | (refine o_load (by rfl) 23 _ rfl _ rfl _ _ _ HB.out Tryz.underlying23 rfl HS.out ?_)
    | (go_at_call 26; (with_reducible refine (KG.out _).mono ?_); rintro e y ⟨rfl, hb⟩; replace HB := Lib.hid (HB.out.below hb); replace HW := Lib.hid (below_to HW.out hb); clear hb; have c10 := (HB.out.cell (i := 10)).trans X10.out; have c11 := (HB.out.cell (i := 11)).trans X11.out)
    | (go_at_call 43; (with_reducible refine (KD.out _).mono ?_); rintro e y2 ⟨rfl, rfl⟩)
    | (go_at_call 18; (with_reducible refine (KT.out _).mono ?_); rintro e y3 ⟨rfl, hb⟩; replace HB := Lib.hid (HB.out.below hb); replace HW := Lib.hid (below_to HW.out hb); clear hb; have c10 := (HB.out.cell (i := 10)).trans X10.out; have c11 := (HB.out.cell (i := 11)).trans X11.out)
    | (go_at_call 19; (with_reducible refine (KO.out _).mono ?_); rintro e y5 ⟨rfl, hb⟩; replace HB := Lib.hid (HB.out.below hb); replace HW := Lib.hid (below_to HW.out hb); clear hb; have c10 := (HB.out.cell (i := 10)).trans X10.out; have c11 := (HB.out.cell (i := 11)).trans X11.out))
  go_ret2
  exact ⟨rfl, HW.out⟩
set_option maxRecDepth 20000 in
set_option maxHeartbeats 2000000 in
theorem r_of_ok2 (l : Ln) (day : Int) (w : World) (hg : goodL l = true) (hd : Date.dayB day = true) (hp : partB l = true) (ho : (owesR l).2 = 0) : Calls Tryz.prog 45 #[.agg l.cells, .int .i64 2, .int .i64 day] w fun e w' => e = .returned (.tuple #[.int .i64 (if (owesR l).1 < l.far then (owesR l).1 else l.far), .int .i64 0]) ∧ Below w.heap.size w w' := by
  obtain ⟨g, wb, e1, e2, hB, hb⟩ := boxd_new w l.cells 23
  have HB := Lib.hid hB
  have HW := Lib.hid hb
  clear hB hb
  have HS := Lib.hid (ln_info l)
  have KG := Lib.hid (fun W => RLoan.r_good l W)
  have KD := Lib.hid (fun W => Date.rday_any day W)
  have KT := Lib.hid (fun W => r_part l W)
  have KO := Lib.hid (fun W => RLoan.r_owes l W)
  have X9 : Hid (l.cells[9]? = some (.int .i64 l.entered)) := show _ = _ from rfl
  have X10 : Hid (l.cells[10]? = some (.int .i64 l.level)) := show _ = _ from rfl
  have X11 : Hid (l.cells[11]? = some (.int .i64 l.far)) := show _ = _ from rfl
  rw [hg] at KG
  rw [hd] at KD
  rw [hp] at KT
  have t8 : ((owesR l).2 != 0) = false := by rw [ho]; rfl
  obtain ⟨q, hq⟩ : ∃ q, (if (owesR l).1 < l.far then (owesR l).1 else l.far) = q := ⟨_, rfl⟩
  rw [hq]
  clear hg hd hp ho
  generalize (owesR l).1 = ov at *
  generalize (owesR l).2 = oe at *
  generalize l.entered = en at *
  generalize l.level = lv at *
  generalize l.far = fr at *
  generalize l.cells = C at *
  go_enter Tryz.func45, Tryz.ntmps45
  go_upto_region 1 with fail
  rw [← e2, ← e1]
  clear e1 e2
  go_wp2_with (first
    | (refine o_load (by rfl) 23 _ rfl _ rfl _ _ _ HB.out Tryz.underlying23 rfl HS.out ?_)
    | (go_at_call 26; (with_reducible refine (KG.out _).mono ?_); rintro e y ⟨rfl, hb⟩; replace HB := Lib.hid (HB.out.below hb); replace HW := Lib.hid (below_to HW.out hb); clear hb; have c10 := (HB.out.cell (i := 10)).trans X10.out; have c11 := (HB.out.cell (i := 11)).trans X11.out)
    | (go_at_call 43; (with_reducible refine (KD.out _).mono ?_); rintro e y2 ⟨rfl, rfl⟩)
    | (go_at_call 18; (with_reducible refine (KT.out _).mono ?_); rintro e y3 ⟨rfl, hb⟩; replace HB := Lib.hid (HB.out.below hb); replace HW := Lib.hid (below_to HW.out hb); clear hb; have c10 := (HB.out.cell (i := 10)).trans X10.out; have c11 := (HB.out.cell (i := 11)).trans X11.out)
    | (go_at_call 19; (with_reducible refine (KO.out _).mono ?_); rintro e y5 ⟨rfl, hb⟩; replace HB := Lib.hid (HB.out.below hb); replace HW := Lib.hid (below_to HW.out hb); clear hb; have c10 := (HB.out.cell (i := 10)).trans X10.out; have c11 := (HB.out.cell (i := 11)).trans X11.out))
  go_ret2
  exact ⟨rfl, HW.out⟩
set_option maxRecDepth 20000 in
set_option maxHeartbeats 2000000 in
theorem r_of_owes3 (l : Ln) (day : Int) (w : World) (hg : goodL l = true) (hd : Date.dayB day = true) (hp : partB l = true) (hs : Step.oE l.level (Due.whoV l.entered day) = 0) (ho : (owesR l).2 ≠ 0) : Calls Tryz.prog 45 #[.agg l.cells, .int .i64 3, .int .i64 day] w fun e w' => e = .returned (.tuple #[.int .i64 0, .int .i64 (owesR l).2]) ∧ Below w.heap.size w w' := by
  obtain ⟨g, wb, e1, e2, hB, hb⟩ := boxd_new w l.cells 23
  have HB := Lib.hid hB
  have HW := Lib.hid hb
  clear hB hb
  have HS := Lib.hid (ln_info l)
  have KG := Lib.hid (fun W => RLoan.r_good l W)
  have KD := Lib.hid (fun W => Date.rday_any day W)
  have KT := Lib.hid (fun W => r_part l W)
  have KO := Lib.hid (fun W => RLoan.r_owes l W)
  have X9 : Hid (l.cells[9]? = some (.int .i64 l.entered)) := show _ = _ from rfl
  have X10 : Hid (l.cells[10]? = some (.int .i64 l.level)) := show _ = _ from rfl
  have X11 : Hid (l.cells[11]? = some (.int .i64 l.far)) := show _ = _ from rfl
  rw [hg] at KG
  rw [hd] at KD
  rw [hp] at KT
  have KW := Lib.hid (fun W => Due.r_whole l.entered day W)
  have hwi := who_in l.entered day
  have KS := Lib.hid (fun W => Step.r_of l.level (Due.whoV l.entered day) W (by omega))
  clear hwi
  have t9 : (Step.oE l.level (Due.whoV l.entered day) != 0) = false := by rw [hs]; rfl
  have t8 : ((owesR l).2 != 0) = true := by rw [bne_iff_ne]; exact ho
  clear hg hd hp hs ho
  generalize Due.whoV l.entered day = m at *
  generalize Step.oV l.level m = sv at *
  generalize Step.oE l.level m = se at *
  generalize (owesR l).1 = ov at *
  generalize (owesR l).2 = oe at *
  generalize l.entered = en at *
  generalize l.level = lv at *
  generalize l.far = fr at *
  generalize l.cells = C at *
  go_enter Tryz.func45, Tryz.ntmps45
  go_upto_region 1 with fail
  rw [← e2, ← e1]
  clear e1 e2
  go_upto_region 9 with (first
    | (refine o_load (by rfl) 23 _ rfl _ rfl _ _ _ HB.out Tryz.underlying23 rfl HS.out ?_)
    | (go_at_call 26; (with_reducible refine (KG.out _).mono ?_); rintro e y ⟨rfl, hb⟩; replace HB := Lib.hid (HB.out.below hb); replace HW := Lib.hid (below_to HW.out hb); clear hb; have c10 := (HB.out.cell (i := 10)).trans X10.out; have c11 := (HB.out.cell (i := 11)).trans X11.out)
    | (go_at_call 43; (with_reducible refine (KD.out _).mono ?_); rintro e y2 ⟨rfl, rfl⟩)
    | (go_at_call 18; (with_reducible refine (KT.out _).mono ?_); rintro e y3 ⟨rfl, hb⟩; replace HB := Lib.hid (HB.out.below hb); replace HW := Lib.hid (below_to HW.out hb); clear hb; have c10 := (HB.out.cell (i := 10)).trans X10.out; have c11 := (HB.out.cell (i := 11)).trans X11.out))
  have c9 := (HB.out.cell (i := 9)).trans X9.out
  refine wp_region_held_drew (S := (fun W => W.cell? ⟨g, 10, none⟩ = some (.int .i64 lv) ∧ W.cell? ⟨g, 9, none⟩ = some (.int .i64 en) ∧ Boxd W g C 23)) (by kernel_rfl) ⟨c10, c9, HB.out⟩ (fun hHeld => ?_)
  refine ByHand.take_yes (v := ?_) 0 41 rfl rfl (by kernel_rfl) (by kernel_rfl) (by kernel_rfl) (fun _ _ _ h => h) (by rfl) ?_ (by assumption) ?_
  rotate_left
  · intro w' hSw
    (try dsimp only at hSw)
    go_simp
    all_goals with_reducible rfl
  (try simp only [Act.put, List.setIfInBounds_toArray, List.set_cons_zero, List.set_cons_succ])
  refine ByHand.take_yes (v := ?_) 1 42 rfl rfl (by kernel_rfl) (by kernel_rfl) (by kernel_rfl) (fun _ _ _ h => h) (by rfl) ?_ (by assumption) ?_
  rotate_left
  · intro w' hSw
    (try dsimp only at hSw)
    go_simp
    all_goals with_reducible rfl
  (try simp only [Act.put, List.setIfInBounds_toArray, List.set_cons_zero, List.set_cons_succ])
  refine ByHand.take_yes (v := ?_) 2 43 rfl rfl (by kernel_rfl) (by kernel_rfl) (by kernel_rfl) (fun _ _ _ h => h) (by rfl) ?_ (by assumption) ?_
  rotate_left
  · intro w' hSw
    (try dsimp only at hSw)
    go_simp
    all_goals with_reducible rfl
  (try simp only [Act.put, List.setIfInBounds_toArray, List.set_cons_zero, List.set_cons_succ])
  refine ByHand.take_yes (v := ?_) 3 44 rfl rfl (by kernel_rfl) (by kernel_rfl) (by kernel_rfl) (fun _ _ _ h => h) (by rfl) ?_ (by assumption) ?_
  rotate_left
  · intro w' hSw
    (try dsimp only at hSw)
    go_simp
    all_goals with_reducible rfl
  (try simp only [Act.put, List.setIfInBounds_toArray, List.set_cons_zero, List.set_cons_succ])
  refine ByHand.take_yes (v := ?_) 4 45 rfl rfl (by kernel_rfl) (by kernel_rfl) (by kernel_rfl) (fun _ _ _ h => h) (by rfl) ?_ (by assumption) ?_
  rotate_left
  · intro w' hSw
    (try dsimp only at hSw)
    go_simp
    all_goals with_reducible rfl
  (try simp only [Act.put, List.setIfInBounds_toArray, List.set_cons_zero, List.set_cons_succ])
  refine wpAnyH_ready (rs := [5]) (by kernel_rfl) (by simp) (AllReadyH.cons rfl (fun K hK => ?_) AllReadyH.nil)
  go_simp
  refine (KW.out _).mono ?_
  rintro e y8 ⟨rfl, hb⟩
  replace hb := drawn_below hb
  replace HB := Lib.hid (HB.out.below hb)
  replace HW := Lib.hid (below_to HW.out hb)
  clear hb c10 c9
  have c10 := (HB.out.cell (i := 10)).trans X10.out
  have c9 := (HB.out.cell (i := 9)).trans X9.out
  go_wp2_with fail
  refine hK.out _ _ ?_ (fun hHeld => ?_)
  · exact ⟨c10, c9, HB.out⟩
  clear hK K
  (try simp only [Act.put, List.setIfInBounds_toArray, List.set_cons_zero, List.set_cons_succ])
  refine wpAnyH_ready (rs := [6]) (by kernel_rfl) (by simp) (AllReadyH.cons rfl (fun K hK => ?_) AllReadyH.nil)
  go_simp
  refine (KS.out _).mono ?_
  rintro e y7 ⟨rfl, hb⟩
  replace HB := Lib.hid (HB.out.below hb)
  replace HW := Lib.hid (below_to HW.out hb)
  clear hb c10 c9
  have c10 := (HB.out.cell (i := 10)).trans X10.out
  have c9 := (HB.out.cell (i := 9)).trans X9.out
  go_wp2_with fail
  refine hK.out _ _ ?_ (fun hHeld => ?_)
  · exact ⟨c10, c9, HB.out⟩
  clear hK K
  (try simp only [Act.put, List.setIfInBounds_toArray, List.set_cons_zero, List.set_cons_succ])
  refine ByHand.take_yes (v := ?_) 7 40 rfl rfl (by kernel_rfl) (by kernel_rfl) (by kernel_rfl) (fun _ _ _ h => h) (by rfl) ?_ (by assumption) ?_
  rotate_left
  · intro w' hSw
    (try dsimp only at hSw)
    go_simp
    all_goals with_reducible rfl
  (try simp only [Act.put, List.setIfInBounds_toArray, List.set_cons_zero, List.set_cons_succ])
  refine ByHand.take_yes (v := ?_) 8 48 rfl rfl (by kernel_rfl) (by kernel_rfl) (by kernel_rfl) (fun _ _ _ h => h) (by rfl) ?_ (by assumption) ?_
  rotate_left
  · intro w' hSw
    (try dsimp only at hSw)
    go_simp
    all_goals with_reducible rfl
  (try simp only [Act.put, List.setIfInBounds_toArray, List.set_cons_zero, List.set_cons_succ])
  refine ByHand.take_yes (v := ?_) 9 49 rfl rfl (by kernel_rfl) (by kernel_rfl) (by kernel_rfl) (fun _ _ _ h => h) (by rfl) ?_ (by assumption) ?_
  rotate_left
  · intro w' hSw
    (try dsimp only at hSw)
    go_simp
    all_goals with_reducible rfl
  (try simp only [Act.put, List.setIfInBounds_toArray, List.set_cons_zero, List.set_cons_succ])
  refine ByHand.take_yes (v := ?_) 10 9 rfl rfl (by kernel_rfl) (by kernel_rfl) (by kernel_rfl) (fun _ _ _ h => h) (by rfl) ?_ (by assumption) ?_
  rotate_left
  · intro w' hSw
    (try dsimp only at hSw)
    go_simp
    all_goals with_reducible rfl
  (try simp only [Act.put, List.setIfInBounds_toArray, List.set_cons_zero, List.set_cons_succ])
  refine ByHand.take_yes (v := ?_) 11 10 rfl rfl (by kernel_rfl) (by kernel_rfl) (by kernel_rfl) (fun _ _ _ h => h) (by rfl) ?_ (by assumption) ?_
  rotate_left
  · intro w' hSw
    (try dsimp only at hSw)
    go_simp
    all_goals with_reducible rfl
  (try simp only [Act.put, List.setIfInBounds_toArray, List.set_cons_zero, List.set_cons_succ])
  refine wpAnyH_done (by kernel_rfl) ?_ _
  go_wp2_with (first
    | (refine o_load (by rfl) 23 _ rfl _ rfl _ _ _ HB.out Tryz.underlying23 rfl HS.out ?_)
    | (go_at_call 19; (with_reducible refine (KO.out _).mono ?_); rintro e y5 ⟨rfl, hb⟩; replace HB := Lib.hid (HB.out.below hb); replace HW := Lib.hid (below_to HW.out hb); clear hb; have c10 := (HB.out.cell (i := 10)).trans X10.out; have c11 := (HB.out.cell (i := 11)).trans X11.out))
  go_ret2
  exact ⟨rfl, HW.out⟩
set_option maxRecDepth 20000 in
set_option maxHeartbeats 2000000 in
theorem r_of_ok3 (l : Ln) (day : Int) (w : World) (hg : goodL l = true) (hd : Date.dayB day = true) (hp : partB l = true) (hs : Step.oE l.level (Due.whoV l.entered day) = 0) (ho : (owesR l).2 = 0) : Calls Tryz.prog 45 #[.agg l.cells, .int .i64 3, .int .i64 day] w fun e w' => e = .returned (.tuple #[.int .i64 (if (owesR l).1 < (Step.oV l.level (Due.whoV l.entered day)) then (owesR l).1 else (Step.oV l.level (Due.whoV l.entered day))), .int .i64 0]) ∧ Below w.heap.size w w' := by
  obtain ⟨g, wb, e1, e2, hB, hb⟩ := boxd_new w l.cells 23
  have HB := Lib.hid hB
  have HW := Lib.hid hb
  clear hB hb
  have HS := Lib.hid (ln_info l)
  have KG := Lib.hid (fun W => RLoan.r_good l W)
  have KD := Lib.hid (fun W => Date.rday_any day W)
  have KT := Lib.hid (fun W => r_part l W)
  have KO := Lib.hid (fun W => RLoan.r_owes l W)
  have X9 : Hid (l.cells[9]? = some (.int .i64 l.entered)) := show _ = _ from rfl
  have X10 : Hid (l.cells[10]? = some (.int .i64 l.level)) := show _ = _ from rfl
  have X11 : Hid (l.cells[11]? = some (.int .i64 l.far)) := show _ = _ from rfl
  rw [hg] at KG
  rw [hd] at KD
  rw [hp] at KT
  have KW := Lib.hid (fun W => Due.r_whole l.entered day W)
  have hwi := who_in l.entered day
  have KS := Lib.hid (fun W => Step.r_of l.level (Due.whoV l.entered day) W (by omega))
  clear hwi
  have t9 : (Step.oE l.level (Due.whoV l.entered day) != 0) = false := by rw [hs]; rfl
  have t8 : ((owesR l).2 != 0) = false := by rw [ho]; rfl
  obtain ⟨q, hq⟩ : ∃ q, (if (owesR l).1 < (Step.oV l.level (Due.whoV l.entered day)) then (owesR l).1 else (Step.oV l.level (Due.whoV l.entered day))) = q := ⟨_, rfl⟩
  rw [hq]
  clear hg hd hp hs ho
  generalize Due.whoV l.entered day = m at *
  generalize Step.oV l.level m = sv at *
  generalize Step.oE l.level m = se at *
  generalize (owesR l).1 = ov at *
  generalize (owesR l).2 = oe at *
  generalize l.entered = en at *
  generalize l.level = lv at *
  generalize l.far = fr at *
  generalize l.cells = C at *
  go_enter Tryz.func45, Tryz.ntmps45
  go_upto_region 1 with fail
  rw [← e2, ← e1]
  clear e1 e2
  go_upto_region 9 with (first
    | (refine o_load (by rfl) 23 _ rfl _ rfl _ _ _ HB.out Tryz.underlying23 rfl HS.out ?_)
    | (go_at_call 26; (with_reducible refine (KG.out _).mono ?_); rintro e y ⟨rfl, hb⟩; replace HB := Lib.hid (HB.out.below hb); replace HW := Lib.hid (below_to HW.out hb); clear hb; have c10 := (HB.out.cell (i := 10)).trans X10.out; have c11 := (HB.out.cell (i := 11)).trans X11.out)
    | (go_at_call 43; (with_reducible refine (KD.out _).mono ?_); rintro e y2 ⟨rfl, rfl⟩)
    | (go_at_call 18; (with_reducible refine (KT.out _).mono ?_); rintro e y3 ⟨rfl, hb⟩; replace HB := Lib.hid (HB.out.below hb); replace HW := Lib.hid (below_to HW.out hb); clear hb; have c10 := (HB.out.cell (i := 10)).trans X10.out; have c11 := (HB.out.cell (i := 11)).trans X11.out))
  have c9 := (HB.out.cell (i := 9)).trans X9.out
  refine wp_region_held_drew (S := (fun W => W.cell? ⟨g, 10, none⟩ = some (.int .i64 lv) ∧ W.cell? ⟨g, 9, none⟩ = some (.int .i64 en) ∧ Boxd W g C 23)) (by kernel_rfl) ⟨c10, c9, HB.out⟩ (fun hHeld => ?_)
  refine ByHand.take_yes (v := ?_) 0 41 rfl rfl (by kernel_rfl) (by kernel_rfl) (by kernel_rfl) (fun _ _ _ h => h) (by rfl) ?_ (by assumption) ?_
  rotate_left
  · intro w' hSw
    (try dsimp only at hSw)
    go_simp
    all_goals with_reducible rfl
  (try simp only [Act.put, List.setIfInBounds_toArray, List.set_cons_zero, List.set_cons_succ])
  refine ByHand.take_yes (v := ?_) 1 42 rfl rfl (by kernel_rfl) (by kernel_rfl) (by kernel_rfl) (fun _ _ _ h => h) (by rfl) ?_ (by assumption) ?_
  rotate_left
  · intro w' hSw
    (try dsimp only at hSw)
    go_simp
    all_goals with_reducible rfl
  (try simp only [Act.put, List.setIfInBounds_toArray, List.set_cons_zero, List.set_cons_succ])
  refine ByHand.take_yes (v := ?_) 2 43 rfl rfl (by kernel_rfl) (by kernel_rfl) (by kernel_rfl) (fun _ _ _ h => h) (by rfl) ?_ (by assumption) ?_
  rotate_left
  · intro w' hSw
    (try dsimp only at hSw)
    go_simp
    all_goals with_reducible rfl
  (try simp only [Act.put, List.setIfInBounds_toArray, List.set_cons_zero, List.set_cons_succ])
  refine ByHand.take_yes (v := ?_) 3 44 rfl rfl (by kernel_rfl) (by kernel_rfl) (by kernel_rfl) (fun _ _ _ h => h) (by rfl) ?_ (by assumption) ?_
  rotate_left
  · intro w' hSw
    (try dsimp only at hSw)
    go_simp
    all_goals with_reducible rfl
  (try simp only [Act.put, List.setIfInBounds_toArray, List.set_cons_zero, List.set_cons_succ])
  refine ByHand.take_yes (v := ?_) 4 45 rfl rfl (by kernel_rfl) (by kernel_rfl) (by kernel_rfl) (fun _ _ _ h => h) (by rfl) ?_ (by assumption) ?_
  rotate_left
  · intro w' hSw
    (try dsimp only at hSw)
    go_simp
    all_goals with_reducible rfl
  (try simp only [Act.put, List.setIfInBounds_toArray, List.set_cons_zero, List.set_cons_succ])
  refine wpAnyH_ready (rs := [5]) (by kernel_rfl) (by simp) (AllReadyH.cons rfl (fun K hK => ?_) AllReadyH.nil)
  go_simp
  refine (KW.out _).mono ?_
  rintro e y8 ⟨rfl, hb⟩
  replace hb := drawn_below hb
  replace HB := Lib.hid (HB.out.below hb)
  replace HW := Lib.hid (below_to HW.out hb)
  clear hb c10 c9
  have c10 := (HB.out.cell (i := 10)).trans X10.out
  have c9 := (HB.out.cell (i := 9)).trans X9.out
  go_wp2_with fail
  refine hK.out _ _ ?_ (fun hHeld => ?_)
  · exact ⟨c10, c9, HB.out⟩
  clear hK K
  (try simp only [Act.put, List.setIfInBounds_toArray, List.set_cons_zero, List.set_cons_succ])
  refine wpAnyH_ready (rs := [6]) (by kernel_rfl) (by simp) (AllReadyH.cons rfl (fun K hK => ?_) AllReadyH.nil)
  go_simp
  refine (KS.out _).mono ?_
  rintro e y7 ⟨rfl, hb⟩
  replace HB := Lib.hid (HB.out.below hb)
  replace HW := Lib.hid (below_to HW.out hb)
  clear hb c10 c9
  have c10 := (HB.out.cell (i := 10)).trans X10.out
  have c9 := (HB.out.cell (i := 9)).trans X9.out
  go_wp2_with fail
  refine hK.out _ _ ?_ (fun hHeld => ?_)
  · exact ⟨c10, c9, HB.out⟩
  clear hK K
  (try simp only [Act.put, List.setIfInBounds_toArray, List.set_cons_zero, List.set_cons_succ])
  refine ByHand.take_yes (v := ?_) 7 40 rfl rfl (by kernel_rfl) (by kernel_rfl) (by kernel_rfl) (fun _ _ _ h => h) (by rfl) ?_ (by assumption) ?_
  rotate_left
  · intro w' hSw
    (try dsimp only at hSw)
    go_simp
    all_goals with_reducible rfl
  (try simp only [Act.put, List.setIfInBounds_toArray, List.set_cons_zero, List.set_cons_succ])
  refine ByHand.take_yes (v := ?_) 8 48 rfl rfl (by kernel_rfl) (by kernel_rfl) (by kernel_rfl) (fun _ _ _ h => h) (by rfl) ?_ (by assumption) ?_
  rotate_left
  · intro w' hSw
    (try dsimp only at hSw)
    go_simp
    all_goals with_reducible rfl
  (try simp only [Act.put, List.setIfInBounds_toArray, List.set_cons_zero, List.set_cons_succ])
  refine ByHand.take_yes (v := ?_) 9 49 rfl rfl (by kernel_rfl) (by kernel_rfl) (by kernel_rfl) (fun _ _ _ h => h) (by rfl) ?_ (by assumption) ?_
  rotate_left
  · intro w' hSw
    (try dsimp only at hSw)
    go_simp
    all_goals with_reducible rfl
  (try simp only [Act.put, List.setIfInBounds_toArray, List.set_cons_zero, List.set_cons_succ])
  refine ByHand.take_yes (v := ?_) 10 9 rfl rfl (by kernel_rfl) (by kernel_rfl) (by kernel_rfl) (fun _ _ _ h => h) (by rfl) ?_ (by assumption) ?_
  rotate_left
  · intro w' hSw
    (try dsimp only at hSw)
    go_simp
    all_goals with_reducible rfl
  (try simp only [Act.put, List.setIfInBounds_toArray, List.set_cons_zero, List.set_cons_succ])
  refine ByHand.take_yes (v := ?_) 11 10 rfl rfl (by kernel_rfl) (by kernel_rfl) (by kernel_rfl) (fun _ _ _ h => h) (by rfl) ?_ (by assumption) ?_
  rotate_left
  · intro w' hSw
    (try dsimp only at hSw)
    go_simp
    all_goals with_reducible rfl
  (try simp only [Act.put, List.setIfInBounds_toArray, List.set_cons_zero, List.set_cons_succ])
  refine wpAnyH_done (by kernel_rfl) ?_ _
  go_wp2_with (first
    | (refine o_load (by rfl) 23 _ rfl _ rfl _ _ _ HB.out Tryz.underlying23 rfl HS.out ?_)
    | (go_at_call 19; (with_reducible refine (KO.out _).mono ?_); rintro e y5 ⟨rfl, hb⟩; replace HB := Lib.hid (HB.out.below hb); replace HW := Lib.hid (below_to HW.out hb); clear hb; have c10 := (HB.out.cell (i := 10)).trans X10.out; have c11 := (HB.out.cell (i := 11)).trans X11.out))
  go_ret2
  exact ⟨rfl, HW.out⟩
set_option maxRecDepth 20000 in
set_option maxHeartbeats 2000000 in
theorem r_of_step (l : Ln) (day : Int) (w : World) (hg : goodL l = true) (hd : Date.dayB day = true) (hp : partB l = true) (hs : Step.oE l.level (Due.whoV l.entered day) ≠ 0) : Calls Tryz.prog 45 #[.agg l.cells, .int .i64 3, .int .i64 day] w fun e w' => e = .returned (.tuple #[.int .i64 0, .int .i64 (Step.oE l.level (Due.whoV l.entered day))]) ∧ Below w.heap.size w w' := by
  obtain ⟨g, wb, e1, e2, hB, hb⟩ := boxd_new w l.cells 23
  have HB := Lib.hid hB
  have HW := Lib.hid hb
  clear hB hb
  have HS := Lib.hid (ln_info l)
  have KG := Lib.hid (fun W => RLoan.r_good l W)
  have KD := Lib.hid (fun W => Date.rday_any day W)
  have KT := Lib.hid (fun W => r_part l W)
  have KO := Lib.hid (fun W => RLoan.r_owes l W)
  have X9 : Hid (l.cells[9]? = some (.int .i64 l.entered)) := show _ = _ from rfl
  have X10 : Hid (l.cells[10]? = some (.int .i64 l.level)) := show _ = _ from rfl
  have X11 : Hid (l.cells[11]? = some (.int .i64 l.far)) := show _ = _ from rfl
  rw [hg] at KG
  rw [hd] at KD
  rw [hp] at KT
  have KW := Lib.hid (fun W => Due.r_whole l.entered day W)
  have hwi := who_in l.entered day
  have KS := Lib.hid (fun W => Step.r_of l.level (Due.whoV l.entered day) W (by omega))
  clear hwi
  have t9 : (Step.oE l.level (Due.whoV l.entered day) != 0) = true := by rw [bne_iff_ne]; exact hs
  clear hg hd hp hs
  generalize Due.whoV l.entered day = m at *
  generalize Step.oV l.level m = sv at *
  generalize Step.oE l.level m = se at *
  generalize l.entered = en at *
  generalize l.level = lv at *
  generalize l.far = fr at *
  generalize l.cells = C at *
  go_enter Tryz.func45, Tryz.ntmps45
  go_upto_region 1 with fail
  rw [← e2, ← e1]
  clear e1 e2
  go_upto_region 9 with (first
    | (refine o_load (by rfl) 23 _ rfl _ rfl _ _ _ HB.out Tryz.underlying23 rfl HS.out ?_)
    | (go_at_call 26; (with_reducible refine (KG.out _).mono ?_); rintro e y ⟨rfl, hb⟩; replace HB := Lib.hid (HB.out.below hb); replace HW := Lib.hid (below_to HW.out hb); clear hb; have c10 := (HB.out.cell (i := 10)).trans X10.out; have c11 := (HB.out.cell (i := 11)).trans X11.out)
    | (go_at_call 43; (with_reducible refine (KD.out _).mono ?_); rintro e y2 ⟨rfl, rfl⟩)
    | (go_at_call 18; (with_reducible refine (KT.out _).mono ?_); rintro e y3 ⟨rfl, hb⟩; replace HB := Lib.hid (HB.out.below hb); replace HW := Lib.hid (below_to HW.out hb); clear hb; have c10 := (HB.out.cell (i := 10)).trans X10.out; have c11 := (HB.out.cell (i := 11)).trans X11.out))
  have c9 := (HB.out.cell (i := 9)).trans X9.out
  refine wp_region_held_drew (S := (fun W => W.cell? ⟨g, 10, none⟩ = some (.int .i64 lv) ∧ W.cell? ⟨g, 9, none⟩ = some (.int .i64 en) ∧ Boxd W g C 23)) (by kernel_rfl) ⟨c10, c9, HB.out⟩ (fun hHeld => ?_)
  refine ByHand.take_yes (v := ?_) 0 41 rfl rfl (by kernel_rfl) (by kernel_rfl) (by kernel_rfl) (fun _ _ _ h => h) (by rfl) ?_ (by assumption) ?_
  rotate_left
  · intro w' hSw
    (try dsimp only at hSw)
    go_simp
    all_goals with_reducible rfl
  (try simp only [Act.put, List.setIfInBounds_toArray, List.set_cons_zero, List.set_cons_succ])
  refine ByHand.take_yes (v := ?_) 1 42 rfl rfl (by kernel_rfl) (by kernel_rfl) (by kernel_rfl) (fun _ _ _ h => h) (by rfl) ?_ (by assumption) ?_
  rotate_left
  · intro w' hSw
    (try dsimp only at hSw)
    go_simp
    all_goals with_reducible rfl
  (try simp only [Act.put, List.setIfInBounds_toArray, List.set_cons_zero, List.set_cons_succ])
  refine ByHand.take_yes (v := ?_) 2 43 rfl rfl (by kernel_rfl) (by kernel_rfl) (by kernel_rfl) (fun _ _ _ h => h) (by rfl) ?_ (by assumption) ?_
  rotate_left
  · intro w' hSw
    (try dsimp only at hSw)
    go_simp
    all_goals with_reducible rfl
  (try simp only [Act.put, List.setIfInBounds_toArray, List.set_cons_zero, List.set_cons_succ])
  refine ByHand.take_yes (v := ?_) 3 44 rfl rfl (by kernel_rfl) (by kernel_rfl) (by kernel_rfl) (fun _ _ _ h => h) (by rfl) ?_ (by assumption) ?_
  rotate_left
  · intro w' hSw
    (try dsimp only at hSw)
    go_simp
    all_goals with_reducible rfl
  (try simp only [Act.put, List.setIfInBounds_toArray, List.set_cons_zero, List.set_cons_succ])
  refine ByHand.take_yes (v := ?_) 4 45 rfl rfl (by kernel_rfl) (by kernel_rfl) (by kernel_rfl) (fun _ _ _ h => h) (by rfl) ?_ (by assumption) ?_
  rotate_left
  · intro w' hSw
    (try dsimp only at hSw)
    go_simp
    all_goals with_reducible rfl
  (try simp only [Act.put, List.setIfInBounds_toArray, List.set_cons_zero, List.set_cons_succ])
  refine wpAnyH_ready (rs := [5]) (by kernel_rfl) (by simp) (AllReadyH.cons rfl (fun K hK => ?_) AllReadyH.nil)
  go_simp
  refine (KW.out _).mono ?_
  rintro e y8 ⟨rfl, hb⟩
  replace hb := drawn_below hb
  replace HB := Lib.hid (HB.out.below hb)
  replace HW := Lib.hid (below_to HW.out hb)
  clear hb c10 c9
  have c10 := (HB.out.cell (i := 10)).trans X10.out
  have c9 := (HB.out.cell (i := 9)).trans X9.out
  go_wp2_with fail
  refine hK.out _ _ ?_ (fun hHeld => ?_)
  · exact ⟨c10, c9, HB.out⟩
  clear hK K
  (try simp only [Act.put, List.setIfInBounds_toArray, List.set_cons_zero, List.set_cons_succ])
  refine wpAnyH_ready (rs := [6]) (by kernel_rfl) (by simp) (AllReadyH.cons rfl (fun K hK => ?_) AllReadyH.nil)
  go_simp
  refine (KS.out _).mono ?_
  rintro e y7 ⟨rfl, hb⟩
  replace HB := Lib.hid (HB.out.below hb)
  replace HW := Lib.hid (below_to HW.out hb)
  clear hb c10 c9
  have c10 := (HB.out.cell (i := 10)).trans X10.out
  have c9 := (HB.out.cell (i := 9)).trans X9.out
  go_wp2_with fail
  refine hK.out _ _ ?_ (fun hHeld => ?_)
  · exact ⟨c10, c9, HB.out⟩
  clear hK K
  (try simp only [Act.put, List.setIfInBounds_toArray, List.set_cons_zero, List.set_cons_succ])
  refine ByHand.take_yes (v := ?_) 7 40 rfl rfl (by kernel_rfl) (by kernel_rfl) (by kernel_rfl) (fun _ _ _ h => h) (by rfl) ?_ (by assumption) ?_
  rotate_left
  · intro w' hSw
    (try dsimp only at hSw)
    go_simp
    all_goals with_reducible rfl
  (try simp only [Act.put, List.setIfInBounds_toArray, List.set_cons_zero, List.set_cons_succ])
  refine ByHand.take_yes (v := ?_) 8 48 rfl rfl (by kernel_rfl) (by kernel_rfl) (by kernel_rfl) (fun _ _ _ h => h) (by rfl) ?_ (by assumption) ?_
  rotate_left
  · intro w' hSw
    (try dsimp only at hSw)
    go_simp
    all_goals with_reducible rfl
  (try simp only [Act.put, List.setIfInBounds_toArray, List.set_cons_zero, List.set_cons_succ])
  refine ByHand.take_yes (v := ?_) 9 49 rfl rfl (by kernel_rfl) (by kernel_rfl) (by kernel_rfl) (fun _ _ _ h => h) (by rfl) ?_ (by assumption) ?_
  rotate_left
  · intro w' hSw
    (try dsimp only at hSw)
    go_simp
    all_goals with_reducible rfl
  (try simp only [Act.put, List.setIfInBounds_toArray, List.set_cons_zero, List.set_cons_succ])
  refine ByHand.take_yes (v := ?_) 10 9 rfl rfl (by kernel_rfl) (by kernel_rfl) (by kernel_rfl) (fun _ _ _ h => h) (by rfl) ?_ (by assumption) ?_
  rotate_left
  · intro w' hSw
    (try dsimp only at hSw)
    go_simp
    all_goals with_reducible rfl
  (try simp only [Act.put, List.setIfInBounds_toArray, List.set_cons_zero, List.set_cons_succ])
  refine ByHand.take_yes (v := ?_) 11 10 rfl rfl (by kernel_rfl) (by kernel_rfl) (by kernel_rfl) (fun _ _ _ h => h) (by rfl) ?_ (by assumption) ?_
  rotate_left
  · intro w' hSw
    (try dsimp only at hSw)
    go_simp
    all_goals with_reducible rfl
  (try simp only [Act.put, List.setIfInBounds_toArray, List.set_cons_zero, List.set_cons_succ])
  refine wpAnyH_done (by kernel_rfl) ?_ _
  go_wp2_with fail
  go_ret2
  exact ⟨rfl, HW.out⟩
theorem rp_of (l : Ln) (how day : Int) (w : World) : Calls Tryz.prog 45 #[.agg l.cells, .int .i64 how, .int .i64 day] w fun e w' => e = .returned (.tuple #[.int .i64 (ofR how day l).1, .int .i64 (ofR how day l).2]) ∧ Below w.heap.size w w' := by
  cases hg : goodL l with
  | false =>
    rw [show ofR how day l = (0, 1) by unfold ofR; rw [if_neg (by rw [hg]; simp)]]
    exact r_of_bad l how day w hg
  | true =>
    by_cases h1 : how < 1
    · rw [show ofR how day l = (0, 1) by unfold ofR; rw [if_neg (fun h => by omega)]]
      exact r_of_low l how day w hg h1
    · by_cases h2 : 3 < how
      · rw [show ofR how day l = (0, 1) by unfold ofR; rw [if_neg (fun h => by omega)]]
        exact r_of_high l how day w hg h1 h2
      · cases hd : Date.dayB day with
        | false =>
          rw [show ofR how day l = (0, 1) by unfold ofR; rw [if_neg (by rw [hd]; simp)]]
          exact r_of_day l how day w hg h1 h2 hd
        | true =>
          cases hp : partB l with
          | false =>
            rw [show ofR how day l = (0, 0) by unfold ofR; rw [if_pos ⟨hg, by omega, hd⟩, if_neg (by rw [hp]; simp)]]
            exact r_of_none l how day w hg h1 h2 hd hp
          | true =>
            rw [show ofR how day l = ofO how day l by unfold ofR; rw [if_pos ⟨hg, by omega, hd⟩, if_pos hp]]
            rcases (show how = 1 ∨ how = 2 ∨ how = 3 by omega) with rfl | rfl | rfl
            · have ea : askR 1 day l = (l.level, 0) := by unfold askR; rw [if_pos rfl]
              unfold ofO
              rw [ea]
              by_cases ho : (owesR l).2 = 0
              · rw [if_pos rfl, if_pos ho]
                exact r_of_ok1 l day w hg hd hp ho
              · rw [if_pos rfl, if_neg ho]
                exact r_of_owes1 l day w hg hd hp ho
            · have ea : askR 2 day l = (l.far, 0) := by unfold askR; rw [if_neg (by decide), if_pos rfl]
              unfold ofO
              rw [ea]
              by_cases ho : (owesR l).2 = 0
              · rw [if_pos rfl, if_pos ho]
                exact r_of_ok2 l day w hg hd hp ho
              · rw [if_pos rfl, if_neg ho]
                exact r_of_owes2 l day w hg hd hp ho
            · have ea : askR 3 day l = (Step.oV l.level (Due.whoV l.entered day), Step.oE l.level (Due.whoV l.entered day)) := by unfold askR; rw [if_neg (by decide), if_neg (by decide)]
              unfold ofO
              rw [ea]
              by_cases hs : Step.oE l.level (Due.whoV l.entered day) = 0
              · rw [if_pos hs]
                by_cases ho : (owesR l).2 = 0
                · rw [if_pos ho]
                  exact r_of_ok3 l day w hg hd hp hs ho
                · rw [if_neg ho]
                  exact r_of_owes3 l day w hg hd hp hs ho
              · rw [if_neg hs]
                exact r_of_step l day w hg hd hp hs
end Go.Proofs.YtkddiaiohnbjpaaGreatDoor.Plan
