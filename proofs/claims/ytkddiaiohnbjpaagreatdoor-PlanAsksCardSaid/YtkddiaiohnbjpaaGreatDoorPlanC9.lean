/- Of layer 18: what all loans of a state are asked. -/
import Derived.Test.YtkddiaiohnbjpaaGreatDoorPlanC8
namespace Go.Proofs.YtkddiaiohnbjpaaGreatDoor.Plan
open Go.ChangeShapes Go.WideShapes Go.ChangeAt Go.RowKit Loan Money Box Rws Slice MapF

/-- What stands while Asks goes: its boxes, the listed tables. -/
structure At (w0 W : World) (g3 g4 : Nat) (C3 C4 : Array Value) : Prop where
  low : Below w0.heap.size w0 W
  b3 : Boxd W g3 C3 45
  b4 : Boxd W g4 C4 38
  l1 : Date.Laid W
  l2 : Step.Laid W
theorem At.below {w0 W W' : World} {g3 g4 : Nat} {C3 C4 : Array Value} (h : At w0 W g3 g4 C3 C4) (hb : Below W.heap.size W W') : At w0 W' g3 g4 C3 C4 := ⟨below_to h.low hb, h.b3.below hb, h.b4.below hb, h.l1.of hb, h.l2.of hb⟩
theorem At.drewN {w0 W W' : World} {g3 g4 : Nat} {C3 C4 : Array Value} {n : Nat} (h : At w0 W g3 g4 C3 C4) (hw : W' = W.drewN n) : At w0 W' g3 g4 C3 C4 := h.below (by rw [hw]; exact below_drewN (Below.refl _ _) n)
/-- Loans that lie below a mark. -/
def Part (W : World) (BT : Nat) (u : Value) (P : List Ln) : Prop := Lns W BT u P ∧ BT ≤ W.heap.size
theorem Part.below {W W' : World} {BT : Nat} {u : Value} {P : List Ln} (h : Part W BT u P) (hb : Below W.heap.size W W') : Part W' BT u P := ⟨h.1.below (hb.mono h.2), Nat.le_trans h.2 hb.size⟩
/-- What Asks tells, as memory has it. -/
def AskTold (R : List Int × List Int × Int) (w : World) (e : Ending) (w' : World) : Prop := ∃ u1 u2, e = .returned (.tuple #[u1, u2, .int .i64 R.2.2]) ∧ Ints w' w'.heap.size .i64 u1 R.1 ∧ Ints w' w'.heap.size .i64 u2 R.2.1 ∧ Below w.heap.size w w'
theorem ask_none (n : Int) {w w' : World} (hb : Below w.heap.size w w') : AskTold ([], [], n) w (.returned (.tuple #[.slice none 0 0, .slice none 0 0, .int .i64 n])) w' := ⟨_, _, rfl, Ints.nil_ _ _ _, Ints.nil_ _ _ _, hb⟩
/-- The ids and what is asked, or the error alone. -/
def finR (ids : List Int) (r : List Int × Int) : List Int × List Int × Int := if r.2 = 0 then (ids, r.1, 0) else ([], [], r.2)
theorem fin_yes {ids : List Int} {r : List Int × Int} (h : r.2 = 0) : finR ids r = (ids, r.1, 0) := by unfold finR; rw [if_pos h]
theorem fin_no {ids : List Int} {r : List Int × Int} (h : r.2 ≠ 0) : finR ids r = ([], [], r.2) := by unfold finR; rw [if_neg h]
/-- Do the places fit, where Asks comes to a sharing? -/
def FitsA (zs : List Int) (s : Sc) (day : Int) (L : List Ln) (Q : Nat → Nat) : Prop := (Income.tabB zs = true ∧ Date.dayB day = true ∧ L.all goodL = true) → holdsI s.plan s.since day = 4 → Fits zs s.fam s.inc (L.filter partB) Q
theorem cap_len (r : List Int × Int) (L : List Ln) : (capR r L).1.length ≤ L.length := by
  unfold capR
  split
  · split
    · rw [lessV_len]; exact Nat.le_refl _
    · simp
  · simp
theorem holds_in {p since day : Int} (h : In64 p) : In64 (holdsI p since day) := by
  unfold holdsI
  unfold In64 at *
  split
  · omega
  · split
    · split <;> omega
    · exact h
set_option maxRecDepth 20000 in
set_option maxHeartbeats 4000000 in
theorem asks_tab (mon : Int) (zs : List Int) (s : Sc) (day : Int) (L : List Ln) (pv lv bv : Value) (B : Nat) (w : World) (hB : B ≤ w.heap.size) (hp : Ints w B .i64 pv zs) (hv : Lns w B lv L) (hN : L.length ≤ 1000) (hs : In64 s.plan) (L1 : Date.Laid w) (L2 : Step.Laid w) (h1 : Income.tabB zs = false) : Calls Tryz.prog 13 #[.agg (cfg mon pv), .agg (s.cells lv bv), .int .i64 day] w (AskTold ([], [], 1) w) := by
  obtain ⟨A, c, rfl, hl, hn, hc⟩ := hp
  have HP : Hid (Ints w B .i64 (.slice A zs.length c) zs) := ⟨A, c, rfl, hl, hn, hc⟩
  obtain ⟨A2, k, rfl⟩ := hv.shape
  have HV : Hid (Lns w B (.slice A2 L.length k) L) := hv
  have HB := Lib.hid hB
  have HIN : Hid (In64 (holdsI s.plan s.since day)) := holds_in hs
  obtain ⟨g3, wb, e1, e2, hB3, hb3⟩ := boxd_new w (cfg mon (.slice A zs.length c)) 45
  obtain ⟨g4, wc, e3, e4, hB4, hb4⟩ := boxd_new wb (s.cells (.slice A2 L.length k) bv) 38
  have e5 : g4 = g3 + 1 := by rw [e3, e2, Deep.nblk_alloc, e1]
  have HA : Hid (At w wc g3 g4 (cfg mon (.slice A zs.length c)) (s.cells (.slice A2 L.length k) bv)) := ⟨below_to hb3 hb4, hB3.below hb4, hB4, (L1.of hb3).of hb4, (L2.of hb3).of hb4⟩
  have X31 : Hid ((cfg mon (.slice A zs.length c))[1]? = some (.slice A zs.length c)) := show _ = _ from rfl
  have X41 : Hid ((s.cells (.slice A2 L.length k) bv)[1]? = some (.slice A2 L.length k)) := show _ = _ from rfl
  have c31 := (HA.out.b3.cell (i := 1)).trans X31.out
  have c41 := (HA.out.b4.cell (i := 1)).trans X41.out
  have S4 := Lib.hid (sc_info s (.slice A2 L.length k) bv)
  have hmf := make_fn
  clear hl hn hc hv hB hB3 hb3 hB4 hb4 L1 L2 hs
  have KGI := Lib.hid (fun W h => Income.good_any zs (.slice A zs.length c) B W h)
  have KD := Lib.hid (fun W L => Date.d_good day W L)
  have KC := Lib.hid (fun W hB h => c_contains L (.slice A2 L.length k) B W hB h)
  have KT := Lib.hid (fun W hB h => c_taking L (.slice A2 L.length k) B W hB h hN)
  have KPL := Lib.hid (fun W => c_plans day W)
  have KH := Lib.hid (fun W hL => c_holds s (.slice A2 L.length k) bv day W hL)
  rw [h1] at KGI
  clear h1
  generalize cfg mon (.slice A zs.length c) = C3 at *
  generalize s.cells (.slice A2 L.length k) bv = C4 at *
  go_enter Tryz.func13, Tryz.ntmps13
  go_upto_region 1 with fail
  rw [← e2, ← e1, ← e5, ← e4]
  clear e1 e2 e3 e4 e5
  go_wp2_with (first
    | (go_at_call 32; (refine (KGI.out _ (HP.out.below (HA.out.low.mono HB.out))).mono ?_); rintro e y ⟨rfl, nn, hw⟩; replace HA := Lib.hid (HA.out.drewN hw); clear hw; have c31 := (HA.out.b3.cell (i := 1)).trans X31.out; have c41 := (HA.out.b4.cell (i := 1)).trans X41.out))
  go_ret3
  exact ask_none 1 HA.out.low
set_option maxRecDepth 20000 in
set_option maxHeartbeats 4000000 in
theorem asks_day (mon : Int) (zs : List Int) (s : Sc) (day : Int) (L : List Ln) (pv lv bv : Value) (B : Nat) (w : World) (hB : B ≤ w.heap.size) (hp : Ints w B .i64 pv zs) (hv : Lns w B lv L) (hN : L.length ≤ 1000) (hs : In64 s.plan) (L1 : Date.Laid w) (L2 : Step.Laid w) (h1 : Income.tabB zs = true) (h2 : Date.dayB day = false) : Calls Tryz.prog 13 #[.agg (cfg mon pv), .agg (s.cells lv bv), .int .i64 day] w (AskTold ([], [], 1) w) := by
  obtain ⟨A, c, rfl, hl, hn, hc⟩ := hp
  have HP : Hid (Ints w B .i64 (.slice A zs.length c) zs) := ⟨A, c, rfl, hl, hn, hc⟩
  obtain ⟨A2, k, rfl⟩ := hv.shape
  have HV : Hid (Lns w B (.slice A2 L.length k) L) := hv
  have HB := Lib.hid hB
  have HIN : Hid (In64 (holdsI s.plan s.since day)) := holds_in hs
  obtain ⟨g3, wb, e1, e2, hB3, hb3⟩ := boxd_new w (cfg mon (.slice A zs.length c)) 45
  obtain ⟨g4, wc, e3, e4, hB4, hb4⟩ := boxd_new wb (s.cells (.slice A2 L.length k) bv) 38
  have e5 : g4 = g3 + 1 := by rw [e3, e2, Deep.nblk_alloc, e1]
  have HA : Hid (At w wc g3 g4 (cfg mon (.slice A zs.length c)) (s.cells (.slice A2 L.length k) bv)) := ⟨below_to hb3 hb4, hB3.below hb4, hB4, (L1.of hb3).of hb4, (L2.of hb3).of hb4⟩
  have X31 : Hid ((cfg mon (.slice A zs.length c))[1]? = some (.slice A zs.length c)) := show _ = _ from rfl
  have X41 : Hid ((s.cells (.slice A2 L.length k) bv)[1]? = some (.slice A2 L.length k)) := show _ = _ from rfl
  have c31 := (HA.out.b3.cell (i := 1)).trans X31.out
  have c41 := (HA.out.b4.cell (i := 1)).trans X41.out
  have S4 := Lib.hid (sc_info s (.slice A2 L.length k) bv)
  have hmf := make_fn
  clear hl hn hc hv hB hB3 hb3 hB4 hb4 L1 L2 hs
  have KGI := Lib.hid (fun W h => Income.good_any zs (.slice A zs.length c) B W h)
  have KD := Lib.hid (fun W L => Date.d_good day W L)
  have KC := Lib.hid (fun W hB h => c_contains L (.slice A2 L.length k) B W hB h)
  have KT := Lib.hid (fun W hB h => c_taking L (.slice A2 L.length k) B W hB h hN)
  have KPL := Lib.hid (fun W => c_plans day W)
  have KH := Lib.hid (fun W hL => c_holds s (.slice A2 L.length k) bv day W hL)
  rw [h1] at KGI
  rw [h2] at KD
  clear h1 h2
  generalize cfg mon (.slice A zs.length c) = C3 at *
  generalize s.cells (.slice A2 L.length k) bv = C4 at *
  go_enter Tryz.func13, Tryz.ntmps13
  go_upto_region 1 with fail
  rw [← e2, ← e1, ← e5, ← e4]
  clear e1 e2 e3 e4 e5
  go_wp2_with (first
    | (go_at_call 32; (refine (KGI.out _ (HP.out.below (HA.out.low.mono HB.out))).mono ?_); rintro e y ⟨rfl, nn, hw⟩; replace HA := Lib.hid (HA.out.drewN hw); clear hw; have c31 := (HA.out.b3.cell (i := 1)).trans X31.out; have c41 := (HA.out.b4.cell (i := 1)).trans X41.out)
    | (go_at_call 33; (refine (KD.out _ HA.out.l1).mono ?_); rintro e y2 ⟨rfl, hb⟩; replace HA := Lib.hid (HA.out.below hb); clear hb; have c31 := (HA.out.b3.cell (i := 1)).trans X31.out; have c41 := (HA.out.b4.cell (i := 1)).trans X41.out))
  go_ret3
  exact ask_none 1 HA.out.low
set_option maxRecDepth 20000 in
set_option maxHeartbeats 4000000 in
theorem asks_bad (mon : Int) (zs : List Int) (s : Sc) (day : Int) (L : List Ln) (pv lv bv : Value) (B : Nat) (w : World) (hB : B ≤ w.heap.size) (hp : Ints w B .i64 pv zs) (hv : Lns w B lv L) (hN : L.length ≤ 1000) (hs : In64 s.plan) (L1 : Date.Laid w) (L2 : Step.Laid w) (h1 : Income.tabB zs = true) (h2 : Date.dayB day = true) (h3 : L.all goodL = false) : Calls Tryz.prog 13 #[.agg (cfg mon pv), .agg (s.cells lv bv), .int .i64 day] w (AskTold ([], [], 1) w) := by
  obtain ⟨A, c, rfl, hl, hn, hc⟩ := hp
  have HP : Hid (Ints w B .i64 (.slice A zs.length c) zs) := ⟨A, c, rfl, hl, hn, hc⟩
  obtain ⟨A2, k, rfl⟩ := hv.shape
  have HV : Hid (Lns w B (.slice A2 L.length k) L) := hv
  have HB := Lib.hid hB
  have HIN : Hid (In64 (holdsI s.plan s.since day)) := holds_in hs
  obtain ⟨g3, wb, e1, e2, hB3, hb3⟩ := boxd_new w (cfg mon (.slice A zs.length c)) 45
  obtain ⟨g4, wc, e3, e4, hB4, hb4⟩ := boxd_new wb (s.cells (.slice A2 L.length k) bv) 38
  have e5 : g4 = g3 + 1 := by rw [e3, e2, Deep.nblk_alloc, e1]
  have HA : Hid (At w wc g3 g4 (cfg mon (.slice A zs.length c)) (s.cells (.slice A2 L.length k) bv)) := ⟨below_to hb3 hb4, hB3.below hb4, hB4, (L1.of hb3).of hb4, (L2.of hb3).of hb4⟩
  have X31 : Hid ((cfg mon (.slice A zs.length c))[1]? = some (.slice A zs.length c)) := show _ = _ from rfl
  have X41 : Hid ((s.cells (.slice A2 L.length k) bv)[1]? = some (.slice A2 L.length k)) := show _ = _ from rfl
  have c31 := (HA.out.b3.cell (i := 1)).trans X31.out
  have c41 := (HA.out.b4.cell (i := 1)).trans X41.out
  have S4 := Lib.hid (sc_info s (.slice A2 L.length k) bv)
  have hmf := make_fn
  clear hl hn hc hv hB hB3 hb3 hB4 hb4 L1 L2 hs
  have KGI := Lib.hid (fun W h => Income.good_any zs (.slice A zs.length c) B W h)
  have KD := Lib.hid (fun W L => Date.d_good day W L)
  have KC := Lib.hid (fun W hB h => c_contains L (.slice A2 L.length k) B W hB h)
  have KT := Lib.hid (fun W hB h => c_taking L (.slice A2 L.length k) B W hB h hN)
  have KPL := Lib.hid (fun W => c_plans day W)
  have KH := Lib.hid (fun W hL => c_holds s (.slice A2 L.length k) bv day W hL)
  rw [h1] at KGI
  rw [h2] at KD
  rw [h3] at KC
  clear h1 h2 h3
  generalize cfg mon (.slice A zs.length c) = C3 at *
  generalize s.cells (.slice A2 L.length k) bv = C4 at *
  go_enter Tryz.func13, Tryz.ntmps13
  go_upto_region 1 with fail
  rw [← e2, ← e1, ← e5, ← e4]
  clear e1 e2 e3 e4 e5
  go_wp2_with (first
    | (go_at_call 32; (refine (KGI.out _ (HP.out.below (HA.out.low.mono HB.out))).mono ?_); rintro e y ⟨rfl, nn, hw⟩; replace HA := Lib.hid (HA.out.drewN hw); clear hw; have c31 := (HA.out.b3.cell (i := 1)).trans X31.out; have c41 := (HA.out.b4.cell (i := 1)).trans X41.out)
    | (go_at_call 33; (refine (KD.out _ HA.out.l1).mono ?_); rintro e y2 ⟨rfl, hb⟩; replace HA := Lib.hid (HA.out.below hb); clear hb; have c31 := (HA.out.b3.cell (i := 1)).trans X31.out; have c41 := (HA.out.b4.cell (i := 1)).trans X41.out)
    | (go_at_call 34; (refine (KC.out _ (Nat.le_trans HB.out HA.out.low.size) (HV.out.below (HA.out.low.mono HB.out))).mono ?_); rintro e y3 ⟨rfl, hb⟩; replace HA := Lib.hid (HA.out.below hb); clear hb; have c31 := (HA.out.b3.cell (i := 1)).trans X31.out; have c41 := (HA.out.b4.cell (i := 1)).trans X41.out))
  go_ret3
  exact ask_none 1 HA.out.low
set_option maxRecDepth 20000 in
set_option maxHeartbeats 4000000 in
theorem asks_none (mon : Int) (zs : List Int) (s : Sc) (day : Int) (L : List Ln) (pv lv bv : Value) (B : Nat) (w : World) (hB : B ≤ w.heap.size) (hp : Ints w B .i64 pv zs) (hv : Lns w B lv L) (hN : L.length ≤ 1000) (hs : In64 s.plan) (L1 : Date.Laid w) (L2 : Step.Laid w) (h1 : Income.tabB zs = true) (h2 : Date.dayB day = true) (h3 : L.all goodL = true) (h4 : (L.filter partB).length = 0) : Calls Tryz.prog 13 #[.agg (cfg mon pv), .agg (s.cells lv bv), .int .i64 day] w (AskTold ([], [], 0) w) := by
  obtain ⟨A, c, rfl, hl, hn, hc⟩ := hp
  have HP : Hid (Ints w B .i64 (.slice A zs.length c) zs) := ⟨A, c, rfl, hl, hn, hc⟩
  obtain ⟨A2, k, rfl⟩ := hv.shape
  have HV : Hid (Lns w B (.slice A2 L.length k) L) := hv
  have HB := Lib.hid hB
  have HIN : Hid (In64 (holdsI s.plan s.since day)) := holds_in hs
  obtain ⟨g3, wb, e1, e2, hB3, hb3⟩ := boxd_new w (cfg mon (.slice A zs.length c)) 45
  obtain ⟨g4, wc, e3, e4, hB4, hb4⟩ := boxd_new wb (s.cells (.slice A2 L.length k) bv) 38
  have e5 : g4 = g3 + 1 := by rw [e3, e2, Deep.nblk_alloc, e1]
  have HA : Hid (At w wc g3 g4 (cfg mon (.slice A zs.length c)) (s.cells (.slice A2 L.length k) bv)) := ⟨below_to hb3 hb4, hB3.below hb4, hB4, (L1.of hb3).of hb4, (L2.of hb3).of hb4⟩
  have X31 : Hid ((cfg mon (.slice A zs.length c))[1]? = some (.slice A zs.length c)) := show _ = _ from rfl
  have X41 : Hid ((s.cells (.slice A2 L.length k) bv)[1]? = some (.slice A2 L.length k)) := show _ = _ from rfl
  have c31 := (HA.out.b3.cell (i := 1)).trans X31.out
  have c41 := (HA.out.b4.cell (i := 1)).trans X41.out
  have S4 := Lib.hid (sc_info s (.slice A2 L.length k) bv)
  have hmf := make_fn
  clear hl hn hc hv hB hB3 hb3 hB4 hb4 L1 L2 hs
  have KGI := Lib.hid (fun W h => Income.good_any zs (.slice A zs.length c) B W h)
  have KD := Lib.hid (fun W L => Date.d_good day W L)
  have KC := Lib.hid (fun W hB h => c_contains L (.slice A2 L.length k) B W hB h)
  have KT := Lib.hid (fun W hB h => c_taking L (.slice A2 L.length k) B W hB h hN)
  have KPL := Lib.hid (fun W => c_plans day W)
  have KH := Lib.hid (fun W hL => c_holds s (.slice A2 L.length k) bv day W hL)
  rw [h1] at KGI
  rw [h2] at KD
  rw [h3] at KC
  have t0 : (((L.filter partB).length : Int) == 0) = true := by rw [h4]; rfl
  clear h1 h2 h3 h4
  generalize cfg mon (.slice A zs.length c) = C3 at *
  generalize s.cells (.slice A2 L.length k) bv = C4 at *
  generalize L.filter partB = PL at *
  go_enter Tryz.func13, Tryz.ntmps13
  go_upto_region 1 with fail
  rw [← e2, ← e1, ← e5, ← e4]
  clear e1 e2 e3 e4 e5
  go_wp2_with (first
    | (go_at_call 32; (refine (KGI.out _ (HP.out.below (HA.out.low.mono HB.out))).mono ?_); rintro e y ⟨rfl, nn, hw⟩; replace HA := Lib.hid (HA.out.drewN hw); clear hw; have c31 := (HA.out.b3.cell (i := 1)).trans X31.out; have c41 := (HA.out.b4.cell (i := 1)).trans X41.out)
    | (go_at_call 33; (refine (KD.out _ HA.out.l1).mono ?_); rintro e y2 ⟨rfl, hb⟩; replace HA := Lib.hid (HA.out.below hb); clear hb; have c31 := (HA.out.b3.cell (i := 1)).trans X31.out; have c41 := (HA.out.b4.cell (i := 1)).trans X41.out)
    | (go_at_call 34; (refine (KC.out _ (Nat.le_trans HB.out HA.out.low.size) (HV.out.below (HA.out.low.mono HB.out))).mono ?_); rintro e y3 ⟨rfl, hb⟩; replace HA := Lib.hid (HA.out.below hb); clear hb; have c31 := (HA.out.b3.cell (i := 1)).trans X31.out; have c41 := (HA.out.b4.cell (i := 1)).trans X41.out)
    | (go_at_call 36; (refine (KT.out _ (Nat.le_trans HB.out HA.out.low.size) (HV.out.below (HA.out.low.mono HB.out))).mono ?_); rintro e y4 ⟨u, rfl, ht, hb⟩; replace HA := Lib.hid (HA.out.below hb); have HT : Hid (Part y4 y4.heap.size u PL) := (show Part _ _ _ _ from ⟨ht.lns, Nat.le_refl _⟩); obtain ⟨A5, c5, rfl⟩ := ht.lns.shape; clear hb ht; have c31 := (HA.out.b3.cell (i := 1)).trans X31.out; have c41 := (HA.out.b4.cell (i := 1)).trans X41.out))
  go_ret3
  exact ask_none 0 HA.out.low
set_option maxRecDepth 20000 in
set_option maxHeartbeats 4000000 in
theorem asks_far (mon : Int) (zs : List Int) (s : Sc) (day : Int) (L : List Ln) (pv lv bv : Value) (B : Nat) (w : World) (hB : B ≤ w.heap.size) (hp : Ints w B .i64 pv zs) (hv : Lns w B lv L) (hN : L.length ≤ 1000) (hs : In64 s.plan) (L1 : Date.Laid w) (L2 : Step.Laid w) (h1 : Income.tabB zs = true) (h2 : Date.dayB day = true) (h3 : L.all goodL = true) (h4 : (L.filter partB).length ≠ 0) (h5 : ¬ (1 ≤ holdsI s.plan s.since day ∧ holdsI s.plan s.since day ≤ 4)) : Calls Tryz.prog 13 #[.agg (cfg mon pv), .agg (s.cells lv bv), .int .i64 day] w (AskTold ([], [], 1) w) := by
  obtain ⟨A, c, rfl, hl, hn, hc⟩ := hp
  have HP : Hid (Ints w B .i64 (.slice A zs.length c) zs) := ⟨A, c, rfl, hl, hn, hc⟩
  obtain ⟨A2, k, rfl⟩ := hv.shape
  have HV : Hid (Lns w B (.slice A2 L.length k) L) := hv
  have HB := Lib.hid hB
  have HIN : Hid (In64 (holdsI s.plan s.since day)) := holds_in hs
  obtain ⟨g3, wb, e1, e2, hB3, hb3⟩ := boxd_new w (cfg mon (.slice A zs.length c)) 45
  obtain ⟨g4, wc, e3, e4, hB4, hb4⟩ := boxd_new wb (s.cells (.slice A2 L.length k) bv) 38
  have e5 : g4 = g3 + 1 := by rw [e3, e2, Deep.nblk_alloc, e1]
  have HA : Hid (At w wc g3 g4 (cfg mon (.slice A zs.length c)) (s.cells (.slice A2 L.length k) bv)) := ⟨below_to hb3 hb4, hB3.below hb4, hB4, (L1.of hb3).of hb4, (L2.of hb3).of hb4⟩
  have X31 : Hid ((cfg mon (.slice A zs.length c))[1]? = some (.slice A zs.length c)) := show _ = _ from rfl
  have X41 : Hid ((s.cells (.slice A2 L.length k) bv)[1]? = some (.slice A2 L.length k)) := show _ = _ from rfl
  have c31 := (HA.out.b3.cell (i := 1)).trans X31.out
  have c41 := (HA.out.b4.cell (i := 1)).trans X41.out
  have S4 := Lib.hid (sc_info s (.slice A2 L.length k) bv)
  have hmf := make_fn
  clear hl hn hc hv hB hB3 hb3 hB4 hb4 L1 L2 hs
  have KGI := Lib.hid (fun W h => Income.good_any zs (.slice A zs.length c) B W h)
  have KD := Lib.hid (fun W L => Date.d_good day W L)
  have KC := Lib.hid (fun W hB h => c_contains L (.slice A2 L.length k) B W hB h)
  have KT := Lib.hid (fun W hB h => c_taking L (.slice A2 L.length k) B W hB h hN)
  have KPL := Lib.hid (fun W => c_plans day W)
  have KH := Lib.hid (fun W hL => c_holds s (.slice A2 L.length k) bv day W hL)
  rw [h1] at KGI
  rw [h2] at KD
  rw [h3] at KC
  have t0 : (((L.filter partB).length : Int) == 0) = false := by rw [beq_eq_false_iff_ne]; omega
  have H5 := Lib.hid h5
  clear h1 h2 h3 h4 h5
  generalize cfg mon (.slice A zs.length c) = C3 at *
  generalize s.cells (.slice A2 L.length k) bv = C4 at *
  generalize L.filter partB = PL at *
  generalize holdsI s.plan s.since day = how at *
  go_enter Tryz.func13, Tryz.ntmps13
  go_upto_region 1 with fail
  rw [← e2, ← e1, ← e5, ← e4]
  clear e1 e2 e3 e4 e5
  go_wp2_with (first
    | (go_at_call 32; (refine (KGI.out _ (HP.out.below (HA.out.low.mono HB.out))).mono ?_); rintro e y ⟨rfl, nn, hw⟩; replace HA := Lib.hid (HA.out.drewN hw); clear hw; have c31 := (HA.out.b3.cell (i := 1)).trans X31.out; have c41 := (HA.out.b4.cell (i := 1)).trans X41.out)
    | (go_at_call 33; (refine (KD.out _ HA.out.l1).mono ?_); rintro e y2 ⟨rfl, hb⟩; replace HA := Lib.hid (HA.out.below hb); clear hb; have c31 := (HA.out.b3.cell (i := 1)).trans X31.out; have c41 := (HA.out.b4.cell (i := 1)).trans X41.out)
    | (go_at_call 34; (refine (KC.out _ (Nat.le_trans HB.out HA.out.low.size) (HV.out.below (HA.out.low.mono HB.out))).mono ?_); rintro e y3 ⟨rfl, hb⟩; replace HA := Lib.hid (HA.out.below hb); clear hb; have c31 := (HA.out.b3.cell (i := 1)).trans X31.out; have c41 := (HA.out.b4.cell (i := 1)).trans X41.out)
    | (go_at_call 36; (refine (KT.out _ (Nat.le_trans HB.out HA.out.low.size) (HV.out.below (HA.out.low.mono HB.out))).mono ?_); rintro e y4 ⟨u, rfl, ht, hb⟩; replace HA := Lib.hid (HA.out.below hb); have HT : Hid (Part y4 y4.heap.size u PL) := (show Part _ _ _ _ from ⟨ht.lns, Nat.le_refl _⟩); obtain ⟨A5, c5, rfl⟩ := ht.lns.shape; clear hb ht; have c31 := (HA.out.b3.cell (i := 1)).trans X31.out; have c41 := (HA.out.b4.cell (i := 1)).trans X41.out)
    | (go_at_call 37; (refine (KPL.out _).mono ?_); rintro e y5 ⟨m, f, rfl, hm, hpl, hb⟩; obtain ⟨z, hr, hm2, ht⟩ := hpl.map.store (by omega) Tryz.underlying71 (in_small (k := 4) (by omega) (by omega)) (.func (.func 38) #[] #[.pointer (some ⟨g3, 0, none⟩), .pointer (some ⟨g4, 0, none⟩)]); have HNO : Hid (f how = none) := (show f how = none from hpl.no how (fun h => H5.out ⟨h.1, by omega⟩)); replace HT := Lib.hid (HT.out.below (ht.below hb hm)); replace HA := Lib.hid (HA.out.below (ht.below hb hm)); have HM := Lib.hid hm2; clear hpl hm hb hm2 ht)
    | (refine o_load (by rfl) 38 _ rfl g4 rfl _ _ _ HA.out.b4 Tryz.underlying38 rfl S4.out ?_)
    | (go_at_call 23; (refine (KH.out _ HA.out.l1).mono ?_); rintro e y6 ⟨rfl, hb⟩; replace HT := Lib.hid (HT.out.below hb); replace HA := Lib.hid (HA.out.below hb); replace HM := Lib.hid (HM.out.below hb); have hlook := HM.out.look_ok Tryz.underlying71 (zero_fn y6) HIN.out; rw [if_neg (show ¬ how = 4 from fun h => H5.out (by omega)), HNO.out] at hlook; simp only [Option.getD_none, Option.isSome_none] at hlook; clear hb))
  go_ret3
  exact ask_none 1 HA.out.low
set_option maxRecDepth 20000 in
set_option maxHeartbeats 4000000 in
theorem asks_each (mon : Int) (zs : List Int) (s : Sc) (day : Int) (L : List Ln) (pv lv bv : Value) (B : Nat) (w : World) (hB : B ≤ w.heap.size) (hp : Ints w B .i64 pv zs) (hv : Lns w B lv L) (hN : L.length ≤ 1000) (hs : In64 s.plan) (L1 : Date.Laid w) (L2 : Step.Laid w) (h1 : Income.tabB zs = true) (h2 : Date.dayB day = true) (h3 : L.all goodL = true) (h4 : (L.filter partB).length ≠ 0) (h5 : 1 ≤ holdsI s.plan s.since day ∧ holdsI s.plan s.since day ≤ 3) : Calls Tryz.prog 13 #[.agg (cfg mon pv), .agg (s.cells lv bv), .int .i64 day] w (AskTold (finR ((L.filter partB).map (fun l => l.id)) (capR (eachR (askR (holdsI s.plan s.since day) day) (L.filter partB)) (L.filter partB))) w) := by
  obtain ⟨A, c, rfl, hl, hn, hc⟩ := hp
  have HP : Hid (Ints w B .i64 (.slice A zs.length c) zs) := ⟨A, c, rfl, hl, hn, hc⟩
  obtain ⟨A2, k, rfl⟩ := hv.shape
  have HV : Hid (Lns w B (.slice A2 L.length k) L) := hv
  have HB := Lib.hid hB
  have HIN : Hid (In64 (holdsI s.plan s.since day)) := holds_in hs
  obtain ⟨g3, wb, e1, e2, hB3, hb3⟩ := boxd_new w (cfg mon (.slice A zs.length c)) 45
  obtain ⟨g4, wc, e3, e4, hB4, hb4⟩ := boxd_new wb (s.cells (.slice A2 L.length k) bv) 38
  have e5 : g4 = g3 + 1 := by rw [e3, e2, Deep.nblk_alloc, e1]
  have HA : Hid (At w wc g3 g4 (cfg mon (.slice A zs.length c)) (s.cells (.slice A2 L.length k) bv)) := ⟨below_to hb3 hb4, hB3.below hb4, hB4, (L1.of hb3).of hb4, (L2.of hb3).of hb4⟩
  have X31 : Hid ((cfg mon (.slice A zs.length c))[1]? = some (.slice A zs.length c)) := show _ = _ from rfl
  have X41 : Hid ((s.cells (.slice A2 L.length k) bv)[1]? = some (.slice A2 L.length k)) := show _ = _ from rfl
  have c31 := (HA.out.b3.cell (i := 1)).trans X31.out
  have c41 := (HA.out.b4.cell (i := 1)).trans X41.out
  have S4 := Lib.hid (sc_info s (.slice A2 L.length k) bv)
  have hmf := make_fn
  clear hl hn hc hv hB hB3 hb3 hB4 hb4 L1 L2 hs
  have KGI := Lib.hid (fun W h => Income.good_any zs (.slice A zs.length c) B W h)
  have KD := Lib.hid (fun W L => Date.d_good day W L)
  have KC := Lib.hid (fun W hB h => c_contains L (.slice A2 L.length k) B W hB h)
  have KT := Lib.hid (fun W hB h => c_taking L (.slice A2 L.length k) B W hB h hN)
  have KPL := Lib.hid (fun W => c_plans day W)
  have KH := Lib.hid (fun W hL => c_holds s (.slice A2 L.length k) bv day W hL)
  rw [h1] at KGI
  rw [h2] at KD
  rw [h3] at KC
  have t0 : (((L.filter partB).length : Int) == 0) = false := by rw [beq_eq_false_iff_ne]; omega
  have H5 := Lib.hid h5
  have hq := part_of h3
  have HPN : Hid ((L.filter partB).length ≤ 1000) := Nat.le_trans (List.length_filter_le _ _) hN
  have KCAP : Hid (∀ (W : World) (BT gb : Nat) (u : Value), Part W BT u (L.filter partB) → Ready W (holdsI s.plan s.since day) day (fEach gb) → Date.Laid W → Step.Laid W → Calls Tryz.prog 40 #[fEach gb, u] W (Told (capR (eachR (askR (holdsI s.plan s.since day) day) (L.filter partB)) (L.filter partB)) W)) := fun W BT gb u hT hr l1 l2 =>
    capped_1 _ _ u BT gb W hT.2 hT.1 HPN.out each_len (each_any _ _ _ u BT gb W hT.2 hT.1 HPN.out hr l1 l2)
  have HLN : Hid ((capR (eachR (askR (holdsI s.plan s.since day) day) (L.filter partB)) (L.filter partB)).1.length ≤ 9223372036854775807) := Nat.le_trans (cap_len _ _) (Nat.le_trans HPN.out (by decide))
  generalize hR : capR (eachR (askR (holdsI s.plan s.since day) day) (L.filter partB)) (L.filter partB) = R at *
  clear hq hR
  clear h1 h2 h3 h4 h5
  generalize cfg mon (.slice A zs.length c) = C3 at *
  generalize s.cells (.slice A2 L.length k) bv = C4 at *
  generalize hPL : L.filter partB = PL at *
  clear hPL
  generalize holdsI s.plan s.since day = how at *
  go_enter Tryz.func13, Tryz.ntmps13
  go_upto_region 1 with fail
  rw [← e2, ← e1, ← e5, ← e4]
  clear e1 e2 e3 e4 e5
  go_upto_region 12 with (first
    | (go_at_call 32; (refine (KGI.out _ (HP.out.below (HA.out.low.mono HB.out))).mono ?_); rintro e y ⟨rfl, nn, hw⟩; replace HA := Lib.hid (HA.out.drewN hw); clear hw; have c31 := (HA.out.b3.cell (i := 1)).trans X31.out; have c41 := (HA.out.b4.cell (i := 1)).trans X41.out)
    | (go_at_call 33; (refine (KD.out _ HA.out.l1).mono ?_); rintro e y2 ⟨rfl, hb⟩; replace HA := Lib.hid (HA.out.below hb); clear hb; have c31 := (HA.out.b3.cell (i := 1)).trans X31.out; have c41 := (HA.out.b4.cell (i := 1)).trans X41.out)
    | (go_at_call 34; (refine (KC.out _ (Nat.le_trans HB.out HA.out.low.size) (HV.out.below (HA.out.low.mono HB.out))).mono ?_); rintro e y3 ⟨rfl, hb⟩; replace HA := Lib.hid (HA.out.below hb); clear hb; have c31 := (HA.out.b3.cell (i := 1)).trans X31.out; have c41 := (HA.out.b4.cell (i := 1)).trans X41.out)
    | (go_at_call 36; (refine (KT.out _ (Nat.le_trans HB.out HA.out.low.size) (HV.out.below (HA.out.low.mono HB.out))).mono ?_); rintro e y4 ⟨u, rfl, ht, hb⟩; replace HA := Lib.hid (HA.out.below hb); have HT : Hid (Part y4 y4.heap.size u PL) := (show Part _ _ _ _ from ⟨ht.lns, Nat.le_refl _⟩); obtain ⟨A5, c5, rfl⟩ := ht.lns.shape; clear hb ht; have c31 := (HA.out.b3.cell (i := 1)).trans X31.out; have c41 := (HA.out.b4.cell (i := 1)).trans X41.out)
    | (go_at_call 37; (refine (KPL.out _).mono ?_); rintro e y5 ⟨m, f, rfl, hm, hpl, hb⟩; obtain ⟨z, hr, hm2, ht⟩ := hpl.map.store (by omega) Tryz.underlying71 (in_small (k := 4) (by omega) (by omega)) (.func (.func 38) #[] #[.pointer (some ⟨g3, 0, none⟩), .pointer (some ⟨g4, 0, none⟩)]); have HYES : Hid (∃ V, f how = some V ∧ Ready z how day V) := (by obtain ⟨V, e1, e2⟩ := hpl.yes how H5.out.1 H5.out.2; exact ⟨V, e1, e2.turned hpl.map ht⟩); replace HT := Lib.hid (HT.out.below (ht.below hb hm)); replace HA := Lib.hid (HA.out.below (ht.below hb hm)); have HM := Lib.hid hm2; clear hpl hm hb hm2 ht)
    | (refine o_load (by rfl) 38 _ rfl g4 rfl _ _ _ HA.out.b4 Tryz.underlying38 rfl S4.out ?_)
    | (go_at_call 23; (refine (KH.out _ HA.out.l1).mono ?_); rintro e y6 ⟨rfl, hb⟩; replace HT := Lib.hid (HT.out.below hb); replace HA := Lib.hid (HA.out.below hb); replace HM := Lib.hid (HM.out.below hb); have hlook := HM.out.look_ok Tryz.underlying71 (zero_fn y6) HIN.out; obtain ⟨V, hV, hRd⟩ := HYES.out; rw [if_neg (show ¬ how = 4 by have := H5.out.2; omega), hV] at hlook; simp only [Option.getD_some, Option.isSome_some] at hlook; have HRD := Lib.hid (hRd.below hb); obtain ⟨gb, gd, rfl, -⟩ := id hRd; clear hV hRd; clear hb)
    | (go_at_call 40; (refine (KCAP.out _ _ gb _ HT.out HRD.out HA.out.l1 HA.out.l2).mono ?_); rintro e y7 ⟨u2, E, rfl, hE, hu, hn, hb⟩; have HZ := Lib.hid (And.intro hE (And.intro hu (And.intro hn hb))); replace HT := Lib.hid (HT.out.below hb); replace HA := Lib.hid (HA.out.below hb); clear hE hu hn hb))
  by_cases hz : E = 0
  · have hRz : R.2 = 0 := by rw [← HZ.out.1]; exact hz
    have HO := Lib.hid (HZ.out.2.1 hz)
    have HRZ := Lib.hid hRz
    have KI := Lib.hid (fun (_ : Unit) => c_ids PL (.slice A5 PL.length c5) _ y7 HT.out.2 HT.out.1 HPN.out)
    clear hRz HZ
    obtain ⟨g9, hu9, hg9, hr9⟩ := id HO.out
    clear hg9 hr9
    subst hz hu9
    go_wp2_with (first
      | (go_at_call 41; (refine (KI.out ()).mono ?_); rintro e y8 ⟨u3, rfl, hu, hb⟩; have HO2 := Lib.hid (HO.out.below hb); replace HA := Lib.hid (HA.out.below hb); obtain ⟨g8, hu8, -, -⟩ := id hu; rw [List.length_map] at hu8; have HU3 : Hid (Ints y8 y8.heap.size .i64 (.slice (some ⟨g8, 0, none⟩) PL.length PL.length) (PL.map fun l => l.id)) := (show Ints _ _ _ _ _ by rw [← hu8]; exact hu.ints (by rw [List.length_map]; have := HPN.out; omega)); clear hu hb; subst hu8))
    go_ret3
    rw [fin_yes HRZ.out]
    exact ⟨_, _, rfl, HU3.out, HO2.out.ints HLN.out, HA.out.low⟩
  · have hu9 := HZ.out.2.2.1 hz
    have HE := Lib.hid HZ.out.1
    have HNZ := Lib.hid hz
    have t9 : (E != 0) = true := by rw [bne_iff_ne]; exact hz
    clear HZ hz
    subst hu9
    go_wp2_with fail
    go_ret3
    rw [fin_no (by rw [← HE.out]; exact HNZ.out), ← HE.out]
    exact ask_none E HA.out.low
set_option maxRecDepth 20000 in
set_option maxHeartbeats 4000000 in
theorem asks_inc (mon : Int) (zs : List Int) (s : Sc) (day : Int) (L : List Ln) (pv lv bv : Value) (B : Nat) (w : World) (hB : B ≤ w.heap.size) (hp : Ints w B .i64 pv zs) (hv : Lns w B lv L) (hN : L.length ≤ 1000) (hs : In64 s.plan) (L1 : Date.Laid w) (L2 : Step.Laid w) (h1 : Income.tabB zs = true) (h2 : Date.dayB day = true) (h3 : L.all goodL = true) (h4 : (L.filter partB).length ≠ 0) (h5 : holdsI s.plan s.since day = 4) : Calls Tryz.prog 13 #[.agg (cfg mon pv), .agg (s.cells lv bv), .int .i64 day] w (fun e w' => ∃ Q, Fits zs s.fam s.inc (L.filter partB) Q ∧ AskTold (finR ((L.filter partB).map (fun l => l.id)) (capR (incR zs s.fam s.inc (L.filter partB) Q) (L.filter partB))) w e w') := by
  obtain ⟨A, c, rfl, hl, hn, hc⟩ := hp
  have HP : Hid (Ints w B .i64 (.slice A zs.length c) zs) := ⟨A, c, rfl, hl, hn, hc⟩
  obtain ⟨A2, k, rfl⟩ := hv.shape
  have HV : Hid (Lns w B (.slice A2 L.length k) L) := hv
  have HB := Lib.hid hB
  have HIN : Hid (In64 (holdsI s.plan s.since day)) := holds_in hs
  obtain ⟨g3, wb, e1, e2, hB3, hb3⟩ := boxd_new w (cfg mon (.slice A zs.length c)) 45
  obtain ⟨g4, wc, e3, e4, hB4, hb4⟩ := boxd_new wb (s.cells (.slice A2 L.length k) bv) 38
  have e5 : g4 = g3 + 1 := by rw [e3, e2, Deep.nblk_alloc, e1]
  have HA : Hid (At w wc g3 g4 (cfg mon (.slice A zs.length c)) (s.cells (.slice A2 L.length k) bv)) := ⟨below_to hb3 hb4, hB3.below hb4, hB4, (L1.of hb3).of hb4, (L2.of hb3).of hb4⟩
  have X31 : Hid ((cfg mon (.slice A zs.length c))[1]? = some (.slice A zs.length c)) := show _ = _ from rfl
  have X41 : Hid ((s.cells (.slice A2 L.length k) bv)[1]? = some (.slice A2 L.length k)) := show _ = _ from rfl
  have c31 := (HA.out.b3.cell (i := 1)).trans X31.out
  have c41 := (HA.out.b4.cell (i := 1)).trans X41.out
  have S4 := Lib.hid (sc_info s (.slice A2 L.length k) bv)
  have hmf := make_fn
  clear hl hn hc hv hB hB3 hb3 hB4 hb4 L1 L2 hs
  have KGI := Lib.hid (fun W h => Income.good_any zs (.slice A zs.length c) B W h)
  have KD := Lib.hid (fun W L => Date.d_good day W L)
  have KC := Lib.hid (fun W hB h => c_contains L (.slice A2 L.length k) B W hB h)
  have KT := Lib.hid (fun W hB h => c_taking L (.slice A2 L.length k) B W hB h hN)
  have KPL := Lib.hid (fun W => c_plans day W)
  have KH := Lib.hid (fun W hL => c_holds s (.slice A2 L.length k) bv day W hL)
  rw [h1] at KGI
  rw [h2] at KD
  rw [h3] at KC
  have t0 : (((L.filter partB).length : Int) == 0) = false := by rw [beq_eq_false_iff_ne]; omega
  have H5 := Lib.hid h5
  have hq := part_of h3
  have HPN : Hid ((L.filter partB).length ≤ 1000) := Nat.le_trans (List.length_filter_le _ _) hN
  have HPZ : Hid (0 < (L.filter partB).length) := Nat.pos_of_ne_zero h4
  have HPP : Hid (∀ l ∈ L.filter partB, 0 ≤ l.prin) := fun l hl => (goodL_iff.1 (hq l hl).1).prin0
  have KCAP : Hid (∀ (W : World) (BT : Nat) (u : Value), Part W BT u (L.filter partB) → B ≤ BT → Ints W B .i64 (.slice A zs.length c) zs → Boxd W g3 (cfg mon (.slice A zs.length c)) 45 → Boxd W g4 (s.cells (.slice A2 L.length k) bv) 38 → Calls Tryz.prog 40 #[(.func (.func 38) #[] #[.pointer (some ⟨g3, 0, none⟩), .pointer (some ⟨g4, 0, none⟩)]), u] W fun e w' => ∃ Q, Fits zs s.fam s.inc (L.filter partB) Q ∧ Told (capR (incR zs s.fam s.inc (L.filter partB) Q) (L.filter partB)) W e w') := fun W BT u hT hBT hI h3 h4 =>
    capped_q (incR zs s.fam s.inc (L.filter partB)) (Fits zs s.fam s.inc (L.filter partB)) _ u BT g3 g4 W hT.2 hT.1 HPN.out (fun Q => inc_len) (c_asker mon zs s _ _ _ bv u BT g3 g4 W hT.2 (hI.more hBT) hT.1 HPN.out HPZ.out HPP.out h3 h4)
  generalize hR : (fun Q => capR (incR zs s.fam s.inc (L.filter partB) Q) (L.filter partB)) = R at *
  have HRR := Lib.hid hR
  have HRE : Hid (∀ Q, capR (incR zs s.fam s.inc (L.filter partB) Q) (L.filter partB) = R Q) := fun Q => by rw [← HRR.out]
  clear hq hR HRR
  have HLN : Hid (∀ Q, (R Q).1.length ≤ 9223372036854775807) := fun Q => by rw [← HRE.out]; exact Nat.le_trans (cap_len _ _) (Nat.le_trans HPN.out (by decide))
  simp only [HRE.out] at KCAP ⊢
  generalize Fits zs s.fam s.inc (L.filter partB) = FT at *
  clear HRE
  clear h1 h2 h3 h4 h5
  generalize cfg mon (.slice A zs.length c) = C3 at *
  generalize s.cells (.slice A2 L.length k) bv = C4 at *
  generalize hPL : L.filter partB = PL at *
  clear hPL
  generalize holdsI s.plan s.since day = how at *
  go_enter Tryz.func13, Tryz.ntmps13
  go_upto_region 1 with fail
  rw [← e2, ← e1, ← e5, ← e4]
  clear e1 e2 e3 e4 e5
  go_upto_region 12 with (first
    | (go_at_call 32; (refine (KGI.out _ (HP.out.below (HA.out.low.mono HB.out))).mono ?_); rintro e y ⟨rfl, nn, hw⟩; replace HA := Lib.hid (HA.out.drewN hw); clear hw; have c31 := (HA.out.b3.cell (i := 1)).trans X31.out; have c41 := (HA.out.b4.cell (i := 1)).trans X41.out)
    | (go_at_call 33; (refine (KD.out _ HA.out.l1).mono ?_); rintro e y2 ⟨rfl, hb⟩; replace HA := Lib.hid (HA.out.below hb); clear hb; have c31 := (HA.out.b3.cell (i := 1)).trans X31.out; have c41 := (HA.out.b4.cell (i := 1)).trans X41.out)
    | (go_at_call 34; (refine (KC.out _ (Nat.le_trans HB.out HA.out.low.size) (HV.out.below (HA.out.low.mono HB.out))).mono ?_); rintro e y3 ⟨rfl, hb⟩; replace HA := Lib.hid (HA.out.below hb); clear hb; have c31 := (HA.out.b3.cell (i := 1)).trans X31.out; have c41 := (HA.out.b4.cell (i := 1)).trans X41.out)
    | (go_at_call 36; (refine (KT.out _ (Nat.le_trans HB.out HA.out.low.size) (HV.out.below (HA.out.low.mono HB.out))).mono ?_); rintro e y4 ⟨u, rfl, ht, hb⟩; replace HA := Lib.hid (HA.out.below hb); have HT : Hid (Part y4 y4.heap.size u PL) := (show Part _ _ _ _ from ⟨ht.lns, Nat.le_refl _⟩); obtain ⟨A5, c5, rfl⟩ := ht.lns.shape; have HBT : Hid (B ≤ y4.heap.size) := (show B ≤ _ from Nat.le_trans HB.out HA.out.low.size); clear hb ht; have c31 := (HA.out.b3.cell (i := 1)).trans X31.out; have c41 := (HA.out.b4.cell (i := 1)).trans X41.out)
    | (go_at_call 37; (refine (KPL.out _).mono ?_); rintro e y5 ⟨m, f, rfl, hm, hpl, hb⟩; obtain ⟨z, hr, hm2, ht⟩ := hpl.map.store (by omega) Tryz.underlying71 (in_small (k := 4) (by omega) (by omega)) (.func (.func 38) #[] #[.pointer (some ⟨g3, 0, none⟩), .pointer (some ⟨g4, 0, none⟩)]); skip; replace HT := Lib.hid (HT.out.below (ht.below hb hm)); replace HA := Lib.hid (HA.out.below (ht.below hb hm)); have HM := Lib.hid hm2; clear hpl hm hb hm2 ht)
    | (refine o_load (by rfl) 38 _ rfl g4 rfl _ _ _ HA.out.b4 Tryz.underlying38 rfl S4.out ?_)
    | (go_at_call 23; (refine (KH.out _ HA.out.l1).mono ?_); rintro e y6 ⟨rfl, hb⟩; replace HT := Lib.hid (HT.out.below hb); replace HA := Lib.hid (HA.out.below hb); replace HM := Lib.hid (HM.out.below hb); have hlook := HM.out.look_ok Tryz.underlying71 (zero_fn y6) HIN.out; rw [if_pos (show how = 4 from H5.out)] at hlook; simp only [Option.getD_some, Option.isSome_some] at hlook; clear hb)
    | (go_at_call 40; (refine (KCAP.out _ _ _ HT.out HBT.out (HP.out.below (HA.out.low.mono HB.out)) HA.out.b3 HA.out.b4).mono ?_); rintro e y7 ⟨Q, hq, u2, E, rfl, hE, hu, hn, hb⟩; have HQ := Lib.hid hq; clear hq; have HZ := Lib.hid (And.intro hE (And.intro hu (And.intro hn hb))); replace HT := Lib.hid (HT.out.below hb); replace HA := Lib.hid (HA.out.below hb); clear hE hu hn hb))
  by_cases hz : E = 0
  · have hRz : (R Q).2 = 0 := by rw [← HZ.out.1]; exact hz
    have HO := Lib.hid (HZ.out.2.1 hz)
    have HRZ := Lib.hid hRz
    have KI := Lib.hid (fun (_ : Unit) => c_ids PL (.slice A5 PL.length c5) _ y7 HT.out.2 HT.out.1 HPN.out)
    clear hRz HZ
    obtain ⟨g9, hu9, hg9, hr9⟩ := id HO.out
    clear hg9 hr9
    subst hz hu9
    go_wp2_with (first
      | (go_at_call 41; (refine (KI.out ()).mono ?_); rintro e y8 ⟨u3, rfl, hu, hb⟩; have HO2 := Lib.hid (HO.out.below hb); replace HA := Lib.hid (HA.out.below hb); obtain ⟨g8, hu8, -, -⟩ := id hu; rw [List.length_map] at hu8; have HU3 : Hid (Ints y8 y8.heap.size .i64 (.slice (some ⟨g8, 0, none⟩) PL.length PL.length) (PL.map fun l => l.id)) := (show Ints _ _ _ _ _ by rw [← hu8]; exact hu.ints (by rw [List.length_map]; have := HPN.out; omega)); clear hu hb; subst hu8))
    go_ret3
    refine ⟨Q, HQ.out, ?_⟩
    rw [fin_yes HRZ.out]
    exact ⟨_, _, rfl, HU3.out, HO2.out.ints (HLN.out Q), HA.out.low⟩
  · have hu9 := HZ.out.2.2.1 hz
    have HE := Lib.hid HZ.out.1
    have HNZ := Lib.hid hz
    have t9 : (E != 0) = true := by rw [bne_iff_ne]; exact hz
    clear HZ hz
    subst hu9
    go_wp2_with fail
    go_ret3
    refine ⟨Q, HQ.out, ?_⟩
    rw [fin_no (by rw [← HE.out]; exact HNZ.out), ← HE.out]
    exact ask_none E HA.out.low
theorem c_asks (mon : Int) (zs : List Int) (s : Sc) (day : Int) (L : List Ln) (pv lv bv : Value) (B : Nat) (w : World) (hB : B ≤ w.heap.size) (hp : Ints w B .i64 pv zs) (hv : Lns w B lv L) (hN : L.length ≤ 1000) (hs : In64 s.plan) (L1 : Date.Laid w) (L2 : Step.Laid w) :
    Calls Tryz.prog 13 #[.agg (cfg mon pv), .agg (s.cells lv bv), .int .i64 day] w fun e w' => ∃ Q, FitsA zs s day L Q ∧ AskTold (asksR zs s day L Q) w e w' := by
  by_cases h : Income.tabB zs = true ∧ Date.dayB day = true ∧ L.all goodL = true
  · obtain ⟨h1, h2, h3⟩ := h
    by_cases h4 : (L.filter partB).length = 0
    · refine (asks_none mon zs s day L pv lv bv B w hB hp hv hN hs L1 L2 h1 h2 h3 h4).mono fun e w' he => ⟨id, fun _ h5 _ h6 _ _ => ?_, ?_⟩
      · rw [List.eq_nil_of_length_eq_zero h4] at h6; cases h6
      · unfold asksR; rw [if_pos ⟨h1, h2, h3⟩, if_pos h4]; exact he
    · have key : ∀ Q, asksR zs s day L Q = finR ((L.filter partB).map (fun l => l.id)) (capR (planR zs (holdsI s.plan s.since day) day s.fam s.inc (L.filter partB) Q) (L.filter partB)) := fun Q => by
        unfold asksR; rw [if_pos ⟨h1, h2, h3⟩, if_neg h4]; rfl
      by_cases h5 : holdsI s.plan s.since day = 4
      · refine (asks_inc mon zs s day L pv lv bv B w hB hp hv hN hs L1 L2 h1 h2 h3 h4 h5).mono fun e w' he => ?_
        obtain ⟨Q, hq, he⟩ := he
        refine ⟨Q, fun _ _ => hq, ?_⟩
        rw [key]
        unfold planR
        rw [if_pos h5]
        exact he
      · by_cases h6 : 1 ≤ holdsI s.plan s.since day ∧ holdsI s.plan s.since day ≤ 3
        · refine (asks_each mon zs s day L pv lv bv B w hB hp hv hN hs L1 L2 h1 h2 h3 h4 h6).mono fun e w' he => ⟨id, fun _ h => absurd h h5, ?_⟩
          rw [key]
          unfold planR
          rw [if_neg h5, if_pos h6]
          exact he
        · refine (asks_far mon zs s day L pv lv bv B w hB hp hv hN hs L1 L2 h1 h2 h3 h4 (fun h => h6 ⟨h.1, by omega⟩)).mono fun e w' he => ⟨id, fun _ h => absurd h h5, ?_⟩
          rw [key]
          unfold planR
          rw [if_neg h5, if_neg h6]
          exact he
  · have key : ∀ Q, asksR zs s day L Q = ([], [], 1) := fun Q => by unfold asksR; rw [if_neg h]
    have all : Calls Tryz.prog 13 #[.agg (cfg mon pv), .agg (s.cells lv bv), .int .i64 day] w (AskTold ([], [], 1) w) := by
      cases h1 : Income.tabB zs with
      | false => exact asks_tab mon zs s day L pv lv bv B w hB hp hv hN hs L1 L2 h1
      | true =>
        cases h2 : Date.dayB day with
        | false => exact asks_day mon zs s day L pv lv bv B w hB hp hv hN hs L1 L2 h1 h2
        | true =>
          cases h3 : L.all goodL with
          | false => exact asks_bad mon zs s day L pv lv bv B w hB hp hv hN hs L1 L2 h1 h2 h3
          | true => exact absurd ⟨h1, h2, h3⟩ h
    refine all.mono fun e w' he => ⟨id, fun h5 => absurd h5 h, by rw [key]; exact he⟩
end Go.Proofs.YtkddiaiohnbjpaaGreatDoor.Plan
