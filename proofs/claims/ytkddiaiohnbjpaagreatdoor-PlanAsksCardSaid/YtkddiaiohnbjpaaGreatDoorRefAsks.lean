/- Of layer 18: what all loans of a state are asked, of the document's own. -/
import Derived.Test.YtkddiaiohnbjpaaGreatDoorRefInc
import Derived.Test.YtkddiaiohnbjpaaGreatDoorRefPlan
import Derived.Test.YtkddiaiohnbjpaaGreatDoorGCal
import Derived.Test.YtkddiaiohnbjpaaGreatDoorPlanAsksMath
namespace Go.Proofs.YtkddiaiohnbjpaaGreatDoor.Plan
open Go.ChangeShapes Go.WideShapes Go.ChangeAt Go.RowKit Loan Money Box Rws Slice
set_option linter.unusedSimpArgs false

theorem ints_one_far {W W' : World} {g B : Nat} {C : Array Value} {T : TypeId} {v : Value} {zs : List Int} (h : Ints W B .i64 v zs) (hB : B ≤ W.heap.size) (hb : Boxd W g C T) (hC : ∀ (i : Nat) (z : Int), C[i]? ≠ some (.int .i64 z)) (ho : One g W W') : Ints W' W'.heap.size .i64 v zs := by
  obtain ⟨A, c, rfl, hl, hn, hc⟩ := h
  refine ⟨A, c, rfl, hl, hn, fun h0 => ?_⟩
  obtain ⟨b, off, rfl, hlt, hcell⟩ := hc h0
  have hne : ¬ b = g := fun e => by
    subst e
    have h1 := hcell 0 h0
    rw [hb.cell] at h1
    exact hC _ _ h1
  have hlt' : b < W.heap.size := by omega
  refine ⟨b, off, rfl, Nat.lt_of_lt_of_le hlt' ho.size, fun i hi => ?_⟩
  have h1 := hcell i hi
  have h2 := ho.block b hlt' hne
  simp only [World.cell?, h2] at h1 ⊢
  exact h1
theorem two_slices (A A' : Option Addr) (n c n' c' : Nat) (i : Nat) (z : Int) : (#[.slice A n c, .slice A' n' c'] : Array Value)[i]? ≠ some (.int .i64 z) := by
  match i with
  | 0 => simp
  | 1 => simp
  | k + 2 => simp
set_option maxRecDepth 20000 in
set_option maxHeartbeats 40000000 in
theorem asks_r1 (mon : Int) (zs : List Int) (s : Sc) (day : Int) (L : List Ln) (pv lv bv : Value) (B : Nat) (w : World) (Q : Nat → Nat) (hB : B ≤ w.heap.size) (hp : Ints w B .i64 pv zs) (hv : Lns w B lv L) (h1 : Income.tabB zs = false) : Calls Tryz.prog 14 #[.agg (cfg mon pv), .agg (s.cells lv bv), .int .i64 day] w (AskedTold (asksR zs s day L Q) w) := by
  obtain ⟨A, c, rfl, hl, hn, hc⟩ := hp
  have HP : Hid (Ints w B .i64 (.slice A zs.length c) zs) := ⟨A, c, rfl, hl, hn, hc⟩
  obtain ⟨A2, k, rfl⟩ := hv.shape
  have HV : Hid (Lns w B (.slice A2 L.length k) L) := hv
  have HB := Lib.hid hB
  obtain ⟨g3, wb, e1, e2, hB3, hb3⟩ := boxd_new w (cfg mon (.slice A zs.length c)) 45
  obtain ⟨g4, wc, e3, e4, hB4, hb4⟩ := boxd_new wb (s.cells (.slice A2 L.length k) bv) 38
  have e5 : g4 = g3 + 1 := by rw [e3, e2, Deep.nblk_alloc, e1]
  obtain ⟨g6, wd, e6, e7, hB6, hb6⟩ := boxd_new wc #[.slice none 0 0, .slice none 0 0] 47
  have e8 : g6 = g4 + 1 := by rw [e6, e4, Deep.nblk_alloc, e3]
  have HD : Hid (Below w.heap.size w wd) := below_to (below_to hb3 hb4) hb6
  have H3 : Hid (Boxd wd g3 (cfg mon (.slice A zs.length c)) 45) := (hB3.below hb4).below hb6
  have H4 : Hid (Boxd wd g4 (s.cells (.slice A2 L.length k) bv) 38) := hB4.below hb6
  have H6 := Lib.hid hB6
  have HS6 : Hid (w.heap.size ≤ g6 ∧ g6 < wd.heap.size) := show w.heap.size ≤ g6 ∧ g6 < wd.heap.size from ⟨by omega, hB6.lt⟩
  have X31 : Hid ((cfg mon (.slice A zs.length c))[1]? = some (.slice A zs.length c)) := show _ = _ from rfl
  have X41 : Hid ((s.cells (.slice A2 L.length k) bv)[1]? = some (.slice A2 L.length k)) := show _ = _ from rfl
  have X44 : Hid ((s.cells (.slice A2 L.length k) bv)[4]? = some (.int .i64 s.inc)) := show _ = _ from rfl
  have X45 : Hid ((s.cells (.slice A2 L.length k) bv)[5]? = some (.int .i64 s.fam)) := show _ = _ from rfl
  have S3 := Lib.hid (cfg_info mon (.slice A zs.length c))
  have S4 := Lib.hid (sc_info s (.slice A2 L.length k) bv)
  have HX : Hid (Below wd.heap.size wd wd) := Below.refl _ _
  have c31 := (H3.out.cell (i := 1)).trans X31.out
  clear hl hn hc hv hB hB3 hb3 hB4 hb4 hB6 hb6
  have KGI := Lib.hid (fun W h => RIncome.r_good zs (.slice A zs.length c) B W h)
  have KD := Lib.hid (fun W => Date.rday_any day W)
  have HR1 := Lib.hid (show asksR zs s day L Q = ([], [], 1) from by unfold asksR; rw [if_neg (fun h => by rw [h1] at h; exact Bool.false_ne_true h.1)])
  rw [h1] at KGI
  clear h1
  generalize cfg mon (.slice A zs.length c) = C3 at *
  generalize s.cells (.slice A2 L.length k) bv = C4 at *
  go_enter Tryz.func14, Tryz.ntmps14
  go_upto_region 1 with fail
  rw [← e2, ← e1, ← e5, ← e8, ← e4, ← e7]
  clear e1 e2 e3 e4 e5 e6 e7 e8
  go_wp2_with (first
    | (go_at_call 42; (refine (KGI.out _ (HP.out.below ((HD.out.trans (HX.out.mono HD.out.size)).mono HB.out))).mono ?_); rintro e y ⟨rfl, nn, hw⟩; replace HX : Hid (Below wd.heap.size wd y) := (show Below _ _ _ by rw [hw]; exact below_drewN HX.out _); clear hw)
    | (refine o_store rfl 47 _ _ rfl rfl g6 #[.slice none 0 0, .slice none 0 0] rfl rfl _ _ (H6.out.below HX.out) (asked_info _ _) rfl (asked_one _ _ _ _ _ _) ?_; intro ys hr ho; have HR := Lib.hid hr; have HWE := Lib.hid (below_one_of (HD.out.trans (Below.mono HX.out HD.out.size)) ho HS6.out.1 (Nat.le_trans HD.out.size (Below.size HX.out))); clear hr ho))
  refine bodyPost_ret (results_two rfl _ _ _ _ _ _ _ rfl HR.out Tryz.underlying47 rfl (asked_info _ _) rfl) rfl ?_
  rw [HR1.out]
  exact asked_none 1 HWE.out
set_option maxRecDepth 20000 in
set_option maxHeartbeats 40000000 in
theorem asks_r2 (mon : Int) (zs : List Int) (s : Sc) (day : Int) (L : List Ln) (pv lv bv : Value) (B : Nat) (w : World) (Q : Nat → Nat) (hB : B ≤ w.heap.size) (hp : Ints w B .i64 pv zs) (hv : Lns w B lv L) (h1 : Income.tabB zs = true) (h2 : Date.dayB day = false) : Calls Tryz.prog 14 #[.agg (cfg mon pv), .agg (s.cells lv bv), .int .i64 day] w (AskedTold (asksR zs s day L Q) w) := by
  obtain ⟨A, c, rfl, hl, hn, hc⟩ := hp
  have HP : Hid (Ints w B .i64 (.slice A zs.length c) zs) := ⟨A, c, rfl, hl, hn, hc⟩
  obtain ⟨A2, k, rfl⟩ := hv.shape
  have HV : Hid (Lns w B (.slice A2 L.length k) L) := hv
  have HB := Lib.hid hB
  obtain ⟨g3, wb, e1, e2, hB3, hb3⟩ := boxd_new w (cfg mon (.slice A zs.length c)) 45
  obtain ⟨g4, wc, e3, e4, hB4, hb4⟩ := boxd_new wb (s.cells (.slice A2 L.length k) bv) 38
  have e5 : g4 = g3 + 1 := by rw [e3, e2, Deep.nblk_alloc, e1]
  obtain ⟨g6, wd, e6, e7, hB6, hb6⟩ := boxd_new wc #[.slice none 0 0, .slice none 0 0] 47
  have e8 : g6 = g4 + 1 := by rw [e6, e4, Deep.nblk_alloc, e3]
  have HD : Hid (Below w.heap.size w wd) := below_to (below_to hb3 hb4) hb6
  have H3 : Hid (Boxd wd g3 (cfg mon (.slice A zs.length c)) 45) := (hB3.below hb4).below hb6
  have H4 : Hid (Boxd wd g4 (s.cells (.slice A2 L.length k) bv) 38) := hB4.below hb6
  have H6 := Lib.hid hB6
  have HS6 : Hid (w.heap.size ≤ g6 ∧ g6 < wd.heap.size) := show w.heap.size ≤ g6 ∧ g6 < wd.heap.size from ⟨by omega, hB6.lt⟩
  have X31 : Hid ((cfg mon (.slice A zs.length c))[1]? = some (.slice A zs.length c)) := show _ = _ from rfl
  have X41 : Hid ((s.cells (.slice A2 L.length k) bv)[1]? = some (.slice A2 L.length k)) := show _ = _ from rfl
  have X44 : Hid ((s.cells (.slice A2 L.length k) bv)[4]? = some (.int .i64 s.inc)) := show _ = _ from rfl
  have X45 : Hid ((s.cells (.slice A2 L.length k) bv)[5]? = some (.int .i64 s.fam)) := show _ = _ from rfl
  have S3 := Lib.hid (cfg_info mon (.slice A zs.length c))
  have S4 := Lib.hid (sc_info s (.slice A2 L.length k) bv)
  have HX : Hid (Below wd.heap.size wd wd) := Below.refl _ _
  have c31 := (H3.out.cell (i := 1)).trans X31.out
  clear hl hn hc hv hB hB3 hb3 hB4 hb4 hB6 hb6
  have KGI := Lib.hid (fun W h => RIncome.r_good zs (.slice A zs.length c) B W h)
  have KD := Lib.hid (fun W => Date.rday_any day W)
  have HR1 := Lib.hid (show asksR zs s day L Q = ([], [], 1) from by unfold asksR; rw [if_neg (fun h => by rw [h2] at h; exact Bool.false_ne_true h.2.1)])
  rw [h1] at KGI
  rw [h2] at KD
  clear h1 h2
  generalize cfg mon (.slice A zs.length c) = C3 at *
  generalize s.cells (.slice A2 L.length k) bv = C4 at *
  go_enter Tryz.func14, Tryz.ntmps14
  go_upto_region 1 with fail
  rw [← e2, ← e1, ← e5, ← e8, ← e4, ← e7]
  clear e1 e2 e3 e4 e5 e6 e7 e8
  go_wp2_with (first
    | (go_at_call 42; (refine (KGI.out _ (HP.out.below ((HD.out.trans (HX.out.mono HD.out.size)).mono HB.out))).mono ?_); rintro e y ⟨rfl, nn, hw⟩; replace HX : Hid (Below wd.heap.size wd y) := (show Below _ _ _ by rw [hw]; exact below_drewN HX.out _); clear hw)
    | (go_at_call 43; (refine (KD.out _).mono ?_); rintro e y0 ⟨rfl, rfl⟩)
    | (refine o_store rfl 47 _ _ rfl rfl g6 #[.slice none 0 0, .slice none 0 0] rfl rfl _ _ (H6.out.below HX.out) (asked_info _ _) rfl (asked_one _ _ _ _ _ _) ?_; intro ys hr ho; have HR := Lib.hid hr; have HWE := Lib.hid (below_one_of (HD.out.trans (Below.mono HX.out HD.out.size)) ho HS6.out.1 (Nat.le_trans HD.out.size (Below.size HX.out))); clear hr ho))
  refine bodyPost_ret (results_two rfl _ _ _ _ _ _ _ rfl HR.out Tryz.underlying47 rfl (asked_info _ _) rfl) rfl ?_
  rw [HR1.out]
  exact asked_none 1 HWE.out
set_option maxRecDepth 20000 in
set_option maxHeartbeats 40000000 in
theorem asks_r3 (mon : Int) (zs : List Int) (s : Sc) (day : Int) (L : List Ln) (pv lv bv : Value) (B : Nat) (w : World) (Q : Nat → Nat) (hB : B ≤ w.heap.size) (hp : Ints w B .i64 pv zs) (hv : Lns w B lv L) (h1 : Income.tabB zs = true) (h2 : Date.dayB day = true) (hN : L.length ≤ 1000) (hQ : FitsA zs s day L Q) : Calls Tryz.prog 14 #[.agg (cfg mon pv), .agg (s.cells lv bv), .int .i64 day] w (AskedTold (asksR zs s day L Q) w) := by
  obtain ⟨A, c, rfl, hl, hn, hc⟩ := hp
  have HP : Hid (Ints w B .i64 (.slice A zs.length c) zs) := ⟨A, c, rfl, hl, hn, hc⟩
  obtain ⟨A2, k, rfl⟩ := hv.shape
  have HV : Hid (Lns w B (.slice A2 L.length k) L) := hv
  have HB := Lib.hid hB
  obtain ⟨g3, wb, e1, e2, hB3, hb3⟩ := boxd_new w (cfg mon (.slice A zs.length c)) 45
  obtain ⟨g4, wc, e3, e4, hB4, hb4⟩ := boxd_new wb (s.cells (.slice A2 L.length k) bv) 38
  have e5 : g4 = g3 + 1 := by rw [e3, e2, Deep.nblk_alloc, e1]
  obtain ⟨g6, wd, e6, e7, hB6, hb6⟩ := boxd_new wc #[.slice none 0 0, .slice none 0 0] 47
  have e8 : g6 = g4 + 1 := by rw [e6, e4, Deep.nblk_alloc, e3]
  have HD : Hid (Below w.heap.size w wd) := below_to (below_to hb3 hb4) hb6
  have H3 : Hid (Boxd wd g3 (cfg mon (.slice A zs.length c)) 45) := (hB3.below hb4).below hb6
  have H4 : Hid (Boxd wd g4 (s.cells (.slice A2 L.length k) bv) 38) := hB4.below hb6
  have H6 := Lib.hid hB6
  have HS6 : Hid (w.heap.size ≤ g6 ∧ g6 < wd.heap.size) := show w.heap.size ≤ g6 ∧ g6 < wd.heap.size from ⟨by omega, hB6.lt⟩
  have X31 : Hid ((cfg mon (.slice A zs.length c))[1]? = some (.slice A zs.length c)) := show _ = _ from rfl
  have X41 : Hid ((s.cells (.slice A2 L.length k) bv)[1]? = some (.slice A2 L.length k)) := show _ = _ from rfl
  have X44 : Hid ((s.cells (.slice A2 L.length k) bv)[4]? = some (.int .i64 s.inc)) := show _ = _ from rfl
  have X45 : Hid ((s.cells (.slice A2 L.length k) bv)[5]? = some (.int .i64 s.fam)) := show _ = _ from rfl
  have S3 := Lib.hid (cfg_info mon (.slice A zs.length c))
  have S4 := Lib.hid (sc_info s (.slice A2 L.length k) bv)
  have HX : Hid (Below wd.heap.size wd wd) := Below.refl _ _
  have c31 := (H3.out.cell (i := 1)).trans X31.out
  clear hl hn hc hv hB hB3 hb3 hB4 hb4 hB6 hb6
  have KGI := Lib.hid (fun W h => RIncome.r_good zs (.slice A zs.length c) B W h)
  have KD := Lib.hid (fun W => Date.rday_any day W)
  have hbad : L.all goodL = false → asksR zs s day L Q = ([], [], 1) := fun h => by
    unfold asksR
    rw [if_neg (fun k => by rw [h] at k; exact Bool.false_ne_true k.2.2)]
  have HRB := Lib.hid hbad
  have HRC : Hid (L.all goodL = true → asksR zs s day L Q = if (L.filter partB).length = 0 then ([], [], 0) else finR ((L.filter partB).map fun l => l.id) (capR (planR zs (holdsI s.plan s.since day) day s.fam s.inc (L.filter partB) Q) (L.filter partB))) := fun h => by
    show _ = _
    unfold asksR
    rw [if_pos ⟨h1, h2, h⟩]
    rfl
  have HFQ : Hid (L.all goodL = true → holdsI s.plan s.since day = 4 → Fits zs s.fam s.inc (L.filter partB) Q) := fun h => hQ ⟨h1, h2, h⟩
  have HDY := Lib.hid h2
  have KH := Lib.hid (fun W => r_holds s (.slice A2 L.length k) bv day W)
  have KINC : Hid (∀ (P : List Ln) (v : Value) (W : World), Ints W W.heap.size .i64 (.slice A zs.length c) zs → Lns W W.heap.size v P → P.length ≤ 1000 → 0 < P.length → (∀ l ∈ P, goodL l = true) → Fits zs s.fam s.inc P Q → Calls Tryz.prog 44 #[.agg (cfg mon (.slice A zs.length c)), .agg (s.cells (.slice A2 L.length k) bv), v] W (AskedTold (finR (P.map fun l => l.id) (capR (incR zs s.fam s.inc P Q) P)) W)) := fun P v W g1 g2 g3 g4 g5 g6 => r_income mon zs s P _ _ bv v W.heap.size W Q (Nat.le_refl _) g1 g2 g3 g4 g5 g6
  rw [h1] at KGI
  rw [h2] at KD
  have HVD : Hid (Lns wd w.heap.size (.slice A2 L.length k) L) := (HV.out.below (HD.out.mono HB.out)).more HB.out
  clear h1 h2 hQ hbad
  obtain ⟨i0, hi0, hz0, hz1, hz2⟩ := info_parts ln_zero
  have HI := Lib.hid hi0
  have HZ0 := Lib.hid hz0
  have HZ1 := Lib.hid hz1
  have HZ2 := Lib.hid hz2
  obtain ⟨iI, q1, q2, q3, q4⟩ := info_parts int_zero
  have HII := Lib.hid (And.intro q1 (And.intro q2 (And.intro q3 q4)))
  clear q1 q2 q3 q4
  obtain ⟨iA, q1, q2, q3, q4⟩ := info_parts i64_zero
  have HIA := Lib.hid (And.intro q1 (And.intro q2 (And.intro q3 q4)))
  clear q1 q2 q3 q4 hi0 hz0 hz1 hz2
  generalize cfg mon (.slice A zs.length c) = C3 at *
  generalize s.cells (.slice A2 L.length k) bv = C4 at *
  go_enter Tryz.func14, Tryz.ntmps14
  go_upto_region 1 with fail
  rw [← e2, ← e1, ← e5, ← e8, ← e4, ← e7]
  clear e1 e2 e3 e4 e5 e6 e7 e8
  go_upto_region 2 with (first
    | (go_at_call 42; (refine (KGI.out _ (HP.out.below ((HD.out.trans (HX.out.mono HD.out.size)).mono HB.out))).mono ?_); rintro e y ⟨rfl, nn, hw⟩; replace HX : Hid (Below wd.heap.size wd y) := (show Below _ _ _ by rw [hw]; exact below_drewN HX.out _); clear hw)
    | (go_at_call 43; (refine (KD.out _).mono ?_); rintro e y0 ⟨rfl, rfl⟩))
  have HXZ := Lib.hid HX.out
  clear c31 KGI KD
  go_wp2_with fail
  go_loopw [8, 9] (fun u t wr => ∃ j : Nat, j ≤ L.length ∧ t = .int .i64 j ∧ Hid ((∀ i, i < j → ∀ y, L[i]? = some y → goodL y = true) ∧ Took wd.heap.size wr u ((L.take j).filter partB) ∧ Below wd.heap.size wd wr)) (fun _ t _ => L.length - (intOf t).toNat)
  case atStart => exact ⟨0, Nat.zero_le _, rfl, fun i hi => absurd hi (Nat.not_lt_zero _), World.ownsRow_nil _ _ _ _, HXZ.out⟩
  case round =>
    obtain ⟨j, hj, rfl, HJ⟩ := hrel

    have HW := Lib.hid HJ.out.2.2
    by_cases hlt : j < L.length
    · obtain ⟨A5, c5, rfl⟩ := own_slice' HJ.out.2.1
      obtain ⟨b, off, k', e0, hb, -⟩ := HVD.out.open (by omega)
      injection e0 with e0 _ e2
      subst e0 e2
      have c41 := ((H4.out.below HW.out).cell (i := 1)).trans X41.out
      obtain ⟨x, hx⟩ : ∃ x, L[j]? = some x := ⟨_, List.getElem?_eq_getElem hlt⟩
      have HBD : Hid (b < wd.heap.size) := Nat.lt_of_lt_of_le hb HD.out.size
      have hrg := HVD.out.at_ hx
      have HRG : Hid (∀ W, Below wd.heap.size wd W → W.rangeAt b (off + j * 13) x.cells.toList) := fun W h => range_keep hrg h HBD.out
      have HS := Lib.hid (ln_info' x)
      have HO := Lib.hid (ln_one x)
      have HLC : Hid (x.cells.toList.length = 13) := show _ = _ from rfl
      have KP := Lib.hid (fun W => r_part x W)
      have KG := Lib.hid (fun W => RLoan.r_good x W)
      have KS := Lib.hid (fun W => run_one x W)
      cases hg : goodL x with
      | false =>
        have HR1 := Lib.hid (HRB.out (by rw [List.all_eq_false]; exact ⟨x, List.mem_of_getElem? hx, by rw [hg]; exact Bool.false_ne_true⟩))
        rw [hg] at KG
        clear hx hg hrg KP KS
        generalize x.cells = C at *
        go_wp2_with (first
          | (refine Rws.load_mid_want (by rfl) 23 _ rfl _ _ rfl C _ (HRG.out _ HW.out) Tryz.underlying23 rfl HS.out ?_)
          | (go_at_call 26; (with_reducible refine (KG.out _).mono ?_); rintro e y1 ⟨rfl, hb⟩; replace HW := Lib.hid (below_to HW.out hb); clear hb; have c41 := ((H4.out.below HW.out).cell (i := 1)).trans X41.out)
          | (refine o_store rfl 47 _ _ rfl rfl g6 #[.slice none 0 0, .slice none 0 0] rfl rfl _ _ (H6.out.below HW.out) (asked_info _ _) rfl (asked_one _ _ _ _ _ _) ?_; intro ys hr ho; have HR := Lib.hid hr; have HWE := Lib.hid (below_one_of (HD.out.trans (Below.mono HW.out HD.out.size)) ho HS6.out.1 (Nat.le_trans HD.out.size (Below.size HW.out))); clear hr ho))
        refine bodyPost_ret (results_two rfl _ _ _ _ _ _ _ rfl HR.out Tryz.underlying47 rfl (asked_info _ _) rfl) rfl ?_
        rw [HR1.out]
        exact asked_none 1 HWE.out
      | true =>
        have HGN : Hid (∀ i, i < j + 1 → ∀ y, L[i]? = some y → goodL y = true) := fun i hi y hy => by
          by_cases hij : i = j
          · subst hij
            rw [hx] at hy
            exact (Option.some.inj hy) ▸ hg
          · exact HJ.out.1 i (by omega) y hy
        have HP1 := Lib.hid (take_part hx)
        have HTN0 : Hid (∀ (w' : World) (v : Value), partB x = true → w'.ownsRow wd.heap.size 23 13 v (((L.take j).filter partB).length + 1) (flat ((L.take j).filter partB) ++ x.cells.toList) → Took wd.heap.size w' v ((L.take (j + 1)).filter partB)) := fun w' v hp h => took_more (by rw [HP1.out, if_pos hp]) h
        have HT0 : Hid (partB x = false → (L.take (j + 1)).filter partB = (L.take j).filter partB) := fun h => by rw [HP1.out, if_neg (by rw [h]; exact Bool.false_ne_true), List.append_nil]
        have hq := part_len L j
        have HT := Lib.hid HJ.out.2.1
        rw [hg] at KG
        clear hx hg hrg HP1
        generalize partB x = cp at *
        generalize x.cells = C at *
        generalize (L.take j).filter partB = M at *
        generalize hMM : (L.take (j + 1)).filter partB = M' at *
        have HMM := Lib.hid hMM
        clear hMM
        cases cp with
        | false =>
          clear KS HTN0
          go_upto_region 7 with fail
          go_wp2_with (first
            | (refine Rws.load_mid_want (by rfl) 23 _ rfl _ _ rfl C _ (HRG.out _ HW.out) Tryz.underlying23 rfl HS.out ?_)
            | (go_at_call 26; (with_reducible refine (KG.out _).mono ?_); rintro e y1 ⟨rfl, hb⟩; replace HT : Hid (Took wd.heap.size y1 (.slice A5 M.length c5) M) := own_below HT.out hb; replace HW := Lib.hid (below_to HW.out hb); clear hb; have c41 := ((H4.out.below HW.out).cell (i := 1)).trans X41.out)
            | (go_at_call 18; (with_reducible refine (KP.out _).mono ?_); rintro e y2 ⟨rfl, hb⟩; replace HT : Hid (Took wd.heap.size y2 (.slice A5 M.length c5) M) := own_below HT.out hb; replace HW := Lib.hid (below_to HW.out hb); clear hb; have c41 := ((H4.out.below HW.out).cell (i := 1)).trans X41.out))
          go_roundw
          case rel => exact ⟨j + 1, by omega, rfl, HGN.out, by rw [HMM.out, HT0.out (by simp)]; exact HT.out, HW.out⟩
          case measure => simp [intOf]; omega
        | true =>
          have HTN := Lib.hid (fun w' v => HTN0.out w' v (by simp))
          clear HTN0 HT0
          go_upto_region 7 with fail
          go_wp2_with (first
            | (refine Rws.load_mid_want (by rfl) 23 _ rfl _ _ rfl C _ (HRG.out _ HW.out) Tryz.underlying23 rfl HS.out ?_)
            | (go_at_call 26; (with_reducible refine (KG.out _).mono ?_); rintro e y1 ⟨rfl, hb⟩; replace HT : Hid (Took wd.heap.size y1 (.slice A5 M.length c5) M) := own_below HT.out hb; replace HW := Lib.hid (below_to HW.out hb); clear hb; have c41 := ((H4.out.below HW.out).cell (i := 1)).trans X41.out)
            | (go_at_call 18; (with_reducible refine (KP.out _).mono ?_); rintro e y2 ⟨rfl, hb⟩; replace HT : Hid (Took wd.heap.size y2 (.slice A5 M.length c5) M) := own_below HT.out hb; replace HW := Lib.hid (below_to HW.out hb); clear hb; have c41 := ((H4.out.below HW.out).cell (i := 1)).trans X41.out)
            | (refine wpList_slice (by rfl) _ _ _ rfl _ _ (by simp [Act.eval, Act.put]) (KS.out _) ?_)
            | (at_builtin; refine wpList_append_row (by rfl) _ _ _ rfl wd.heap.size 23 i0 _ 13 104 Tryz.underlying33 HI.out HZ0.out HZ1.out HZ2.out rfl (by omega) _ _ C HLC.out HO.out (.slice A5 M.length c5) M.length (flat M) (by rfl) HT.out y2.heap.size (by rfl) rfl (by unfold maxLen; omega) (by omega) HW.out.size ?_; intro v3 w3 hown hgrow; have HZ : Hid (Took wd.heap.size w3 v3 M' ∧ Below wd.heap.size wd w3) := (show _ ∧ _ from ⟨HTN.out _ _ hown, below_row HW.out (Nat.le_refl _) HT.out hgrow⟩); obtain ⟨A3, c3, rfl⟩ := own_slice' hown; clear hown hgrow))
          go_roundw
          case rel => exact ⟨j + 1, by omega, rfl, HGN.out, by rw [HMM.out]; exact HZ.out.1, HZ.out.2⟩
          case measure => simp [intOf]; omega
    · obtain rfl : j = L.length := by omega
      have hall : L.all goodL = true := List.all_eq_true.2 fun y hy => by
        obtain ⟨i, hi, rfl⟩ := List.getElem_of_mem hy
        exact HJ.out.1 i hi _ (List.getElem?_eq_getElem hi)
      have hT := HJ.out.2.1
      rw [List.take_length] at hT
      have HT := Lib.hid hT
      obtain ⟨A5, c5, rfl⟩ := own_slice' HT.out
      have HVP : Hid (Lns wr wr.heap.size (.slice A5 (L.filter partB).length c5) (L.filter partB)) := HT.out.lns
      have hPN : (L.filter partB).length ≤ 1000 := Nat.le_trans (List.length_filter_le _ _) hN
      have HPO := Lib.hid (part_of hall)
      have HRR := Lib.hid (HRC.out hall)
      have HFR := Lib.hid (HFQ.out hall)
      obtain ⟨gq, wg, eg1, eg2, hBg, hbg⟩ := boxd_new wr #[.slice none 0 0, .slice none 0 0] 47
      have HGS : Hid (Grow wr wg gq #[.slice none 0 0, .slice none 0 0] (.slice none 0 0) (.slice none 0 0) [] []) := (show Grow _ _ _ _ _ _ _ _ by rw [eg1, eg2]; exact Grow.start wr _)
      have c41 := ((H4.out.below HW.out).cell (i := 1)).trans X41.out
      clear hall HJ HT hT HRC HFQ HRB hBg hbg hlt hj
      generalize L.filter partB = PL at *
      go_upto_region 12 with fail
      rw [← eg2, ← eg1]
      clear eg1 eg2 c41
      have HXG : Hid (Below wd.heap.size wd wg) := below_to HW.out HGS.out.low
      by_cases h0 : PL.length = 0
      · have t1 : ((PL.length : Int) == 0) = true := by rw [h0]; rfl
        have HR0 : Hid (asksR zs s day L Q = ([], [], 0)) := (show _ = _ by rw [HRR.out, if_pos h0])
        have HBX := Lib.hid HGS.out.box
        clear h0 HRR HFR
        go_wp2_with (first
          | (refine o_load (by rfl) 47 _ rfl gq rfl _ _ _ HBX.out Tryz.underlying47 rfl (asked_info _ _) ?_)
          | (refine o_store rfl 47 _ _ rfl rfl g6 #[.slice none 0 0, .slice none 0 0] rfl rfl _ _ (H6.out.below HXG.out) (asked_info _ _) rfl (asked_one _ _ _ _ _ _) ?_; intro ys hr ho; have HR := Lib.hid hr; have HWE := Lib.hid (below_one_of (HD.out.trans (Below.mono HXG.out HD.out.size)) ho HS6.out.1 (Nat.le_trans HD.out.size (Below.size HXG.out))); clear hr ho))
        refine bodyPost_ret (results_two rfl _ _ _ _ _ _ _ rfl HR.out Tryz.underlying47 rfl (asked_info _ _) rfl) rfl ?_
        rw [HR0.out]
        exact asked_none 0 HWE.out
      · have t1 : ((PL.length : Int) == 0) = false := by rw [beq_eq_false_iff_ne]; omega
        have HR0 : Hid (asksR zs s day L Q = finR (PL.map fun l => l.id) (capR (planR zs (holdsI s.plan s.since day) day s.fam s.inc PL Q) PL)) := (show _ = _ by rw [HRR.out, if_neg h0])
        have HP0 : Hid (0 < PL.length) := Nat.pos_of_ne_zero h0
        clear h0 HRR
        by_cases h4 : holdsI s.plan s.since day = 4
        · have HR4 : Hid (asksR zs s day L Q = finR (PL.map fun l => l.id) (capR (incR zs s.fam s.inc PL Q) PL)) := (show _ = _ by rw [HR0.out]; unfold planR; rw [if_pos h4])
          have KI := Lib.hid (fun v W g1 g2 => KINC.out PL v W g1 g2 hPN HP0.out (fun l hl => (HPO.out l hl).1) (HFR.out h4))
          generalize finR (PL.map fun l => l.id) (capR (incR zs s.fam s.inc PL Q) PL) = R at *
          rw [h4] at KH
          clear h4 HR0 KINC HFR
          have HVB : Hid (Below wr.heap.size wr wg) := HGS.out.low
          go_wp2_with (first
            | (refine o_load (by rfl) 38 _ rfl g4 rfl _ _ _ (H4.out.below HXG.out) Tryz.underlying38 rfl S4.out ?_)
            | (refine o_load (by rfl) 45 _ rfl g3 rfl _ _ _ (H3.out.below HXG.out) Tryz.underlying45 rfl S3.out ?_)
            | (go_at_call 20; (with_reducible refine (KH.out _).mono ?_); rintro e y4 ⟨rfl, hb⟩; replace HVB := Lib.hid (below_to HVB.out hb); replace HXG := Lib.hid (below_to HXG.out hb); clear hb)
            | (go_at_call 44; (refine (KI.out _ _ ((HP.out.below ((HD.out.trans (HXG.out.mono HD.out.size)).mono HB.out)).more (Nat.le_trans HB.out (Nat.le_trans HD.out.size HXG.out.size))) ((HVP.out.below HVB.out).more HVB.out.size)).mono ?_); rintro e y5 ⟨u1, u2, rfl, h5, h6, hb⟩; replace HXG := Lib.hid (below_to HXG.out hb); have H5 := Lib.hid h5; have H7 := Lib.hid h6; obtain ⟨A7, c7, rfl, -⟩ := id h5; obtain ⟨A8, c8, rfl, -⟩ := id h6; clear h5 h6 hb)
            | (refine o_store rfl 47 _ _ rfl rfl g6 _ rfl rfl _ _ (H6.out.below HXG.out) (asked_info _ _) rfl (asked_one _ _ _ _ _ _) ?_; intro ys hr ho; have HR9 := Lib.hid hr; have HWE := Lib.hid (below_one_of (HD.out.trans (HXG.out.mono HD.out.size)) ho HS6.out.1 (Nat.le_trans HD.out.size HXG.out.size)); have HOO := Lib.hid ho; clear hr ho))
          refine bodyPost_ret (results_two rfl _ _ _ _ _ _ _ rfl HR9.out Tryz.underlying47 rfl (asked_info _ _) rfl) rfl ?_
          rw [HR4.out]
          exact ⟨_, _, rfl, ints_one_far H5.out (Nat.le_refl _) (H6.out.below HXG.out) (two_slices _ _ _ _ _ _) HOO.out, ints_one_far H7.out (Nat.le_refl _) (H6.out.below HXG.out) (two_slices _ _ _ _ _ _) HOO.out, HWE.out⟩
        · have HR4 : Hid (asksR zs s day L Q = (if errs (ofR (holdsI s.plan s.since day) day) PL = 0 then (PL.map (fun l => l.id), PL.map (fun l => (ofR (holdsI s.plan s.since day) day l).1), 0) else ([], [], errs (ofR (holdsI s.plan s.since day) day) PL))) := (show _ = _ from HR0.out.trans (plan_each h4 HDY.out HP0.out HPO.out))
          have t4 : (holdsI s.plan s.since day == 4) = false := by rw [beq_eq_false_iff_ne]; exact h4
          clear h4 HR0 KINC HFR HP0
          generalize holdsI s.plan s.since day = how at *
          have KOF := Lib.hid (fun x W => rp_of x how day W)
          have HLW : Hid (Lns wr wr.heap.size (.slice A5 PL.length c5) PL) := HVP.out
          clear HVP HDY HPO
          go_upto_region 17 with (first
            | (refine o_load (by rfl) 38 _ rfl g4 rfl _ _ _ (H4.out.below HXG.out) Tryz.underlying38 rfl S4.out ?_)
            | (go_at_call 20; (with_reducible refine (KH.out _).mono ?_); rintro e y4 ⟨rfl, hb⟩; replace HGS := Lib.hid (HGS.out.below hb); replace HXG := Lib.hid (below_to HXG.out hb); clear hb))
          obtain ⟨wr0, hwr0⟩ : ∃ y, y = wr := ⟨_, rfl⟩
          rw [← hwr0] at HGS HLW
          have HXW : Hid (Below wd.heap.size wd wr0) := (show Below _ _ _ by rw [hwr0]; exact HW.out)
          clear hwr0 HW KH
          go_wp2_with fail
          go_loopw [12] (fun t wr => ∃ j : Nat, j ≤ PL.length ∧ t = .int .i64 j ∧ Hid ((∀ i, i < j → ∀ y, PL[i]? = some y → (ofR how day y).2 = 0) ∧ ∃ vi va, Grow wr0 wr gq #[vi, va] vi va ((PL.take j).map fun l => .int .i64 l.id) ((PL.take j).map fun l => .int .i64 (ofR how day l).1))) (fun t _ => PL.length - (intOf t).toNat)
          case atStart => exact ⟨0, Nat.zero_le _, rfl, fun i hi => absurd hi (Nat.not_lt_zero _), _, _, HGS.out⟩
          case round =>
            obtain ⟨j, hj, rfl, HJ⟩ := hrel

            obtain ⟨vi, va, hG⟩ := HJ.out.2
            have HG := Lib.hid hG
            clear hG
            by_cases hlt : j < PL.length
            · obtain ⟨b, off, k', e0, hb, -⟩ := HLW.out.open (by omega)
              injection e0 with e0 _ e2
              subst e0 e2
              obtain ⟨x, hx⟩ : ∃ x, PL[j]? = some x := ⟨_, List.getElem?_eq_getElem hlt⟩
              have hbf : b < wr0.heap.size := hb
              have hcf : wr0.cell? ⟨b, off + j * 13, none⟩ = some (.int .i64 x.id) := by have h := HLW.out.at_ hx 0 (.int .i64 x.id) rfl; rwa [Nat.add_zero] at h
              have HM : Hid (wr.rangeAt b (off + j * 13) x.cells.toList) := range_keep (HLW.out.at_ hx) HG.out.low hbf
              have HS := Lib.hid (ln_info' x)
              have KO := Lib.hid (fun W => KOF.out x W)
              by_cases he : (ofR how day x).2 = 0
              · have HER : Hid (∀ i, i < j + 1 → ∀ y, PL[i]? = some y → (ofR how day y).2 = 0) := fun i hi y hy => by
                  by_cases hij : i = j
                  · subst hij
                    rw [hx] at hy
                    exact (Option.some.inj hy) ▸ he
                  · exact HJ.out.1 i (by omega) y hy
                have t0 : ((ofR how day x).2 != 0) = false := by rw [he]; rfl
                have HTX := Lib.hid (take_map (fun l => Value.int .i64 l.id) hx)
                have HTY := Lib.hid (take_map (fun l => Value.int .i64 (ofR how day l).1) hx)
                clear he hx
                generalize (ofR how day x).2 = oe at *
                generalize (ofR how day x).1 = q at *
                generalize x.id = nid at *
                generalize x.cells = C at *
                have HXN : Hid (((PL.take j).map fun l => Value.int .i64 l.id).length ≤ 1000 ∧ ((PL.take j).map fun l => Value.int .i64 (ofR how day l).1).length ≤ 1000) := (show _ ∧ _ by rw [take_len _ hj, take_len _ hj]; omega)
                generalize (PL.take j).map (fun l => Value.int .i64 l.id) = X at *
                generalize (PL.take j).map (fun l => Value.int .i64 (ofR how day l).1) = Y at *
                go_upto_region 23 with (first
                  | (refine Rws.load_mid_want (by rfl) 23 _ rfl _ _ rfl C _ HM.out Tryz.underlying23 rfl HS.out ?_)
                  | (go_at_call 45; (refine (KO.out _).mono ?_); rintro e z ⟨rfl, hh⟩; replace HG := Lib.hid (HG.out.below hh); clear hh))
                have HG0 := Lib.hid HG.out.drew
                have hS0 := HG0.out.keep hbf hcf
                refine Till.start (fun W => W.cell? ⟨gq, 0, none⟩ = some vi ∧ W.cell? ⟨gq, 1, none⟩ = some va ∧ W.cell? ⟨b, off + j * 13, none⟩ = some (.int .i64 nid)) 15 (by kernel_rfl) ?_
                refine Till.take_free (v := ?_) 0 89 rfl rfl (by kernel_rfl) (by kernel_rfl) (by kernel_rfl) (fun _ _ _ h => h) (by rfl) (by kernel_rfl) ?_ (fun _ => by assumption) ?_
                rotate_left
                · intro w'
                  go_simp
                  all_goals with_reducible rfl
                (try simp only [Act.put, List.setIfInBounds_toArray, List.set_cons_zero, List.set_cons_succ])
                refine Till.take_held (v := ?_) 1 90 rfl rfl (by kernel_rfl) (by kernel_rfl) (by kernel_rfl) (fun _ _ _ h => h) (by rfl) (by kernel_rfl) (by kernel_rfl) (by kernel_rfl) ?_ (fun _ => by assumption) ?_
                rotate_left
                · intro w' hSw
                  (try dsimp only at hSw)
                  go_simp
                  all_goals with_reducible rfl
                (try simp only [Act.put, List.setIfInBounds_toArray, List.set_cons_zero, List.set_cons_succ])
                refine Till.take_free (v := ?_) 2 91 rfl rfl (by kernel_rfl) (by kernel_rfl) (by kernel_rfl) (fun _ _ _ h => h) (by rfl) (by kernel_rfl) ?_ (fun _ => by assumption) ?_
                rotate_left
                · intro w'
                  go_simp
                  all_goals with_reducible rfl
                (try simp only [Act.put, List.setIfInBounds_toArray, List.set_cons_zero, List.set_cons_succ])
                refine Till.take_free (v := ?_) 3 92 rfl rfl (by kernel_rfl) (by kernel_rfl) (by kernel_rfl) (fun _ _ _ h => h) (by rfl) (by kernel_rfl) ?_ (fun _ => by assumption) ?_
                rotate_left
                · intro w'
                  go_simp
                  all_goals with_reducible rfl
                (try simp only [Act.put, List.setIfInBounds_toArray, List.set_cons_zero, List.set_cons_succ])
                refine Till.take_free (v := ?_) 4 93 rfl rfl (by kernel_rfl) (by kernel_rfl) (by kernel_rfl) (fun _ _ _ h => h) (by rfl) (by kernel_rfl) ?_ (fun _ => by assumption) ?_
                rotate_left
                · intro w'
                  go_simp
                  all_goals with_reducible rfl
                (try simp only [Act.put, List.setIfInBounds_toArray, List.set_cons_zero, List.set_cons_succ])
                refine Till.take_free (v := ?_) 5 94 rfl rfl (by kernel_rfl) (by kernel_rfl) (by kernel_rfl) (fun _ _ _ h => h) (by rfl) (by kernel_rfl) ?_ (fun _ => by assumption) ?_
                rotate_left
                · intro w'
                  go_simp
                  all_goals with_reducible rfl
                (try simp only [Act.put, List.setIfInBounds_toArray, List.set_cons_zero, List.set_cons_succ])
                refine Till.take_held (v := ?_) 6 95 rfl rfl (by kernel_rfl) (by kernel_rfl) (by kernel_rfl) (fun _ _ _ h => h) (by rfl) (by kernel_rfl) (by kernel_rfl) (by kernel_rfl) ?_ (fun _ => by assumption) ?_
                rotate_left
                · intro w' hSw
                  (try dsimp only at hSw)
                  go_simp
                  all_goals with_reducible rfl
                (try simp only [Act.put, List.setIfInBounds_toArray, List.set_cons_zero, List.set_cons_succ])
                refine Till.take_free (v := ?_) 9 98 rfl rfl (by kernel_rfl) (by kernel_rfl) (by kernel_rfl) (fun _ _ _ h => h) (by rfl) (by kernel_rfl) ?_ (fun _ => by assumption) ?_
                rotate_left
                · intro w'
                  go_simp
                  all_goals with_reducible rfl
                (try simp only [Act.put, List.setIfInBounds_toArray, List.set_cons_zero, List.set_cons_succ])
                refine Till.take_held (v := ?_) 10 99 rfl rfl (by kernel_rfl) (by kernel_rfl) (by kernel_rfl) (fun _ _ _ h => h) (by rfl) (by kernel_rfl) (by kernel_rfl) (by kernel_rfl) ?_ (fun _ => by assumption) ?_
                rotate_left
                · intro w' hSw
                  (try dsimp only at hSw)
                  go_simp
                  all_goals with_reducible rfl
                (try simp only [Act.put, List.setIfInBounds_toArray, List.set_cons_zero, List.set_cons_succ])
                refine Till.take_free (v := ?_) 11 100 rfl rfl (by kernel_rfl) (by kernel_rfl) (by kernel_rfl) (fun _ _ _ h => h) (by rfl) (by kernel_rfl) ?_ (fun _ => by assumption) ?_
                rotate_left
                · intro w'
                  go_simp
                  all_goals with_reducible rfl
                (try simp only [Act.put, List.setIfInBounds_toArray, List.set_cons_zero, List.set_cons_succ])
                refine Till.goes_next (rs := [7, 12]) (by kernel_rfl) (by simp) (Till.Next.cons rfl (fun K hK => ?_) (Till.Next.cons rfl (fun K hK => ?_) (Till.Next.nil)))
                · refine Till.step_lit (by rfl) 41 _ rfl (.int .i64 nid) 3 (by rfl) (lit_int _ _) ?_
                  obtain ⟨y1, ey1⟩ : ∃ y, y = World.alloc (World.drew z) (.cells #[.int .i64 nid] 3) := ⟨_, rfl⟩
                  obtain ⟨k1, ek1⟩ : ∃ k, k = ((World.drew z)).heap.size := ⟨_, rfl⟩
                  rw [← ey1, ← ek1]
                  have HG1 : Hid (Grow wr0 y1 gq #[vi, va] vi va X Y) := (show Grow wr0 y1 gq #[vi, va] vi va X Y by rw [ey1]; exact HG0.out.alloc _)
                  have HC1 : Hid (y1.cell? ⟨k1, 0, none⟩ = some (.int .i64 nid) ∧ k1 < y1.heap.size) := (show _ ∧ _ from ⟨by rw [ey1, ek1]; exact (World.cell?_alloc_new _ _ _ _).trans rfl, by rw [ey1, ek1]; simp⟩)
                  have hS1 := HG1.out.keep hbf hcf
                  clear ey1 ek1
                  refine hK.out _ _ (fun _ => hS1) ?_
                  clear hK K
                  (try simp only [Act.put, List.setIfInBounds_toArray, List.set_cons_zero, List.set_cons_succ])
                  refine Till.goes_next (rs := [8, 12]) (by kernel_rfl) (by simp) (Till.Next.cons rfl (fun K hK => ?_) (Till.Next.cons rfl (fun K hK => ?_) (Till.Next.nil)))
                  · refine Till.step_cell (by rfl) _ _ _ (by rfl) (gq + 1) 3 iI (.int .i64 0) 8 Tryz.underlying41 HII.out.1 HII.out.2.1 HII.out.2.2.1 HII.out.2.2.2 rfl (.int .i64 nid) rfl vi X.length X (by rfl) HG1.out.ri k1 (by rfl) HC1.out.1 (by have := HXN.out; unfold maxLen; omega) (by have := HXN.out; omega) (by have := HG1.out.box.lt; omega) ?_
                    intro v2 y2 hown hgrow
                    obtain ⟨A2, c2, rfl⟩ := own_slice' hown
                    have HG2 : Hid (Grow wr0 y2 gq #[vi, va] (.slice A2 (X.length + 1) c2) va (X ++ [.int .i64 nid]) Y) := (show Grow _ _ _ _ _ _ _ _ from HG1.out.growI hown hgrow)
                    clear hown hgrow
                    have hS2 := HG2.out.keep hbf hcf
                    refine hK.out _ _ (fun _ => hS2) ?_
                    clear hK K
                    (try simp only [Act.put, List.setIfInBounds_toArray, List.set_cons_zero, List.set_cons_succ])
                    refine Till.take_free (v := ?_) 14 103 rfl rfl (by kernel_rfl) (by kernel_rfl) (by kernel_rfl) (fun _ _ _ h => h) (by rfl) (by kernel_rfl) ?_ (fun _ => by assumption) ?_
                    rotate_left
                    · intro w'
                      go_simp
                      all_goals with_reducible rfl
                    (try simp only [Act.put, List.setIfInBounds_toArray, List.set_cons_zero, List.set_cons_succ])
                    refine Till.goes_next (rs := [12]) (by kernel_rfl) (by simp) (Till.Next.cons rfl (fun K hK => ?_) (Till.Next.nil))
                    refine Till.step_lit (by rfl) 32 _ rfl (.int .i64 q) 2 (by rfl) (lit_long _ _) ?_
                    obtain ⟨y3, ey3⟩ : ∃ y, y = World.alloc y2 (.cells #[.int .i64 q] 2) := ⟨_, rfl⟩
                    obtain ⟨k3, ek3⟩ : ∃ k, k = (y2).heap.size := ⟨_, rfl⟩
                    rw [← ey3, ← ek3]
                    have HG3 : Hid (Grow wr0 y3 gq #[vi, va] (.slice A2 (X.length + 1) c2) va (X ++ [.int .i64 nid]) Y) := (show Grow wr0 y3 gq #[vi, va] (.slice A2 (X.length + 1) c2) va (X ++ [.int .i64 nid]) Y by rw [ey3]; exact HG2.out.alloc _)
                    have HC3 : Hid (y3.cell? ⟨k3, 0, none⟩ = some (.int .i64 q) ∧ k3 < y3.heap.size) := (show _ ∧ _ from ⟨by rw [ey3, ek3]; exact (World.cell?_alloc_new _ _ _ _).trans rfl, by rw [ey3, ek3]; simp⟩)
                    have hS3 := HG3.out.keep hbf hcf
                    clear ey3 ek3
                    refine hK.out _ _ (fun _ => hS3) ?_
                    clear hK K
                    (try simp only [Act.put, List.setIfInBounds_toArray, List.set_cons_zero, List.set_cons_succ])
                    refine Till.goes_next (rs := [13]) (by kernel_rfl) (by simp) (Till.Next.cons rfl (fun K hK => ?_) (Till.Next.nil))
                    refine Till.step_cell (by rfl) _ _ _ (by rfl) (gq + 1) 2 iA (.int .i64 0) 8 Tryz.underlying32 HIA.out.1 HIA.out.2.1 HIA.out.2.2.1 HIA.out.2.2.2 rfl (.int .i64 q) rfl va Y.length Y (by rfl) HG3.out.ra k3 (by rfl) HC3.out.1 (by have := HXN.out; unfold maxLen; omega) (by have := HXN.out; omega) (by have := HG3.out.box.lt; omega) ?_
                    intro v4 y4 hown hgrow
                    obtain ⟨A4, c4, rfl⟩ := own_slice' hown
                    have HG4 : Hid (Grow wr0 y4 gq #[vi, va] (.slice A2 (X.length + 1) c2) (.slice A4 (Y.length + 1) c4) (X ++ [.int .i64 nid]) (Y ++ [.int .i64 q])) := (show Grow _ _ _ _ _ _ _ _ from HG3.out.growA hown hgrow)
                    clear hown hgrow
                    have hS4 := HG4.out.keep hbf hcf
                    refine hK.out _ _ (fun _ => hS4) ?_
                    clear hK K
                    (try simp only [Act.put, List.setIfInBounds_toArray, List.set_cons_zero, List.set_cons_succ])
                    refine Till.goes_next (rs := [15]) (by kernel_rfl) (by simp) (Till.Next.cons rfl (fun K hK => ?_) (Till.Next.nil))
                    rw [if_pos (by rfl)]
                    have hb1 := HG4.out.box
                    with_reducible refine wp_put 41 (.tmp 103) (.tmp 97) ?_ ?_ gq 0 (.slice A2 (X.length + 1) c2) ?_ ?_ ?_ 47 _ hb1 ?_ ?_ ?_
                    · rfl
                    · rfl
                    · rfl
                    · rfl
                    · rfl
                    · simp
                    · exact ints_one
                    intro yb hr ho
                    have HGb := Lib.hid (HG4.out.put hr ho)
                    clear hr ho hb1
                    refine hK.out _ _ (Till.past (by kernel_rfl)) ?_
                    clear hK K
                    (try simp only [Act.put, List.setIfInBounds_toArray, List.set_cons_zero, List.set_cons_succ])
                    refine Till.take_free (v := ?_) 16 104 rfl rfl (by kernel_rfl) (by kernel_rfl) (by kernel_rfl) (fun _ _ _ h => h) (by rfl) (by kernel_rfl) ?_ (Till.past (by kernel_rfl)) ?_
                    rotate_left
                    · intro w'
                      go_simp
                      all_goals with_reducible rfl
                    (try simp only [Act.put, List.setIfInBounds_toArray, List.set_cons_zero, List.set_cons_succ])
                    refine Till.goes_next (rs := [17]) (by kernel_rfl) (by simp) (Till.Next.cons rfl (fun K hK => ?_) (Till.Next.nil))
                    rw [if_pos (by rfl)]
                    have hb1 := HGb.out.box
                    with_reducible refine wp_put 32 (.tmp 104) (.tmp 102) ?_ ?_ gq 1 (.slice A4 (Y.length + 1) c4) ?_ ?_ ?_ 47 _ hb1 ?_ ?_ ?_
                    · rfl
                    · rfl
                    · rfl
                    · rfl
                    · rfl
                    · simp
                    · exact longs_one
                    intro ye hr ho
                    have HGe : Hid (Grow wr0 ye gq #[(.slice A2 (X.length + 1) c2), (.slice A4 (Y.length + 1) c4)] (.slice A2 (X.length + 1) c2) (.slice A4 (Y.length + 1) c4) (X ++ [.int .i64 nid]) (Y ++ [.int .i64 q])) := (show Grow _ _ _ _ _ _ _ _ from HGb.out.put hr ho)
                    clear hr ho HGb hb1
                    refine hK.out _ _ (Till.past (by kernel_rfl)) ?_
                    clear hK K
                    (try simp only [Act.put, List.setIfInBounds_toArray, List.set_cons_zero, List.set_cons_succ])
                    refine Till.goes_done (by kernel_rfl) ?_ _
                    go_wp2_with fail
                    go_roundw
                    case rel => exact ⟨j + 1, by omega, rfl, HER.out, _, _, by rw [HTX.out, HTY.out]; exact HGe.out⟩
                    case measure => simp [intOf]; omega
                  · refine Till.step_lit (by rfl) 32 _ rfl (.int .i64 q) 2 (by rfl) (lit_long _ _) ?_
                    obtain ⟨y5, ey5⟩ : ∃ y, y = World.alloc y1 (.cells #[.int .i64 q] 2) := ⟨_, rfl⟩
                    obtain ⟨k5, ek5⟩ : ∃ k, k = (y1).heap.size := ⟨_, rfl⟩
                    rw [← ey5, ← ek5]
                    have HG5 : Hid (Grow wr0 y5 gq #[vi, va] vi va X Y) := (show Grow wr0 y5 gq #[vi, va] vi va X Y by rw [ey5]; exact HG1.out.alloc _)
                    have HC5 : Hid (y5.cell? ⟨k5, 0, none⟩ = some (.int .i64 q) ∧ k5 < y5.heap.size) := (show _ ∧ _ from ⟨by rw [ey5, ek5]; exact (World.cell?_alloc_new _ _ _ _).trans rfl, by rw [ey5, ek5]; simp⟩)
                    have HN5 : Hid (some k5 ≠ vi.ownBlock) := HG1.out.ni (Nat.le_of_eq ek5.symm)
                    have HP5 : Hid (y5.cell? ⟨k1, 0, none⟩ = some (.int .i64 nid) ∧ k1 < y5.heap.size) := (show _ ∧ _ by rw [ey5]; exact ⟨(World.cell?_alloc_lt (a := ⟨k1, 0, none⟩) _ _ HC1.out.2).trans HC1.out.1, Nat.lt_of_lt_of_le HC1.out.2 (by simp)⟩)
                    have hS5 := HG5.out.keep hbf hcf
                    clear ey5 ek5
                    refine hK.out _ _ (fun _ => hS5) ?_
                    clear hK K
                    (try simp only [Act.put, List.setIfInBounds_toArray, List.set_cons_zero, List.set_cons_succ])
                    refine Till.goes_next (rs := [8]) (by kernel_rfl) (by simp) (Till.Next.cons rfl (fun K hK => ?_) (Till.Next.nil))
                    refine Till.step_cell (by rfl) _ _ _ (by rfl) (gq + 1) 3 iI (.int .i64 0) 8 Tryz.underlying41 HII.out.1 HII.out.2.1 HII.out.2.2.1 HII.out.2.2.2 rfl (.int .i64 nid) rfl vi X.length X (by rfl) HG5.out.ri k1 (by rfl) HP5.out.1 (by have := HXN.out; unfold maxLen; omega) (by have := HXN.out; omega) (by have := HG5.out.box.lt; omega) ?_
                    intro v6 y6 hown hgrow
                    obtain ⟨A6, c6, rfl⟩ := own_slice' hown
                    have HG6 : Hid (Grow wr0 y6 gq #[vi, va] (.slice A6 (X.length + 1) c6) va (X ++ [.int .i64 nid]) Y) := (show Grow _ _ _ _ _ _ _ _ from HG5.out.growI hown hgrow)
                    have HP6 : Hid (y6.cell? ⟨k5, 0, none⟩ = some (.int .i64 q) ∧ k5 < y6.heap.size) := (show _ ∧ _ from ⟨hgrow.cell (a := ⟨k5, 0, none⟩) HC5.out.1 HN5.out, Nat.lt_of_lt_of_le HC5.out.2 hgrow.size⟩)
                    clear hown hgrow
                    have hS6 := HG6.out.keep hbf hcf
                    refine hK.out _ _ (fun _ => hS6) ?_
                    clear hK K
                    (try simp only [Act.put, List.setIfInBounds_toArray, List.set_cons_zero, List.set_cons_succ])
                    refine Till.take_free (v := ?_) 14 103 rfl rfl (by kernel_rfl) (by kernel_rfl) (by kernel_rfl) (fun _ _ _ h => h) (by rfl) (by kernel_rfl) ?_ (fun _ => by assumption) ?_
                    rotate_left
                    · intro w'
                      go_simp
                      all_goals with_reducible rfl
                    (try simp only [Act.put, List.setIfInBounds_toArray, List.set_cons_zero, List.set_cons_succ])
                    refine Till.goes_next (rs := [13]) (by kernel_rfl) (by simp) (Till.Next.cons rfl (fun K hK => ?_) (Till.Next.nil))
                    refine Till.step_cell (by rfl) _ _ _ (by rfl) (gq + 1) 2 iA (.int .i64 0) 8 Tryz.underlying32 HIA.out.1 HIA.out.2.1 HIA.out.2.2.1 HIA.out.2.2.2 rfl (.int .i64 q) rfl va Y.length Y (by rfl) HG6.out.ra k5 (by rfl) HP6.out.1 (by have := HXN.out; unfold maxLen; omega) (by have := HXN.out; omega) (by have := HG6.out.box.lt; omega) ?_
                    intro v7 y7 hown hgrow
                    obtain ⟨A7, c7, rfl⟩ := own_slice' hown
                    have HG7 : Hid (Grow wr0 y7 gq #[vi, va] (.slice A6 (X.length + 1) c6) (.slice A7 (Y.length + 1) c7) (X ++ [.int .i64 nid]) (Y ++ [.int .i64 q])) := (show Grow _ _ _ _ _ _ _ _ from HG6.out.growA hown hgrow)
                    clear hown hgrow
                    have hS7 := HG7.out.keep hbf hcf
                    refine hK.out _ _ (fun _ => hS7) ?_
                    clear hK K
                    (try simp only [Act.put, List.setIfInBounds_toArray, List.set_cons_zero, List.set_cons_succ])
                    refine Till.goes_next (rs := [15]) (by kernel_rfl) (by simp) (Till.Next.cons rfl (fun K hK => ?_) (Till.Next.nil))
                    rw [if_pos (by rfl)]
                    have hb1 := HG7.out.box
                    with_reducible refine wp_put 41 (.tmp 103) (.tmp 97) ?_ ?_ gq 0 (.slice A6 (X.length + 1) c6) ?_ ?_ ?_ 47 _ hb1 ?_ ?_ ?_
                    · rfl
                    · rfl
                    · rfl
                    · rfl
                    · rfl
                    · simp
                    · exact ints_one
                    intro yb hr ho
                    have HGb := Lib.hid (HG7.out.put hr ho)
                    clear hr ho hb1
                    refine hK.out _ _ (Till.past (by kernel_rfl)) ?_
                    clear hK K
                    (try simp only [Act.put, List.setIfInBounds_toArray, List.set_cons_zero, List.set_cons_succ])
                    refine Till.take_free (v := ?_) 16 104 rfl rfl (by kernel_rfl) (by kernel_rfl) (by kernel_rfl) (fun _ _ _ h => h) (by rfl) (by kernel_rfl) ?_ (Till.past (by kernel_rfl)) ?_
                    rotate_left
                    · intro w'
                      go_simp
                      all_goals with_reducible rfl
                    (try simp only [Act.put, List.setIfInBounds_toArray, List.set_cons_zero, List.set_cons_succ])
                    refine Till.goes_next (rs := [17]) (by kernel_rfl) (by simp) (Till.Next.cons rfl (fun K hK => ?_) (Till.Next.nil))
                    rw [if_pos (by rfl)]
                    have hb1 := HGb.out.box
                    with_reducible refine wp_put 32 (.tmp 104) (.tmp 102) ?_ ?_ gq 1 (.slice A7 (Y.length + 1) c7) ?_ ?_ ?_ 47 _ hb1 ?_ ?_ ?_
                    · rfl
                    · rfl
                    · rfl
                    · rfl
                    · rfl
                    · simp
                    · exact longs_one
                    intro ye hr ho
                    have HGe : Hid (Grow wr0 ye gq #[(.slice A6 (X.length + 1) c6), (.slice A7 (Y.length + 1) c7)] (.slice A6 (X.length + 1) c6) (.slice A7 (Y.length + 1) c7) (X ++ [.int .i64 nid]) (Y ++ [.int .i64 q])) := (show Grow _ _ _ _ _ _ _ _ from HGb.out.put hr ho)
                    clear hr ho HGb hb1
                    refine hK.out _ _ (Till.past (by kernel_rfl)) ?_
                    clear hK K
                    (try simp only [Act.put, List.setIfInBounds_toArray, List.set_cons_zero, List.set_cons_succ])
                    refine Till.goes_done (by kernel_rfl) ?_ _
                    go_wp2_with fail
                    go_roundw
                    case rel => exact ⟨j + 1, by omega, rfl, HER.out, _, _, by rw [HTX.out, HTY.out]; exact HGe.out⟩
                    case measure => simp [intOf]; omega
                · refine Till.step_lit (by rfl) 32 _ rfl (.int .i64 q) 2 (by rfl) (lit_long _ _) ?_
                  obtain ⟨y8, ey8⟩ : ∃ y, y = World.alloc (World.drew z) (.cells #[.int .i64 q] 2) := ⟨_, rfl⟩
                  obtain ⟨k8, ek8⟩ : ∃ k, k = ((World.drew z)).heap.size := ⟨_, rfl⟩
                  rw [← ey8, ← ek8]
                  have HG8 : Hid (Grow wr0 y8 gq #[vi, va] vi va X Y) := (show Grow wr0 y8 gq #[vi, va] vi va X Y by rw [ey8]; exact HG0.out.alloc _)
                  have HC8 : Hid (y8.cell? ⟨k8, 0, none⟩ = some (.int .i64 q) ∧ k8 < y8.heap.size) := (show _ ∧ _ from ⟨by rw [ey8, ek8]; exact (World.cell?_alloc_new _ _ _ _).trans rfl, by rw [ey8, ek8]; simp⟩)
                  have HN8 : Hid (some k8 ≠ vi.ownBlock) := HG0.out.ni (Nat.le_of_eq ek8.symm)
                  have hS8 := HG8.out.keep hbf hcf
                  clear ey8 ek8
                  refine hK.out _ _ (fun _ => hS8) ?_
                  clear hK K
                  (try simp only [Act.put, List.setIfInBounds_toArray, List.set_cons_zero, List.set_cons_succ])
                  refine Till.goes_next (rs := [7]) (by kernel_rfl) (by simp) (Till.Next.cons rfl (fun K hK => ?_) (Till.Next.nil))
                  refine Till.step_lit (by rfl) 41 _ rfl (.int .i64 nid) 3 (by rfl) (lit_int _ _) ?_
                  obtain ⟨y9, ey9⟩ : ∃ y, y = World.alloc y8 (.cells #[.int .i64 nid] 3) := ⟨_, rfl⟩
                  obtain ⟨k9, ek9⟩ : ∃ k, k = (y8).heap.size := ⟨_, rfl⟩
                  rw [← ey9, ← ek9]
                  have HG9 : Hid (Grow wr0 y9 gq #[vi, va] vi va X Y) := (show Grow wr0 y9 gq #[vi, va] vi va X Y by rw [ey9]; exact HG8.out.alloc _)
                  have HC9 : Hid (y9.cell? ⟨k9, 0, none⟩ = some (.int .i64 nid) ∧ k9 < y9.heap.size) := (show _ ∧ _ from ⟨by rw [ey9, ek9]; exact (World.cell?_alloc_new _ _ _ _).trans rfl, by rw [ey9, ek9]; simp⟩)
                  have HP9 : Hid (y9.cell? ⟨k8, 0, none⟩ = some (.int .i64 q) ∧ k8 < y9.heap.size) := (show _ ∧ _ by rw [ey9]; exact ⟨(World.cell?_alloc_lt (a := ⟨k8, 0, none⟩) _ _ HC8.out.2).trans HC8.out.1, Nat.lt_of_lt_of_le HC8.out.2 (by simp)⟩)
                  have hS9 := HG9.out.keep hbf hcf
                  clear ey9 ek9
                  refine hK.out _ _ (fun _ => hS9) ?_
                  clear hK K
                  (try simp only [Act.put, List.setIfInBounds_toArray, List.set_cons_zero, List.set_cons_succ])
                  refine Till.goes_next (rs := [8]) (by kernel_rfl) (by simp) (Till.Next.cons rfl (fun K hK => ?_) (Till.Next.nil))
                  refine Till.step_cell (by rfl) _ _ _ (by rfl) (gq + 1) 3 iI (.int .i64 0) 8 Tryz.underlying41 HII.out.1 HII.out.2.1 HII.out.2.2.1 HII.out.2.2.2 rfl (.int .i64 nid) rfl vi X.length X (by rfl) HG9.out.ri k9 (by rfl) HC9.out.1 (by have := HXN.out; unfold maxLen; omega) (by have := HXN.out; omega) (by have := HG9.out.box.lt; omega) ?_
                  intro v10 y10 hown hgrow
                  obtain ⟨A10, c10, rfl⟩ := own_slice' hown
                  have HG10 : Hid (Grow wr0 y10 gq #[vi, va] (.slice A10 (X.length + 1) c10) va (X ++ [.int .i64 nid]) Y) := (show Grow _ _ _ _ _ _ _ _ from HG9.out.growI hown hgrow)
                  have HP10 : Hid (y10.cell? ⟨k8, 0, none⟩ = some (.int .i64 q) ∧ k8 < y10.heap.size) := (show _ ∧ _ from ⟨hgrow.cell (a := ⟨k8, 0, none⟩) HP9.out.1 HN8.out, Nat.lt_of_lt_of_le HP9.out.2 hgrow.size⟩)
                  clear hown hgrow
                  have hS10 := HG10.out.keep hbf hcf
                  refine hK.out _ _ (fun _ => hS10) ?_
                  clear hK K
                  (try simp only [Act.put, List.setIfInBounds_toArray, List.set_cons_zero, List.set_cons_succ])
                  refine Till.take_free (v := ?_) 14 103 rfl rfl (by kernel_rfl) (by kernel_rfl) (by kernel_rfl) (fun _ _ _ h => h) (by rfl) (by kernel_rfl) ?_ (fun _ => by assumption) ?_
                  rotate_left
                  · intro w'
                    go_simp
                    all_goals with_reducible rfl
                  (try simp only [Act.put, List.setIfInBounds_toArray, List.set_cons_zero, List.set_cons_succ])
                  refine Till.goes_next (rs := [13]) (by kernel_rfl) (by simp) (Till.Next.cons rfl (fun K hK => ?_) (Till.Next.nil))
                  refine Till.step_cell (by rfl) _ _ _ (by rfl) (gq + 1) 2 iA (.int .i64 0) 8 Tryz.underlying32 HIA.out.1 HIA.out.2.1 HIA.out.2.2.1 HIA.out.2.2.2 rfl (.int .i64 q) rfl va Y.length Y (by rfl) HG10.out.ra k8 (by rfl) HP10.out.1 (by have := HXN.out; unfold maxLen; omega) (by have := HXN.out; omega) (by have := HG10.out.box.lt; omega) ?_
                  intro v11 y11 hown hgrow
                  obtain ⟨A11, c11, rfl⟩ := own_slice' hown
                  have HG11 : Hid (Grow wr0 y11 gq #[vi, va] (.slice A10 (X.length + 1) c10) (.slice A11 (Y.length + 1) c11) (X ++ [.int .i64 nid]) (Y ++ [.int .i64 q])) := (show Grow _ _ _ _ _ _ _ _ from HG10.out.growA hown hgrow)
                  clear hown hgrow
                  have hS11 := HG11.out.keep hbf hcf
                  refine hK.out _ _ (fun _ => hS11) ?_
                  clear hK K
                  (try simp only [Act.put, List.setIfInBounds_toArray, List.set_cons_zero, List.set_cons_succ])
                  refine Till.goes_next (rs := [15]) (by kernel_rfl) (by simp) (Till.Next.cons rfl (fun K hK => ?_) (Till.Next.nil))
                  rw [if_pos (by rfl)]
                  have hb1 := HG11.out.box
                  with_reducible refine wp_put 41 (.tmp 103) (.tmp 97) ?_ ?_ gq 0 (.slice A10 (X.length + 1) c10) ?_ ?_ ?_ 47 _ hb1 ?_ ?_ ?_
                  · rfl
                  · rfl
                  · rfl
                  · rfl
                  · rfl
                  · simp
                  · exact ints_one
                  intro yb hr ho
                  have HGb := Lib.hid (HG11.out.put hr ho)
                  clear hr ho hb1
                  refine hK.out _ _ (Till.past (by kernel_rfl)) ?_
                  clear hK K
                  (try simp only [Act.put, List.setIfInBounds_toArray, List.set_cons_zero, List.set_cons_succ])
                  refine Till.take_free (v := ?_) 16 104 rfl rfl (by kernel_rfl) (by kernel_rfl) (by kernel_rfl) (fun _ _ _ h => h) (by rfl) (by kernel_rfl) ?_ (Till.past (by kernel_rfl)) ?_
                  rotate_left
                  · intro w'
                    go_simp
                    all_goals with_reducible rfl
                  (try simp only [Act.put, List.setIfInBounds_toArray, List.set_cons_zero, List.set_cons_succ])
                  refine Till.goes_next (rs := [17]) (by kernel_rfl) (by simp) (Till.Next.cons rfl (fun K hK => ?_) (Till.Next.nil))
                  rw [if_pos (by rfl)]
                  have hb1 := HGb.out.box
                  with_reducible refine wp_put 32 (.tmp 104) (.tmp 102) ?_ ?_ gq 1 (.slice A11 (Y.length + 1) c11) ?_ ?_ ?_ 47 _ hb1 ?_ ?_ ?_
                  · rfl
                  · rfl
                  · rfl
                  · rfl
                  · rfl
                  · simp
                  · exact longs_one
                  intro ye hr ho
                  have HGe : Hid (Grow wr0 ye gq #[(.slice A10 (X.length + 1) c10), (.slice A11 (Y.length + 1) c11)] (.slice A10 (X.length + 1) c10) (.slice A11 (Y.length + 1) c11) (X ++ [.int .i64 nid]) (Y ++ [.int .i64 q])) := (show Grow _ _ _ _ _ _ _ _ from HGb.out.put hr ho)
                  clear hr ho HGb hb1
                  refine hK.out _ _ (Till.past (by kernel_rfl)) ?_
                  clear hK K
                  (try simp only [Act.put, List.setIfInBounds_toArray, List.set_cons_zero, List.set_cons_succ])
                  refine Till.goes_done (by kernel_rfl) ?_ _
                  go_wp2_with fail
                  go_roundw
                  case rel => exact ⟨j + 1, by omega, rfl, HER.out, _, _, by rw [HTX.out, HTY.out]; exact HGe.out⟩
                  case measure => simp [intOf]; omega
              · have HEE : Hid (asksR zs s day L Q = ([], [], (ofR how day x).2)) := (show _ = _ by
                  have hz := errs_at hx (fun i hi y hy => HJ.out.1 i hi y hy) he
                  rw [HR4.out, hz, if_neg he])
                have t0 : ((ofR how day x).2 != 0) = true := by rw [bne_iff_ne]; exact he
                have HXE : Hid (Below wd.heap.size wd wr) := HXW.out.trans (HG.out.low.mono HXW.out.size)
                clear he hx
                generalize (ofR how day x).2 = oe at *
                generalize (ofR how day x).1 = ov at *
                generalize x.cells = C at *
                go_wp2_with (first
                  | (refine Rws.load_mid_want (by rfl) 23 _ rfl _ _ rfl C _ HM.out Tryz.underlying23 rfl HS.out ?_)
                  | (go_at_call 45; (refine (KO.out _).mono ?_); rintro e z ⟨rfl, hh⟩; replace HXE := Lib.hid (below_to HXE.out hh); clear hh)
                  | (refine o_store rfl 47 _ _ rfl rfl g6 #[.slice none 0 0, .slice none 0 0] rfl rfl _ _ (H6.out.below HXE.out) (asked_info _ _) rfl (asked_one _ _ _ _ _ _) ?_; intro ys hr ho; have HR := Lib.hid hr; have HWE := Lib.hid (below_one_of (HD.out.trans (Below.mono HXE.out HD.out.size)) ho HS6.out.1 (Nat.le_trans HD.out.size (Below.size HXE.out))); clear hr ho))
                refine bodyPost_ret (results_two rfl _ _ _ _ _ _ _ rfl HR.out Tryz.underlying47 rfl (asked_info _ _) rfl) rfl ?_
                rw [HEE.out]
                exact asked_none oe HWE.out
            · obtain rfl : j = PL.length := by omega
              have HEE : Hid (asksR zs s day L Q = (PL.map (fun l => l.id), PL.map (fun l => (ofR how day l).1), 0)) := (show _ = _ by rw [HR4.out, if_pos (errs_all HJ.out.1)])
              have HXE : Hid (Below wd.heap.size wd wr) := HXW.out.trans (HG.out.low.mono HXW.out.size)
              have HI1 : Hid (wr.ownsRow (gq + 1) 3 1 vi PL.length ((PL.map fun l => l.id).map (Value.int .i64))) := (show World.ownsRow _ _ _ _ _ _ _ by have h := HG.out.ri; rw [List.take_length, List.length_map] at h; rw [List.map_map]; exact h)
              have HI2 : Hid (wr.ownsRow (gq + 1) 2 1 va PL.length ((PL.map fun l => (ofR how day l).1).map (Value.int .i64))) := (show World.ownsRow _ _ _ _ _ _ _ by have h := HG.out.ra; rw [List.take_length, List.length_map] at h; rw [List.map_map]; exact h)
              have HBX := Lib.hid HG.out.box
              have HGQ : Hid (g6 < gq + 1) := (show g6 < gq + 1 by have h1 := HG.out.at_; have h2 := HS6.out.2; have h3 := HXW.out.size; omega)
              obtain ⟨A7, c7, rfl⟩ := own_slice' HI1.out
              obtain ⟨A8, c8, rfl⟩ := own_slice' HI2.out
              have HSA := Lib.hid (asked_info (.slice A7 PL.length c7) (.slice A8 PL.length c8))
              go_wp2_with (first
                | (refine o_load (by rfl) 47 _ rfl gq rfl _ _ _ HBX.out Tryz.underlying47 rfl HSA.out ?_)
                | (refine o_store rfl 47 _ _ rfl rfl g6 _ rfl rfl _ _ (H6.out.below HXE.out) HSA.out rfl (asked_one _ _ _ _ _ _) ?_; intro ys hr ho; have HR9 := Lib.hid hr; have HWE := Lib.hid (below_one_of (HD.out.trans (HXE.out.mono HD.out.size)) ho HS6.out.1 (Nat.le_trans HD.out.size HXE.out.size)); have HOO := Lib.hid ho; clear hr ho))
              refine bodyPost_ret (results_two rfl _ _ _ _ _ _ _ rfl HR9.out Tryz.underlying47 rfl HSA.out rfl) rfl ?_
              rw [HEE.out]
              exact ⟨_, _, rfl, own_ints_far HI1.out (by simp) HOO.out HGQ.out, own_ints_far HI2.out (by simp) HOO.out HGQ.out, HWE.out⟩
/-- What all loans of a state are asked. -/
theorem r_asks (mon : Int) (zs : List Int) (s : Sc) (day : Int) (L : List Ln) (pv lv bv : Value) (B : Nat) (w : World) (Q : Nat → Nat) (hB : B ≤ w.heap.size) (hp : Ints w B .i64 pv zs) (hv : Lns w B lv L) (hN : L.length ≤ 1000) (hQ : FitsA zs s day L Q) : Calls Tryz.prog 14 #[.agg (cfg mon pv), .agg (s.cells lv bv), .int .i64 day] w (AskedTold (asksR zs s day L Q) w) := by
  cases h1 : Income.tabB zs with
  | false => exact asks_r1 mon zs s day L pv lv bv B w Q hB hp hv h1
  | true =>
    cases h2 : Date.dayB day with
    | false => exact asks_r2 mon zs s day L pv lv bv B w Q hB hp hv h1 h2
    | true => exact asks_r3 mon zs s day L pv lv bv B w Q hB hp hv h1 h2 hN hQ
end Go.Proofs.YtkddiaiohnbjpaaGreatDoor.Plan
