/- Of layer 18: what is asked by income, of the document's own. -/
import Derived.Test.YtkddiaiohnbjpaaGreatDoorGrow
import Derived.Test.YtkddiaiohnbjpaaGreatDoorPlanC9
import Derived.Test.YtkddiaiohnbjpaaGreatDoorGRLo
import Derived.Test.YtkddiaiohnbjpaaGreatDoorGInc
import Derived.Test.YtkddiaiohnbjpaaGreatDoorGRSplit
namespace Go.Proofs.YtkddiaiohnbjpaaGreatDoor.Plan
open Go.ChangeShapes Go.WideShapes Go.ChangeAt Go.RowKit Loan Money Box Rws Slice
set_option linter.unusedSimpArgs false

/-- The first j of what is told by income. -/
def mins (A : List Int) (L : List Ln) (j : Nat) : List Value := (List.range j).map fun i => .int .i64 (lessI (A.getD i 0) (owesR (L.getD i ln0)).1)
theorem mins_len (A : List Int) (L : List Ln) (j : Nat) : (mins A L j).length = j := by simp [mins]
theorem mins_next {A : List Int} {L : List Ln} {j : Nat} {x : Ln} (hx : L[j]? = some x) : mins A L (j + 1) = mins A L j ++ [.int .i64 (lessI (A.getD j 0) (owesR x).1)] := by
  unfold mins
  rw [range_next]
  have e : L.getD j ln0 = x := by rw [List.getD_eq_getElem?_getD, hx]; rfl
  rw [e]
theorem ints_mins {base : Nat} {e : TypeId} {w : World} {v : Value} {A : List Int} {L : List Ln} (h : w.ownsRow base e 1 v (mins A L L.length).length (mins A L L.length)) : Ints w w.heap.size .i64 v (lessV A L) := by
  refine Ints.of_own (base := base) (e := e) (n := L.length) (by rw [lessV_len]) ?_
  rw [mins_len] at h
  have e : (lessV A L).map (Value.int .i64) = mins A L L.length := by
    unfold lessV mins
    rw [List.map_map]
    rfl
  rw [e]
  exact h
theorem prin_sum {L : List Ln} (hg : ∀ l ∈ L, goodL l = true) {j : Nat} {x : Ln} (hx : L[j]? = some x) : 0 ≤ x.prin ∧ x.prin ≤ 10000000000000 := by
  have G := goodL_iff.1 (hg x (List.mem_of_getElem? hx))
  exact ⟨G.prin0, G.prin1⟩
/-- Is the sum so far 0 just where each is? -/
def Zero (L : List Ln) (j : Nat) (sm : Int) : Prop := 0 ≤ sm ∧ sm ≤ 1010000000000000 ∧ (sm = 0 ↔ ∀ i, i < j → ∀ y, L[i]? = some y → y.prin = 0)
theorem zero_start (L : List Ln) : Zero L 0 0 := ⟨by omega, by omega, ⟨fun _ i hi => absurd hi (Nat.not_lt_zero _), fun _ => rfl⟩⟩
theorem zero_add {L : List Ln} {j : Nat} {sm : Int} {x : Ln} (h : Zero L j sm) (hx : L[j]? = some x) (h1 : sm < 1000000000000000) (p0 : 0 ≤ x.prin) (p1 : x.prin ≤ 10000000000000) : Zero L (j + 1) (sm + x.prin) := by
  obtain ⟨a, b, c⟩ := h
  refine ⟨by omega, by omega, ⟨fun hz i hi y hy => ?_, fun hz => ?_⟩⟩
  · by_cases e : i = j
    · subst e
      rw [hx] at hy
      injection hy with hy
      subst hy
      omega
    · exact c.1 (by omega) i (by omega) y hy
  · have := c.2 fun i hi y hy => hz i (by omega) y hy
    have := hz j (by omega) x hx
    omega
theorem zero_same {L : List Ln} {j : Nat} {sm : Int} (h : Zero L j sm) (h1 : ¬ sm < 1000000000000000) : Zero L (j + 1) sm := by
  obtain ⟨a, b, c⟩ := h
  refine ⟨a, b, ⟨fun hz => by omega, fun hz => ?_⟩⟩
  exact c.2 fun i hi y hy => hz i (by omega) y hy
theorem zero_all {L : List Ln} {sm : Int} (h : Zero L L.length sm) : (prins L).all (fun x => x == 0) = decide (sm = 0) := by
  rw [Bool.eq_iff_iff, List.all_eq_true, decide_eq_true_iff, h.2.2]
  constructor
  · intro k i hi y hy
    exact beq_iff_eq.1 (k y.prin (List.mem_map.2 ⟨y, List.mem_of_getElem? hy, rfl⟩))
  · intro k x hx
    obtain ⟨l, hl, rfl⟩ := List.mem_map.1 hx
    obtain ⟨i, hi, rfl⟩ := List.getElem_of_mem hl
    exact beq_iff_eq.2 (k i hi _ (List.getElem?_eq_getElem hi))
set_option maxRecDepth 20000 in
set_option maxHeartbeats 40000000 in
theorem rinc_err (mon : Int) (zs : List Int) (s : Sc) (L : List Ln) (pv lv bv v : Value) (B : Nat) (w : World) (Q : Nat → Nat) (hB : B ≤ w.heap.size) (hp : Ints w B .i64 pv zs) (hv : Lns w B v L) (h1 : Income.aE zs s.fam s.inc ≠ 0) : Calls Tryz.prog 44 #[.agg (cfg mon pv), .agg (s.cells lv bv), v] w (AskedTold (finR (L.map fun l => l.id) (capR (incR zs s.fam s.inc L Q) L)) w) := by
  obtain ⟨A, c, rfl, hl, hn, hc⟩ := hp
  have HP : Hid (Ints w B .i64 (.slice A zs.length c) zs) := ⟨A, c, rfl, hl, hn, hc⟩
  obtain ⟨A2, k, rfl⟩ := hv.shape
  have HV : Hid (Lns w B (.slice A2 L.length k) L) := hv
  have HB := Lib.hid hB
  obtain ⟨g3, wb, e1, e2, hB3, hb3⟩ := boxd_new w (cfg mon (.slice A zs.length c)) 45
  obtain ⟨g4, wc, e3, e4, hB4, hb4⟩ := boxd_new wb (s.cells lv bv) 38
  have e5 : g4 = g3 + 1 := by rw [e3, e2, Deep.nblk_alloc, e1]
  obtain ⟨g6, wd, e6, e7, hB6, hb6⟩ := boxd_new wc #[.slice none 0 0, .slice none 0 0] 47
  have e8 : g6 = g4 + 1 := by rw [e6, e4, Deep.nblk_alloc, e3]
  have HD : Hid (Below w.heap.size w wd) := below_to (below_to hb3 hb4) hb6
  have H3 : Hid (Boxd wd g3 (cfg mon (.slice A zs.length c)) 45) := (hB3.below hb4).below hb6
  have H4 : Hid (Boxd wd g4 (s.cells lv bv) 38) := hB4.below hb6
  have H6 := Lib.hid hB6
  have HS6 : Hid (w.heap.size ≤ g6 ∧ g6 < wd.heap.size) := show w.heap.size ≤ g6 ∧ g6 < wd.heap.size from ⟨by omega, hB6.lt⟩
  have X31 : Hid ((cfg mon (.slice A zs.length c))[1]? = some (.slice A zs.length c)) := show _ = _ from rfl
  have X41 : Hid ((s.cells lv bv)[1]? = some lv) := show _ = _ from rfl
  have X44 : Hid ((s.cells lv bv)[4]? = some (.int .i64 s.inc)) := show _ = _ from rfl
  have X45 : Hid ((s.cells lv bv)[5]? = some (.int .i64 s.fam)) := show _ = _ from rfl
  have S3 := Lib.hid (cfg_info mon (.slice A zs.length c))
  have S4 := Lib.hid (sc_info s lv bv)
  have HX : Hid (Below wd.heap.size wd wd) := Below.refl _ _
  have c31 := (H3.out.cell (i := 1)).trans X31.out
  clear hl hn hc hv hB hB3 hb3 hB4 hb4 hB6 hb6
  have KA := Lib.hid (fun W h => RIncome.r_ask zs s.fam s.inc (.slice A zs.length c) B W h)
  have c44 := (H4.out.cell (i := 4)).trans X44.out
  have c45 := (H4.out.cell (i := 5)).trans X45.out
  have HE : Hid (finR (L.map fun l => l.id) (capR (incR zs s.fam s.inc L Q) L) = ([], [], Income.aE zs s.fam s.inc)) := by
    show _ = _
    have e : incR zs s.fam s.inc L Q = ([], Income.aE zs s.fam s.inc) := by unfold incR; rw [if_neg h1]
    rw [e]
    unfold capR
    rw [if_neg h1, fin_no h1]
  rw [HE.out]
  have t0 : (Income.aE zs s.fam s.inc != 0) = true := by rw [bne_iff_ne]; exact h1
  clear h1 HE
  generalize s.fam = fam at *
  generalize s.inc = inc at *
  generalize cfg mon (.slice A zs.length c) = C3 at *
  generalize s.cells lv bv = C4 at *
  generalize Income.aV zs fam inc = tv at *
  generalize Income.aE zs fam inc = te at *
  go_enter Tryz.func44, Tryz.ntmps44
  go_upto_region 1 with fail
  rw [← e2, ← e1, ← e5, ← e8, ← e4, ← e7]
  clear e1 e2 e3 e4 e5 e6 e7 e8
  go_wp2_with (first
    | (go_at_call 21; (refine (KA.out _ (HP.out.below ((HD.out.trans (HX.out.mono HD.out.size)).mono HB.out))).mono ?_); rintro e y ⟨rfl, hh⟩; replace HX : Hid (Below wd.heap.size wd y) := below_to HX.out hh; clear hh)
    | (refine o_store rfl 47 _ _ rfl rfl g6 #[.slice none 0 0, .slice none 0 0] rfl rfl _ _ (H6.out.below HX.out) (asked_info _ _) rfl (asked_one _ _ _ _ _ _) ?_; intro ys hr ho; have HR := Lib.hid hr; have HWE := Lib.hid (below_one_of (HD.out.trans (Below.mono HX.out HD.out.size)) ho HS6.out.1 (Nat.le_trans HD.out.size (Below.size HX.out))); clear hr ho))
  refine bodyPost_ret (results_two rfl _ _ _ _ _ _ _ rfl HR.out Tryz.underlying47 rfl (asked_info _ _) rfl) rfl ?_
  exact asked_none te HWE.out
set_option maxRecDepth 20000 in
set_option maxHeartbeats 40000000 in
theorem rinc_ok (mon : Int) (zs : List Int) (s : Sc) (L : List Ln) (pv lv bv v : Value) (B : Nat) (w : World) (Q : Nat → Nat) (hB : B ≤ w.heap.size) (hp : Ints w B .i64 pv zs) (hv : Lns w B v L) (hN : L.length ≤ 1000) (h0 : 0 < L.length) (hg : ∀ l ∈ L, goodL l = true) (hQ : Fits zs s.fam s.inc L Q) (h1 : Income.aE zs s.fam s.inc = 0) : Calls Tryz.prog 44 #[.agg (cfg mon pv), .agg (s.cells lv bv), v] w (AskedTold (finR (L.map fun l => l.id) (capR (incR zs s.fam s.inc L Q) L)) w) := by
  obtain ⟨A, c, rfl, hl, hn, hc⟩ := hp
  have HP : Hid (Ints w B .i64 (.slice A zs.length c) zs) := ⟨A, c, rfl, hl, hn, hc⟩
  obtain ⟨A2, k, rfl⟩ := hv.shape
  have HV : Hid (Lns w B (.slice A2 L.length k) L) := hv
  have HB := Lib.hid hB
  obtain ⟨g3, wb, e1, e2, hB3, hb3⟩ := boxd_new w (cfg mon (.slice A zs.length c)) 45
  obtain ⟨g4, wc, e3, e4, hB4, hb4⟩ := boxd_new wb (s.cells lv bv) 38
  have e5 : g4 = g3 + 1 := by rw [e3, e2, Deep.nblk_alloc, e1]
  obtain ⟨g6, wd, e6, e7, hB6, hb6⟩ := boxd_new wc #[.slice none 0 0, .slice none 0 0] 47
  have e8 : g6 = g4 + 1 := by rw [e6, e4, Deep.nblk_alloc, e3]
  have HD : Hid (Below w.heap.size w wd) := below_to (below_to hb3 hb4) hb6
  have H3 : Hid (Boxd wd g3 (cfg mon (.slice A zs.length c)) 45) := (hB3.below hb4).below hb6
  have H4 : Hid (Boxd wd g4 (s.cells lv bv) 38) := hB4.below hb6
  have H6 := Lib.hid hB6
  have HS6 : Hid (w.heap.size ≤ g6 ∧ g6 < wd.heap.size) := show w.heap.size ≤ g6 ∧ g6 < wd.heap.size from ⟨by omega, hB6.lt⟩
  have X31 : Hid ((cfg mon (.slice A zs.length c))[1]? = some (.slice A zs.length c)) := show _ = _ from rfl
  have X41 : Hid ((s.cells lv bv)[1]? = some lv) := show _ = _ from rfl
  have X44 : Hid ((s.cells lv bv)[4]? = some (.int .i64 s.inc)) := show _ = _ from rfl
  have X45 : Hid ((s.cells lv bv)[5]? = some (.int .i64 s.fam)) := show _ = _ from rfl
  have S3 := Lib.hid (cfg_info mon (.slice A zs.length c))
  have S4 := Lib.hid (sc_info s lv bv)
  have HX : Hid (Below wd.heap.size wd wd) := Below.refl _ _
  have c31 := (H3.out.cell (i := 1)).trans X31.out
  clear hl hn hc hv hB hB3 hb3 hB4 hb4 hB6 hb6
  have KA := Lib.hid (fun W h => RIncome.r_ask zs s.fam s.inc (.slice A zs.length c) B W h)
  have c44 := (H4.out.cell (i := 4)).trans X44.out
  have c45 := (H4.out.cell (i := 5)).trans X45.out
  have hinc : Income.aE zs s.fam s.inc = 0 := h1
  have t0 : (Income.aE zs s.fam s.inc != 0) = false := by rw [h1]; rfl
  have HG_ := Lib.hid hg
  have H0 := Lib.hid h0
  have HQ := Lib.hid hQ
  have HINC := Lib.hid h1
  clear h1 hg hQ hinc
  obtain ⟨i0, hi0, hz0, hz1, hz2⟩ := info_parts ln_zero
  have HI := Lib.hid hi0
  have HZ0 := Lib.hid hz0
  have HZ1 := Lib.hid hz1
  have HZ2 := Lib.hid hz2
  obtain ⟨iI, q1, q2, q3, q4⟩ := info_parts int_zero
  have HII := Lib.hid (And.intro q1 (And.intro q2 (And.intro q3 q4)))
  clear q1 q2 q3 q4
  obtain ⟨iA, q1, q2, q3, q4⟩ := info_parts i64_zero
  have HIA := Lib.hid (And.intro q1 (And.intro q2 (And.intro q3 q4)))
  clear q1 q2 q3 q4 hi0 hz0 hz1 hz2
  have hmk := fun W : World => run_make_row' (P := Tryz.prog) 32 2 (.int .i64 0) 8 Tryz.underlying32 i64_zero rfl .i64 .i64 L.length (by omega) (by omega) W
  have HVD : Hid (Lns wd w.heap.size (.slice A2 L.length k) L) := (HV.out.below (HD.out.mono HB.out)).more HB.out
  have HRIZ : Hid ((prins L).all (fun x => x == 0) = true → incR zs s.fam s.inc L Q = (List.replicate L.length 0, 0)) := fun h => by unfold incR; rw [if_pos HINC.out, if_pos h]
  have HRIS : Hid (∀ sm, (prins L).all (fun x => x == 0) = false → Share.splitS (Income.aV zs s.fam s.inc) (prins L) = some sm → incR zs s.fam s.inc L Q = (Share.outL (Income.aV zs s.fam s.inc) sm (prins L) Q, 0)) := fun sm h h3 => by unfold incR; rw [if_pos HINC.out, if_neg (by rw [h]; exact Bool.false_ne_true), h3]
  have HRIN : Hid ((prins L).all (fun x => x == 0) = false → Share.splitS (Income.aV zs s.fam s.inc) (prins L) = none → incR zs s.fam s.inc L Q = ([], 1)) := fun h h3 => by unfold incR; rw [if_pos HINC.out, if_neg (by rw [h]; exact Bool.false_ne_true), h3]
  have HFT : Hid ((prins L).all (fun x => x == 0) = false → ∀ sm, Share.splitS (Income.aV zs s.fam s.inc) (prins L) = some sm → Share.Places (Income.aV zs s.fam s.inc) sm (prins L) Q) := fun h sm hs => HQ.out HINC.out h sm hs
  generalize incR zs s.fam s.inc L Q = RI at *
  clear HQ HINC
  generalize s.fam = fam at *
  generalize s.inc = inc at *
  generalize cfg mon (.slice A zs.length c) = C3 at *
  generalize s.cells lv bv = C4 at *
  generalize Income.aV zs fam inc = tv at *
  generalize Income.aE zs fam inc = te at *
  go_enter Tryz.func44, Tryz.ntmps44
  go_upto_region 1 with fail
  rw [← e2, ← e1, ← e5, ← e8, ← e4, ← e7]
  clear e1 e2 e3 e4 e5 e6 e7 e8
  go_upto_region 5 with (first
    | (go_at_call 21; (refine (KA.out _ (HP.out.below ((HD.out.trans (HX.out.mono HD.out.size)).mono HB.out))).mono ?_); rintro e y ⟨rfl, hh⟩; replace HX : Hid (Below wd.heap.size wd y) := below_to HX.out hh; clear hh))
  clear c44 c45 c31 t0
  have HXZ := Lib.hid HX.out
  go_wp2_with fail
  go_loopw [10, 11, 12] (fun u sv t wr => ∃ (j : Nat) (sm : Int), j ≤ L.length ∧ t = .int .i64 j ∧ sv = .int .i64 sm ∧ Hid (wr.ownsRow wd.heap.size 2 1 u j ((L.take j).map fun l => .int .i64 l.prin) ∧ Zero L j sm ∧ Below wd.heap.size wd wr)) (fun _ _ t _ => L.length - (intOf t).toNat)
  case atStart => exact ⟨0, 0, Nat.zero_le _, rfl, rfl, World.ownsRow_nil _ _ _ _, zero_start L, HXZ.out⟩
  case round =>
    obtain ⟨j, sm, hj, rfl, rfl, HX1⟩ := hrel

    obtain ⟨A5, c5, rfl⟩ := own_slice' HX1.out.1
    by_cases hlt : j < L.length
    · obtain ⟨b, off, k', e0, hb, -⟩ := HV.out.open (by omega)
      injection e0 with e0 _ e2
      subst e0 e2
      obtain ⟨x, hx⟩ : ∃ x, L[j]? = some x := ⟨_, List.getElem?_eq_getElem hlt⟩
      have hcd : wd.cell? ⟨b, off + j * 13 + 1, none⟩ = some (.int .i64 x.prin) := HVD.out.at_ hx 1 (.int .i64 x.prin) rfl
      have HC1 := Lib.hid hcd
      have HBD : Hid (b < wd.heap.size) := Nat.lt_of_lt_of_le hb (Nat.le_trans HB.out HD.out.size)
      have c1 := (HX1.out.2.2.cell (p := ⟨b, off + j * 13 + 1, none⟩) HBD.out).trans HC1.out
      obtain ⟨p0, p1⟩ := prin_sum HG_.out hx
      obtain ⟨z0, z1, -⟩ := HX1.out.2.1
      have HT := Lib.hid (take_map (fun l => Value.int .i64 l.prin) hx)
      have HZA : Hid (sm < 1000000000000000 → Zero L (j + 1) (sm + x.prin)) := fun h => zero_add HX1.out.2.1 hx h p0 p1
      have HZS : Hid (¬ sm < 1000000000000000 → Zero L (j + 1) sm) := fun h => zero_same HX1.out.2.1 h
      have HT2 : Hid (wrap64 (sm + x.prin) = sm + x.prin) := show _ = _ by clear HC1 HT HZA HZS c1; unfold wrap64; omega
      clear hcd hx p0 p1 z0 z1 hmk
      generalize x.prin = pn at *
      generalize hPR : (L.take j).map (fun l => Value.int .i64 l.prin) = PR at *
      clear hPR
      by_cases hs : sm < 1000000000000000
      · have t1 : decide (sm < 1000000000000000) = true := decide_eq_true hs
        have HZN := Lib.hid (HZA.out hs)
        clear hs
        go_upto_region 9 with fail
        go_wp2_with (at_builtin; refine Slice.wpList_append_one rfl (.tmp 40) (.tmp 46) _ rfl wd.heap.size 2 iA (.int .i64 0) 8 Tryz.underlying32 HIA.out.1 HIA.out.2.1 HIA.out.2.2.1 HIA.out.2.2.2 rfl _ _ (.int .i64 pn) rfl (.slice A5 j c5) j PR rfl HX1.out.1 _ rfl (by simp) (by unfold maxLen; omega) (by omega) HX1.out.2.2.size ?_; intro v3 w3 hown hgrow; have HX2 : Hid (w3.ownsRow wd.heap.size 2 1 v3 (j + 1) (PR ++ [.int .i64 pn]) ∧ Below wd.heap.size wd w3) := (show _ ∧ _ from ⟨hown, below_row HX1.out.2.2 (Nat.le_refl _) HX1.out.1 hgrow⟩); obtain ⟨A6, c6, rfl⟩ := own_slice' hown; have c1 := (HX2.out.2.cell (p := ⟨b, off + j * 13 + 1, none⟩) HBD.out).trans HC1.out; clear hown hgrow)
        go_roundw
        case rel => exact ⟨j + 1, _, by omega, rfl, congrArg (Value.int .i64) HT2.out, by rw [HT.out]; exact HX2.out.1, HZN.out, HX2.out.2⟩
        case measure => simp [intOf]; omega
      · have t1 : decide (sm < 1000000000000000) = false := decide_eq_false hs
        have HZN := Lib.hid (HZS.out hs)
        clear hs
        go_upto_region 9 with fail
        go_wp2_with (at_builtin; refine Slice.wpList_append_one rfl (.tmp 40) (.tmp 46) _ rfl wd.heap.size 2 iA (.int .i64 0) 8 Tryz.underlying32 HIA.out.1 HIA.out.2.1 HIA.out.2.2.1 HIA.out.2.2.2 rfl _ _ (.int .i64 pn) rfl (.slice A5 j c5) j PR rfl HX1.out.1 _ rfl (by simp) (by unfold maxLen; omega) (by omega) HX1.out.2.2.size ?_; intro v3 w3 hown hgrow; have HX2 : Hid (w3.ownsRow wd.heap.size 2 1 v3 (j + 1) (PR ++ [.int .i64 pn]) ∧ Below wd.heap.size wd w3) := (show _ ∧ _ from ⟨hown, below_row HX1.out.2.2 (Nat.le_refl _) HX1.out.1 hgrow⟩); obtain ⟨A6, c6, rfl⟩ := own_slice' hown; have c1 := (HX2.out.2.cell (p := ⟨b, off + j * 13 + 1, none⟩) HBD.out).trans HC1.out; clear hown hgrow)
        go_roundw
        case rel => exact ⟨j + 1, _, by omega, rfl, rfl, by rw [HT.out]; exact HX2.out.1, HZN.out, HX2.out.2⟩
        case measure => simp [intOf]; omega
    · obtain rfl : j = L.length := by omega
      have hz := zero_all HX1.out.2.1
      have z0 := HX1.out.2.1.1
      have HU : Hid (Ints wr wr.heap.size .i64 (.slice A5 L.length c5) (prins L)) := ints_map (by have h := HX1.out.1; rwa [List.take_length] at h)
      have HXW := Lib.hid HX1.out.2.2
      by_cases hs : sm = 0
      · rw [decide_eq_true hs] at hz
        have t1 : decide (0 < sm) = false := decide_eq_false (by omega)
        have HR1 : Hid (RI = (List.replicate L.length 0, 0)) := HRIZ.out hz
        clear hz hs z0 HX1
        go_upto_region 18 with fail
        have HPA0 : Hid (wr.heap.size < (wr.alloc (.cells (madeCells #[.int .i64 0] L.length) 2)).heap.size ∧ ∀ i, i < L.length → (wr.alloc (.cells (madeCells #[.int .i64 0] L.length) 2)).cell? ⟨wr.heap.size, i, none⟩ = some (.int .i64 ((List.replicate L.length (0 : Int)).getD i 0))) := (show _ ∧ _ from ⟨by simp, fun i hi => by
          rw [(World.rowIs_made wr (.int .i64 0) L.length 2).cell hi]
          simp [List.getD_eq_getElem?_getD, hi]⟩)
        have HXF : Hid (Below wd.heap.size wd (wr.alloc (.cells (madeCells #[.int .i64 0] L.length) 2))) := below_to HXW.out (below_one _ _)
        obtain ⟨wf, hwf⟩ : ∃ y, y = wr.alloc (.cells (madeCells #[.int .i64 0] L.length) 2) := ⟨_, rfl⟩
        obtain ⟨bp, hbp0⟩ : ∃ k, k = wr.heap.size := ⟨_, rfl⟩
        rw [← hwf, ← hbp0]
        rw [← hwf, ← hbp0] at HPA0
        rw [← hwf] at HXF
        have HPA := Lib.hid HPA0.out
        clear hwf hbp0 HPA0 HU hmk
        have hbfw := HXF.out
        obtain ⟨gq, wg, eg1, eg2, hBg, hbg⟩ := boxd_new wf #[.slice none 0 0, .slice none 0 0] 47
        have HGS : Hid (Grow wf wg gq #[.slice none 0 0, .slice none 0 0] (.slice none 0 0) (.slice none 0 0) [] []) := (show Grow _ _ _ _ _ _ _ _ by rw [eg1, eg2]; exact Grow.start wf _)
        have HVF : Hid (Lns wf w.heap.size (.slice A2 L.length k) L) := (HVD.out.below (HXF.out.mono HD.out.size))
        have HVS : Hid (w.heap.size ≤ wf.heap.size) := Nat.le_trans HD.out.size HXF.out.size
        clear hbfw hBg hbg
        go_upto_region 19 with fail
        rw [← eg2, ← eg1]
        clear eg1 eg2
        go_wp2_with fail
        go_loopw [17] (fun t wr => ∃ j : Nat, j ≤ L.length ∧ t = .int .i64 j ∧ Hid ((∀ i, i < j → ∀ y, L[i]? = some y → (owesR y).2 = 0) ∧ ∃ vi va, Grow wf wr gq #[vi, va] vi va ((L.take j).map fun l => .int .i64 l.id) (mins (List.replicate L.length (0 : Int)) L j))) (fun t _ => L.length - (intOf t).toNat)
        case atStart => exact ⟨0, Nat.zero_le _, rfl, fun i hi => absurd hi (Nat.not_lt_zero _), _, _, HGS.out⟩
        case round =>
          obtain ⟨j, hj, rfl, HJ⟩ := hrel

          obtain ⟨vi, va, hG⟩ := HJ.out.2
          have HG := Lib.hid hG
          clear hG
          by_cases hlt : j < L.length
          · obtain ⟨b, off, k', e0, hb, -⟩ := HVF.out.open (by omega)
            injection e0 with e0 _ e2
            subst e0 e2
            obtain ⟨x, hx⟩ : ∃ x, L[j]? = some x := ⟨_, List.getElem?_eq_getElem hlt⟩
            have hbf : b < wf.heap.size := Nat.lt_of_lt_of_le hb HVS.out
            have hcf : wf.cell? ⟨b, off + j * 13, none⟩ = some (.int .i64 x.id) := by have h := HVF.out.at_ hx 0 (.int .i64 x.id) rfl; rwa [Nat.add_zero] at h
            have HM : Hid (wr.rangeAt b (off + j * 13) x.cells.toList) := range_keep (HVF.out.at_ hx) HG.out.low hbf
            have HS := Lib.hid (ln_info' x)
            have KO := Lib.hid (fun W => RLoan.r_owes x W)
            by_cases he : (owesR x).2 = 0
            · have HER : Hid (∀ i, i < j + 1 → ∀ y, L[i]? = some y → (owesR y).2 = 0) := fun i hi y hy => by
                by_cases hij : i = j
                · subst hij
                  rw [hx] at hy
                  exact (Option.some.inj hy) ▸ he
                · exact HJ.out.1 i (by omega) y hy
              have t0 : ((owesR x).2 != 0) = false := by rw [he]; rfl
              have HTX := Lib.hid (take_map (fun l => Value.int .i64 l.id) hx)
              have HTY := Lib.hid (mins_next (A := (List.replicate L.length (0 : Int))) hx)
              have hbp := HPA.out.1
              have hcp := HPA.out.2 j hlt
              clear he hx
              generalize (owesR x).2 = oe at *
              obtain ⟨q, hq⟩ : ∃ q, lessI (((List.replicate L.length (0 : Int))).getD j 0) (owesR x).1 = q := ⟨_, rfl⟩
              rw [hq] at HTY
              unfold lessI at hq
              generalize (owesR x).1 = ov at *
              generalize ((List.replicate L.length (0 : Int))).getD j 0 = av at *
              generalize x.id = nid at *
              generalize x.cells = C at *
              have HXN : Hid (((L.take j).map fun l => Value.int .i64 l.id).length ≤ 1000 ∧ (mins (List.replicate L.length (0 : Int)) L j).length ≤ 1000) := (show _ ∧ _ by rw [take_len _ hj, mins_len]; omega)
              generalize (L.take j).map (fun l => Value.int .i64 l.id) = X at *
              generalize mins (List.replicate L.length (0 : Int)) L j = Y at *
              go_upto_region 25 with (first
                | (refine Rws.load_mid_want (by rfl) 23 _ rfl _ _ rfl C _ HM.out Tryz.underlying23 rfl HS.out ?_)
                | (go_at_call 19; (refine (KO.out _).mono ?_); rintro e z ⟨rfl, hh⟩; replace HG := Lib.hid (HG.out.below hh); clear hh))
              have HG0 := Lib.hid HG.out.drew
              have hS0 := HG0.out.keep2 hbf hcf hbp hcp
              refine Till.start (fun W => W.cell? ⟨gq, 0, none⟩ = some vi ∧ W.cell? ⟨gq, 1, none⟩ = some va ∧ W.cell? ⟨b, off + j * 13, none⟩ = some (.int .i64 nid) ∧ W.cell? ⟨bp, j, none⟩ = some (.int .i64 av)) 20 (by kernel_rfl) ?_
              refine Till.take_free (v := ?_) 0 91 rfl rfl (by kernel_rfl) (by kernel_rfl) (by kernel_rfl) (fun _ _ _ h => h) (by rfl) (by kernel_rfl) ?_ (fun _ => by assumption) ?_
              rotate_left
              · intro w'
                go_simp
                all_goals with_reducible rfl
              (try simp only [Act.put, List.setIfInBounds_toArray, List.set_cons_zero, List.set_cons_succ])
              refine Till.take_held (v := ?_) 1 92 rfl rfl (by kernel_rfl) (by kernel_rfl) (by kernel_rfl) (fun _ _ _ h => h) (by rfl) (by kernel_rfl) (by kernel_rfl) (by kernel_rfl) ?_ (fun _ => by assumption) ?_
              rotate_left
              · intro w' hSw
                (try dsimp only at hSw)
                go_simp
                all_goals with_reducible rfl
              (try simp only [Act.put, List.setIfInBounds_toArray, List.set_cons_zero, List.set_cons_succ])
              refine Till.take_free (v := ?_) 2 93 rfl rfl (by kernel_rfl) (by kernel_rfl) (by kernel_rfl) (fun _ _ _ h => h) (by rfl) (by kernel_rfl) ?_ (fun _ => by assumption) ?_
              rotate_left
              · intro w'
                go_simp
                all_goals with_reducible rfl
              (try simp only [Act.put, List.setIfInBounds_toArray, List.set_cons_zero, List.set_cons_succ])
              refine Till.take_free (v := ?_) 3 94 rfl rfl (by kernel_rfl) (by kernel_rfl) (by kernel_rfl) (fun _ _ _ h => h) (by rfl) (by kernel_rfl) ?_ (fun _ => by assumption) ?_
              rotate_left
              · intro w'
                go_simp
                all_goals with_reducible rfl
              (try simp only [Act.put, List.setIfInBounds_toArray, List.set_cons_zero, List.set_cons_succ])
              refine Till.take_free (v := ?_) 4 95 rfl rfl (by kernel_rfl) (by kernel_rfl) (by kernel_rfl) (fun _ _ _ h => h) (by rfl) (by kernel_rfl) ?_ (fun _ => by assumption) ?_
              rotate_left
              · intro w'
                go_simp
                all_goals with_reducible rfl
              (try simp only [Act.put, List.setIfInBounds_toArray, List.set_cons_zero, List.set_cons_succ])
              refine Till.take_free (v := ?_) 5 96 rfl rfl (by kernel_rfl) (by kernel_rfl) (by kernel_rfl) (fun _ _ _ h => h) (by rfl) (by kernel_rfl) ?_ (fun _ => by assumption) ?_
              rotate_left
              · intro w'
                go_simp
                all_goals with_reducible rfl
              (try simp only [Act.put, List.setIfInBounds_toArray, List.set_cons_zero, List.set_cons_succ])
              refine Till.take_held (v := ?_) 6 97 rfl rfl (by kernel_rfl) (by kernel_rfl) (by kernel_rfl) (fun _ _ _ h => h) (by rfl) (by kernel_rfl) (by kernel_rfl) (by kernel_rfl) ?_ (fun _ => by assumption) ?_
              rotate_left
              · intro w' hSw
                (try dsimp only at hSw)
                go_simp
                all_goals with_reducible rfl
              (try simp only [Act.put, List.setIfInBounds_toArray, List.set_cons_zero, List.set_cons_succ])
              refine Till.take_free (v := ?_) 9 100 rfl rfl (by kernel_rfl) (by kernel_rfl) (by kernel_rfl) (fun _ _ _ h => h) (by rfl) (by kernel_rfl) ?_ (fun _ => by assumption) ?_
              rotate_left
              · intro w'
                go_simp
                all_goals with_reducible rfl
              (try simp only [Act.put, List.setIfInBounds_toArray, List.set_cons_zero, List.set_cons_succ])
              refine Till.take_held (v := ?_) 10 101 rfl rfl (by kernel_rfl) (by kernel_rfl) (by kernel_rfl) (fun _ _ _ h => h) (by rfl) (by kernel_rfl) (by kernel_rfl) (by kernel_rfl) ?_ (fun _ => by assumption) ?_
              rotate_left
              · intro w' hSw
                (try dsimp only at hSw)
                go_simp
                all_goals with_reducible rfl
              (try simp only [Act.put, List.setIfInBounds_toArray, List.set_cons_zero, List.set_cons_succ])
              refine Till.take_free (v := ?_) 11 102 rfl rfl (by kernel_rfl) (by kernel_rfl) (by kernel_rfl) (fun _ _ _ h => h) (by rfl) (by kernel_rfl) ?_ (fun _ => by assumption) ?_
              rotate_left
              · intro w'
                go_simp
                all_goals with_reducible rfl
              (try simp only [Act.put, List.setIfInBounds_toArray, List.set_cons_zero, List.set_cons_succ])
              refine Till.take_free (v := ?_) 12 103 rfl rfl (by kernel_rfl) (by kernel_rfl) (by kernel_rfl) (fun _ _ _ h => h) (by rfl) (by kernel_rfl) ?_ (fun _ => by assumption) ?_
              rotate_left
              · intro w'
                go_simp
                all_goals with_reducible rfl
              (try simp only [Act.put, List.setIfInBounds_toArray, List.set_cons_zero, List.set_cons_succ])
              refine Till.take_free (v := ?_) 13 104 rfl rfl (by kernel_rfl) (by kernel_rfl) (by kernel_rfl) (fun _ _ _ h => h) (by rfl) (by kernel_rfl) ?_ (fun _ => by assumption) ?_
              rotate_left
              · intro w'
                go_simp
                all_goals with_reducible rfl
              (try simp only [Act.put, List.setIfInBounds_toArray, List.set_cons_zero, List.set_cons_succ])
              refine Till.take_chain (v := ?_) 14 105 [16, 17, 18, 20] rfl rfl (by kernel_rfl) (by kernel_rfl) (by kernel_rfl) (fun _ _ _ h => h) (by rfl) (by kernel_rfl) (by kernel_rfl) (by kernel_rfl) ?_ (fun _ => by assumption) ?_
              rotate_left
              · intro w' hSw
                (try dsimp only at hSw)
                go_simp
                all_goals with_reducible rfl
              (try simp only [Act.put, List.setIfInBounds_toArray, List.set_cons_zero, List.set_cons_succ])
              refine Till.take_free (v := ?_) 15 106 rfl rfl (by kernel_rfl) (by kernel_rfl) (by kernel_rfl) (fun _ _ _ h => h) (by rfl) (by kernel_rfl) ?_ (fun _ => by assumption) ?_
              rotate_left
              · intro w'
                go_simp
                all_goals with_reducible rfl
              (try simp only [Act.put, List.setIfInBounds_toArray, List.set_cons_zero, List.set_cons_succ])
              refine Till.take_free (v := ?_) 16 107 rfl rfl (by kernel_rfl) (by kernel_rfl) (by kernel_rfl) (fun _ _ _ h => h) (by rfl) (by kernel_rfl) ?_ (fun _ => by assumption) ?_
              rotate_left
              · intro w'
                go_simp
                all_goals with_reducible rfl
              (try simp only [Act.put, List.setIfInBounds_toArray, List.set_cons_zero, List.set_cons_succ])
              refine Till.goes_next (rs := [7, 17]) (by kernel_rfl) (by simp) (Till.Next.cons rfl (fun K hK => ?_) (Till.Next.cons rfl (fun K hK => ?_) (Till.Next.nil)))
              · refine Till.step_lit (by rfl) 41 _ rfl (.int .i64 nid) 3 (by rfl) (lit_int _ _) ?_
                obtain ⟨y1, ey1⟩ : ∃ y, y = World.alloc (World.drew z) (.cells #[.int .i64 nid] 3) := ⟨_, rfl⟩
                obtain ⟨k1, ek1⟩ : ∃ k, k = ((World.drew z)).heap.size := ⟨_, rfl⟩
                rw [← ey1, ← ek1]
                have HG1 : Hid (Grow wf y1 gq #[vi, va] vi va X Y) := (show Grow wf y1 gq #[vi, va] vi va X Y by rw [ey1]; exact HG0.out.alloc _)
                have HC1 : Hid (y1.cell? ⟨k1, 0, none⟩ = some (.int .i64 nid) ∧ k1 < y1.heap.size) := (show _ ∧ _ from ⟨by rw [ey1, ek1]; exact (World.cell?_alloc_new _ _ _ _).trans rfl, by rw [ey1, ek1]; simp⟩)
                have hS1 := HG1.out.keep2 hbf hcf hbp hcp
                clear ey1 ek1
                refine hK.out _ _ (fun _ => hS1) ?_
                clear hK K
                (try simp only [Act.put, List.setIfInBounds_toArray, List.set_cons_zero, List.set_cons_succ])
                refine Till.goes_next (rs := [8, 17]) (by kernel_rfl) (by simp) (Till.Next.cons rfl (fun K hK => ?_) (Till.Next.cons rfl (fun K hK => ?_) (Till.Next.nil)))
                · refine Till.step_cell (by rfl) _ _ _ (by rfl) (gq + 1) 3 iI (.int .i64 0) 8 Tryz.underlying41 HII.out.1 HII.out.2.1 HII.out.2.2.1 HII.out.2.2.2 rfl (.int .i64 nid) rfl vi X.length X (by rfl) HG1.out.ri k1 (by rfl) HC1.out.1 (by have := HXN.out; unfold maxLen; omega) (by have := HXN.out; omega) (by have := HG1.out.box.lt; omega) ?_
                  intro v2 y2 hown hgrow
                  obtain ⟨A2, c2, rfl⟩ := own_slice' hown
                  have HG2 : Hid (Grow wf y2 gq #[vi, va] (.slice A2 (X.length + 1) c2) va (X ++ [.int .i64 nid]) Y) := (show Grow _ _ _ _ _ _ _ _ from HG1.out.growI hown hgrow)
                  clear hown hgrow
                  have hS2 := HG2.out.keep2 hbf hcf hbp hcp
                  refine hK.out _ _ (fun _ => hS2) ?_
                  clear hK K
                  (try simp only [Act.put, List.setIfInBounds_toArray, List.set_cons_zero, List.set_cons_succ])
                  refine Till.take_free (v := ?_) 19 110 rfl rfl (by kernel_rfl) (by kernel_rfl) (by kernel_rfl) (fun _ _ _ h => h) (by rfl) (by kernel_rfl) ?_ (fun _ => by assumption) ?_
                  rotate_left
                  · intro w'
                    go_simp
                    all_goals with_reducible rfl
                  (try simp only [Act.put, List.setIfInBounds_toArray, List.set_cons_zero, List.set_cons_succ])
                  refine Till.goes_next (rs := [17]) (by kernel_rfl) (by simp) (Till.Next.cons rfl (fun K hK => ?_) (Till.Next.nil))
                  refine Till.step_lit (by rfl) 32 _ rfl (.int .i64 q) 2 (by rfl) (lit_long _ _) ?_
                  obtain ⟨y3, ey3⟩ : ∃ y, y = World.alloc y2 (.cells #[.int .i64 q] 2) := ⟨_, rfl⟩
                  obtain ⟨k3, ek3⟩ : ∃ k, k = (y2).heap.size := ⟨_, rfl⟩
                  rw [← ey3, ← ek3]
                  have HG3 : Hid (Grow wf y3 gq #[vi, va] (.slice A2 (X.length + 1) c2) va (X ++ [.int .i64 nid]) Y) := (show Grow wf y3 gq #[vi, va] (.slice A2 (X.length + 1) c2) va (X ++ [.int .i64 nid]) Y by rw [ey3]; exact HG2.out.alloc _)
                  have HC3 : Hid (y3.cell? ⟨k3, 0, none⟩ = some (.int .i64 q) ∧ k3 < y3.heap.size) := (show _ ∧ _ from ⟨by rw [ey3, ek3]; exact (World.cell?_alloc_new _ _ _ _).trans rfl, by rw [ey3, ek3]; simp⟩)
                  have hS3 := HG3.out.keep2 hbf hcf hbp hcp
                  clear ey3 ek3
                  refine hK.out _ _ (fun _ => hS3) ?_
                  clear hK K
                  (try simp only [Act.put, List.setIfInBounds_toArray, List.set_cons_zero, List.set_cons_succ])
                  refine Till.goes_next (rs := [18]) (by kernel_rfl) (by simp) (Till.Next.cons rfl (fun K hK => ?_) (Till.Next.nil))
                  refine Till.step_cell (by rfl) _ _ _ (by rfl) (gq + 1) 2 iA (.int .i64 0) 8 Tryz.underlying32 HIA.out.1 HIA.out.2.1 HIA.out.2.2.1 HIA.out.2.2.2 rfl (.int .i64 q) rfl va Y.length Y (by rfl) HG3.out.ra k3 (by rfl) HC3.out.1 (by have := HXN.out; unfold maxLen; omega) (by have := HXN.out; omega) (by have := HG3.out.box.lt; omega) ?_
                  intro v4 y4 hown hgrow
                  obtain ⟨A4, c4, rfl⟩ := own_slice' hown
                  have HG4 : Hid (Grow wf y4 gq #[vi, va] (.slice A2 (X.length + 1) c2) (.slice A4 (Y.length + 1) c4) (X ++ [.int .i64 nid]) (Y ++ [.int .i64 q])) := (show Grow _ _ _ _ _ _ _ _ from HG3.out.growA hown hgrow)
                  clear hown hgrow
                  have hS4 := HG4.out.keep2 hbf hcf hbp hcp
                  refine hK.out _ _ (fun _ => hS4) ?_
                  clear hK K
                  (try simp only [Act.put, List.setIfInBounds_toArray, List.set_cons_zero, List.set_cons_succ])
                  refine Till.goes_next (rs := [20]) (by kernel_rfl) (by simp) (Till.Next.cons rfl (fun K hK => ?_) (Till.Next.nil))
                  rw [if_pos (by rfl)]
                  have hb1 := HG4.out.box
                  with_reducible refine wp_put 41 (.tmp 110) (.tmp 99) ?_ ?_ gq 0 (.slice A2 (X.length + 1) c2) ?_ ?_ ?_ 47 _ hb1 ?_ ?_ ?_
                  · rfl
                  · rfl
                  · rfl
                  · rfl
                  · rfl
                  · simp
                  · exact ints_one
                  intro yb hr ho
                  have HGb := Lib.hid (HG4.out.put hr ho)
                  clear hr ho hb1
                  refine hK.out _ _ (Till.past (by kernel_rfl)) ?_
                  clear hK K
                  (try simp only [Act.put, List.setIfInBounds_toArray, List.set_cons_zero, List.set_cons_succ])
                  refine Till.take_free (v := ?_) 21 111 rfl rfl (by kernel_rfl) (by kernel_rfl) (by kernel_rfl) (fun _ _ _ h => h) (by rfl) (by kernel_rfl) ?_ (Till.past (by kernel_rfl)) ?_
                  rotate_left
                  · intro w'
                    go_simp
                    all_goals with_reducible rfl
                  (try simp only [Act.put, List.setIfInBounds_toArray, List.set_cons_zero, List.set_cons_succ])
                  refine Till.goes_next (rs := [22]) (by kernel_rfl) (by simp) (Till.Next.cons rfl (fun K hK => ?_) (Till.Next.nil))
                  rw [if_pos (by rfl)]
                  have hb1 := HGb.out.box
                  with_reducible refine wp_put 32 (.tmp 111) (.tmp 109) ?_ ?_ gq 1 (.slice A4 (Y.length + 1) c4) ?_ ?_ ?_ 47 _ hb1 ?_ ?_ ?_
                  · rfl
                  · rfl
                  · rfl
                  · rfl
                  · rfl
                  · simp
                  · exact longs_one
                  intro ye hr ho
                  have HGe : Hid (Grow wf ye gq #[(.slice A2 (X.length + 1) c2), (.slice A4 (Y.length + 1) c4)] (.slice A2 (X.length + 1) c2) (.slice A4 (Y.length + 1) c4) (X ++ [.int .i64 nid]) (Y ++ [.int .i64 q])) := (show Grow _ _ _ _ _ _ _ _ from HGb.out.put hr ho)
                  clear hr ho HGb hb1
                  refine hK.out _ _ (Till.past (by kernel_rfl)) ?_
                  clear hK K
                  (try simp only [Act.put, List.setIfInBounds_toArray, List.set_cons_zero, List.set_cons_succ])
                  refine Till.goes_done (by kernel_rfl) ?_ _
                  go_wp2_with fail
                  go_roundw
                  case rel => exact ⟨j + 1, by omega, rfl, HER.out, _, _, by rw [HTX.out, HTY.out]; exact HGe.out⟩
                  case measure => simp [intOf]; omega
                · refine Till.step_lit (by rfl) 32 _ rfl (.int .i64 q) 2 (by rfl) (lit_long _ _) ?_
                  obtain ⟨y5, ey5⟩ : ∃ y, y = World.alloc y1 (.cells #[.int .i64 q] 2) := ⟨_, rfl⟩
                  obtain ⟨k5, ek5⟩ : ∃ k, k = (y1).heap.size := ⟨_, rfl⟩
                  rw [← ey5, ← ek5]
                  have HG5 : Hid (Grow wf y5 gq #[vi, va] vi va X Y) := (show Grow wf y5 gq #[vi, va] vi va X Y by rw [ey5]; exact HG1.out.alloc _)
                  have HC5 : Hid (y5.cell? ⟨k5, 0, none⟩ = some (.int .i64 q) ∧ k5 < y5.heap.size) := (show _ ∧ _ from ⟨by rw [ey5, ek5]; exact (World.cell?_alloc_new _ _ _ _).trans rfl, by rw [ey5, ek5]; simp⟩)
                  have HN5 : Hid (some k5 ≠ vi.ownBlock) := HG1.out.ni (Nat.le_of_eq ek5.symm)
                  have HP5 : Hid (y5.cell? ⟨k1, 0, none⟩ = some (.int .i64 nid) ∧ k1 < y5.heap.size) := (show _ ∧ _ by rw [ey5]; exact ⟨(World.cell?_alloc_lt (a := ⟨k1, 0, none⟩) _ _ HC1.out.2).trans HC1.out.1, Nat.lt_of_lt_of_le HC1.out.2 (by simp)⟩)
                  have hS5 := HG5.out.keep2 hbf hcf hbp hcp
                  clear ey5 ek5
                  refine hK.out _ _ (fun _ => hS5) ?_
                  clear hK K
                  (try simp only [Act.put, List.setIfInBounds_toArray, List.set_cons_zero, List.set_cons_succ])
                  refine Till.goes_next (rs := [8]) (by kernel_rfl) (by simp) (Till.Next.cons rfl (fun K hK => ?_) (Till.Next.nil))
                  refine Till.step_cell (by rfl) _ _ _ (by rfl) (gq + 1) 3 iI (.int .i64 0) 8 Tryz.underlying41 HII.out.1 HII.out.2.1 HII.out.2.2.1 HII.out.2.2.2 rfl (.int .i64 nid) rfl vi X.length X (by rfl) HG5.out.ri k1 (by rfl) HP5.out.1 (by have := HXN.out; unfold maxLen; omega) (by have := HXN.out; omega) (by have := HG5.out.box.lt; omega) ?_
                  intro v6 y6 hown hgrow
                  obtain ⟨A6, c6, rfl⟩ := own_slice' hown
                  have HG6 : Hid (Grow wf y6 gq #[vi, va] (.slice A6 (X.length + 1) c6) va (X ++ [.int .i64 nid]) Y) := (show Grow _ _ _ _ _ _ _ _ from HG5.out.growI hown hgrow)
                  have HP6 : Hid (y6.cell? ⟨k5, 0, none⟩ = some (.int .i64 q) ∧ k5 < y6.heap.size) := (show _ ∧ _ from ⟨hgrow.cell (a := ⟨k5, 0, none⟩) HC5.out.1 HN5.out, Nat.lt_of_lt_of_le HC5.out.2 hgrow.size⟩)
                  clear hown hgrow
                  have hS6 := HG6.out.keep2 hbf hcf hbp hcp
                  refine hK.out _ _ (fun _ => hS6) ?_
                  clear hK K
                  (try simp only [Act.put, List.setIfInBounds_toArray, List.set_cons_zero, List.set_cons_succ])
                  refine Till.take_free (v := ?_) 19 110 rfl rfl (by kernel_rfl) (by kernel_rfl) (by kernel_rfl) (fun _ _ _ h => h) (by rfl) (by kernel_rfl) ?_ (fun _ => by assumption) ?_
                  rotate_left
                  · intro w'
                    go_simp
                    all_goals with_reducible rfl
                  (try simp only [Act.put, List.setIfInBounds_toArray, List.set_cons_zero, List.set_cons_succ])
                  refine Till.goes_next (rs := [18]) (by kernel_rfl) (by simp) (Till.Next.cons rfl (fun K hK => ?_) (Till.Next.nil))
                  refine Till.step_cell (by rfl) _ _ _ (by rfl) (gq + 1) 2 iA (.int .i64 0) 8 Tryz.underlying32 HIA.out.1 HIA.out.2.1 HIA.out.2.2.1 HIA.out.2.2.2 rfl (.int .i64 q) rfl va Y.length Y (by rfl) HG6.out.ra k5 (by rfl) HP6.out.1 (by have := HXN.out; unfold maxLen; omega) (by have := HXN.out; omega) (by have := HG6.out.box.lt; omega) ?_
                  intro v7 y7 hown hgrow
                  obtain ⟨A7, c7, rfl⟩ := own_slice' hown
                  have HG7 : Hid (Grow wf y7 gq #[vi, va] (.slice A6 (X.length + 1) c6) (.slice A7 (Y.length + 1) c7) (X ++ [.int .i64 nid]) (Y ++ [.int .i64 q])) := (show Grow _ _ _ _ _ _ _ _ from HG6.out.growA hown hgrow)
                  clear hown hgrow
                  have hS7 := HG7.out.keep2 hbf hcf hbp hcp
                  refine hK.out _ _ (fun _ => hS7) ?_
                  clear hK K
                  (try simp only [Act.put, List.setIfInBounds_toArray, List.set_cons_zero, List.set_cons_succ])
                  refine Till.goes_next (rs := [20]) (by kernel_rfl) (by simp) (Till.Next.cons rfl (fun K hK => ?_) (Till.Next.nil))
                  rw [if_pos (by rfl)]
                  have hb1 := HG7.out.box
                  with_reducible refine wp_put 41 (.tmp 110) (.tmp 99) ?_ ?_ gq 0 (.slice A6 (X.length + 1) c6) ?_ ?_ ?_ 47 _ hb1 ?_ ?_ ?_
                  · rfl
                  · rfl
                  · rfl
                  · rfl
                  · rfl
                  · simp
                  · exact ints_one
                  intro yb hr ho
                  have HGb := Lib.hid (HG7.out.put hr ho)
                  clear hr ho hb1
                  refine hK.out _ _ (Till.past (by kernel_rfl)) ?_
                  clear hK K
                  (try simp only [Act.put, List.setIfInBounds_toArray, List.set_cons_zero, List.set_cons_succ])
                  refine Till.take_free (v := ?_) 21 111 rfl rfl (by kernel_rfl) (by kernel_rfl) (by kernel_rfl) (fun _ _ _ h => h) (by rfl) (by kernel_rfl) ?_ (Till.past (by kernel_rfl)) ?_
                  rotate_left
                  · intro w'
                    go_simp
                    all_goals with_reducible rfl
                  (try simp only [Act.put, List.setIfInBounds_toArray, List.set_cons_zero, List.set_cons_succ])
                  refine Till.goes_next (rs := [22]) (by kernel_rfl) (by simp) (Till.Next.cons rfl (fun K hK => ?_) (Till.Next.nil))
                  rw [if_pos (by rfl)]
                  have hb1 := HGb.out.box
                  with_reducible refine wp_put 32 (.tmp 111) (.tmp 109) ?_ ?_ gq 1 (.slice A7 (Y.length + 1) c7) ?_ ?_ ?_ 47 _ hb1 ?_ ?_ ?_
                  · rfl
                  · rfl
                  · rfl
                  · rfl
                  · rfl
                  · simp
                  · exact longs_one
                  intro ye hr ho
                  have HGe : Hid (Grow wf ye gq #[(.slice A6 (X.length + 1) c6), (.slice A7 (Y.length + 1) c7)] (.slice A6 (X.length + 1) c6) (.slice A7 (Y.length + 1) c7) (X ++ [.int .i64 nid]) (Y ++ [.int .i64 q])) := (show Grow _ _ _ _ _ _ _ _ from HGb.out.put hr ho)
                  clear hr ho HGb hb1
                  refine hK.out _ _ (Till.past (by kernel_rfl)) ?_
                  clear hK K
                  (try simp only [Act.put, List.setIfInBounds_toArray, List.set_cons_zero, List.set_cons_succ])
                  refine Till.goes_done (by kernel_rfl) ?_ _
                  go_wp2_with fail
                  go_roundw
                  case rel => exact ⟨j + 1, by omega, rfl, HER.out, _, _, by rw [HTX.out, HTY.out]; exact HGe.out⟩
                  case measure => simp [intOf]; omega
              · refine Till.step_lit (by rfl) 32 _ rfl (.int .i64 q) 2 (by rfl) (lit_long _ _) ?_
                obtain ⟨y8, ey8⟩ : ∃ y, y = World.alloc (World.drew z) (.cells #[.int .i64 q] 2) := ⟨_, rfl⟩
                obtain ⟨k8, ek8⟩ : ∃ k, k = ((World.drew z)).heap.size := ⟨_, rfl⟩
                rw [← ey8, ← ek8]
                have HG8 : Hid (Grow wf y8 gq #[vi, va] vi va X Y) := (show Grow wf y8 gq #[vi, va] vi va X Y by rw [ey8]; exact HG0.out.alloc _)
                have HC8 : Hid (y8.cell? ⟨k8, 0, none⟩ = some (.int .i64 q) ∧ k8 < y8.heap.size) := (show _ ∧ _ from ⟨by rw [ey8, ek8]; exact (World.cell?_alloc_new _ _ _ _).trans rfl, by rw [ey8, ek8]; simp⟩)
                have HN8 : Hid (some k8 ≠ vi.ownBlock) := HG0.out.ni (Nat.le_of_eq ek8.symm)
                have hS8 := HG8.out.keep2 hbf hcf hbp hcp
                clear ey8 ek8
                refine hK.out _ _ (fun _ => hS8) ?_
                clear hK K
                (try simp only [Act.put, List.setIfInBounds_toArray, List.set_cons_zero, List.set_cons_succ])
                refine Till.goes_next (rs := [7]) (by kernel_rfl) (by simp) (Till.Next.cons rfl (fun K hK => ?_) (Till.Next.nil))
                refine Till.step_lit (by rfl) 41 _ rfl (.int .i64 nid) 3 (by rfl) (lit_int _ _) ?_
                obtain ⟨y9, ey9⟩ : ∃ y, y = World.alloc y8 (.cells #[.int .i64 nid] 3) := ⟨_, rfl⟩
                obtain ⟨k9, ek9⟩ : ∃ k, k = (y8).heap.size := ⟨_, rfl⟩
                rw [← ey9, ← ek9]
                have HG9 : Hid (Grow wf y9 gq #[vi, va] vi va X Y) := (show Grow wf y9 gq #[vi, va] vi va X Y by rw [ey9]; exact HG8.out.alloc _)
                have HC9 : Hid (y9.cell? ⟨k9, 0, none⟩ = some (.int .i64 nid) ∧ k9 < y9.heap.size) := (show _ ∧ _ from ⟨by rw [ey9, ek9]; exact (World.cell?_alloc_new _ _ _ _).trans rfl, by rw [ey9, ek9]; simp⟩)
                have HP9 : Hid (y9.cell? ⟨k8, 0, none⟩ = some (.int .i64 q) ∧ k8 < y9.heap.size) := (show _ ∧ _ by rw [ey9]; exact ⟨(World.cell?_alloc_lt (a := ⟨k8, 0, none⟩) _ _ HC8.out.2).trans HC8.out.1, Nat.lt_of_lt_of_le HC8.out.2 (by simp)⟩)
                have hS9 := HG9.out.keep2 hbf hcf hbp hcp
                clear ey9 ek9
                refine hK.out _ _ (fun _ => hS9) ?_
                clear hK K
                (try simp only [Act.put, List.setIfInBounds_toArray, List.set_cons_zero, List.set_cons_succ])
                refine Till.goes_next (rs := [8]) (by kernel_rfl) (by simp) (Till.Next.cons rfl (fun K hK => ?_) (Till.Next.nil))
                refine Till.step_cell (by rfl) _ _ _ (by rfl) (gq + 1) 3 iI (.int .i64 0) 8 Tryz.underlying41 HII.out.1 HII.out.2.1 HII.out.2.2.1 HII.out.2.2.2 rfl (.int .i64 nid) rfl vi X.length X (by rfl) HG9.out.ri k9 (by rfl) HC9.out.1 (by have := HXN.out; unfold maxLen; omega) (by have := HXN.out; omega) (by have := HG9.out.box.lt; omega) ?_
                intro v10 y10 hown hgrow
                obtain ⟨A10, c10, rfl⟩ := own_slice' hown
                have HG10 : Hid (Grow wf y10 gq #[vi, va] (.slice A10 (X.length + 1) c10) va (X ++ [.int .i64 nid]) Y) := (show Grow _ _ _ _ _ _ _ _ from HG9.out.growI hown hgrow)
                have HP10 : Hid (y10.cell? ⟨k8, 0, none⟩ = some (.int .i64 q) ∧ k8 < y10.heap.size) := (show _ ∧ _ from ⟨hgrow.cell (a := ⟨k8, 0, none⟩) HP9.out.1 HN8.out, Nat.lt_of_lt_of_le HP9.out.2 hgrow.size⟩)
                clear hown hgrow
                have hS10 := HG10.out.keep2 hbf hcf hbp hcp
                refine hK.out _ _ (fun _ => hS10) ?_
                clear hK K
                (try simp only [Act.put, List.setIfInBounds_toArray, List.set_cons_zero, List.set_cons_succ])
                refine Till.take_free (v := ?_) 19 110 rfl rfl (by kernel_rfl) (by kernel_rfl) (by kernel_rfl) (fun _ _ _ h => h) (by rfl) (by kernel_rfl) ?_ (fun _ => by assumption) ?_
                rotate_left
                · intro w'
                  go_simp
                  all_goals with_reducible rfl
                (try simp only [Act.put, List.setIfInBounds_toArray, List.set_cons_zero, List.set_cons_succ])
                refine Till.goes_next (rs := [18]) (by kernel_rfl) (by simp) (Till.Next.cons rfl (fun K hK => ?_) (Till.Next.nil))
                refine Till.step_cell (by rfl) _ _ _ (by rfl) (gq + 1) 2 iA (.int .i64 0) 8 Tryz.underlying32 HIA.out.1 HIA.out.2.1 HIA.out.2.2.1 HIA.out.2.2.2 rfl (.int .i64 q) rfl va Y.length Y (by rfl) HG10.out.ra k8 (by rfl) HP10.out.1 (by have := HXN.out; unfold maxLen; omega) (by have := HXN.out; omega) (by have := HG10.out.box.lt; omega) ?_
                intro v11 y11 hown hgrow
                obtain ⟨A11, c11, rfl⟩ := own_slice' hown
                have HG11 : Hid (Grow wf y11 gq #[vi, va] (.slice A10 (X.length + 1) c10) (.slice A11 (Y.length + 1) c11) (X ++ [.int .i64 nid]) (Y ++ [.int .i64 q])) := (show Grow _ _ _ _ _ _ _ _ from HG10.out.growA hown hgrow)
                clear hown hgrow
                have hS11 := HG11.out.keep2 hbf hcf hbp hcp
                refine hK.out _ _ (fun _ => hS11) ?_
                clear hK K
                (try simp only [Act.put, List.setIfInBounds_toArray, List.set_cons_zero, List.set_cons_succ])
                refine Till.goes_next (rs := [20]) (by kernel_rfl) (by simp) (Till.Next.cons rfl (fun K hK => ?_) (Till.Next.nil))
                rw [if_pos (by rfl)]
                have hb1 := HG11.out.box
                with_reducible refine wp_put 41 (.tmp 110) (.tmp 99) ?_ ?_ gq 0 (.slice A10 (X.length + 1) c10) ?_ ?_ ?_ 47 _ hb1 ?_ ?_ ?_
                · rfl
                · rfl
                · rfl
                · rfl
                · rfl
                · simp
                · exact ints_one
                intro yb hr ho
                have HGb := Lib.hid (HG11.out.put hr ho)
                clear hr ho hb1
                refine hK.out _ _ (Till.past (by kernel_rfl)) ?_
                clear hK K
                (try simp only [Act.put, List.setIfInBounds_toArray, List.set_cons_zero, List.set_cons_succ])
                refine Till.take_free (v := ?_) 21 111 rfl rfl (by kernel_rfl) (by kernel_rfl) (by kernel_rfl) (fun _ _ _ h => h) (by rfl) (by kernel_rfl) ?_ (Till.past (by kernel_rfl)) ?_
                rotate_left
                · intro w'
                  go_simp
                  all_goals with_reducible rfl
                (try simp only [Act.put, List.setIfInBounds_toArray, List.set_cons_zero, List.set_cons_succ])
                refine Till.goes_next (rs := [22]) (by kernel_rfl) (by simp) (Till.Next.cons rfl (fun K hK => ?_) (Till.Next.nil))
                rw [if_pos (by rfl)]
                have hb1 := HGb.out.box
                with_reducible refine wp_put 32 (.tmp 111) (.tmp 109) ?_ ?_ gq 1 (.slice A11 (Y.length + 1) c11) ?_ ?_ ?_ 47 _ hb1 ?_ ?_ ?_
                · rfl
                · rfl
                · rfl
                · rfl
                · rfl
                · simp
                · exact longs_one
                intro ye hr ho
                have HGe : Hid (Grow wf ye gq #[(.slice A10 (X.length + 1) c10), (.slice A11 (Y.length + 1) c11)] (.slice A10 (X.length + 1) c10) (.slice A11 (Y.length + 1) c11) (X ++ [.int .i64 nid]) (Y ++ [.int .i64 q])) := (show Grow _ _ _ _ _ _ _ _ from HGb.out.put hr ho)
                clear hr ho HGb hb1
                refine hK.out _ _ (Till.past (by kernel_rfl)) ?_
                clear hK K
                (try simp only [Act.put, List.setIfInBounds_toArray, List.set_cons_zero, List.set_cons_succ])
                refine Till.goes_done (by kernel_rfl) ?_ _
                go_wp2_with fail
                go_roundw
                case rel => exact ⟨j + 1, by omega, rfl, HER.out, _, _, by rw [HTX.out, HTY.out]; exact HGe.out⟩
                case measure => simp [intOf]; omega
            · have HEE : Hid (finR (L.map fun l => l.id) (capR RI L) = ([], [], (owesR x).2)) := by
                show _ = _
                have hz := errs_at hx (fun i hi y hy => HJ.out.1 i hi y hy) he
                rw [HR1.out]
                unfold capR
                rw [if_pos rfl, if_neg (by rw [hz]; exact he), hz, fin_no he]
              have t0 : ((owesR x).2 != 0) = true := by rw [bne_iff_ne]; exact he
              have HXE : Hid (Below wd.heap.size wd wr) := HXF.out.trans (HG.out.low.mono HXF.out.size)
              clear he hx
              generalize (owesR x).2 = oe at *
              generalize (owesR x).1 = ov at *
              generalize x.cells = C at *
              go_wp2_with (first
                | (refine Rws.load_mid_want (by rfl) 23 _ rfl _ _ rfl C _ HM.out Tryz.underlying23 rfl HS.out ?_)
                | (go_at_call 19; (refine (KO.out _).mono ?_); rintro e z ⟨rfl, hh⟩; replace HXE := Lib.hid (below_to HXE.out hh); clear hh)
                | (refine o_store rfl 47 _ _ rfl rfl g6 #[.slice none 0 0, .slice none 0 0] rfl rfl _ _ (H6.out.below HXE.out) (asked_info _ _) rfl (asked_one _ _ _ _ _ _) ?_; intro ys hr ho; have HR := Lib.hid hr; have HWE := Lib.hid (below_one_of (HD.out.trans (Below.mono HXE.out HD.out.size)) ho HS6.out.1 (Nat.le_trans HD.out.size (Below.size HXE.out))); clear hr ho))
              refine bodyPost_ret (results_two rfl _ _ _ _ _ _ _ rfl HR.out Tryz.underlying47 rfl (asked_info _ _) rfl) rfl ?_
              rw [HEE.out]
              exact asked_none oe HWE.out
          · obtain rfl : j = L.length := by omega
            have HEE : Hid (finR (L.map fun l => l.id) (capR RI L) = (L.map (fun l => l.id), lessV (List.replicate L.length (0 : Int)) L, 0)) := by
              show _ = _
              rw [HR1.out]
              unfold capR
              rw [if_pos rfl, if_pos (errs_all HJ.out.1), fin_yes rfl]
            have HXE : Hid (Below wd.heap.size wd wr) := HXF.out.trans (HG.out.low.mono HXF.out.size)
            have HI1 : Hid (wr.ownsRow (gq + 1) 3 1 vi L.length ((L.map fun l => l.id).map (Value.int .i64))) := (show World.ownsRow _ _ _ _ _ _ _ by have h := HG.out.ri; rw [List.take_length, List.length_map] at h; rw [List.map_map]; exact h)
            have HI2 : Hid (wr.ownsRow (gq + 1) 2 1 va L.length ((lessV (List.replicate L.length (0 : Int)) L).map (Value.int .i64))) := (show World.ownsRow _ _ _ _ _ _ _ by have h := HG.out.ra; rw [mins_len] at h; unfold lessV; rw [List.map_map]; exact h)
            have HBX := Lib.hid HG.out.box
            have HGQ : Hid (g6 < gq + 1) := (show g6 < gq + 1 by have h1 := HG.out.at_; have h2 := HS6.out.2; have h3 := HXF.out.size; omega)
            obtain ⟨A7, c7, rfl⟩ := own_slice' HI1.out
            obtain ⟨A8, c8, rfl⟩ := own_slice' HI2.out
            have HSA := Lib.hid (asked_info (.slice A7 L.length c7) (.slice A8 L.length c8))
            have HLV := Lib.hid (lessV_len (List.replicate L.length (0 : Int)) L)
            generalize lessV (List.replicate L.length (0 : Int)) L = LV at *
            go_wp2_with (first
              | (refine o_load (by rfl) 47 _ rfl gq rfl _ _ _ HBX.out Tryz.underlying47 rfl HSA.out ?_)
              | (refine o_store rfl 47 _ _ rfl rfl g6 _ rfl rfl _ _ (H6.out.below HXE.out) HSA.out rfl (asked_one _ _ _ _ _ _) ?_; intro ys hr ho; have HR9 := Lib.hid hr; have HWE := Lib.hid (below_one_of (HD.out.trans (HXE.out.mono HD.out.size)) ho HS6.out.1 (Nat.le_trans HD.out.size HXE.out.size)); have HOO := Lib.hid ho; clear hr ho))
            refine bodyPost_ret (results_two rfl _ _ _ _ _ _ _ rfl HR9.out Tryz.underlying47 rfl HSA.out rfl) rfl ?_
            rw [HEE.out]
            exact ⟨_, _, rfl, own_ints_far HI1.out (by simp) HOO.out HGQ.out, own_ints_far HI2.out HLV.out.symm HOO.out HGQ.out, HWE.out⟩
      · rw [decide_eq_false hs] at hz
        have t1 : decide (0 < sm) = true := decide_eq_true (by omega)
        have HZF := Lib.hid hz
        clear hz hs z0 HX1
        have HU2 : Hid (∀ W, Below wr.heap.size wr W → Ints W W.heap.size .i64 (.slice A5 L.length c5) (prins L)) := fun W hb => (HU.out.below hb).more hb.size
        cases hsp : Share.splitS tv (prins L) with
        | none =>
          have HSN := Lib.hid hsp
          have HR2 : Hid (RI = ([], 1)) := HRIN.out HZF.out hsp
          clear hsp
          go_wp2_with (first
            | (go_at_call 83; (refine (Share.rsplit_not tv (prins L) _ _ _ (HU2.out _ (below_one _ _)) HSN.out).mono ?_); rintro e y2 ⟨rfl, rfl⟩; have HX3 := Lib.hid (below_to HXW.out (below_one wr (.cells (madeCells #[.int .i64 0] L.length) 2))))
            | (refine o_store rfl 47 _ _ rfl rfl g6 #[.slice none 0 0, .slice none 0 0] rfl rfl _ _ (H6.out.below HX3.out) (asked_info _ _) rfl (asked_one _ _ _ _ _ _) ?_; intro ys hr ho; have HR := Lib.hid hr; have HWE := Lib.hid (below_one_of (HD.out.trans (Below.mono HX3.out HD.out.size)) ho HS6.out.1 (Nat.le_trans HD.out.size (Below.size HX3.out))); clear hr ho))
          refine bodyPost_ret (results_two rfl _ _ _ _ _ _ _ rfl HR.out Tryz.underlying47 rfl (asked_info _ _) rfl) rfl ?_
          rw [HR2.out, show finR (L.map fun l => l.id) (capR (([] : List Int), (1 : Int)) L) = ([], [], 1) from rfl]
          exact asked_none 1 HWE.out

        | some s1 =>
          have HSN := Lib.hid hsp
          have HR2 : Hid (RI = (Share.outL tv s1 (prins L) Q, 0)) := HRIS.out s1 HZF.out hsp
          have HPLC := Lib.hid (HFT.out HZF.out s1 hsp)
          clear hsp
          go_upto_region 18 with (first
            | (go_at_call 83; (refine (Share.rsplit_yes tv s1 (prins L) Q HPLC.out _ _ (HU2.out _ (below_one _ _)) HSN.out).mono ?_); rintro e wf ⟨vp, rfl, hpi, hh⟩; have HXF := Lib.hid (below_to (below_to HXW.out (below_one wr (.cells (madeCells #[.int .i64 0] L.length) 2))) hh); have HPI := Lib.hid hpi; obtain ⟨Ap, cp, rfl, -⟩ := id hpi; clear hpi hh))
          obtain ⟨Ap', cp', ee, -, -, hcc⟩ := HPI.out
          injection ee with ee _ _
          subst ee
          have hlo : (Share.outL tv s1 (prins L) Q).length = L.length := by simp [Share.outL, prins]
          obtain ⟨bp, ofp, hae, hbw, hcell⟩ := hcc (by rw [hlo]; exact H0.out)
          subst hae
          have HPA : Hid (bp < wf.heap.size ∧ ∀ i, i < L.length → wf.cell? ⟨bp, ofp + i, none⟩ = some (.int .i64 ((Share.outL tv s1 (prins L) Q).getD i 0))) := (show _ ∧ _ from ⟨hbw, fun i hi => hcell i (by rw [hlo]; exact hi)⟩)
          rw [hlo]
          clear hcc hbw hcell HPI HU HU2 HSN hmk hlo
          generalize Share.outL tv s1 (prins L) Q = AL at *
          have hbfw := HXF.out
          obtain ⟨gq, wg, eg1, eg2, hBg, hbg⟩ := boxd_new wf #[.slice none 0 0, .slice none 0 0] 47
          have HGS : Hid (Grow wf wg gq #[.slice none 0 0, .slice none 0 0] (.slice none 0 0) (.slice none 0 0) [] []) := (show Grow _ _ _ _ _ _ _ _ by rw [eg1, eg2]; exact Grow.start wf _)
          have HVF : Hid (Lns wf w.heap.size (.slice A2 L.length k) L) := (HVD.out.below (HXF.out.mono HD.out.size))
          have HVS : Hid (w.heap.size ≤ wf.heap.size) := Nat.le_trans HD.out.size HXF.out.size
          clear hbfw hBg hbg
          go_upto_region 19 with fail
          rw [← eg2, ← eg1]
          clear eg1 eg2
          go_wp2_with fail
          go_loopw [17] (fun t wr => ∃ j : Nat, j ≤ L.length ∧ t = .int .i64 j ∧ Hid ((∀ i, i < j → ∀ y, L[i]? = some y → (owesR y).2 = 0) ∧ ∃ vi va, Grow wf wr gq #[vi, va] vi va ((L.take j).map fun l => .int .i64 l.id) (mins AL L j))) (fun t _ => L.length - (intOf t).toNat)
          case atStart => exact ⟨0, Nat.zero_le _, rfl, fun i hi => absurd hi (Nat.not_lt_zero _), _, _, HGS.out⟩
          case round =>
            obtain ⟨j, hj, rfl, HJ⟩ := hrel

            obtain ⟨vi, va, hG⟩ := HJ.out.2
            have HG := Lib.hid hG
            clear hG
            by_cases hlt : j < L.length
            · obtain ⟨b, off, k', e0, hb, -⟩ := HVF.out.open (by omega)
              injection e0 with e0 _ e2
              subst e0 e2
              obtain ⟨x, hx⟩ : ∃ x, L[j]? = some x := ⟨_, List.getElem?_eq_getElem hlt⟩
              have hbf : b < wf.heap.size := Nat.lt_of_lt_of_le hb HVS.out
              have hcf : wf.cell? ⟨b, off + j * 13, none⟩ = some (.int .i64 x.id) := by have h := HVF.out.at_ hx 0 (.int .i64 x.id) rfl; rwa [Nat.add_zero] at h
              have HM : Hid (wr.rangeAt b (off + j * 13) x.cells.toList) := range_keep (HVF.out.at_ hx) HG.out.low hbf
              have HS := Lib.hid (ln_info' x)
              have KO := Lib.hid (fun W => RLoan.r_owes x W)
              by_cases he : (owesR x).2 = 0
              · have HER : Hid (∀ i, i < j + 1 → ∀ y, L[i]? = some y → (owesR y).2 = 0) := fun i hi y hy => by
                  by_cases hij : i = j
                  · subst hij
                    rw [hx] at hy
                    exact (Option.some.inj hy) ▸ he
                  · exact HJ.out.1 i (by omega) y hy
                have t0 : ((owesR x).2 != 0) = false := by rw [he]; rfl
                have HTX := Lib.hid (take_map (fun l => Value.int .i64 l.id) hx)
                have HTY := Lib.hid (mins_next (A := AL) hx)
                have hbp := HPA.out.1
                have hcp := HPA.out.2 j hlt
                clear he hx
                generalize (owesR x).2 = oe at *
                obtain ⟨q, hq⟩ : ∃ q, lessI ((AL).getD j 0) (owesR x).1 = q := ⟨_, rfl⟩
                rw [hq] at HTY
                unfold lessI at hq
                generalize (owesR x).1 = ov at *
                generalize (AL).getD j 0 = av at *
                generalize x.id = nid at *
                generalize x.cells = C at *
                have HXN : Hid (((L.take j).map fun l => Value.int .i64 l.id).length ≤ 1000 ∧ (mins AL L j).length ≤ 1000) := (show _ ∧ _ by rw [take_len _ hj, mins_len]; omega)
                generalize (L.take j).map (fun l => Value.int .i64 l.id) = X at *
                generalize mins AL L j = Y at *
                go_upto_region 25 with (first
                  | (refine Rws.load_mid_want (by rfl) 23 _ rfl _ _ rfl C _ HM.out Tryz.underlying23 rfl HS.out ?_)
                  | (go_at_call 19; (refine (KO.out _).mono ?_); rintro e z ⟨rfl, hh⟩; replace HG := Lib.hid (HG.out.below hh); clear hh))
                have HG0 := Lib.hid HG.out.drew
                have hS0 := HG0.out.keep2 hbf hcf hbp hcp
                refine Till.start (fun W => W.cell? ⟨gq, 0, none⟩ = some vi ∧ W.cell? ⟨gq, 1, none⟩ = some va ∧ W.cell? ⟨b, off + j * 13, none⟩ = some (.int .i64 nid) ∧ W.cell? ⟨bp, ofp + j, none⟩ = some (.int .i64 av)) 20 (by kernel_rfl) ?_
                refine Till.take_free (v := ?_) 0 91 rfl rfl (by kernel_rfl) (by kernel_rfl) (by kernel_rfl) (fun _ _ _ h => h) (by rfl) (by kernel_rfl) ?_ (fun _ => by assumption) ?_
                rotate_left
                · intro w'
                  go_simp
                  all_goals with_reducible rfl
                (try simp only [Act.put, List.setIfInBounds_toArray, List.set_cons_zero, List.set_cons_succ])
                refine Till.take_held (v := ?_) 1 92 rfl rfl (by kernel_rfl) (by kernel_rfl) (by kernel_rfl) (fun _ _ _ h => h) (by rfl) (by kernel_rfl) (by kernel_rfl) (by kernel_rfl) ?_ (fun _ => by assumption) ?_
                rotate_left
                · intro w' hSw
                  (try dsimp only at hSw)
                  go_simp
                  all_goals with_reducible rfl
                (try simp only [Act.put, List.setIfInBounds_toArray, List.set_cons_zero, List.set_cons_succ])
                refine Till.take_free (v := ?_) 2 93 rfl rfl (by kernel_rfl) (by kernel_rfl) (by kernel_rfl) (fun _ _ _ h => h) (by rfl) (by kernel_rfl) ?_ (fun _ => by assumption) ?_
                rotate_left
                · intro w'
                  go_simp
                  all_goals with_reducible rfl
                (try simp only [Act.put, List.setIfInBounds_toArray, List.set_cons_zero, List.set_cons_succ])
                refine Till.take_free (v := ?_) 3 94 rfl rfl (by kernel_rfl) (by kernel_rfl) (by kernel_rfl) (fun _ _ _ h => h) (by rfl) (by kernel_rfl) ?_ (fun _ => by assumption) ?_
                rotate_left
                · intro w'
                  go_simp
                  all_goals with_reducible rfl
                (try simp only [Act.put, List.setIfInBounds_toArray, List.set_cons_zero, List.set_cons_succ])
                refine Till.take_free (v := ?_) 4 95 rfl rfl (by kernel_rfl) (by kernel_rfl) (by kernel_rfl) (fun _ _ _ h => h) (by rfl) (by kernel_rfl) ?_ (fun _ => by assumption) ?_
                rotate_left
                · intro w'
                  go_simp
                  all_goals with_reducible rfl
                (try simp only [Act.put, List.setIfInBounds_toArray, List.set_cons_zero, List.set_cons_succ])
                refine Till.take_free (v := ?_) 5 96 rfl rfl (by kernel_rfl) (by kernel_rfl) (by kernel_rfl) (fun _ _ _ h => h) (by rfl) (by kernel_rfl) ?_ (fun _ => by assumption) ?_
                rotate_left
                · intro w'
                  go_simp
                  all_goals with_reducible rfl
                (try simp only [Act.put, List.setIfInBounds_toArray, List.set_cons_zero, List.set_cons_succ])
                refine Till.take_held (v := ?_) 6 97 rfl rfl (by kernel_rfl) (by kernel_rfl) (by kernel_rfl) (fun _ _ _ h => h) (by rfl) (by kernel_rfl) (by kernel_rfl) (by kernel_rfl) ?_ (fun _ => by assumption) ?_
                rotate_left
                · intro w' hSw
                  (try dsimp only at hSw)
                  go_simp
                  all_goals with_reducible rfl
                (try simp only [Act.put, List.setIfInBounds_toArray, List.set_cons_zero, List.set_cons_succ])
                refine Till.take_free (v := ?_) 9 100 rfl rfl (by kernel_rfl) (by kernel_rfl) (by kernel_rfl) (fun _ _ _ h => h) (by rfl) (by kernel_rfl) ?_ (fun _ => by assumption) ?_
                rotate_left
                · intro w'
                  go_simp
                  all_goals with_reducible rfl
                (try simp only [Act.put, List.setIfInBounds_toArray, List.set_cons_zero, List.set_cons_succ])
                refine Till.take_held (v := ?_) 10 101 rfl rfl (by kernel_rfl) (by kernel_rfl) (by kernel_rfl) (fun _ _ _ h => h) (by rfl) (by kernel_rfl) (by kernel_rfl) (by kernel_rfl) ?_ (fun _ => by assumption) ?_
                rotate_left
                · intro w' hSw
                  (try dsimp only at hSw)
                  go_simp
                  all_goals with_reducible rfl
                (try simp only [Act.put, List.setIfInBounds_toArray, List.set_cons_zero, List.set_cons_succ])
                refine Till.take_free (v := ?_) 11 102 rfl rfl (by kernel_rfl) (by kernel_rfl) (by kernel_rfl) (fun _ _ _ h => h) (by rfl) (by kernel_rfl) ?_ (fun _ => by assumption) ?_
                rotate_left
                · intro w'
                  go_simp
                  all_goals with_reducible rfl
                (try simp only [Act.put, List.setIfInBounds_toArray, List.set_cons_zero, List.set_cons_succ])
                refine Till.take_free (v := ?_) 12 103 rfl rfl (by kernel_rfl) (by kernel_rfl) (by kernel_rfl) (fun _ _ _ h => h) (by rfl) (by kernel_rfl) ?_ (fun _ => by assumption) ?_
                rotate_left
                · intro w'
                  go_simp
                  all_goals with_reducible rfl
                (try simp only [Act.put, List.setIfInBounds_toArray, List.set_cons_zero, List.set_cons_succ])
                refine Till.take_free (v := ?_) 13 104 rfl rfl (by kernel_rfl) (by kernel_rfl) (by kernel_rfl) (fun _ _ _ h => h) (by rfl) (by kernel_rfl) ?_ (fun _ => by assumption) ?_
                rotate_left
                · intro w'
                  go_simp
                  all_goals with_reducible rfl
                (try simp only [Act.put, List.setIfInBounds_toArray, List.set_cons_zero, List.set_cons_succ])
                refine Till.take_chain (v := ?_) 14 105 [16, 17, 18, 20] rfl rfl (by kernel_rfl) (by kernel_rfl) (by kernel_rfl) (fun _ _ _ h => h) (by rfl) (by kernel_rfl) (by kernel_rfl) (by kernel_rfl) ?_ (fun _ => by assumption) ?_
                rotate_left
                · intro w' hSw
                  (try dsimp only at hSw)
                  go_simp
                  all_goals with_reducible rfl
                (try simp only [Act.put, List.setIfInBounds_toArray, List.set_cons_zero, List.set_cons_succ])
                refine Till.take_free (v := ?_) 15 106 rfl rfl (by kernel_rfl) (by kernel_rfl) (by kernel_rfl) (fun _ _ _ h => h) (by rfl) (by kernel_rfl) ?_ (fun _ => by assumption) ?_
                rotate_left
                · intro w'
                  go_simp
                  all_goals with_reducible rfl
                (try simp only [Act.put, List.setIfInBounds_toArray, List.set_cons_zero, List.set_cons_succ])
                refine Till.take_free (v := ?_) 16 107 rfl rfl (by kernel_rfl) (by kernel_rfl) (by kernel_rfl) (fun _ _ _ h => h) (by rfl) (by kernel_rfl) ?_ (fun _ => by assumption) ?_
                rotate_left
                · intro w'
                  go_simp
                  all_goals with_reducible rfl
                (try simp only [Act.put, List.setIfInBounds_toArray, List.set_cons_zero, List.set_cons_succ])
                refine Till.goes_next (rs := [7, 17]) (by kernel_rfl) (by simp) (Till.Next.cons rfl (fun K hK => ?_) (Till.Next.cons rfl (fun K hK => ?_) (Till.Next.nil)))
                · refine Till.step_lit (by rfl) 41 _ rfl (.int .i64 nid) 3 (by rfl) (lit_int _ _) ?_
                  obtain ⟨y1, ey1⟩ : ∃ y, y = World.alloc (World.drew z) (.cells #[.int .i64 nid] 3) := ⟨_, rfl⟩
                  obtain ⟨k1, ek1⟩ : ∃ k, k = ((World.drew z)).heap.size := ⟨_, rfl⟩
                  rw [← ey1, ← ek1]
                  have HG1 : Hid (Grow wf y1 gq #[vi, va] vi va X Y) := (show Grow wf y1 gq #[vi, va] vi va X Y by rw [ey1]; exact HG0.out.alloc _)
                  have HC1 : Hid (y1.cell? ⟨k1, 0, none⟩ = some (.int .i64 nid) ∧ k1 < y1.heap.size) := (show _ ∧ _ from ⟨by rw [ey1, ek1]; exact (World.cell?_alloc_new _ _ _ _).trans rfl, by rw [ey1, ek1]; simp⟩)
                  have hS1 := HG1.out.keep2 hbf hcf hbp hcp
                  clear ey1 ek1
                  refine hK.out _ _ (fun _ => hS1) ?_
                  clear hK K
                  (try simp only [Act.put, List.setIfInBounds_toArray, List.set_cons_zero, List.set_cons_succ])
                  refine Till.goes_next (rs := [8, 17]) (by kernel_rfl) (by simp) (Till.Next.cons rfl (fun K hK => ?_) (Till.Next.cons rfl (fun K hK => ?_) (Till.Next.nil)))
                  · refine Till.step_cell (by rfl) _ _ _ (by rfl) (gq + 1) 3 iI (.int .i64 0) 8 Tryz.underlying41 HII.out.1 HII.out.2.1 HII.out.2.2.1 HII.out.2.2.2 rfl (.int .i64 nid) rfl vi X.length X (by rfl) HG1.out.ri k1 (by rfl) HC1.out.1 (by have := HXN.out; unfold maxLen; omega) (by have := HXN.out; omega) (by have := HG1.out.box.lt; omega) ?_
                    intro v2 y2 hown hgrow
                    obtain ⟨A2, c2, rfl⟩ := own_slice' hown
                    have HG2 : Hid (Grow wf y2 gq #[vi, va] (.slice A2 (X.length + 1) c2) va (X ++ [.int .i64 nid]) Y) := (show Grow _ _ _ _ _ _ _ _ from HG1.out.growI hown hgrow)
                    clear hown hgrow
                    have hS2 := HG2.out.keep2 hbf hcf hbp hcp
                    refine hK.out _ _ (fun _ => hS2) ?_
                    clear hK K
                    (try simp only [Act.put, List.setIfInBounds_toArray, List.set_cons_zero, List.set_cons_succ])
                    refine Till.take_free (v := ?_) 19 110 rfl rfl (by kernel_rfl) (by kernel_rfl) (by kernel_rfl) (fun _ _ _ h => h) (by rfl) (by kernel_rfl) ?_ (fun _ => by assumption) ?_
                    rotate_left
                    · intro w'
                      go_simp
                      all_goals with_reducible rfl
                    (try simp only [Act.put, List.setIfInBounds_toArray, List.set_cons_zero, List.set_cons_succ])
                    refine Till.goes_next (rs := [17]) (by kernel_rfl) (by simp) (Till.Next.cons rfl (fun K hK => ?_) (Till.Next.nil))
                    refine Till.step_lit (by rfl) 32 _ rfl (.int .i64 q) 2 (by rfl) (lit_long _ _) ?_
                    obtain ⟨y3, ey3⟩ : ∃ y, y = World.alloc y2 (.cells #[.int .i64 q] 2) := ⟨_, rfl⟩
                    obtain ⟨k3, ek3⟩ : ∃ k, k = (y2).heap.size := ⟨_, rfl⟩
                    rw [← ey3, ← ek3]
                    have HG3 : Hid (Grow wf y3 gq #[vi, va] (.slice A2 (X.length + 1) c2) va (X ++ [.int .i64 nid]) Y) := (show Grow wf y3 gq #[vi, va] (.slice A2 (X.length + 1) c2) va (X ++ [.int .i64 nid]) Y by rw [ey3]; exact HG2.out.alloc _)
                    have HC3 : Hid (y3.cell? ⟨k3, 0, none⟩ = some (.int .i64 q) ∧ k3 < y3.heap.size) := (show _ ∧ _ from ⟨by rw [ey3, ek3]; exact (World.cell?_alloc_new _ _ _ _).trans rfl, by rw [ey3, ek3]; simp⟩)
                    have hS3 := HG3.out.keep2 hbf hcf hbp hcp
                    clear ey3 ek3
                    refine hK.out _ _ (fun _ => hS3) ?_
                    clear hK K
                    (try simp only [Act.put, List.setIfInBounds_toArray, List.set_cons_zero, List.set_cons_succ])
                    refine Till.goes_next (rs := [18]) (by kernel_rfl) (by simp) (Till.Next.cons rfl (fun K hK => ?_) (Till.Next.nil))
                    refine Till.step_cell (by rfl) _ _ _ (by rfl) (gq + 1) 2 iA (.int .i64 0) 8 Tryz.underlying32 HIA.out.1 HIA.out.2.1 HIA.out.2.2.1 HIA.out.2.2.2 rfl (.int .i64 q) rfl va Y.length Y (by rfl) HG3.out.ra k3 (by rfl) HC3.out.1 (by have := HXN.out; unfold maxLen; omega) (by have := HXN.out; omega) (by have := HG3.out.box.lt; omega) ?_
                    intro v4 y4 hown hgrow
                    obtain ⟨A4, c4, rfl⟩ := own_slice' hown
                    have HG4 : Hid (Grow wf y4 gq #[vi, va] (.slice A2 (X.length + 1) c2) (.slice A4 (Y.length + 1) c4) (X ++ [.int .i64 nid]) (Y ++ [.int .i64 q])) := (show Grow _ _ _ _ _ _ _ _ from HG3.out.growA hown hgrow)
                    clear hown hgrow
                    have hS4 := HG4.out.keep2 hbf hcf hbp hcp
                    refine hK.out _ _ (fun _ => hS4) ?_
                    clear hK K
                    (try simp only [Act.put, List.setIfInBounds_toArray, List.set_cons_zero, List.set_cons_succ])
                    refine Till.goes_next (rs := [20]) (by kernel_rfl) (by simp) (Till.Next.cons rfl (fun K hK => ?_) (Till.Next.nil))
                    rw [if_pos (by rfl)]
                    have hb1 := HG4.out.box
                    with_reducible refine wp_put 41 (.tmp 110) (.tmp 99) ?_ ?_ gq 0 (.slice A2 (X.length + 1) c2) ?_ ?_ ?_ 47 _ hb1 ?_ ?_ ?_
                    · rfl
                    · rfl
                    · rfl
                    · rfl
                    · rfl
                    · simp
                    · exact ints_one
                    intro yb hr ho
                    have HGb := Lib.hid (HG4.out.put hr ho)
                    clear hr ho hb1
                    refine hK.out _ _ (Till.past (by kernel_rfl)) ?_
                    clear hK K
                    (try simp only [Act.put, List.setIfInBounds_toArray, List.set_cons_zero, List.set_cons_succ])
                    refine Till.take_free (v := ?_) 21 111 rfl rfl (by kernel_rfl) (by kernel_rfl) (by kernel_rfl) (fun _ _ _ h => h) (by rfl) (by kernel_rfl) ?_ (Till.past (by kernel_rfl)) ?_
                    rotate_left
                    · intro w'
                      go_simp
                      all_goals with_reducible rfl
                    (try simp only [Act.put, List.setIfInBounds_toArray, List.set_cons_zero, List.set_cons_succ])
                    refine Till.goes_next (rs := [22]) (by kernel_rfl) (by simp) (Till.Next.cons rfl (fun K hK => ?_) (Till.Next.nil))
                    rw [if_pos (by rfl)]
                    have hb1 := HGb.out.box
                    with_reducible refine wp_put 32 (.tmp 111) (.tmp 109) ?_ ?_ gq 1 (.slice A4 (Y.length + 1) c4) ?_ ?_ ?_ 47 _ hb1 ?_ ?_ ?_
                    · rfl
                    · rfl
                    · rfl
                    · rfl
                    · rfl
                    · simp
                    · exact longs_one
                    intro ye hr ho
                    have HGe : Hid (Grow wf ye gq #[(.slice A2 (X.length + 1) c2), (.slice A4 (Y.length + 1) c4)] (.slice A2 (X.length + 1) c2) (.slice A4 (Y.length + 1) c4) (X ++ [.int .i64 nid]) (Y ++ [.int .i64 q])) := (show Grow _ _ _ _ _ _ _ _ from HGb.out.put hr ho)
                    clear hr ho HGb hb1
                    refine hK.out _ _ (Till.past (by kernel_rfl)) ?_
                    clear hK K
                    (try simp only [Act.put, List.setIfInBounds_toArray, List.set_cons_zero, List.set_cons_succ])
                    refine Till.goes_done (by kernel_rfl) ?_ _
                    go_wp2_with fail
                    go_roundw
                    case rel => exact ⟨j + 1, by omega, rfl, HER.out, _, _, by rw [HTX.out, HTY.out]; exact HGe.out⟩
                    case measure => simp [intOf]; omega
                  · refine Till.step_lit (by rfl) 32 _ rfl (.int .i64 q) 2 (by rfl) (lit_long _ _) ?_
                    obtain ⟨y5, ey5⟩ : ∃ y, y = World.alloc y1 (.cells #[.int .i64 q] 2) := ⟨_, rfl⟩
                    obtain ⟨k5, ek5⟩ : ∃ k, k = (y1).heap.size := ⟨_, rfl⟩
                    rw [← ey5, ← ek5]
                    have HG5 : Hid (Grow wf y5 gq #[vi, va] vi va X Y) := (show Grow wf y5 gq #[vi, va] vi va X Y by rw [ey5]; exact HG1.out.alloc _)
                    have HC5 : Hid (y5.cell? ⟨k5, 0, none⟩ = some (.int .i64 q) ∧ k5 < y5.heap.size) := (show _ ∧ _ from ⟨by rw [ey5, ek5]; exact (World.cell?_alloc_new _ _ _ _).trans rfl, by rw [ey5, ek5]; simp⟩)
                    have HN5 : Hid (some k5 ≠ vi.ownBlock) := HG1.out.ni (Nat.le_of_eq ek5.symm)
                    have HP5 : Hid (y5.cell? ⟨k1, 0, none⟩ = some (.int .i64 nid) ∧ k1 < y5.heap.size) := (show _ ∧ _ by rw [ey5]; exact ⟨(World.cell?_alloc_lt (a := ⟨k1, 0, none⟩) _ _ HC1.out.2).trans HC1.out.1, Nat.lt_of_lt_of_le HC1.out.2 (by simp)⟩)
                    have hS5 := HG5.out.keep2 hbf hcf hbp hcp
                    clear ey5 ek5
                    refine hK.out _ _ (fun _ => hS5) ?_
                    clear hK K
                    (try simp only [Act.put, List.setIfInBounds_toArray, List.set_cons_zero, List.set_cons_succ])
                    refine Till.goes_next (rs := [8]) (by kernel_rfl) (by simp) (Till.Next.cons rfl (fun K hK => ?_) (Till.Next.nil))
                    refine Till.step_cell (by rfl) _ _ _ (by rfl) (gq + 1) 3 iI (.int .i64 0) 8 Tryz.underlying41 HII.out.1 HII.out.2.1 HII.out.2.2.1 HII.out.2.2.2 rfl (.int .i64 nid) rfl vi X.length X (by rfl) HG5.out.ri k1 (by rfl) HP5.out.1 (by have := HXN.out; unfold maxLen; omega) (by have := HXN.out; omega) (by have := HG5.out.box.lt; omega) ?_
                    intro v6 y6 hown hgrow
                    obtain ⟨A6, c6, rfl⟩ := own_slice' hown
                    have HG6 : Hid (Grow wf y6 gq #[vi, va] (.slice A6 (X.length + 1) c6) va (X ++ [.int .i64 nid]) Y) := (show Grow _ _ _ _ _ _ _ _ from HG5.out.growI hown hgrow)
                    have HP6 : Hid (y6.cell? ⟨k5, 0, none⟩ = some (.int .i64 q) ∧ k5 < y6.heap.size) := (show _ ∧ _ from ⟨hgrow.cell (a := ⟨k5, 0, none⟩) HC5.out.1 HN5.out, Nat.lt_of_lt_of_le HC5.out.2 hgrow.size⟩)
                    clear hown hgrow
                    have hS6 := HG6.out.keep2 hbf hcf hbp hcp
                    refine hK.out _ _ (fun _ => hS6) ?_
                    clear hK K
                    (try simp only [Act.put, List.setIfInBounds_toArray, List.set_cons_zero, List.set_cons_succ])
                    refine Till.take_free (v := ?_) 19 110 rfl rfl (by kernel_rfl) (by kernel_rfl) (by kernel_rfl) (fun _ _ _ h => h) (by rfl) (by kernel_rfl) ?_ (fun _ => by assumption) ?_
                    rotate_left
                    · intro w'
                      go_simp
                      all_goals with_reducible rfl
                    (try simp only [Act.put, List.setIfInBounds_toArray, List.set_cons_zero, List.set_cons_succ])
                    refine Till.goes_next (rs := [18]) (by kernel_rfl) (by simp) (Till.Next.cons rfl (fun K hK => ?_) (Till.Next.nil))
                    refine Till.step_cell (by rfl) _ _ _ (by rfl) (gq + 1) 2 iA (.int .i64 0) 8 Tryz.underlying32 HIA.out.1 HIA.out.2.1 HIA.out.2.2.1 HIA.out.2.2.2 rfl (.int .i64 q) rfl va Y.length Y (by rfl) HG6.out.ra k5 (by rfl) HP6.out.1 (by have := HXN.out; unfold maxLen; omega) (by have := HXN.out; omega) (by have := HG6.out.box.lt; omega) ?_
                    intro v7 y7 hown hgrow
                    obtain ⟨A7, c7, rfl⟩ := own_slice' hown
                    have HG7 : Hid (Grow wf y7 gq #[vi, va] (.slice A6 (X.length + 1) c6) (.slice A7 (Y.length + 1) c7) (X ++ [.int .i64 nid]) (Y ++ [.int .i64 q])) := (show Grow _ _ _ _ _ _ _ _ from HG6.out.growA hown hgrow)
                    clear hown hgrow
                    have hS7 := HG7.out.keep2 hbf hcf hbp hcp
                    refine hK.out _ _ (fun _ => hS7) ?_
                    clear hK K
                    (try simp only [Act.put, List.setIfInBounds_toArray, List.set_cons_zero, List.set_cons_succ])
                    refine Till.goes_next (rs := [20]) (by kernel_rfl) (by simp) (Till.Next.cons rfl (fun K hK => ?_) (Till.Next.nil))
                    rw [if_pos (by rfl)]
                    have hb1 := HG7.out.box
                    with_reducible refine wp_put 41 (.tmp 110) (.tmp 99) ?_ ?_ gq 0 (.slice A6 (X.length + 1) c6) ?_ ?_ ?_ 47 _ hb1 ?_ ?_ ?_
                    · rfl
                    · rfl
                    · rfl
                    · rfl
                    · rfl
                    · simp
                    · exact ints_one
                    intro yb hr ho
                    have HGb := Lib.hid (HG7.out.put hr ho)
                    clear hr ho hb1
                    refine hK.out _ _ (Till.past (by kernel_rfl)) ?_
                    clear hK K
                    (try simp only [Act.put, List.setIfInBounds_toArray, List.set_cons_zero, List.set_cons_succ])
                    refine Till.take_free (v := ?_) 21 111 rfl rfl (by kernel_rfl) (by kernel_rfl) (by kernel_rfl) (fun _ _ _ h => h) (by rfl) (by kernel_rfl) ?_ (Till.past (by kernel_rfl)) ?_
                    rotate_left
                    · intro w'
                      go_simp
                      all_goals with_reducible rfl
                    (try simp only [Act.put, List.setIfInBounds_toArray, List.set_cons_zero, List.set_cons_succ])
                    refine Till.goes_next (rs := [22]) (by kernel_rfl) (by simp) (Till.Next.cons rfl (fun K hK => ?_) (Till.Next.nil))
                    rw [if_pos (by rfl)]
                    have hb1 := HGb.out.box
                    with_reducible refine wp_put 32 (.tmp 111) (.tmp 109) ?_ ?_ gq 1 (.slice A7 (Y.length + 1) c7) ?_ ?_ ?_ 47 _ hb1 ?_ ?_ ?_
                    · rfl
                    · rfl
                    · rfl
                    · rfl
                    · rfl
                    · simp
                    · exact longs_one
                    intro ye hr ho
                    have HGe : Hid (Grow wf ye gq #[(.slice A6 (X.length + 1) c6), (.slice A7 (Y.length + 1) c7)] (.slice A6 (X.length + 1) c6) (.slice A7 (Y.length + 1) c7) (X ++ [.int .i64 nid]) (Y ++ [.int .i64 q])) := (show Grow _ _ _ _ _ _ _ _ from HGb.out.put hr ho)
                    clear hr ho HGb hb1
                    refine hK.out _ _ (Till.past (by kernel_rfl)) ?_
                    clear hK K
                    (try simp only [Act.put, List.setIfInBounds_toArray, List.set_cons_zero, List.set_cons_succ])
                    refine Till.goes_done (by kernel_rfl) ?_ _
                    go_wp2_with fail
                    go_roundw
                    case rel => exact ⟨j + 1, by omega, rfl, HER.out, _, _, by rw [HTX.out, HTY.out]; exact HGe.out⟩
                    case measure => simp [intOf]; omega
                · refine Till.step_lit (by rfl) 32 _ rfl (.int .i64 q) 2 (by rfl) (lit_long _ _) ?_
                  obtain ⟨y8, ey8⟩ : ∃ y, y = World.alloc (World.drew z) (.cells #[.int .i64 q] 2) := ⟨_, rfl⟩
                  obtain ⟨k8, ek8⟩ : ∃ k, k = ((World.drew z)).heap.size := ⟨_, rfl⟩
                  rw [← ey8, ← ek8]
                  have HG8 : Hid (Grow wf y8 gq #[vi, va] vi va X Y) := (show Grow wf y8 gq #[vi, va] vi va X Y by rw [ey8]; exact HG0.out.alloc _)
                  have HC8 : Hid (y8.cell? ⟨k8, 0, none⟩ = some (.int .i64 q) ∧ k8 < y8.heap.size) := (show _ ∧ _ from ⟨by rw [ey8, ek8]; exact (World.cell?_alloc_new _ _ _ _).trans rfl, by rw [ey8, ek8]; simp⟩)
                  have HN8 : Hid (some k8 ≠ vi.ownBlock) := HG0.out.ni (Nat.le_of_eq ek8.symm)
                  have hS8 := HG8.out.keep2 hbf hcf hbp hcp
                  clear ey8 ek8
                  refine hK.out _ _ (fun _ => hS8) ?_
                  clear hK K
                  (try simp only [Act.put, List.setIfInBounds_toArray, List.set_cons_zero, List.set_cons_succ])
                  refine Till.goes_next (rs := [7]) (by kernel_rfl) (by simp) (Till.Next.cons rfl (fun K hK => ?_) (Till.Next.nil))
                  refine Till.step_lit (by rfl) 41 _ rfl (.int .i64 nid) 3 (by rfl) (lit_int _ _) ?_
                  obtain ⟨y9, ey9⟩ : ∃ y, y = World.alloc y8 (.cells #[.int .i64 nid] 3) := ⟨_, rfl⟩
                  obtain ⟨k9, ek9⟩ : ∃ k, k = (y8).heap.size := ⟨_, rfl⟩
                  rw [← ey9, ← ek9]
                  have HG9 : Hid (Grow wf y9 gq #[vi, va] vi va X Y) := (show Grow wf y9 gq #[vi, va] vi va X Y by rw [ey9]; exact HG8.out.alloc _)
                  have HC9 : Hid (y9.cell? ⟨k9, 0, none⟩ = some (.int .i64 nid) ∧ k9 < y9.heap.size) := (show _ ∧ _ from ⟨by rw [ey9, ek9]; exact (World.cell?_alloc_new _ _ _ _).trans rfl, by rw [ey9, ek9]; simp⟩)
                  have HP9 : Hid (y9.cell? ⟨k8, 0, none⟩ = some (.int .i64 q) ∧ k8 < y9.heap.size) := (show _ ∧ _ by rw [ey9]; exact ⟨(World.cell?_alloc_lt (a := ⟨k8, 0, none⟩) _ _ HC8.out.2).trans HC8.out.1, Nat.lt_of_lt_of_le HC8.out.2 (by simp)⟩)
                  have hS9 := HG9.out.keep2 hbf hcf hbp hcp
                  clear ey9 ek9
                  refine hK.out _ _ (fun _ => hS9) ?_
                  clear hK K
                  (try simp only [Act.put, List.setIfInBounds_toArray, List.set_cons_zero, List.set_cons_succ])
                  refine Till.goes_next (rs := [8]) (by kernel_rfl) (by simp) (Till.Next.cons rfl (fun K hK => ?_) (Till.Next.nil))
                  refine Till.step_cell (by rfl) _ _ _ (by rfl) (gq + 1) 3 iI (.int .i64 0) 8 Tryz.underlying41 HII.out.1 HII.out.2.1 HII.out.2.2.1 HII.out.2.2.2 rfl (.int .i64 nid) rfl vi X.length X (by rfl) HG9.out.ri k9 (by rfl) HC9.out.1 (by have := HXN.out; unfold maxLen; omega) (by have := HXN.out; omega) (by have := HG9.out.box.lt; omega) ?_
                  intro v10 y10 hown hgrow
                  obtain ⟨A10, c10, rfl⟩ := own_slice' hown
                  have HG10 : Hid (Grow wf y10 gq #[vi, va] (.slice A10 (X.length + 1) c10) va (X ++ [.int .i64 nid]) Y) := (show Grow _ _ _ _ _ _ _ _ from HG9.out.growI hown hgrow)
                  have HP10 : Hid (y10.cell? ⟨k8, 0, none⟩ = some (.int .i64 q) ∧ k8 < y10.heap.size) := (show _ ∧ _ from ⟨hgrow.cell (a := ⟨k8, 0, none⟩) HP9.out.1 HN8.out, Nat.lt_of_lt_of_le HP9.out.2 hgrow.size⟩)
                  clear hown hgrow
                  have hS10 := HG10.out.keep2 hbf hcf hbp hcp
                  refine hK.out _ _ (fun _ => hS10) ?_
                  clear hK K
                  (try simp only [Act.put, List.setIfInBounds_toArray, List.set_cons_zero, List.set_cons_succ])
                  refine Till.take_free (v := ?_) 19 110 rfl rfl (by kernel_rfl) (by kernel_rfl) (by kernel_rfl) (fun _ _ _ h => h) (by rfl) (by kernel_rfl) ?_ (fun _ => by assumption) ?_
                  rotate_left
                  · intro w'
                    go_simp
                    all_goals with_reducible rfl
                  (try simp only [Act.put, List.setIfInBounds_toArray, List.set_cons_zero, List.set_cons_succ])
                  refine Till.goes_next (rs := [18]) (by kernel_rfl) (by simp) (Till.Next.cons rfl (fun K hK => ?_) (Till.Next.nil))
                  refine Till.step_cell (by rfl) _ _ _ (by rfl) (gq + 1) 2 iA (.int .i64 0) 8 Tryz.underlying32 HIA.out.1 HIA.out.2.1 HIA.out.2.2.1 HIA.out.2.2.2 rfl (.int .i64 q) rfl va Y.length Y (by rfl) HG10.out.ra k8 (by rfl) HP10.out.1 (by have := HXN.out; unfold maxLen; omega) (by have := HXN.out; omega) (by have := HG10.out.box.lt; omega) ?_
                  intro v11 y11 hown hgrow
                  obtain ⟨A11, c11, rfl⟩ := own_slice' hown
                  have HG11 : Hid (Grow wf y11 gq #[vi, va] (.slice A10 (X.length + 1) c10) (.slice A11 (Y.length + 1) c11) (X ++ [.int .i64 nid]) (Y ++ [.int .i64 q])) := (show Grow _ _ _ _ _ _ _ _ from HG10.out.growA hown hgrow)
                  clear hown hgrow
                  have hS11 := HG11.out.keep2 hbf hcf hbp hcp
                  refine hK.out _ _ (fun _ => hS11) ?_
                  clear hK K
                  (try simp only [Act.put, List.setIfInBounds_toArray, List.set_cons_zero, List.set_cons_succ])
                  refine Till.goes_next (rs := [20]) (by kernel_rfl) (by simp) (Till.Next.cons rfl (fun K hK => ?_) (Till.Next.nil))
                  rw [if_pos (by rfl)]
                  have hb1 := HG11.out.box
                  with_reducible refine wp_put 41 (.tmp 110) (.tmp 99) ?_ ?_ gq 0 (.slice A10 (X.length + 1) c10) ?_ ?_ ?_ 47 _ hb1 ?_ ?_ ?_
                  · rfl
                  · rfl
                  · rfl
                  · rfl
                  · rfl
                  · simp
                  · exact ints_one
                  intro yb hr ho
                  have HGb := Lib.hid (HG11.out.put hr ho)
                  clear hr ho hb1
                  refine hK.out _ _ (Till.past (by kernel_rfl)) ?_
                  clear hK K
                  (try simp only [Act.put, List.setIfInBounds_toArray, List.set_cons_zero, List.set_cons_succ])
                  refine Till.take_free (v := ?_) 21 111 rfl rfl (by kernel_rfl) (by kernel_rfl) (by kernel_rfl) (fun _ _ _ h => h) (by rfl) (by kernel_rfl) ?_ (Till.past (by kernel_rfl)) ?_
                  rotate_left
                  · intro w'
                    go_simp
                    all_goals with_reducible rfl
                  (try simp only [Act.put, List.setIfInBounds_toArray, List.set_cons_zero, List.set_cons_succ])
                  refine Till.goes_next (rs := [22]) (by kernel_rfl) (by simp) (Till.Next.cons rfl (fun K hK => ?_) (Till.Next.nil))
                  rw [if_pos (by rfl)]
                  have hb1 := HGb.out.box
                  with_reducible refine wp_put 32 (.tmp 111) (.tmp 109) ?_ ?_ gq 1 (.slice A11 (Y.length + 1) c11) ?_ ?_ ?_ 47 _ hb1 ?_ ?_ ?_
                  · rfl
                  · rfl
                  · rfl
                  · rfl
                  · rfl
                  · simp
                  · exact longs_one
                  intro ye hr ho
                  have HGe : Hid (Grow wf ye gq #[(.slice A10 (X.length + 1) c10), (.slice A11 (Y.length + 1) c11)] (.slice A10 (X.length + 1) c10) (.slice A11 (Y.length + 1) c11) (X ++ [.int .i64 nid]) (Y ++ [.int .i64 q])) := (show Grow _ _ _ _ _ _ _ _ from HGb.out.put hr ho)
                  clear hr ho HGb hb1
                  refine hK.out _ _ (Till.past (by kernel_rfl)) ?_
                  clear hK K
                  (try simp only [Act.put, List.setIfInBounds_toArray, List.set_cons_zero, List.set_cons_succ])
                  refine Till.goes_done (by kernel_rfl) ?_ _
                  go_wp2_with fail
                  go_roundw
                  case rel => exact ⟨j + 1, by omega, rfl, HER.out, _, _, by rw [HTX.out, HTY.out]; exact HGe.out⟩
                  case measure => simp [intOf]; omega
              · have HEE : Hid (finR (L.map fun l => l.id) (capR RI L) = ([], [], (owesR x).2)) := by
                  show _ = _
                  have hz := errs_at hx (fun i hi y hy => HJ.out.1 i hi y hy) he
                  rw [HR2.out]
                  unfold capR
                  rw [if_pos rfl, if_neg (by rw [hz]; exact he), hz, fin_no he]
                have t0 : ((owesR x).2 != 0) = true := by rw [bne_iff_ne]; exact he
                have HXE : Hid (Below wd.heap.size wd wr) := HXF.out.trans (HG.out.low.mono HXF.out.size)
                clear he hx
                generalize (owesR x).2 = oe at *
                generalize (owesR x).1 = ov at *
                generalize x.cells = C at *
                go_wp2_with (first
                  | (refine Rws.load_mid_want (by rfl) 23 _ rfl _ _ rfl C _ HM.out Tryz.underlying23 rfl HS.out ?_)
                  | (go_at_call 19; (refine (KO.out _).mono ?_); rintro e z ⟨rfl, hh⟩; replace HXE := Lib.hid (below_to HXE.out hh); clear hh)
                  | (refine o_store rfl 47 _ _ rfl rfl g6 #[.slice none 0 0, .slice none 0 0] rfl rfl _ _ (H6.out.below HXE.out) (asked_info _ _) rfl (asked_one _ _ _ _ _ _) ?_; intro ys hr ho; have HR := Lib.hid hr; have HWE := Lib.hid (below_one_of (HD.out.trans (Below.mono HXE.out HD.out.size)) ho HS6.out.1 (Nat.le_trans HD.out.size (Below.size HXE.out))); clear hr ho))
                refine bodyPost_ret (results_two rfl _ _ _ _ _ _ _ rfl HR.out Tryz.underlying47 rfl (asked_info _ _) rfl) rfl ?_
                rw [HEE.out]
                exact asked_none oe HWE.out
            · obtain rfl : j = L.length := by omega
              have HEE : Hid (finR (L.map fun l => l.id) (capR RI L) = (L.map (fun l => l.id), lessV AL L, 0)) := by
                show _ = _
                rw [HR2.out]
                unfold capR
                rw [if_pos rfl, if_pos (errs_all HJ.out.1), fin_yes rfl]
              have HXE : Hid (Below wd.heap.size wd wr) := HXF.out.trans (HG.out.low.mono HXF.out.size)
              have HI1 : Hid (wr.ownsRow (gq + 1) 3 1 vi L.length ((L.map fun l => l.id).map (Value.int .i64))) := (show World.ownsRow _ _ _ _ _ _ _ by have h := HG.out.ri; rw [List.take_length, List.length_map] at h; rw [List.map_map]; exact h)
              have HI2 : Hid (wr.ownsRow (gq + 1) 2 1 va L.length ((lessV AL L).map (Value.int .i64))) := (show World.ownsRow _ _ _ _ _ _ _ by have h := HG.out.ra; rw [mins_len] at h; unfold lessV; rw [List.map_map]; exact h)
              have HBX := Lib.hid HG.out.box
              have HGQ : Hid (g6 < gq + 1) := (show g6 < gq + 1 by have h1 := HG.out.at_; have h2 := HS6.out.2; have h3 := HXF.out.size; omega)
              obtain ⟨A7, c7, rfl⟩ := own_slice' HI1.out
              obtain ⟨A8, c8, rfl⟩ := own_slice' HI2.out
              have HSA := Lib.hid (asked_info (.slice A7 L.length c7) (.slice A8 L.length c8))
              have HLV := Lib.hid (lessV_len AL L)
              generalize lessV AL L = LV at *
              go_wp2_with (first
                | (refine o_load (by rfl) 47 _ rfl gq rfl _ _ _ HBX.out Tryz.underlying47 rfl HSA.out ?_)
                | (refine o_store rfl 47 _ _ rfl rfl g6 _ rfl rfl _ _ (H6.out.below HXE.out) HSA.out rfl (asked_one _ _ _ _ _ _) ?_; intro ys hr ho; have HR9 := Lib.hid hr; have HWE := Lib.hid (below_one_of (HD.out.trans (HXE.out.mono HD.out.size)) ho HS6.out.1 (Nat.le_trans HD.out.size HXE.out.size)); have HOO := Lib.hid ho; clear hr ho))
              refine bodyPost_ret (results_two rfl _ _ _ _ _ _ _ rfl HR9.out Tryz.underlying47 rfl HSA.out rfl) rfl ?_
              rw [HEE.out]
              exact ⟨_, _, rfl, own_ints_far HI1.out (by simp) HOO.out HGQ.out, own_ints_far HI2.out HLV.out.symm HOO.out HGQ.out, HWE.out⟩
/-- What is asked by income. -/
theorem r_income (mon : Int) (zs : List Int) (s : Sc) (L : List Ln) (pv lv bv v : Value) (B : Nat) (w : World) (Q : Nat → Nat) (hB : B ≤ w.heap.size) (hp : Ints w B .i64 pv zs) (hv : Lns w B v L) (hN : L.length ≤ 1000) (h0 : 0 < L.length) (hg : ∀ l ∈ L, goodL l = true) (hQ : Fits zs s.fam s.inc L Q) : Calls Tryz.prog 44 #[.agg (cfg mon pv), .agg (s.cells lv bv), v] w (AskedTold (finR (L.map fun l => l.id) (capR (incR zs s.fam s.inc L Q) L)) w) := by
  by_cases h1 : Income.aE zs s.fam s.inc = 0
  · exact rinc_ok mon zs s L pv lv bv v B w Q hB hp hv hN h0 hg hQ h1
  · exact rinc_err mon zs s L pv lv bv v B w Q hB hp hv h1
end Go.Proofs.YtkddiaiohnbjpaaGreatDoor.Plan
