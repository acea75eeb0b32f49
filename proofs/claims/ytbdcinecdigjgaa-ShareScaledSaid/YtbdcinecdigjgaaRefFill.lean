/- What the document's own Fill tells, at any total and any rooms. -/
import Derived.Test.YtbdcinecdigjgaaFill
import Derived.Handy
namespace Go.Proofs.Ytbdcinecdigjgaa.Share
open Go.ChangeShapes Go.WideShapes Go.ChangeAt Go.RowKit Bits Money Slice Law

def RFills (t : Int) (zs : List Int) (w : World) (e : Ending) (w' : World) : Prop :=
  ∃ v, e = .returned (.tuple #[.agg #[v, .int .i64 (fillV t zs)], .int .i64 (fillE t zs)]) ∧ Ints w' w'.heap.size .i64 v (fillL t zs) ∧ Below w.heap.size w w'

theorem fillOff {t : Int} {zs : List Int} (h : fitB t zs = false) : fillV t zs = 0 ∧ fillE t zs = 1 ∧ fillL t zs = [] := by
  unfold fillV fillE fillL; rw [h]; exact ⟨rfl, rfl, rfl⟩
theorem fillOn {t : Int} {zs : List Int} (h : fitB t zs = true) : fillV t zs = fRest t zs zs.length ∧ fillE t zs = 0 ∧ fillL t zs = fParts t zs := by
  unfold fillV fillE fillL; rw [h]; exact ⟨rfl, rfl, rfl⟩

theorem fRest_to {t : Int} {zs : List Int} (ht : okB t = true) : ∀ j, OkTo zs j → 0 ≤ fRest t zs j ∧ fRest t zs j ≤ 10000000000000
  | 0, _ => (okB_iff t).1 ht
  | j + 1, hj => by
    have ih := fRest_to ht j (fun i hi => hj i (by omega))
    have hz := (okB_iff _).1 (hj j (by omega))
    rw [fRest_succ]
    unfold fPart
    omega
def two (u v : Value) (i : Nat) : Value := if i = 0 then u else v
/-- The document's Fill ahead of round j: the result's cells, what is filled so far, what is left. -/
structure RState (t : Int) (zs : List Int) (w : World) (j : Nat) (u : Value) (wr : World) : Prop where
  below : Below w.heap.size w wr
  own : wr.ownsRow (w.heap.size + 2) 2 1 u j ((List.range j).map fun i => .int .i64 (fPart t zs i))
  f : wr.rowIs (w.heap.size + 1) 34 2 (two u (.int .i64 (fRest t zs j)))
  r : wr.rowIs w.heap.size 34 2 (two (.slice none 0 0) (.int .i64 0))
theorem row_two (w : World) (t : TypeId) (u v : Value) : (w.alloc (.cells #[u, v] t)).rowIs w.heap.size t 2 (two u v) :=
  World.rowIs_alloc w #[u, v] t _ fun i hi => by
    match i, hi with
    | 0, _ => rfl
    | 1, _ => rfl
theorem rState_start (t : Int) (zs : List Int) (w : World) :
    RState t zs w 0 (.slice none 0 0) ((w.alloc (.cells #[.slice none 0 0, .int .i64 0] 34)).alloc (.cells #[.slice none 0 0, .int .i64 t] 34)) :=
  ⟨by go_grown, World.ownsRow_nil _ _ _ _, by
    have := row_two (w.alloc (.cells #[.slice none 0 0, .int .i64 0] 34)) 34 (.slice none 0 0) (.int .i64 t)
    simpa [fRest] using this, (row_two w _ _ _).alloc _⟩

theorem own_shape {w : World} {base n : Nat} {e : TypeId} {v : Value} {xs : List Value} (h : w.ownsRow base e 1 v n xs) : ∃ A c, v = .slice A n c := by
  rcases h.2 with ⟨rfl, rfl⟩ | ⟨g, cap, cur, rfl, -⟩
  · exact ⟨none, 0, rfl⟩
  · exact ⟨_, _, rfl⟩
theorem one_cell (w : World) (u : Value) (T : TypeId) : ∀ k y, [u][k]? = some y → (w.alloc (.cells #[u] T)).cell? ((⟨w.heap.size, 0, none⟩ : Addr).add k) = some y := by
  intro k y h
  match k, h with
  | 0, h =>
    injection h with h
    subst h
    simp [Addr.add]
theorem one_one (k : IntKind) (x : Int) : ∀ u ∈ [Value.int k x], u.oneCell' = true := by
  intro u hu
  rw [List.mem_singleton] at hu
  subst hu
  rfl
section
variable {t : Int} {zs : List Int} {w wr w3 : World} {j m T : Nat} {u v3 q : Value}
theorem rState_rows (h : RState t zs w j u wr) (hg : ((wr.drewN m).alloc (.cells #[q] T)).grownBy w3 u.ownBlock) :
    w3.rowIs (w.heap.size + 1) 34 2 (two u (.int .i64 (fRest t zs j))) ∧ w3.rowIs w.heap.size 34 2 (two (.slice none 0 0) (.int .i64 0)) ∧ Below w.heap.size w w3 := by
  have l0 := h.f.lt
  have l1 := h.r.lt
  have hz : ((wr.drewN m).alloc (.cells #[q] T)).heap.size = wr.heap.size + 1 := by simp
  have ne : ∀ b, b < w.heap.size + 2 → some b ≠ u.ownBlock := fun b hb e => by
    have := (h.own.lt _ e.symm).1
    omega
  refine ⟨World.rowIs.of_block (w := (wr.drewN m).alloc (.cells #[q] T)) (World.rowIs.alloc (w := wr.drewN m) h.f _) (hg.block _ (by omega) (ne _ (by omega))),
    World.rowIs.of_block (w := (wr.drewN m).alloc (.cells #[q] T)) (World.rowIs.alloc (w := wr.drewN m) h.r _) (hg.block _ (by omega) (ne _ (by omega))), ?_⟩
  exact ((below_drewN h.below m).alloc h.below.size _).grown hg (by have := h.below.size; omega) (fun g hg => by have := (h.own.lt g hg).1; omega)
theorem rState_cells {r : Int} (h : RState t zs w j u wr) (hr : fRest t zs j = r) (hg : ((wr.drewN m).alloc (.cells #[q] T)).grownBy w3 u.ownBlock) :
    w3.cell? ⟨w.heap.size + 1, 0, none⟩ = some u ∧ w3.cell? ⟨w.heap.size + 1, 1, none⟩ = some (.int .i64 r) ∧
    w3.frozen? ⟨w.heap.size + 1, 0, none⟩ = false ∧ w3.frozen? ⟨w.heap.size + 1, 1, none⟩ = false ∧ w.heap.size + 1 < w3.heap.size := by
  obtain ⟨hf, -, -⟩ := rState_rows h hg
  subst hr
  exact ⟨hf.cell (i := 0) (by omega), hf.cell (i := 1) (by omega), hf.frozen 0, hf.frozen 1, hf.lt⟩
theorem rState_step {x r : Int} (h : RState t zs w j u wr) (hq : fPart t zs j = x) (ho : w3.ownsRow (w.heap.size + 2) 2 1 v3 (j + 1) (((List.range j).map fun i => .int .i64 (fPart t zs i)) ++ [.int .i64 x]))
    (hg : ((wr.drewN m).alloc (.cells #[q] T)).grownBy w3 u.ownBlock) (hr : fRest t zs (j + 1) = r) :
    RState t zs w (j + 1) v3 ((w3.setCell ⟨w.heap.size + 1, 0, none⟩ v3).setCell ⟨w.heap.size + 1, 1, none⟩ (.int .i64 r)) := by
  obtain ⟨hf, hr', hb⟩ := rState_rows h hg
  subst hr
  refine ⟨(hb.setCell (by show _ ≤ w.heap.size + 1; omega) _).setCell (by show _ ≤ w.heap.size + 1; omega) _, ?_, ?_, (hr'.setOther (by show w.heap.size ≠ w.heap.size + 1; omega) _).setOther (by show w.heap.size ≠ w.heap.size + 1; omega) _⟩
  · have e : (List.range (j + 1)).map (fun i => Value.int .i64 (fPart t zs i)) = ((List.range j).map fun i => .int .i64 (fPart t zs i)) ++ [.int .i64 x] := by
      rw [List.range_succ, List.map_append, ← hq]; rfl
    rw [e]
    exact ownsRow_setCell_below (ownsRow_setCell_below ho (by show w.heap.size + 1 < _; omega) _) (by show w.heap.size + 1 < _; omega) _
  · refine ((hf.set 0 v3).set 1 _).congr fun i hi => ?_
    match i, hi with
    | 0, _ => rfl
    | 1, _ => rfl
end
set_option maxHeartbeats 400000 in
theorem rfill_any (t : Int) (zs : List Int) (v : Value) (B : Nat) (w : World) (hB : B ≤ w.heap.size) (hv : Ints w B .i64 v zs) :
    Calls Try.prog 13 #[.int .i64 t, v] w (RFills t zs w) := by
  obtain ⟨A, c, rfl, hl, hn, hc⟩ := hv
  have HV : Hid (Ints w B .i64 (.slice A zs.length c) zs) := ⟨A, c, rfl, hl, hn, hc⟩
  clear hn hc
  cases ht : okB t with
  | false =>
    have hf : fitB t zs = false := by unfold fitB; rw [ht]; simp
    have HF := Lib.hid (fillOff hf)
    have HT := Lib.hid ht
    clear ht hf
    go_enter Try.func13, Try.ntmps13
    go_wp2_with fail
    refine (rgood_any _ _).mono ?_
    rw [HT.out]
    rintro e w' ⟨rfl, rfl⟩
    go_wp2_with fail
    unfold RFills
    rw [HF.out.1, HF.out.2.1, HF.out.2.2]
    go_returns
    exact ⟨_, rfl, Ints.nil_ _ _ _, by go_grown⟩
  | true =>
    by_cases h : zs.length ≤ 1000
    · have HT := Lib.hid ht
      clear ht
      obtain ⟨i0, hi0, hz0, hz1, hz2⟩ := info_parts i64_info
      have HI := Lib.hid hi0
      have HZ0 := Lib.hid hz0
      have HZ1 := Lib.hid hz1
      have HZ2 := Lib.hid hz2
      clear hi0 hz0 hz1 hz2
      have hd : decide ((1000 : Int) < zs.length) = false := decide_eq_false (by omega)
      go_enter Try.func13, Try.ntmps13
      go_wp2_with fail
      refine (rgood_any _ _).mono ?_
      rw [HT.out]
      rintro e w' ⟨rfl, rfl⟩
      go_wp2_with fail
      go_loopw [7] (fun s7 wr => ∃ (j : Nat) (u : Value), j ≤ zs.length ∧ s7 = .int .i64 j ∧ Hid (OkTo zs j) ∧ RState t zs w j u wr) (fun s7 _ => zs.length - (intOf s7).toNat)
      case atStart => exact ⟨0, _, Nat.zero_le _, rfl, okTo_zero zs, rState_start t zs w⟩
      case round =>
        obtain ⟨j, u, hj, rfl, HO, hst⟩ := hrel
        have HS := Lib.hid hst
        obtain ⟨hb, hown, hf, hr⟩ := hst
        have f0 : wr.cell? ⟨w.heap.size + 1, 0, none⟩ = some u := hf.cell (i := 0) (by omega)
        have f1 : wr.cell? ⟨w.heap.size + 1, 1, none⟩ = some (.int .i64 (fRest t zs j)) := hf.cell (i := 1) (by omega)
        have r0 : wr.cell? ⟨w.heap.size, 0, none⟩ = some (.slice none 0 0) := hr.cell (i := 0) (by omega)
        have r1 : wr.cell? ⟨w.heap.size, 1, none⟩ = some (.int .i64 0) := hr.cell (i := 1) (by omega)
        have g0 := hf.frozen 0
        have g1 := hf.frozen 1
        have q0 := hr.frozen 0
        have q1 := hr.frozen 1
        have l0 := hf.lt
        have l1 := hr.lt
        by_cases hlt : j < zs.length
        · obtain ⟨A', c', e1, -, -, hc⟩ := HV.out
          injection e1 with e1 e2 e3
          subst e1
          subst e3
          obtain ⟨b, off, rfl, hbB, hc⟩ := hc (by omega)
          have hx := (hb.cell (p := ⟨b, off + j, none⟩) (by show b < _; omega)).trans (hc j hlt)
          clear hc hb hown hf hr e2
          cases ho : okB (zs.getD j 0) with
          | false =>
            have hnf : fitB t zs = false := by
              unfold fitB
              cases ha : allB zs with
              | false => simp
              | true => rw [(allB_to zs).1 ha j hlt] at ho; cases ho
            have HF := Lib.hid (fillOff hnf)
            have HOJ := Lib.hid ho
            clear ho hnf
            unfold RFills
            rw [HF.out.1, HF.out.2.1, HF.out.2.2]
            generalize zs.getD j 0 = x at *
            go_wp2_with fail
            refine (rgood_any _ _).mono ?_
            rw [HOJ.out]
            rintro e w' ⟨rfl, rfl⟩
            have s0 : (wr.setCell ⟨w.heap.size, 0, none⟩ (.slice none 0 0)).cell? ⟨w.heap.size, 0, none⟩ = some (.slice none 0 0) := (HS.out.r.set 0 (.slice none 0 0)).cell (i := 0) (by omega)
            have s1 : ((wr.setCell ⟨w.heap.size, 0, none⟩ (.slice none 0 0)).setCell ⟨w.heap.size, 1, none⟩ (.int .i64 0)).cell? ⟨w.heap.size, 1, none⟩ = some (.int .i64 0) := ((HS.out.r.set 0 (.slice none 0 0)).set 1 (.int .i64 0)).cell (i := 1) (by omega)
            go_wp2_with fail
            refine bodyPost_ret (v := .tuple #[.agg #[.slice none 0 0, .int .i64 0], .int .i64 1]) (by simp [results, Try.results13, go_sem, s0, s1]) rfl ?_
            exact ⟨_, rfl, Ints.nil_ _ _ _, (HS.out.below.setCell (Nat.le_refl _) _).setCell (Nat.le_refl _) _⟩
          | true =>
            have HOJ := Lib.hid ho
            have HO' := Lib.hid (okTo_succ HO.out ho)
            obtain ⟨x0, x1⟩ := (okB_iff _).1 ho
            clear ho
            obtain ⟨y0, y1⟩ := fRest_to HT.out j HO.out
            have hs := fRest_succ t zs j
            have hd : fPart t zs j = min (zs.getD j 0) (fRest t zs j) := rfl
            generalize zs.getD j 0 = x at *
            generalize hr : fRest t zs j = r at *
            have HR0 := Lib.hid hr
            clear hr
            generalize hq : fPart t zs j = q at *
            have HQ := Lib.hid hq
            have HR := Lib.hid hs
            clear hq hs
            have hqb : 0 ≤ q ∧ q ≤ r := by omega
            have j0 : (0 : Int) ≤ j := by omega
            have hw : (x ≤ r ∧ q = x) ∨ (r < x ∧ q = r) := by omega
            clear hd
            rcases hw with ⟨hxr, rfl⟩ | ⟨hxr, rfl⟩
            · go_wp2_with fail
              refine (rgood_any _ _).mono ?_
              rw [HOJ.out]
              rintro e w' ⟨rfl, rfl⟩
              go_wp2_with fail
              go_quiet (fail)
              go_wp2_with (at_builtin
                           refine wpList_append_own _ rfl (.tmp 41) (.tmp 43) _ rfl (w.heap.size + 2) 2 i0 (.int .i64 0) 1 8 Try.underlying22 HI.out HZ0.out HZ1.out HZ2.out rfl (by omega) u j _ rfl (World.ownsRow.alloc (w := wr.drewN nq) HS.out.own _) ⟨wr.heap.size, 0, none⟩ 1 1 [.int .i64 q] rfl rfl (one_cell (wr.drewN nq) (.int .i64 q) _) (one_one _ _) (by unfold maxLen; omega) (by omega) (by simp; omega) ?_
                           intro v3 w3 hown hgrow _
                           obtain ⟨A3, c3, rfl⟩ := own_shape hown
                           have HO3 := Lib.hid hown
                           have HG3 := Lib.hid hgrow
                           clear hown hgrow
                           obtain ⟨t0, t1, t2, t3, t4⟩ := rState_cells HS.out HR0.out HG3.out)
              go_roundw
              case rel =>
                have st := rState_step HS.out HQ.out HO3.out HG3.out HR.out
                exact ⟨j + 1, _, by omega, by go_num, HO', st⟩
              case measure => simp [intOf]; omega
            · go_wp2_with fail
              refine (rgood_any _ _).mono ?_
              rw [HOJ.out]
              rintro e w' ⟨rfl, rfl⟩
              go_wp2_with fail
              go_quiet (fail)
              go_wp2_with (at_builtin
                           refine wpList_append_own _ rfl (.tmp 41) (.tmp 43) _ rfl (w.heap.size + 2) 2 i0 (.int .i64 0) 1 8 Try.underlying22 HI.out HZ0.out HZ1.out HZ2.out rfl (by omega) u j _ rfl (World.ownsRow.alloc (w := wr.drewN nq) HS.out.own _) ⟨wr.heap.size, 0, none⟩ 1 1 [.int .i64 q] rfl rfl (one_cell (wr.drewN nq) (.int .i64 q) _) (one_one _ _) (by unfold maxLen; omega) (by omega) (by simp; omega) ?_
                           intro v3 w3 hown hgrow _
                           obtain ⟨A3, c3, rfl⟩ := own_shape hown
                           have HO3 := Lib.hid hown
                           have HG3 := Lib.hid hgrow
                           clear hown hgrow
                           obtain ⟨t0, t1, t2, t3, t4⟩ := rState_cells HS.out HR0.out HG3.out)
              go_roundw
              case rel =>
                have st := rState_step HS.out HQ.out HO3.out HG3.out (HR.out.trans (Int.sub_self _))
                exact ⟨j + 1, _, by omega, by go_num, HO', st⟩
              case measure => simp [intOf]; omega
        · obtain rfl : j = zs.length := by omega
          have hfit : fitB t zs = true := (fitB_iff t zs).2 ⟨h, HT.out, (allB_to zs).2 HO.out⟩
          have HF := Lib.hid (fillOn hfit)
          clear hfit hb hown hf hr
          obtain ⟨A3, c3, rfl⟩ := own_shape HS.out.own
          have s0 : (wr.setCell ⟨w.heap.size, 0, none⟩ (.slice A3 zs.length c3)).cell? ⟨w.heap.size, 0, none⟩ = some (.slice A3 zs.length c3) := (HS.out.r.set 0 _).cell (i := 0) (by omega)
          have s1 : ((wr.setCell ⟨w.heap.size, 0, none⟩ (.slice A3 zs.length c3)).setCell ⟨w.heap.size, 1, none⟩ (.int .i64 (fRest t zs zs.length))).cell? ⟨w.heap.size, 1, none⟩ = some (.int .i64 (fRest t zs zs.length)) := ((HS.out.r.set 0 _).set 1 (.int .i64 (fRest t zs zs.length))).cell (i := 1) (by omega)
          go_wp2_with fail
          refine bodyPost_ret (v := .tuple #[.agg #[.slice A3 zs.length c3, .int .i64 (fRest t zs zs.length)], .int .i64 0]) (by simp [results, Try.results13, go_sem, s0, s1]) rfl ?_
          unfold RFills
          rw [HF.out.1, HF.out.2.1, HF.out.2.2]
          refine ⟨_, rfl, Ints.of_own (n := zs.length) (by simp [fParts]) (k := .i64) (zs := fParts t zs) (base := w.heap.size + 2) (e := 2) ?_, (HS.out.below.setCell (Nat.le_refl _) _).setCell (Nat.le_refl _) _⟩
          rw [show (fParts t zs).map (Value.int .i64) = (List.range zs.length).map (fun i => .int .i64 (fPart t zs i)) from by simp [fParts]]
          exact ownsRow_setCell_below (ownsRow_setCell_below HS.out.own (by show w.heap.size < _; omega) _) (by show w.heap.size < _; omega) _
    · have hf : fitB t zs = false := by unfold fitB; simp [h]
      have HF := Lib.hid (fillOff hf)
      have HT := Lib.hid ht
      have h' : (1000 : Int) < zs.length := by omega
      clear ht hf
      go_enter Try.func13, Try.ntmps13
      go_wp2_with fail
      refine (rgood_any _ _).mono ?_
      rw [HT.out]
      rintro e w' ⟨rfl, rfl⟩
      go_wp2_with fail
      unfold RFills
      rw [HF.out.1, HF.out.2.1, HF.out.2.2]
      go_returns
      exact ⟨_, rfl, Ints.nil_ _ _ _, by go_grown⟩
end Go.Proofs.Ytbdcinecdigjgaa.Share
