/- The document's own journal: Open. -/
import Derived.Test.YtndanhacmfhlaaaGreatGJm
import Derived.Test.YtndanhacmfhlaaaGreatGJr
namespace Go.Proofs.YtndanhacmfhlaaaGreat.Jour
open Go.ChangeShapes Go.WideShapes Go.ChangeAt Go.RowKit Go.Deep Els Go.Proofs.YtndanhacmfhlaaaGreat.Frame Disk
variable {AV : Nat → Prop}

/-- The best head so far: none, or a journal of the call's own, its records nil yet. -/
def BestAt (w W : World) (g : Nat) (V : Value) : Option JSt → Prop
  | none => V = .pointer none
  | some j => ∃ gj, V = .pointer (some ⟨gj, 0, none⟩) ∧ W.rowIs gj 85 7 (jcell g (.slice none 0 0) j) ∧ w.heap.size ≤ gj
theorem BestAt.below {w W W' : World} {g : Nat} {V : Value} {x : Option JSt} (h : BestAt w W g V x) (hb : Below W.heap.size W W') : BestAt w W' g V x := by
  cases x with
  | none => exact h
  | some j =>
    obtain ⟨gj, h1, h2, h3⟩ := h
    exact ⟨gj, h1, h2.of_block (hb.block gj h2.lt), h3⟩
theorem one_text (w : World) (x : ByteArray) : Txts (w.alloc (.cells #[.string x] 9)) (w.alloc (.cells #[.string x] 9)).heap.size (.slice (some ⟨w.heap.size, 0, none⟩) 1 1) [x] :=
  ⟨_, _, rfl, (show (1 : Nat) ≤ 9223372036854775807 by decide), ⟨fun h => (by cases h), Nat.le_refl _⟩, fun _ => ⟨w.heap.size, 0, rfl, by simp, fun i y hi => by
    have hlt : i < 1 := (List.getElem?_eq_some_iff.1 hi).1
    obtain rfl : i = 0 := by omega
    injection hi with hi
    rw [← hi]
    exact World.cell?_alloc_new ..⟩⟩
theorem below_drew {a w : World} (h : Below a.heap.size a w) (n : Nat) : Below a.heap.size a (w.drewN n) := ⟨h.os, h.tape, h.output, h.size, h.block⟩
theorem below_same {a w w' : World} (h : Below a.heap.size a w) (k : SameW w w') : Below a.heap.size a w' := ⟨k.os.trans h.os, k.tape.trans h.tape, k.output.trans h.output, by rw [k.heap]; exact h.size, fun i hi => by rw [k.heap]; exact h.block i hi⟩
theorem box_cells (w : World) (x : ByteArray) (n : Int) (b : Bool) (T : TypeId) {W : World} (h : Below (w.alloc (.cells #[.string x, .int .i64 n, .bool b] T)).heap.size (w.alloc (.cells #[.string x, .int .i64 n, .bool b] T)) W) :
    W.cell? ⟨w.heap.size, 0, none⟩ = some (.string x) ∧ W.cell? ⟨w.heap.size, 1, none⟩ = some (.int .i64 n) ∧ W.cell? ⟨w.heap.size, 2, none⟩ = some (.bool b) := by
  have hlt : w.heap.size < (w.alloc (.cells #[.string x, .int .i64 n, .bool b] T)).heap.size := by simp
  exact ⟨(h.cell (p := ⟨w.heap.size, 0, none⟩) hlt).trans (World.cell?_alloc_new ..), (h.cell (p := ⟨w.heap.size, 1, none⟩) hlt).trans (World.cell?_alloc_new ..), (h.cell (p := ⟨w.heap.size, 2, none⟩) hlt).trans (World.cell?_alloc_new ..)⟩
theorem drop_run {w : World} {B b off n k p : Nat} {l : List ByteArray} (h : Txts w B (.slice (some ⟨b, off, none⟩) n k) l) (hn : n = l.length) (h0 : 1 ≤ p) (hp : p ≤ n) :
    ∃ A2 : Addr, (∀ W, (Instr.slice 50 (.slice (some ⟨b, off, none⟩) n k) (some (.int .i64 (p : Nat))) none none).run Tryz.prog W = .ok (.slice (some A2) (n - p) (k - p)) W) ∧ Txts w B (.slice (some A2) (n - p) (k - p)) (l.drop p) := by
  obtain ⟨A, c, e, hl, hnn, hc⟩ := h
  injection e with e1 e2 e3
  subst e1 e3
  have hlt : (l.drop p).length = n - p := by rw [List.length_drop, hn]
  have hk := hnn.2
  have hr : ∀ W, (Instr.slice 50 (.slice (some ⟨b, off, none⟩) n k) (some (.int .i64 (p : Nat))) none none).run Tryz.prog W = .ok (.slice (some (if k - p = 0 then (⟨b, off, none⟩ : Addr) else ⟨b, off + p, none⟩)) (n - p) (k - p)) W := fun W => by
    have z1 : (0 : Int) ≤ (p : Int) := by omega
    have z2 : (p : Int) ≤ (n : Int) := by omega
    have z3 : p ≤ l.length := by omega
    by_cases hz : k - p = 0
    · rw [if_pos hz]
      have z4 : k = p := by omega
      go_simp
    · rw [if_neg hz]
      have z4 : ¬ k = p := by omega
      go_simp
  refine ⟨_, hr, ⟨_, _, by rw [hlt], by rw [hlt]; omega, ⟨fun h => (by cases h), by rw [hlt]; omega⟩, fun h0 => ?_⟩⟩
  rw [hlt] at h0
  rw [if_neg (by omega)]
  obtain ⟨b', off', hA, hb, hcell⟩ := hc (by omega)
  injection hA with hA
  injection hA with h4 h5
  subst h4 h5
  refine ⟨_, _, rfl, hb, fun i x hi => ?_⟩
  rw [Nat.add_assoc]
  refine hcell _ x ?_
  rwa [List.getElem?_drop] at hi
theorem rown_still {w w' : World} {base n size : Nat} {e : TypeId} {v : Value} {xs : List Value} (h : w.ownsRow base e size v n xs) (hb : Below w.heap.size w w') : w'.ownsRow base e size v n xs :=
  h.kept (Slice.grown_below hb none) (by cases v.ownBlock <;> simp)
theorem rcell_of {w : World} {g i : Nat} {C : Array Value} {T : TypeId} (h : w.heap[g]? = some (.cells C T (0, 0))) : w.cell? ⟨g, i, none⟩ = C[i]? := by
  simp only [World.cell?]
  rw [h]
  rfl
theorem box_apart {W : World} {g bx i : Nat} (hl : bx < W.heap.size) (hn : bx ≠ g) (v : Value) : (W.setCell ⟨g, i, none⟩ v).heap[bx]? = W.heap[bx]? :=
  (OnlyF.set (F := fun k => k = g) (b := g) (i := i) (OnlyF.refl _ W) rfl v).block bx hl hn
theorem rstore_none {P : Program} {o : Oper} {a : Act} {w : World} {K : Act → World → Prop} {Q : Exit → Act → World → Prop} (ty : TypeId) (x y : Operand) (ho : o.op = .store ty x y)
    (g : Nat) (cells : Array Value) (hx : a.eval x = .pointer (some ⟨g, 0, none⟩)) (hy : a.eval y = .agg cells)
    (t : TypeId) (old : Array Value) (hg : w.heap[g]? = some (.cells old t (0, 0))) (hi : (P.info? ty).map (·.size) = some cells.size)
    (hold : old.size = cells.size) (h1 : cells.all (·.oneCell') = true) (hd : o.dst = none) (h : K a (w.setRow g cells)) : o.wp P a w K Q :=
  wp_store_row ty x y ho g cells hx hy t old hg hi hold h1 (by rw [hd]; exact h)
theorem box_new (w : World) (C : Array Value) (T : TypeId) : ∃ g wb, g = w.heap.size ∧ wb = w.alloc (.cells C T) ∧ wb.heap[g]? = some (.cells C T (0, 0)) ∧ Below w.heap.size w wb := ⟨_, _, rfl, rfl, heap_alloc_last w _, below_one w _⟩
theorem jdoc_own {W : World} {gj g r base : Nat} {q : DSt} {j : JSt} {V : Value} (hd : DocAt W g r q) (hr : W.rowIs gj 85 7 (jcell g V j)) (ho : W.ownsRow base 9 1 V j.recs.length (j.recs.map Value.string)) (h1 : gj < base) (h2 : g < gj ∧ r < gj) (hA : ∀ i, AV i → i < base) : JDoc AV W gj g r q j :=
  ⟨hd, ⟨V, hr, Els.of_own rfl ho, fun x n k hx _ => by
    have h3 := (ho.lt x.block (by rw [hx]; rfl)).1
    exact ⟨by omega, fun e => by have := hA _ e; omega⟩⟩, by omega⟩
/-- What Open has told. -/
def ODid (AV : Nat → Prop) (x : Option JSt × Int) (g r : Nat) (q : DSt) (w : World) (e : Ending) (w' : World) : Prop :=
  Below w.heap.size w w' ∧ match x.1 with
    | none => e = .returned (.tuple #[.pointer none, .int .i64 x.2])
    | some j => ∃ gj, e = .returned (.tuple #[.pointer (some ⟨gj, 0, none⟩), .int .i64 x.2]) ∧ JDoc AV w' gj g r q j ∧ w.heap.size ≤ gj
set_option maxRecDepth 20000 in
set_option maxHeartbeats 8000000 in
theorem open_best (q : DSt) (g r k m : Nat) (w : World) (h : DocAt w g r q) (hf : q.Fit k m) (hfit : fitsD q = true) (hd : q.dead = false) (hA : ∀ i, AV i → i < w.heap.size) :
    Calls Tryz.prog 20 #[.pointer (some ⟨g, 0, none⟩)] w (ODid AV (opened q) g r q w) := by
  have HO : Hid (opened q = match (bestK q 2).2 with | none => (none, 11) | some j => (some (goK q 5000 j), 0)) := show _ = _ by unfold opened; rw [hfit, hd]; rfl
  have hk8 : 8 ≤ k := by
    have := of_decide_eq_true hfit
    have := hf.len
    omega
  have FT := Lib.hid (rj_fits q g r k m w h hf)
  rw [hfit] at FT
  have HA := Lib.hid hA
  clear hA
  have H := Lib.hid h
  have HF := Lib.hid hf
  obtain ⟨c, hlc, a0, a1, -⟩ := doc_cells h
  rw [hd] at a1
  have hlm : q.S.length ≤ 4096 := by rw [hf.len]; exact hf.most
  have hl8 : 8 ≤ q.S.length := by rw [hf.len]; exact hk8
  clear h hfit hd hf
  go_enter Tryz.func20, Tryz.ntmps20
  go_wp2_with fail
  refine FT.out.mono ?_
  rintro e w1 ⟨rfl, rfl⟩
  go_wp2_with fail
  go_loopw [4, 5, 6] (fun b t u wr => ∃ (i : Nat) (V : Value), i ≤ 2 ∧ u = .int .i64 i ∧ t = .int .u32 ((bestK q i).1 : Nat) ∧ b = V ∧ Hid (BestAt w wr g V (bestK q i).2) ∧ Hid (Below w.heap.size w wr)) (fun _ _ u _ => 2 - (intOf u).toNat)
  case atStart => exact ⟨0, .pointer none, by decide, rfl, rfl, rfl, rfl, Below.refl _ _⟩
  case round =>
    obtain ⟨i, V, hi, rfl, rfl, rfl, HB, HW⟩ := hrel
    have HDOC : Hid (∀ W, Below w.heap.size w W → DocAt W g r q) := fun W hb => H.out.keep (hb.block g H.out.lt.1) (hb.block r H.out.lt.2)
    by_cases hlt : i < 2
    · have t1 : decide ((i : Int) < 2) = true := decide_eq_true (by omega)
      have j0 : (0 : Int) ≤ i := by omega
      have il : i < q.S.length := by omega
      have hlt0 := H.out.lt
      have A0 : Hid (∀ W, Below w.heap.size w W → W.cell? ⟨g, 0, none⟩ = some (.slice (some ⟨r, 0, none⟩) q.S.length c) ∧ W.cell? ⟨r, i, none⟩ = some (.string (q.S.getD i none_))) := fun W hb => by
        refine ⟨(hb.cell (p := ⟨g, 0, none⟩) hlt0.1).trans a0, (hb.cell (p := ⟨r, i, none⟩) hlt0.2).trans (Over.frozenD H.out i il).1⟩
      have NM : Hid (∀ W, Calls Tryz.prog 42 #[.string (q.S.getD i none_)] W fun e w' => e = .returned (.int .u32 (numV (q.S.getD i none_) : Nat)) ∧ ∃ n, w' = W.drewN n) := fun W => r_fnum _ W
      have hnl := numV_lt (q.S.getD i none_)
      have RD1 : Hid (∀ W, Calls Tryz.prog 54 #[.slice (some ⟨W.heap.size, 0, none⟩) 1 1, .int .u32 (numV (q.S.getD i none_) : Nat)] (W.alloc (.cells #[.string (q.S.getD i none_)] 9)) fun e w' => e = .returned (.agg #[.string (readS [q.S.getD i none_] (numV (q.S.getD i none_))), .int .i64 (readN [q.S.getD i none_] (numV (q.S.getD i none_)) : Nat), .bool (okR [q.S.getD i none_] (numV (q.S.getD i none_)))]) ∧ Below W.heap.size W w') := fun W =>
        (r_read [q.S.getD i none_] _ _ _ (one_text W _) hnl).mono fun e w' k => ⟨k.1, (below_one W _).trans (k.2.mono (below_one W (.cells #[.string (q.S.getD i none_)] 9)).size)⟩
      have SC : Hid (∀ W, Below w.heap.size w W → Calls Tryz.prog 55 #[.pointer (some ⟨g, 0, none⟩), .int .i64 (i : Nat)] W fun e w' => ∃ v, e = .returned v ∧ Txts w' w'.heap.size v (areaL q i) ∧ SameW W w') := fun W hb => (rj_sectors q g r k m i W (HDOC.out W hb) HF.out hk8 (by omega)).mono fun e w' ⟨c, hc, he, hs⟩ => ⟨_, he, area_txts (hs.doc (HDOC.out W hb)) ⟨hl8, hlm⟩ (by omega) hc, hs⟩
      have RD2 : Hid (∀ W v, Txts W W.heap.size v (areaL q i) → Calls Tryz.prog 54 #[v, .int .u32 (numV (q.S.getD i none_) : Nat)] W fun e w' => e = .returned (.agg #[.string (readS (areaL q i) (numV (q.S.getD i none_))), .int .i64 (readN (areaL q i) (numV (q.S.getD i none_)) : Nat), .bool (okR (areaL q i) (numV (q.S.getD i none_)))]) ∧ Below W.heap.size W w') := fun W v hv => r_read _ _ _ _ hv hnl
      have HOK : Hid (headOk q i (bestK q i).1 = (okR [q.S.getD i none_] (numV (q.S.getD i none_)) && (decide (readS [q.S.getD i none_] (numV (q.S.getD i none_)) = headB i) && (okR (areaL q i) (numV (q.S.getD i none_)) && decide (numV (q.S.getD i none_) ≤ most ∧ (bestK q i).1 < numV (q.S.getD i none_)))))) := show _ = _ from rfl
      have HYES : Hid (headOk q i (bestK q i).1 = true → bestK q (i + 1) = (numV (q.S.getD i none_), some ⟨readS (areaL q i) (numV (q.S.getD i none_)), [], numV (q.S.getD i none_) + 1, i, readN (areaL q i) (numV (q.S.getD i none_)), false⟩)) := best_yes
      have HNO : Hid (headOk q i (bestK q i).1 = false → bestK q (i + 1) = bestK q i) := best_no
      have HDD : Hid (∀ W, Calls Tryz.prog 45 #[.int .i64 (i : Nat)] W fun e w' => e = .returned (.string (headB i)) ∧ Below W.heap.size W w') := fun W => rj_head i W (by omega)
      generalize headOk q i (bestK q i).1 = OK at *
      generalize q.S.getD i none_ = x at *
      generalize numV x = num at *
      generalize areaL q i = AL at *
      obtain ⟨b0, b1⟩ := A0.out wr HW.out
      go_wp2_with fail
      refine (NM.out wr).mono ?_
      rintro e w1 ⟨rfl, n1, rfl⟩
      have HW1 := Lib.hid (below_drew HW.out n1)
      have R1 : Hid (Below wr.heap.size wr (wr.drewN n1)) := below_drew (Below.refl _ _) n1
      clear b0 b1
      obtain ⟨b0, b1⟩ := A0.out _ HW1.out
      go_wp2_with fail
      refine (RD1.out (wr.drewN n1)).mono ?_
      rintro e w3 ⟨rfl, hb⟩
      have HW3 := Lib.hid (HW1.out.trans (hb.mono HW1.out.size))
      have R3 := Lib.hid (R1.out.trans (hb.mono R1.out.size))
      clear hb b0 b1
      generalize readS [x] num = h1 at *
      generalize (readN [x] num : Int) = h2 at *
      generalize okR [x] num = h3 at *
      go_wp2_with fail
      have Ra := Lib.hid (R3.out.trans ((below_one w3 (.cells #[.string h1, .int .i64 h2, .bool h3] 90)).mono R3.out.size))
      have HWa := Lib.hid (HW3.out.trans ((below_one w3 (.cells #[.string h1, .int .i64 h2, .bool h3] 90)).mono HW3.out.size))
      have CH : Hid (∀ W, Below (w3.alloc (.cells #[.string h1, .int .i64 h2, .bool h3] 90)).heap.size (w3.alloc (.cells #[.string h1, .int .i64 h2, .bool h3] 90)) W → W.cell? ⟨w3.heap.size, 0, none⟩ = some (.string h1) ∧ W.cell? ⟨w3.heap.size, 1, none⟩ = some (.int .i64 h2) ∧ W.cell? ⟨w3.heap.size, 2, none⟩ = some (.bool h3)) := fun W hb => box_cells w3 h1 h2 h3 _ hb
      generalize w3.alloc (.cells #[.string h1, .int .i64 h2, .bool h3] 90) = wa at *
      generalize w3.heap.size = bh at *
      refine (SC.out wa HWa.out).mono ?_
      rintro e w5 ⟨v, rfl, hv, hs⟩
      have HV := Lib.hid hv
      obtain ⟨Av, cv, rfl⟩ := hv.shape
      have HW5 := Lib.hid (below_same HWa.out hs)
      have BA5 := Lib.hid (below_same (Below.refl wa.heap.size wa) hs)
      clear hv hs
      go_wp2_with fail
      refine (RD2.out w5 _ HV.out).mono ?_
      rintro e w6 ⟨rfl, hb⟩
      have HW6 := Lib.hid (HW5.out.trans (hb.mono HW5.out.size))
      have BA6 := Lib.hid (BA5.out.trans (hb.mono BA5.out.size))
      clear hb
      generalize readS AL num = g1 at *
      generalize readN AL num = g2 at *
      generalize okR AL num = g3 at *
      go_wp2_with fail
      have HWb := Lib.hid (HW6.out.trans ((below_one w6 (.cells #[.string g1, .int .i64 (g2 : Nat), .bool g3] 90)).mono HW6.out.size))
      have HWr := Lib.hid (Ra.out.trans ((BA6.out.trans ((below_one w6 (.cells #[.string g1, .int .i64 (g2 : Nat), .bool g3] 90)).mono BA6.out.size)).mono Ra.out.size))
      have BAb := Lib.hid (BA6.out.trans ((below_one w6 (.cells #[.string g1, .int .i64 (g2 : Nat), .bool g3] 90)).mono BA6.out.size))
      have CB : Hid (∀ W, Below (w6.alloc (.cells #[.string g1, .int .i64 (g2 : Nat), .bool g3] 90)).heap.size (w6.alloc (.cells #[.string g1, .int .i64 (g2 : Nat), .bool g3] 90)) W → W.cell? ⟨w6.heap.size, 0, none⟩ = some (.string g1) ∧ W.cell? ⟨w6.heap.size, 1, none⟩ = some (.int .i64 (g2 : Nat)) ∧ W.cell? ⟨w6.heap.size, 2, none⟩ = some (.bool g3)) := fun W hb => box_cells w6 g1 (g2 : Nat) g3 _ hb
      generalize w6.alloc (.cells #[.string g1, .int .i64 (g2 : Nat), .bool g3] 90) = wb at *
      generalize w6.heap.size = bb at *
      have CC : Hid (∀ W, Below wb.heap.size wb W → W.cell? ⟨bh, 0, none⟩ = some (.string h1) ∧ W.cell? ⟨bh, 2, none⟩ = some (.bool h3) ∧ W.cell? ⟨bb, 0, none⟩ = some (.string g1) ∧ W.cell? ⟨bb, 1, none⟩ = some (.int .i64 (g2 : Nat)) ∧ W.cell? ⟨bb, 2, none⟩ = some (.bool g3)) := fun W hb => by
        obtain ⟨x1, -, x3⟩ := CH.out W (BAb.out.trans (hb.mono BAb.out.size))
        obtain ⟨y1, y2, y3⟩ := CB.out W hb
        exact ⟨x1, x3, y1, y2, y3⟩
      have BBd : Hid (Below wb.heap.size wb wb.drew) := ⟨rfl, rfl, rfl, Nat.le_refl _, fun _ _ => rfl⟩
      have E0 := CC.out _ BBd.out
      have HBb := Lib.hid (HB.out.below HWr.out)
      generalize hT : (bestK q i).1 = T at *
      cases h3 with
      | false =>
        have HN := Lib.hid (HNO.out (by rw [HOK.out]; rfl))
        clear HYES HNO HOK
        obtain ⟨f0, f1, f2, f3, f4⟩ := CC.out wb (Below.refl _ _)
        clear E0 BBd CC
        go_quiet (fail)
        have R0 : Hid (Below wb.heap.size wb (wb.drewN nq)) := below_drew (Below.refl _ _) nq
        clear f0 f1 f2 f3 f4
        go_wp2_with fail
        go_roundw
        case rel =>
          refine ⟨i + 1, _, by omega, by go_num, ?_, rfl, ?_, HWb.out.trans (R0.out.mono HWb.out.size)⟩
          · rw [HN.out, hT]
          · rw [HN.out]
            exact HBb.out.below R0.out
        case measure => simp [intOf]; omega
      | true =>
        by_cases q2 : h1 = headB i
        · cases g3 with
          | false =>
            have HN := Lib.hid (HNO.out (by rw [HOK.out, decide_eq_true q2]; rfl))
            have tq : (h1.toList == (headB i).toList) = true := text_eq q2
            have tq2 : (h1.toList != (headB i).toList) = false := by rw [bne, tq]; rfl
            clear HYES HNO HOK q2
            generalize headB i = hB at *
            refine wp_region_held_drew (S := (fun w' => w'.cell? ⟨bh, 0, none⟩ = some (.string h1) ∧ w'.cell? ⟨bh, 2, none⟩ = some (.bool true) ∧ w'.cell? ⟨bb, 0, none⟩ = some (.string g1) ∧ w'.cell? ⟨bb, 1, none⟩ = some (.int .i64 (g2 : Nat)) ∧ w'.cell? ⟨bb, 2, none⟩ = some (.bool false))) (by kernel_rfl) E0 (fun hHeld => ?_)
            refine ByHand.take_yes (v := ?_) 0 47 rfl rfl (by kernel_rfl) (by kernel_rfl) (by kernel_rfl) (fun _ _ _ h => h) (by rfl) ?_ (by assumption) ?_
            rotate_left
            · intro w' hSw
              (try dsimp only at hSw)
              go_simp
              all_goals with_reducible rfl
            (try simp only [Act.put, List.setIfInBounds_toArray, List.set_cons_zero, List.set_cons_succ])
            refine ByHand.take_yes (v := ?_) 1 48 rfl rfl (by kernel_rfl) (by kernel_rfl) (by kernel_rfl) (fun _ _ _ h => h) (by rfl) ?_ (by assumption) ?_
            rotate_left
            · intro w' hSw
              (try dsimp only at hSw)
              go_simp
              all_goals with_reducible rfl
            (try simp only [Act.put, List.setIfInBounds_toArray, List.set_cons_zero, List.set_cons_succ])
            refine ByHand.take_yes (v := ?_) 2 49 rfl rfl (by kernel_rfl) (by kernel_rfl) (by kernel_rfl) (fun _ _ _ h => h) (by rfl) ?_ (by assumption) ?_
            rotate_left
            · intro w' hSw
              (try dsimp only at hSw)
              go_simp
              all_goals with_reducible rfl
            (try simp only [Act.put, List.setIfInBounds_toArray, List.set_cons_zero, List.set_cons_succ])
            refine ByHand.take_yes (v := ?_) 3 50 rfl rfl (by kernel_rfl) (by kernel_rfl) (by kernel_rfl) (fun _ _ _ h => h) (by rfl) ?_ (by assumption) ?_
            rotate_left
            · intro w' hSw
              (try dsimp only at hSw)
              go_simp
              all_goals with_reducible rfl
            (try simp only [Act.put, List.setIfInBounds_toArray, List.set_cons_zero, List.set_cons_succ])
            refine ByHand.take_yes (v := ?_) 4 51 rfl rfl (by kernel_rfl) (by kernel_rfl) (by kernel_rfl) (fun _ _ _ h => h) (by rfl) ?_ (by assumption) ?_
            rotate_left
            · intro w' hSw
              (try dsimp only at hSw)
              go_simp
              all_goals with_reducible rfl
            (try simp only [Act.put, List.setIfInBounds_toArray, List.set_cons_zero, List.set_cons_succ])
            refine ByHand.take_yes (v := ?_) 5 52 rfl rfl (by kernel_rfl) (by kernel_rfl) (by kernel_rfl) (fun _ _ _ h => h) (by rfl) ?_ (by assumption) ?_
            rotate_left
            · intro w' hSw
              (try dsimp only at hSw)
              go_simp
              all_goals with_reducible rfl
            (try simp only [Act.put, List.setIfInBounds_toArray, List.set_cons_zero, List.set_cons_succ])
            refine ByHand.take_yes (v := ?_) 6 53 rfl rfl (by kernel_rfl) (by kernel_rfl) (by kernel_rfl) (fun _ _ _ h => h) (by rfl) ?_ (by assumption) ?_
            rotate_left
            · intro w' hSw
              (try dsimp only at hSw)
              go_simp
              all_goals with_reducible rfl
            (try simp only [Act.put, List.setIfInBounds_toArray, List.set_cons_zero, List.set_cons_succ])
            refine wpAnyH_ready (rs := [7]) (by kernel_rfl) (by simp) (AllReadyH.cons rfl (fun K hK => ?_) AllReadyH.nil)
            go_simp
            with_reducible refine (HDD.out _).mono ?_
            rintro e w7 ⟨rfl, hb⟩
            have R7 : Hid (Below wb.heap.size wb w7) := BBd.out.trans (show Below wb.heap.size wb.drew w7 from hb)
            have E1 := CC.out w7 R7.out
            clear hb
            go_wp2_with fail
            refine hK.out _ _ ?_ (fun hHeld => ?_)
            · exact E1
            clear hK K
            (try simp only [Act.put, List.setIfInBounds_toArray, List.set_cons_zero, List.set_cons_succ])
            refine ByHand.take_yes (v := ?_) 8 55 rfl rfl (by kernel_rfl) (by kernel_rfl) (by kernel_rfl) (fun _ _ _ h => h) (by rfl) ?_ (by assumption) ?_
            rotate_left
            · intro w' hSw
              (try dsimp only at hSw)
              go_simp
              all_goals with_reducible rfl
            (try simp only [Act.put, List.setIfInBounds_toArray, List.set_cons_zero, List.set_cons_succ])
            refine ByHand.take_yes (v := ?_) 9 56 rfl rfl (by kernel_rfl) (by kernel_rfl) (by kernel_rfl) (fun _ _ _ h => h) (by rfl) ?_ (by assumption) ?_
            rotate_left
            · intro w' hSw
              (try dsimp only at hSw)
              go_simp
              all_goals with_reducible rfl
            (try simp only [Act.put, List.setIfInBounds_toArray, List.set_cons_zero, List.set_cons_succ])
            refine ByHand.take_yes (v := ?_) 10 57 rfl rfl (by kernel_rfl) (by kernel_rfl) (by kernel_rfl) (fun _ _ _ h => h) (by rfl) ?_ (by assumption) ?_
            rotate_left
            · intro w' hSw
              (try dsimp only at hSw)
              go_simp
              all_goals with_reducible rfl
            (try simp only [Act.put, List.setIfInBounds_toArray, List.set_cons_zero, List.set_cons_succ])
            refine ByHand.take_yes (v := ?_) 11 58 rfl rfl (by kernel_rfl) (by kernel_rfl) (by kernel_rfl) (fun _ _ _ h => h) (by rfl) ?_ (by assumption) ?_
            rotate_left
            · intro w' hSw
              (try dsimp only at hSw)
              go_simp
              all_goals with_reducible rfl
            (try simp only [Act.put, List.setIfInBounds_toArray, List.set_cons_zero, List.set_cons_succ])
            refine ByHand.take_yes (v := ?_) 12 59 rfl rfl (by kernel_rfl) (by kernel_rfl) (by kernel_rfl) (fun _ _ _ h => h) (by rfl) ?_ (by assumption) ?_
            rotate_left
            · intro w' hSw
              (try dsimp only at hSw)
              go_simp
              all_goals with_reducible rfl
            (try simp only [Act.put, List.setIfInBounds_toArray, List.set_cons_zero, List.set_cons_succ])
            refine ByHand.take_yes (v := ?_) 13 60 rfl rfl (by kernel_rfl) (by kernel_rfl) (by kernel_rfl) (fun _ _ _ h => h) (by rfl) ?_ (by assumption) ?_
            rotate_left
            · intro w' hSw
              (try dsimp only at hSw)
              go_simp
              all_goals with_reducible rfl
            (try simp only [Act.put, List.setIfInBounds_toArray, List.set_cons_zero, List.set_cons_succ])
            refine ByHand.take_yes (v := ?_) 14 61 rfl rfl (by kernel_rfl) (by kernel_rfl) (by kernel_rfl) (fun _ _ _ h => h) (by rfl) ?_ (by assumption) ?_
            rotate_left
            · intro w' hSw
              (try dsimp only at hSw)
              go_simp
              all_goals with_reducible rfl
            (try simp only [Act.put, List.setIfInBounds_toArray, List.set_cons_zero, List.set_cons_succ])
            refine ByHand.take_yes (v := ?_) 15 62 rfl rfl (by kernel_rfl) (by kernel_rfl) (by kernel_rfl) (fun _ _ _ h => h) (by rfl) ?_ (by assumption) ?_
            rotate_left
            · intro w' hSw
              (try dsimp only at hSw)
              go_simp
              all_goals with_reducible rfl
            (try simp only [Act.put, List.setIfInBounds_toArray, List.set_cons_zero, List.set_cons_succ])
            refine ByHand.take_no 16 63 rfl rfl (by kernel_rfl) (by kernel_rfl) (by kernel_rfl) (fun _ _ _ h => h) (by rfl) (by assumption) ?_
            (try simp only [Act.put, List.setIfInBounds_toArray, List.set_cons_zero, List.set_cons_succ])
            refine ByHand.take_no 17 64 rfl rfl (by kernel_rfl) (by kernel_rfl) (by kernel_rfl) (fun _ _ _ h => h) (by rfl) (by assumption) ?_
            (try simp only [Act.put, List.setIfInBounds_toArray, List.set_cons_zero, List.set_cons_succ])
            refine ByHand.take_yes (v := ?_) 18 65 rfl rfl (by kernel_rfl) (by kernel_rfl) (by kernel_rfl) (fun _ _ _ h => h) (by rfl) ?_ (by assumption) ?_
            rotate_left
            · intro w' hSw
              (try dsimp only at hSw)
              go_simp
              all_goals with_reducible rfl
            (try simp only [Act.put, List.setIfInBounds_toArray, List.set_cons_zero, List.set_cons_succ])
            refine ByHand.take_yes (v := ?_) 19 66 rfl rfl (by kernel_rfl) (by kernel_rfl) (by kernel_rfl) (fun _ _ _ h => h) (by rfl) ?_ (by assumption) ?_
            rotate_left
            · intro w' hSw
              (try dsimp only at hSw)
              go_simp
              all_goals with_reducible rfl
            (try simp only [Act.put, List.setIfInBounds_toArray, List.set_cons_zero, List.set_cons_succ])
            refine ByHand.take_no 20 67 rfl rfl (by kernel_rfl) (by kernel_rfl) (by kernel_rfl) (fun _ _ _ h => h) (by rfl) (by assumption) ?_
            (try simp only [Act.put, List.setIfInBounds_toArray, List.set_cons_zero, List.set_cons_succ])
            refine ByHand.take_no 21 68 rfl rfl (by kernel_rfl) (by kernel_rfl) (by kernel_rfl) (fun _ _ _ h => h) (by rfl) (by assumption) ?_
            (try simp only [Act.put, List.setIfInBounds_toArray, List.set_cons_zero, List.set_cons_succ])
            refine ByHand.take_no 22 69 rfl rfl (by kernel_rfl) (by kernel_rfl) (by kernel_rfl) (fun _ _ _ h => h) (by rfl) (by assumption) ?_
            (try simp only [Act.put, List.setIfInBounds_toArray, List.set_cons_zero, List.set_cons_succ])
            refine ByHand.take_yes (v := ?_) 23 70 rfl rfl (by kernel_rfl) (by kernel_rfl) (by kernel_rfl) (fun _ _ _ h => h) (by rfl) ?_ (by assumption) ?_
            rotate_left
            · intro w' hSw
              (try dsimp only at hSw)
              go_simp
              all_goals with_reducible rfl
            (try simp only [Act.put, List.setIfInBounds_toArray, List.set_cons_zero, List.set_cons_succ])
            refine wpAnyH_done (by kernel_rfl) ?_ _
            clear E0 E1 BBd CC
            go_wp2_with fail
            go_roundw
            case rel =>
              refine ⟨i + 1, _, by omega, by go_num, ?_, rfl, ?_, HWb.out.trans (R7.out.mono HWb.out.size)⟩
              · rw [HN.out, hT]
              · rw [HN.out]
                exact HBb.out.below R7.out
            case measure => simp [intOf]; omega
          | true =>
            by_cases q4 : num ≤ most ∧ T < num
            · have HY := Lib.hid (HYES.out (by rw [HOK.out, decide_eq_true q2, decide_eq_true q4]; rfl))
              have tq : (h1.toList == (headB i).toList) = true := text_eq q2
              have tq2 : (h1.toList != (headB i).toList) = false := by rw [bne, tq]; rfl
              have q5 : num ≤ 2148483648 := q4.1
              have t4 : decide ((2148483648 : Int) < num) = false := decide_eq_false (by omega)
              have t5 : decide (num ≤ T) = false := decide_eq_false (by omega)
              have i9 : IntKind.u32.wrap ((num : Int) + 1) = (num : Int) + 1 := IntWalk.u32_in _ (by omega)
              clear HYES HNO HOK q2
              generalize headB i = hB at *
              refine wp_region_held_drew (S := (fun w' => w'.cell? ⟨bh, 0, none⟩ = some (.string h1) ∧ w'.cell? ⟨bh, 2, none⟩ = some (.bool true) ∧ w'.cell? ⟨bb, 0, none⟩ = some (.string g1) ∧ w'.cell? ⟨bb, 1, none⟩ = some (.int .i64 (g2 : Nat)) ∧ w'.cell? ⟨bb, 2, none⟩ = some (.bool true))) (by kernel_rfl) E0 (fun hHeld => ?_)
              refine ByHand.take_yes (v := ?_) 0 47 rfl rfl (by kernel_rfl) (by kernel_rfl) (by kernel_rfl) (fun _ _ _ h => h) (by rfl) ?_ (by assumption) ?_
              rotate_left
              · intro w' hSw
                (try dsimp only at hSw)
                go_simp
                all_goals with_reducible rfl
              (try simp only [Act.put, List.setIfInBounds_toArray, List.set_cons_zero, List.set_cons_succ])
              refine ByHand.take_yes (v := ?_) 1 48 rfl rfl (by kernel_rfl) (by kernel_rfl) (by kernel_rfl) (fun _ _ _ h => h) (by rfl) ?_ (by assumption) ?_
              rotate_left
              · intro w' hSw
                (try dsimp only at hSw)
                go_simp
                all_goals with_reducible rfl
              (try simp only [Act.put, List.setIfInBounds_toArray, List.set_cons_zero, List.set_cons_succ])
              refine ByHand.take_yes (v := ?_) 2 49 rfl rfl (by kernel_rfl) (by kernel_rfl) (by kernel_rfl) (fun _ _ _ h => h) (by rfl) ?_ (by assumption) ?_
              rotate_left
              · intro w' hSw
                (try dsimp only at hSw)
                go_simp
                all_goals with_reducible rfl
              (try simp only [Act.put, List.setIfInBounds_toArray, List.set_cons_zero, List.set_cons_succ])
              refine ByHand.take_yes (v := ?_) 3 50 rfl rfl (by kernel_rfl) (by kernel_rfl) (by kernel_rfl) (fun _ _ _ h => h) (by rfl) ?_ (by assumption) ?_
              rotate_left
              · intro w' hSw
                (try dsimp only at hSw)
                go_simp
                all_goals with_reducible rfl
              (try simp only [Act.put, List.setIfInBounds_toArray, List.set_cons_zero, List.set_cons_succ])
              refine ByHand.take_yes (v := ?_) 4 51 rfl rfl (by kernel_rfl) (by kernel_rfl) (by kernel_rfl) (fun _ _ _ h => h) (by rfl) ?_ (by assumption) ?_
              rotate_left
              · intro w' hSw
                (try dsimp only at hSw)
                go_simp
                all_goals with_reducible rfl
              (try simp only [Act.put, List.setIfInBounds_toArray, List.set_cons_zero, List.set_cons_succ])
              refine ByHand.take_yes (v := ?_) 5 52 rfl rfl (by kernel_rfl) (by kernel_rfl) (by kernel_rfl) (fun _ _ _ h => h) (by rfl) ?_ (by assumption) ?_
              rotate_left
              · intro w' hSw
                (try dsimp only at hSw)
                go_simp
                all_goals with_reducible rfl
              (try simp only [Act.put, List.setIfInBounds_toArray, List.set_cons_zero, List.set_cons_succ])
              refine ByHand.take_yes (v := ?_) 6 53 rfl rfl (by kernel_rfl) (by kernel_rfl) (by kernel_rfl) (fun _ _ _ h => h) (by rfl) ?_ (by assumption) ?_
              rotate_left
              · intro w' hSw
                (try dsimp only at hSw)
                go_simp
                all_goals with_reducible rfl
              (try simp only [Act.put, List.setIfInBounds_toArray, List.set_cons_zero, List.set_cons_succ])
              refine wpAnyH_ready (rs := [7]) (by kernel_rfl) (by simp) (AllReadyH.cons rfl (fun K hK => ?_) AllReadyH.nil)
              go_simp
              with_reducible refine (HDD.out _).mono ?_
              rintro e w7 ⟨rfl, hb⟩
              have R7 : Hid (Below wb.heap.size wb w7) := BBd.out.trans (show Below wb.heap.size wb.drew w7 from hb)
              have E1 := CC.out w7 R7.out
              clear hb
              go_wp2_with fail
              refine hK.out _ _ ?_ (fun hHeld => ?_)
              · exact E1
              clear hK K
              (try simp only [Act.put, List.setIfInBounds_toArray, List.set_cons_zero, List.set_cons_succ])
              refine ByHand.take_yes (v := ?_) 8 55 rfl rfl (by kernel_rfl) (by kernel_rfl) (by kernel_rfl) (fun _ _ _ h => h) (by rfl) ?_ (by assumption) ?_
              rotate_left
              · intro w' hSw
                (try dsimp only at hSw)
                go_simp
                all_goals with_reducible rfl
              (try simp only [Act.put, List.setIfInBounds_toArray, List.set_cons_zero, List.set_cons_succ])
              refine ByHand.take_yes (v := ?_) 9 56 rfl rfl (by kernel_rfl) (by kernel_rfl) (by kernel_rfl) (fun _ _ _ h => h) (by rfl) ?_ (by assumption) ?_
              rotate_left
              · intro w' hSw
                (try dsimp only at hSw)
                go_simp
                all_goals with_reducible rfl
              (try simp only [Act.put, List.setIfInBounds_toArray, List.set_cons_zero, List.set_cons_succ])
              refine ByHand.take_yes (v := ?_) 10 57 rfl rfl (by kernel_rfl) (by kernel_rfl) (by kernel_rfl) (fun _ _ _ h => h) (by rfl) ?_ (by assumption) ?_
              rotate_left
              · intro w' hSw
                (try dsimp only at hSw)
                go_simp
                all_goals with_reducible rfl
              (try simp only [Act.put, List.setIfInBounds_toArray, List.set_cons_zero, List.set_cons_succ])
              refine ByHand.take_yes (v := ?_) 11 58 rfl rfl (by kernel_rfl) (by kernel_rfl) (by kernel_rfl) (fun _ _ _ h => h) (by rfl) ?_ (by assumption) ?_
              rotate_left
              · intro w' hSw
                (try dsimp only at hSw)
                go_simp
                all_goals with_reducible rfl
              (try simp only [Act.put, List.setIfInBounds_toArray, List.set_cons_zero, List.set_cons_succ])
              refine ByHand.take_yes (v := ?_) 12 59 rfl rfl (by kernel_rfl) (by kernel_rfl) (by kernel_rfl) (fun _ _ _ h => h) (by rfl) ?_ (by assumption) ?_
              rotate_left
              · intro w' hSw
                (try dsimp only at hSw)
                go_simp
                all_goals with_reducible rfl
              (try simp only [Act.put, List.setIfInBounds_toArray, List.set_cons_zero, List.set_cons_succ])
              refine ByHand.take_yes (v := ?_) 13 60 rfl rfl (by kernel_rfl) (by kernel_rfl) (by kernel_rfl) (fun _ _ _ h => h) (by rfl) ?_ (by assumption) ?_
              rotate_left
              · intro w' hSw
                (try dsimp only at hSw)
                go_simp
                all_goals with_reducible rfl
              (try simp only [Act.put, List.setIfInBounds_toArray, List.set_cons_zero, List.set_cons_succ])
              refine ByHand.take_yes (v := ?_) 14 61 rfl rfl (by kernel_rfl) (by kernel_rfl) (by kernel_rfl) (fun _ _ _ h => h) (by rfl) ?_ (by assumption) ?_
              rotate_left
              · intro w' hSw
                (try dsimp only at hSw)
                go_simp
                all_goals with_reducible rfl
              (try simp only [Act.put, List.setIfInBounds_toArray, List.set_cons_zero, List.set_cons_succ])
              refine ByHand.take_yes (v := ?_) 15 62 rfl rfl (by kernel_rfl) (by kernel_rfl) (by kernel_rfl) (fun _ _ _ h => h) (by rfl) ?_ (by assumption) ?_
              rotate_left
              · intro w' hSw
                (try dsimp only at hSw)
                go_simp
                all_goals with_reducible rfl
              (try simp only [Act.put, List.setIfInBounds_toArray, List.set_cons_zero, List.set_cons_succ])
              refine ByHand.take_yes (v := ?_) 16 63 rfl rfl (by kernel_rfl) (by kernel_rfl) (by kernel_rfl) (fun _ _ _ h => h) (by rfl) ?_ (by assumption) ?_
              rotate_left
              · intro w' hSw
                (try dsimp only at hSw)
                go_simp
                all_goals with_reducible rfl
              (try simp only [Act.put, List.setIfInBounds_toArray, List.set_cons_zero, List.set_cons_succ])
              refine ByHand.take_yes (v := ?_) 17 64 rfl rfl (by kernel_rfl) (by kernel_rfl) (by kernel_rfl) (fun _ _ _ h => h) (by rfl) ?_ (by assumption) ?_
              rotate_left
              · intro w' hSw
                (try dsimp only at hSw)
                go_simp
                all_goals with_reducible rfl
              (try simp only [Act.put, List.setIfInBounds_toArray, List.set_cons_zero, List.set_cons_succ])
              refine ByHand.take_yes (v := ?_) 18 65 rfl rfl (by kernel_rfl) (by kernel_rfl) (by kernel_rfl) (fun _ _ _ h => h) (by rfl) ?_ (by assumption) ?_
              rotate_left
              · intro w' hSw
                (try dsimp only at hSw)
                go_simp
                all_goals with_reducible rfl
              (try simp only [Act.put, List.setIfInBounds_toArray, List.set_cons_zero, List.set_cons_succ])
              refine ByHand.take_yes (v := ?_) 19 66 rfl rfl (by kernel_rfl) (by kernel_rfl) (by kernel_rfl) (fun _ _ _ h => h) (by rfl) ?_ (by assumption) ?_
              rotate_left
              · intro w' hSw
                (try dsimp only at hSw)
                go_simp
                all_goals with_reducible rfl
              (try simp only [Act.put, List.setIfInBounds_toArray, List.set_cons_zero, List.set_cons_succ])
              refine ByHand.take_yes (v := ?_) 20 67 rfl rfl (by kernel_rfl) (by kernel_rfl) (by kernel_rfl) (fun _ _ _ h => h) (by rfl) ?_ (by assumption) ?_
              rotate_left
              · intro w' hSw
                (try dsimp only at hSw)
                go_simp
                all_goals with_reducible rfl
              (try simp only [Act.put, List.setIfInBounds_toArray, List.set_cons_zero, List.set_cons_succ])
              refine ByHand.take_yes (v := ?_) 21 68 rfl rfl (by kernel_rfl) (by kernel_rfl) (by kernel_rfl) (fun _ _ _ h => h) (by rfl) ?_ (by assumption) ?_
              rotate_left
              · intro w' hSw
                (try dsimp only at hSw)
                go_simp
                all_goals with_reducible rfl
              (try simp only [Act.put, List.setIfInBounds_toArray, List.set_cons_zero, List.set_cons_succ])
              refine ByHand.take_yes (v := ?_) 22 69 rfl rfl (by kernel_rfl) (by kernel_rfl) (by kernel_rfl) (fun _ _ _ h => h) (by rfl) ?_ (by assumption) ?_
              rotate_left
              · intro w' hSw
                (try dsimp only at hSw)
                go_simp
                all_goals with_reducible rfl
              (try simp only [Act.put, List.setIfInBounds_toArray, List.set_cons_zero, List.set_cons_succ])
              refine ByHand.take_yes (v := ?_) 23 70 rfl rfl (by kernel_rfl) (by kernel_rfl) (by kernel_rfl) (fun _ _ _ h => h) (by rfl) ?_ (by assumption) ?_
              rotate_left
              · intro w' hSw
                (try dsimp only at hSw)
                go_simp
                all_goals with_reducible rfl
              (try simp only [Act.put, List.setIfInBounds_toArray, List.set_cons_zero, List.set_cons_succ])
              refine wpAnyH_done (by kernel_rfl) ?_ _
              obtain ⟨f0, f1, f2, f3, f4⟩ := E1
              go_wp2_with fail
              have HW7 := Lib.hid (HWb.out.trans (R7.out.mono HWb.out.size))
              clear f0 f1 f2 f3 f4 E0 BBd CC
              go_roundw
              case rel =>
                refine ⟨i + 1, _, by omega, by go_num, ?_, rfl, ?_, HW7.out.alloc HW7.out.size _⟩
                · rw [HY.out]
                · rw [HY.out]
                  refine ⟨w7.heap.size, rfl, World.rowIs_alloc w7 #[.pointer (some ⟨g, 0, none⟩), .string g1, .slice none 0 0, .int .u32 ((num : Int) + 1), .int .i64 i, .int .i64 (g2 : Nat), .bool false] 85 (jcell g (.slice none 0 0) _) (fun k hk => ?_), HW7.out.size⟩
                  match k, hk with
                  | 0, _ | 1, _ | 2, _ | 3, _ | 4, _ | 5, _ | 6, _ => rfl
              case measure => simp [intOf]; omega
            · have HN := Lib.hid (HNO.out (by rw [HOK.out, decide_eq_true q2, decide_eq_false q4]; rfl))
              have tq : (h1.toList == (headB i).toList) = true := text_eq q2
              have tq2 : (h1.toList != (headB i).toList) = false := by rw [bne, tq]; rfl
              clear HYES HNO HOK q2
              generalize headB i = hB at *
              unfold most at q4
              by_cases q6 : 2148483648 < num
              · have t4 : decide ((2148483648 : Int) < num) = true := decide_eq_true (by omega)
                clear q4
                refine wp_region_held_drew (S := (fun w' => w'.cell? ⟨bh, 0, none⟩ = some (.string h1) ∧ w'.cell? ⟨bh, 2, none⟩ = some (.bool true) ∧ w'.cell? ⟨bb, 0, none⟩ = some (.string g1) ∧ w'.cell? ⟨bb, 1, none⟩ = some (.int .i64 (g2 : Nat)) ∧ w'.cell? ⟨bb, 2, none⟩ = some (.bool true))) (by kernel_rfl) E0 (fun hHeld => ?_)
                refine ByHand.take_yes (v := ?_) 0 47 rfl rfl (by kernel_rfl) (by kernel_rfl) (by kernel_rfl) (fun _ _ _ h => h) (by rfl) ?_ (by assumption) ?_
                rotate_left
                · intro w' hSw
                  (try dsimp only at hSw)
                  go_simp
                  all_goals with_reducible rfl
                (try simp only [Act.put, List.setIfInBounds_toArray, List.set_cons_zero, List.set_cons_succ])
                refine ByHand.take_yes (v := ?_) 1 48 rfl rfl (by kernel_rfl) (by kernel_rfl) (by kernel_rfl) (fun _ _ _ h => h) (by rfl) ?_ (by assumption) ?_
                rotate_left
                · intro w' hSw
                  (try dsimp only at hSw)
                  go_simp
                  all_goals with_reducible rfl
                (try simp only [Act.put, List.setIfInBounds_toArray, List.set_cons_zero, List.set_cons_succ])
                refine ByHand.take_yes (v := ?_) 2 49 rfl rfl (by kernel_rfl) (by kernel_rfl) (by kernel_rfl) (fun _ _ _ h => h) (by rfl) ?_ (by assumption) ?_
                rotate_left
                · intro w' hSw
                  (try dsimp only at hSw)
                  go_simp
                  all_goals with_reducible rfl
                (try simp only [Act.put, List.setIfInBounds_toArray, List.set_cons_zero, List.set_cons_succ])
                refine ByHand.take_yes (v := ?_) 3 50 rfl rfl (by kernel_rfl) (by kernel_rfl) (by kernel_rfl) (fun _ _ _ h => h) (by rfl) ?_ (by assumption) ?_
                rotate_left
                · intro w' hSw
                  (try dsimp only at hSw)
                  go_simp
                  all_goals with_reducible rfl
                (try simp only [Act.put, List.setIfInBounds_toArray, List.set_cons_zero, List.set_cons_succ])
                refine ByHand.take_yes (v := ?_) 4 51 rfl rfl (by kernel_rfl) (by kernel_rfl) (by kernel_rfl) (fun _ _ _ h => h) (by rfl) ?_ (by assumption) ?_
                rotate_left
                · intro w' hSw
                  (try dsimp only at hSw)
                  go_simp
                  all_goals with_reducible rfl
                (try simp only [Act.put, List.setIfInBounds_toArray, List.set_cons_zero, List.set_cons_succ])
                refine ByHand.take_yes (v := ?_) 5 52 rfl rfl (by kernel_rfl) (by kernel_rfl) (by kernel_rfl) (fun _ _ _ h => h) (by rfl) ?_ (by assumption) ?_
                rotate_left
                · intro w' hSw
                  (try dsimp only at hSw)
                  go_simp
                  all_goals with_reducible rfl
                (try simp only [Act.put, List.setIfInBounds_toArray, List.set_cons_zero, List.set_cons_succ])
                refine ByHand.take_yes (v := ?_) 6 53 rfl rfl (by kernel_rfl) (by kernel_rfl) (by kernel_rfl) (fun _ _ _ h => h) (by rfl) ?_ (by assumption) ?_
                rotate_left
                · intro w' hSw
                  (try dsimp only at hSw)
                  go_simp
                  all_goals with_reducible rfl
                (try simp only [Act.put, List.setIfInBounds_toArray, List.set_cons_zero, List.set_cons_succ])
                refine wpAnyH_ready (rs := [7]) (by kernel_rfl) (by simp) (AllReadyH.cons rfl (fun K hK => ?_) AllReadyH.nil)
                go_simp
                with_reducible refine (HDD.out _).mono ?_
                rintro e w7 ⟨rfl, hb⟩
                have R7 : Hid (Below wb.heap.size wb w7) := BBd.out.trans (show Below wb.heap.size wb.drew w7 from hb)
                have E1 := CC.out w7 R7.out
                clear hb
                go_wp2_with fail
                refine hK.out _ _ ?_ (fun hHeld => ?_)
                · exact E1
                clear hK K
                (try simp only [Act.put, List.setIfInBounds_toArray, List.set_cons_zero, List.set_cons_succ])
                refine ByHand.take_yes (v := ?_) 8 55 rfl rfl (by kernel_rfl) (by kernel_rfl) (by kernel_rfl) (fun _ _ _ h => h) (by rfl) ?_ (by assumption) ?_
                rotate_left
                · intro w' hSw
                  (try dsimp only at hSw)
                  go_simp
                  all_goals with_reducible rfl
                (try simp only [Act.put, List.setIfInBounds_toArray, List.set_cons_zero, List.set_cons_succ])
                refine ByHand.take_yes (v := ?_) 9 56 rfl rfl (by kernel_rfl) (by kernel_rfl) (by kernel_rfl) (fun _ _ _ h => h) (by rfl) ?_ (by assumption) ?_
                rotate_left
                · intro w' hSw
                  (try dsimp only at hSw)
                  go_simp
                  all_goals with_reducible rfl
                (try simp only [Act.put, List.setIfInBounds_toArray, List.set_cons_zero, List.set_cons_succ])
                refine ByHand.take_yes (v := ?_) 10 57 rfl rfl (by kernel_rfl) (by kernel_rfl) (by kernel_rfl) (fun _ _ _ h => h) (by rfl) ?_ (by assumption) ?_
                rotate_left
                · intro w' hSw
                  (try dsimp only at hSw)
                  go_simp
                  all_goals with_reducible rfl
                (try simp only [Act.put, List.setIfInBounds_toArray, List.set_cons_zero, List.set_cons_succ])
                refine ByHand.take_yes (v := ?_) 11 58 rfl rfl (by kernel_rfl) (by kernel_rfl) (by kernel_rfl) (fun _ _ _ h => h) (by rfl) ?_ (by assumption) ?_
                rotate_left
                · intro w' hSw
                  (try dsimp only at hSw)
                  go_simp
                  all_goals with_reducible rfl
                (try simp only [Act.put, List.setIfInBounds_toArray, List.set_cons_zero, List.set_cons_succ])
                refine ByHand.take_yes (v := ?_) 12 59 rfl rfl (by kernel_rfl) (by kernel_rfl) (by kernel_rfl) (fun _ _ _ h => h) (by rfl) ?_ (by assumption) ?_
                rotate_left
                · intro w' hSw
                  (try dsimp only at hSw)
                  go_simp
                  all_goals with_reducible rfl
                (try simp only [Act.put, List.setIfInBounds_toArray, List.set_cons_zero, List.set_cons_succ])
                refine ByHand.take_yes (v := ?_) 13 60 rfl rfl (by kernel_rfl) (by kernel_rfl) (by kernel_rfl) (fun _ _ _ h => h) (by rfl) ?_ (by assumption) ?_
                rotate_left
                · intro w' hSw
                  (try dsimp only at hSw)
                  go_simp
                  all_goals with_reducible rfl
                (try simp only [Act.put, List.setIfInBounds_toArray, List.set_cons_zero, List.set_cons_succ])
                refine ByHand.take_yes (v := ?_) 14 61 rfl rfl (by kernel_rfl) (by kernel_rfl) (by kernel_rfl) (fun _ _ _ h => h) (by rfl) ?_ (by assumption) ?_
                rotate_left
                · intro w' hSw
                  (try dsimp only at hSw)
                  go_simp
                  all_goals with_reducible rfl
                (try simp only [Act.put, List.setIfInBounds_toArray, List.set_cons_zero, List.set_cons_succ])
                refine ByHand.take_yes (v := ?_) 15 62 rfl rfl (by kernel_rfl) (by kernel_rfl) (by kernel_rfl) (fun _ _ _ h => h) (by rfl) ?_ (by assumption) ?_
                rotate_left
                · intro w' hSw
                  (try dsimp only at hSw)
                  go_simp
                  all_goals with_reducible rfl
                (try simp only [Act.put, List.setIfInBounds_toArray, List.set_cons_zero, List.set_cons_succ])
                refine ByHand.take_yes (v := ?_) 16 63 rfl rfl (by kernel_rfl) (by kernel_rfl) (by kernel_rfl) (fun _ _ _ h => h) (by rfl) ?_ (by assumption) ?_
                rotate_left
                · intro w' hSw
                  (try dsimp only at hSw)
                  go_simp
                  all_goals with_reducible rfl
                (try simp only [Act.put, List.setIfInBounds_toArray, List.set_cons_zero, List.set_cons_succ])
                refine ByHand.take_yes (v := ?_) 17 64 rfl rfl (by kernel_rfl) (by kernel_rfl) (by kernel_rfl) (fun _ _ _ h => h) (by rfl) ?_ (by assumption) ?_
                rotate_left
                · intro w' hSw
                  (try dsimp only at hSw)
                  go_simp
                  all_goals with_reducible rfl
                (try simp only [Act.put, List.setIfInBounds_toArray, List.set_cons_zero, List.set_cons_succ])
                refine ByHand.take_yes (v := ?_) 18 65 rfl rfl (by kernel_rfl) (by kernel_rfl) (by kernel_rfl) (fun _ _ _ h => h) (by rfl) ?_ (by assumption) ?_
                rotate_left
                · intro w' hSw
                  (try dsimp only at hSw)
                  go_simp
                  all_goals with_reducible rfl
                (try simp only [Act.put, List.setIfInBounds_toArray, List.set_cons_zero, List.set_cons_succ])
                refine ByHand.take_yes (v := ?_) 19 66 rfl rfl (by kernel_rfl) (by kernel_rfl) (by kernel_rfl) (fun _ _ _ h => h) (by rfl) ?_ (by assumption) ?_
                rotate_left
                · intro w' hSw
                  (try dsimp only at hSw)
                  go_simp
                  all_goals with_reducible rfl
                (try simp only [Act.put, List.setIfInBounds_toArray, List.set_cons_zero, List.set_cons_succ])
                refine ByHand.take_no 20 67 rfl rfl (by kernel_rfl) (by kernel_rfl) (by kernel_rfl) (fun _ _ _ h => h) (by rfl) (by assumption) ?_
                (try simp only [Act.put, List.setIfInBounds_toArray, List.set_cons_zero, List.set_cons_succ])
                refine ByHand.take_no 21 68 rfl rfl (by kernel_rfl) (by kernel_rfl) (by kernel_rfl) (fun _ _ _ h => h) (by rfl) (by assumption) ?_
                (try simp only [Act.put, List.setIfInBounds_toArray, List.set_cons_zero, List.set_cons_succ])
                refine ByHand.take_no 22 69 rfl rfl (by kernel_rfl) (by kernel_rfl) (by kernel_rfl) (fun _ _ _ h => h) (by rfl) (by assumption) ?_
                (try simp only [Act.put, List.setIfInBounds_toArray, List.set_cons_zero, List.set_cons_succ])
                refine ByHand.take_yes (v := ?_) 23 70 rfl rfl (by kernel_rfl) (by kernel_rfl) (by kernel_rfl) (fun _ _ _ h => h) (by rfl) ?_ (by assumption) ?_
                rotate_left
                · intro w' hSw
                  (try dsimp only at hSw)
                  go_simp
                  all_goals with_reducible rfl
                (try simp only [Act.put, List.setIfInBounds_toArray, List.set_cons_zero, List.set_cons_succ])
                refine wpAnyH_done (by kernel_rfl) ?_ _
                clear E0 E1 BBd CC
                go_wp2_with fail
                go_roundw
                case rel =>
                  refine ⟨i + 1, _, by omega, by go_num, ?_, rfl, ?_, HWb.out.trans (R7.out.mono HWb.out.size)⟩
                  · rw [HN.out, hT]
                  · rw [HN.out]
                    exact HBb.out.below R7.out
                case measure => simp [intOf]; omega
              · have t4 : decide ((2148483648 : Int) < num) = false := decide_eq_false (by omega)
                have t5 : decide (num ≤ T) = true := decide_eq_true (by omega)
                clear q4
                refine wp_region_held_drew (S := (fun w' => w'.cell? ⟨bh, 0, none⟩ = some (.string h1) ∧ w'.cell? ⟨bh, 2, none⟩ = some (.bool true) ∧ w'.cell? ⟨bb, 0, none⟩ = some (.string g1) ∧ w'.cell? ⟨bb, 1, none⟩ = some (.int .i64 (g2 : Nat)) ∧ w'.cell? ⟨bb, 2, none⟩ = some (.bool true))) (by kernel_rfl) E0 (fun hHeld => ?_)
                refine ByHand.take_yes (v := ?_) 0 47 rfl rfl (by kernel_rfl) (by kernel_rfl) (by kernel_rfl) (fun _ _ _ h => h) (by rfl) ?_ (by assumption) ?_
                rotate_left
                · intro w' hSw
                  (try dsimp only at hSw)
                  go_simp
                  all_goals with_reducible rfl
                (try simp only [Act.put, List.setIfInBounds_toArray, List.set_cons_zero, List.set_cons_succ])
                refine ByHand.take_yes (v := ?_) 1 48 rfl rfl (by kernel_rfl) (by kernel_rfl) (by kernel_rfl) (fun _ _ _ h => h) (by rfl) ?_ (by assumption) ?_
                rotate_left
                · intro w' hSw
                  (try dsimp only at hSw)
                  go_simp
                  all_goals with_reducible rfl
                (try simp only [Act.put, List.setIfInBounds_toArray, List.set_cons_zero, List.set_cons_succ])
                refine ByHand.take_yes (v := ?_) 2 49 rfl rfl (by kernel_rfl) (by kernel_rfl) (by kernel_rfl) (fun _ _ _ h => h) (by rfl) ?_ (by assumption) ?_
                rotate_left
                · intro w' hSw
                  (try dsimp only at hSw)
                  go_simp
                  all_goals with_reducible rfl
                (try simp only [Act.put, List.setIfInBounds_toArray, List.set_cons_zero, List.set_cons_succ])
                refine ByHand.take_yes (v := ?_) 3 50 rfl rfl (by kernel_rfl) (by kernel_rfl) (by kernel_rfl) (fun _ _ _ h => h) (by rfl) ?_ (by assumption) ?_
                rotate_left
                · intro w' hSw
                  (try dsimp only at hSw)
                  go_simp
                  all_goals with_reducible rfl
                (try simp only [Act.put, List.setIfInBounds_toArray, List.set_cons_zero, List.set_cons_succ])
                refine ByHand.take_yes (v := ?_) 4 51 rfl rfl (by kernel_rfl) (by kernel_rfl) (by kernel_rfl) (fun _ _ _ h => h) (by rfl) ?_ (by assumption) ?_
                rotate_left
                · intro w' hSw
                  (try dsimp only at hSw)
                  go_simp
                  all_goals with_reducible rfl
                (try simp only [Act.put, List.setIfInBounds_toArray, List.set_cons_zero, List.set_cons_succ])
                refine ByHand.take_yes (v := ?_) 5 52 rfl rfl (by kernel_rfl) (by kernel_rfl) (by kernel_rfl) (fun _ _ _ h => h) (by rfl) ?_ (by assumption) ?_
                rotate_left
                · intro w' hSw
                  (try dsimp only at hSw)
                  go_simp
                  all_goals with_reducible rfl
                (try simp only [Act.put, List.setIfInBounds_toArray, List.set_cons_zero, List.set_cons_succ])
                refine ByHand.take_yes (v := ?_) 6 53 rfl rfl (by kernel_rfl) (by kernel_rfl) (by kernel_rfl) (fun _ _ _ h => h) (by rfl) ?_ (by assumption) ?_
                rotate_left
                · intro w' hSw
                  (try dsimp only at hSw)
                  go_simp
                  all_goals with_reducible rfl
                (try simp only [Act.put, List.setIfInBounds_toArray, List.set_cons_zero, List.set_cons_succ])
                refine wpAnyH_ready (rs := [7]) (by kernel_rfl) (by simp) (AllReadyH.cons rfl (fun K hK => ?_) AllReadyH.nil)
                go_simp
                with_reducible refine (HDD.out _).mono ?_
                rintro e w7 ⟨rfl, hb⟩
                have R7 : Hid (Below wb.heap.size wb w7) := BBd.out.trans (show Below wb.heap.size wb.drew w7 from hb)
                have E1 := CC.out w7 R7.out
                clear hb
                go_wp2_with fail
                refine hK.out _ _ ?_ (fun hHeld => ?_)
                · exact E1
                clear hK K
                (try simp only [Act.put, List.setIfInBounds_toArray, List.set_cons_zero, List.set_cons_succ])
                refine ByHand.take_yes (v := ?_) 8 55 rfl rfl (by kernel_rfl) (by kernel_rfl) (by kernel_rfl) (fun _ _ _ h => h) (by rfl) ?_ (by assumption) ?_
                rotate_left
                · intro w' hSw
                  (try dsimp only at hSw)
                  go_simp
                  all_goals with_reducible rfl
                (try simp only [Act.put, List.setIfInBounds_toArray, List.set_cons_zero, List.set_cons_succ])
                refine ByHand.take_yes (v := ?_) 9 56 rfl rfl (by kernel_rfl) (by kernel_rfl) (by kernel_rfl) (fun _ _ _ h => h) (by rfl) ?_ (by assumption) ?_
                rotate_left
                · intro w' hSw
                  (try dsimp only at hSw)
                  go_simp
                  all_goals with_reducible rfl
                (try simp only [Act.put, List.setIfInBounds_toArray, List.set_cons_zero, List.set_cons_succ])
                refine ByHand.take_yes (v := ?_) 10 57 rfl rfl (by kernel_rfl) (by kernel_rfl) (by kernel_rfl) (fun _ _ _ h => h) (by rfl) ?_ (by assumption) ?_
                rotate_left
                · intro w' hSw
                  (try dsimp only at hSw)
                  go_simp
                  all_goals with_reducible rfl
                (try simp only [Act.put, List.setIfInBounds_toArray, List.set_cons_zero, List.set_cons_succ])
                refine ByHand.take_yes (v := ?_) 11 58 rfl rfl (by kernel_rfl) (by kernel_rfl) (by kernel_rfl) (fun _ _ _ h => h) (by rfl) ?_ (by assumption) ?_
                rotate_left
                · intro w' hSw
                  (try dsimp only at hSw)
                  go_simp
                  all_goals with_reducible rfl
                (try simp only [Act.put, List.setIfInBounds_toArray, List.set_cons_zero, List.set_cons_succ])
                refine ByHand.take_yes (v := ?_) 12 59 rfl rfl (by kernel_rfl) (by kernel_rfl) (by kernel_rfl) (fun _ _ _ h => h) (by rfl) ?_ (by assumption) ?_
                rotate_left
                · intro w' hSw
                  (try dsimp only at hSw)
                  go_simp
                  all_goals with_reducible rfl
                (try simp only [Act.put, List.setIfInBounds_toArray, List.set_cons_zero, List.set_cons_succ])
                refine ByHand.take_yes (v := ?_) 13 60 rfl rfl (by kernel_rfl) (by kernel_rfl) (by kernel_rfl) (fun _ _ _ h => h) (by rfl) ?_ (by assumption) ?_
                rotate_left
                · intro w' hSw
                  (try dsimp only at hSw)
                  go_simp
                  all_goals with_reducible rfl
                (try simp only [Act.put, List.setIfInBounds_toArray, List.set_cons_zero, List.set_cons_succ])
                refine ByHand.take_yes (v := ?_) 14 61 rfl rfl (by kernel_rfl) (by kernel_rfl) (by kernel_rfl) (fun _ _ _ h => h) (by rfl) ?_ (by assumption) ?_
                rotate_left
                · intro w' hSw
                  (try dsimp only at hSw)
                  go_simp
                  all_goals with_reducible rfl
                (try simp only [Act.put, List.setIfInBounds_toArray, List.set_cons_zero, List.set_cons_succ])
                refine ByHand.take_yes (v := ?_) 15 62 rfl rfl (by kernel_rfl) (by kernel_rfl) (by kernel_rfl) (fun _ _ _ h => h) (by rfl) ?_ (by assumption) ?_
                rotate_left
                · intro w' hSw
                  (try dsimp only at hSw)
                  go_simp
                  all_goals with_reducible rfl
                (try simp only [Act.put, List.setIfInBounds_toArray, List.set_cons_zero, List.set_cons_succ])
                refine ByHand.take_yes (v := ?_) 16 63 rfl rfl (by kernel_rfl) (by kernel_rfl) (by kernel_rfl) (fun _ _ _ h => h) (by rfl) ?_ (by assumption) ?_
                rotate_left
                · intro w' hSw
                  (try dsimp only at hSw)
                  go_simp
                  all_goals with_reducible rfl
                (try simp only [Act.put, List.setIfInBounds_toArray, List.set_cons_zero, List.set_cons_succ])
                refine ByHand.take_yes (v := ?_) 17 64 rfl rfl (by kernel_rfl) (by kernel_rfl) (by kernel_rfl) (fun _ _ _ h => h) (by rfl) ?_ (by assumption) ?_
                rotate_left
                · intro w' hSw
                  (try dsimp only at hSw)
                  go_simp
                  all_goals with_reducible rfl
                (try simp only [Act.put, List.setIfInBounds_toArray, List.set_cons_zero, List.set_cons_succ])
                refine ByHand.take_yes (v := ?_) 18 65 rfl rfl (by kernel_rfl) (by kernel_rfl) (by kernel_rfl) (fun _ _ _ h => h) (by rfl) ?_ (by assumption) ?_
                rotate_left
                · intro w' hSw
                  (try dsimp only at hSw)
                  go_simp
                  all_goals with_reducible rfl
                (try simp only [Act.put, List.setIfInBounds_toArray, List.set_cons_zero, List.set_cons_succ])
                refine ByHand.take_yes (v := ?_) 19 66 rfl rfl (by kernel_rfl) (by kernel_rfl) (by kernel_rfl) (fun _ _ _ h => h) (by rfl) ?_ (by assumption) ?_
                rotate_left
                · intro w' hSw
                  (try dsimp only at hSw)
                  go_simp
                  all_goals with_reducible rfl
                (try simp only [Act.put, List.setIfInBounds_toArray, List.set_cons_zero, List.set_cons_succ])
                refine ByHand.take_yes (v := ?_) 20 67 rfl rfl (by kernel_rfl) (by kernel_rfl) (by kernel_rfl) (fun _ _ _ h => h) (by rfl) ?_ (by assumption) ?_
                rotate_left
                · intro w' hSw
                  (try dsimp only at hSw)
                  go_simp
                  all_goals with_reducible rfl
                (try simp only [Act.put, List.setIfInBounds_toArray, List.set_cons_zero, List.set_cons_succ])
                refine ByHand.take_yes (v := ?_) 21 68 rfl rfl (by kernel_rfl) (by kernel_rfl) (by kernel_rfl) (fun _ _ _ h => h) (by rfl) ?_ (by assumption) ?_
                rotate_left
                · intro w' hSw
                  (try dsimp only at hSw)
                  go_simp
                  all_goals with_reducible rfl
                (try simp only [Act.put, List.setIfInBounds_toArray, List.set_cons_zero, List.set_cons_succ])
                refine ByHand.take_yes (v := ?_) 22 69 rfl rfl (by kernel_rfl) (by kernel_rfl) (by kernel_rfl) (fun _ _ _ h => h) (by rfl) ?_ (by assumption) ?_
                rotate_left
                · intro w' hSw
                  (try dsimp only at hSw)
                  go_simp
                  all_goals with_reducible rfl
                (try simp only [Act.put, List.setIfInBounds_toArray, List.set_cons_zero, List.set_cons_succ])
                refine ByHand.take_yes (v := ?_) 23 70 rfl rfl (by kernel_rfl) (by kernel_rfl) (by kernel_rfl) (fun _ _ _ h => h) (by rfl) ?_ (by assumption) ?_
                rotate_left
                · intro w' hSw
                  (try dsimp only at hSw)
                  go_simp
                  all_goals with_reducible rfl
                (try simp only [Act.put, List.setIfInBounds_toArray, List.set_cons_zero, List.set_cons_succ])
                refine wpAnyH_done (by kernel_rfl) ?_ _
                clear E0 E1 BBd CC
                go_wp2_with fail
                go_roundw
                case rel =>
                  refine ⟨i + 1, _, by omega, by go_num, ?_, rfl, ?_, HWb.out.trans (R7.out.mono HWb.out.size)⟩
                  · rw [HN.out, hT]
                  · rw [HN.out]
                    exact HBb.out.below R7.out
                case measure => simp [intOf]; omega
        · have HN := Lib.hid (HNO.out (by rw [HOK.out, decide_eq_false q2]; rfl))
          have tq : (h1.toList == (headB i).toList) = false := text_ne q2
          have tq2 : (h1.toList != (headB i).toList) = true := by rw [bne, tq]; rfl
          clear HYES HNO HOK q2
          generalize headB i = hB at *
          refine wp_region_held_drew (S := (fun w' => w'.cell? ⟨bh, 0, none⟩ = some (.string h1) ∧ w'.cell? ⟨bh, 2, none⟩ = some (.bool true) ∧ w'.cell? ⟨bb, 0, none⟩ = some (.string g1) ∧ w'.cell? ⟨bb, 1, none⟩ = some (.int .i64 (g2 : Nat)) ∧ w'.cell? ⟨bb, 2, none⟩ = some (.bool g3))) (by kernel_rfl) E0 (fun hHeld => ?_)
          refine ByHand.take_yes (v := ?_) 0 47 rfl rfl (by kernel_rfl) (by kernel_rfl) (by kernel_rfl) (fun _ _ _ h => h) (by rfl) ?_ (by assumption) ?_
          rotate_left
          · intro w' hSw
            (try dsimp only at hSw)
            go_simp
            all_goals with_reducible rfl
          (try simp only [Act.put, List.setIfInBounds_toArray, List.set_cons_zero, List.set_cons_succ])
          refine ByHand.take_yes (v := ?_) 1 48 rfl rfl (by kernel_rfl) (by kernel_rfl) (by kernel_rfl) (fun _ _ _ h => h) (by rfl) ?_ (by assumption) ?_
          rotate_left
          · intro w' hSw
            (try dsimp only at hSw)
            go_simp
            all_goals with_reducible rfl
          (try simp only [Act.put, List.setIfInBounds_toArray, List.set_cons_zero, List.set_cons_succ])
          refine ByHand.take_yes (v := ?_) 2 49 rfl rfl (by kernel_rfl) (by kernel_rfl) (by kernel_rfl) (fun _ _ _ h => h) (by rfl) ?_ (by assumption) ?_
          rotate_left
          · intro w' hSw
            (try dsimp only at hSw)
            go_simp
            all_goals with_reducible rfl
          (try simp only [Act.put, List.setIfInBounds_toArray, List.set_cons_zero, List.set_cons_succ])
          refine ByHand.take_yes (v := ?_) 3 50 rfl rfl (by kernel_rfl) (by kernel_rfl) (by kernel_rfl) (fun _ _ _ h => h) (by rfl) ?_ (by assumption) ?_
          rotate_left
          · intro w' hSw
            (try dsimp only at hSw)
            go_simp
            all_goals with_reducible rfl
          (try simp only [Act.put, List.setIfInBounds_toArray, List.set_cons_zero, List.set_cons_succ])
          refine ByHand.take_yes (v := ?_) 4 51 rfl rfl (by kernel_rfl) (by kernel_rfl) (by kernel_rfl) (fun _ _ _ h => h) (by rfl) ?_ (by assumption) ?_
          rotate_left
          · intro w' hSw
            (try dsimp only at hSw)
            go_simp
            all_goals with_reducible rfl
          (try simp only [Act.put, List.setIfInBounds_toArray, List.set_cons_zero, List.set_cons_succ])
          refine ByHand.take_yes (v := ?_) 5 52 rfl rfl (by kernel_rfl) (by kernel_rfl) (by kernel_rfl) (fun _ _ _ h => h) (by rfl) ?_ (by assumption) ?_
          rotate_left
          · intro w' hSw
            (try dsimp only at hSw)
            go_simp
            all_goals with_reducible rfl
          (try simp only [Act.put, List.setIfInBounds_toArray, List.set_cons_zero, List.set_cons_succ])
          refine ByHand.take_yes (v := ?_) 6 53 rfl rfl (by kernel_rfl) (by kernel_rfl) (by kernel_rfl) (fun _ _ _ h => h) (by rfl) ?_ (by assumption) ?_
          rotate_left
          · intro w' hSw
            (try dsimp only at hSw)
            go_simp
            all_goals with_reducible rfl
          (try simp only [Act.put, List.setIfInBounds_toArray, List.set_cons_zero, List.set_cons_succ])
          refine wpAnyH_ready (rs := [7]) (by kernel_rfl) (by simp) (AllReadyH.cons rfl (fun K hK => ?_) AllReadyH.nil)
          go_simp
          with_reducible refine (HDD.out _).mono ?_
          rintro e w7 ⟨rfl, hb⟩
          have R7 : Hid (Below wb.heap.size wb w7) := BBd.out.trans (show Below wb.heap.size wb.drew w7 from hb)
          have E1 := CC.out w7 R7.out
          clear hb
          go_wp2_with fail
          refine hK.out _ _ ?_ (fun hHeld => ?_)
          · exact E1
          clear hK K
          (try simp only [Act.put, List.setIfInBounds_toArray, List.set_cons_zero, List.set_cons_succ])
          refine ByHand.take_yes (v := ?_) 8 55 rfl rfl (by kernel_rfl) (by kernel_rfl) (by kernel_rfl) (fun _ _ _ h => h) (by rfl) ?_ (by assumption) ?_
          rotate_left
          · intro w' hSw
            (try dsimp only at hSw)
            go_simp
            all_goals with_reducible rfl
          (try simp only [Act.put, List.setIfInBounds_toArray, List.set_cons_zero, List.set_cons_succ])
          refine ByHand.take_yes (v := ?_) 9 56 rfl rfl (by kernel_rfl) (by kernel_rfl) (by kernel_rfl) (fun _ _ _ h => h) (by rfl) ?_ (by assumption) ?_
          rotate_left
          · intro w' hSw
            (try dsimp only at hSw)
            go_simp
            all_goals with_reducible rfl
          (try simp only [Act.put, List.setIfInBounds_toArray, List.set_cons_zero, List.set_cons_succ])
          refine ByHand.take_yes (v := ?_) 10 57 rfl rfl (by kernel_rfl) (by kernel_rfl) (by kernel_rfl) (fun _ _ _ h => h) (by rfl) ?_ (by assumption) ?_
          rotate_left
          · intro w' hSw
            (try dsimp only at hSw)
            go_simp
            all_goals with_reducible rfl
          (try simp only [Act.put, List.setIfInBounds_toArray, List.set_cons_zero, List.set_cons_succ])
          refine ByHand.take_no 11 58 rfl rfl (by kernel_rfl) (by kernel_rfl) (by kernel_rfl) (fun _ _ _ h => h) (by rfl) (by assumption) ?_
          (try simp only [Act.put, List.setIfInBounds_toArray, List.set_cons_zero, List.set_cons_succ])
          refine ByHand.take_no 12 59 rfl rfl (by kernel_rfl) (by kernel_rfl) (by kernel_rfl) (fun _ _ _ h => h) (by rfl) (by assumption) ?_
          (try simp only [Act.put, List.setIfInBounds_toArray, List.set_cons_zero, List.set_cons_succ])
          refine ByHand.take_no 13 60 rfl rfl (by kernel_rfl) (by kernel_rfl) (by kernel_rfl) (fun _ _ _ h => h) (by rfl) (by assumption) ?_
          (try simp only [Act.put, List.setIfInBounds_toArray, List.set_cons_zero, List.set_cons_succ])
          refine ByHand.take_yes (v := ?_) 14 61 rfl rfl (by kernel_rfl) (by kernel_rfl) (by kernel_rfl) (fun _ _ _ h => h) (by rfl) ?_ (by assumption) ?_
          rotate_left
          · intro w' hSw
            (try dsimp only at hSw)
            go_simp
            all_goals with_reducible rfl
          (try simp only [Act.put, List.setIfInBounds_toArray, List.set_cons_zero, List.set_cons_succ])
          refine ByHand.take_yes (v := ?_) 15 62 rfl rfl (by kernel_rfl) (by kernel_rfl) (by kernel_rfl) (fun _ _ _ h => h) (by rfl) ?_ (by assumption) ?_
          rotate_left
          · intro w' hSw
            (try dsimp only at hSw)
            go_simp
            all_goals with_reducible rfl
          (try simp only [Act.put, List.setIfInBounds_toArray, List.set_cons_zero, List.set_cons_succ])
          refine ByHand.take_no 16 63 rfl rfl (by kernel_rfl) (by kernel_rfl) (by kernel_rfl) (fun _ _ _ h => h) (by rfl) (by assumption) ?_
          (try simp only [Act.put, List.setIfInBounds_toArray, List.set_cons_zero, List.set_cons_succ])
          refine ByHand.take_no 17 64 rfl rfl (by kernel_rfl) (by kernel_rfl) (by kernel_rfl) (fun _ _ _ h => h) (by rfl) (by assumption) ?_
          (try simp only [Act.put, List.setIfInBounds_toArray, List.set_cons_zero, List.set_cons_succ])
          refine ByHand.take_yes (v := ?_) 18 65 rfl rfl (by kernel_rfl) (by kernel_rfl) (by kernel_rfl) (fun _ _ _ h => h) (by rfl) ?_ (by assumption) ?_
          rotate_left
          · intro w' hSw
            (try dsimp only at hSw)
            go_simp
            all_goals with_reducible rfl
          (try simp only [Act.put, List.setIfInBounds_toArray, List.set_cons_zero, List.set_cons_succ])
          refine ByHand.take_yes (v := ?_) 19 66 rfl rfl (by kernel_rfl) (by kernel_rfl) (by kernel_rfl) (fun _ _ _ h => h) (by rfl) ?_ (by assumption) ?_
          rotate_left
          · intro w' hSw
            (try dsimp only at hSw)
            go_simp
            all_goals with_reducible rfl
          (try simp only [Act.put, List.setIfInBounds_toArray, List.set_cons_zero, List.set_cons_succ])
          refine ByHand.take_no 20 67 rfl rfl (by kernel_rfl) (by kernel_rfl) (by kernel_rfl) (fun _ _ _ h => h) (by rfl) (by assumption) ?_
          (try simp only [Act.put, List.setIfInBounds_toArray, List.set_cons_zero, List.set_cons_succ])
          refine ByHand.take_no 21 68 rfl rfl (by kernel_rfl) (by kernel_rfl) (by kernel_rfl) (fun _ _ _ h => h) (by rfl) (by assumption) ?_
          (try simp only [Act.put, List.setIfInBounds_toArray, List.set_cons_zero, List.set_cons_succ])
          refine ByHand.take_no 22 69 rfl rfl (by kernel_rfl) (by kernel_rfl) (by kernel_rfl) (fun _ _ _ h => h) (by rfl) (by assumption) ?_
          (try simp only [Act.put, List.setIfInBounds_toArray, List.set_cons_zero, List.set_cons_succ])
          refine ByHand.take_yes (v := ?_) 23 70 rfl rfl (by kernel_rfl) (by kernel_rfl) (by kernel_rfl) (fun _ _ _ h => h) (by rfl) ?_ (by assumption) ?_
          rotate_left
          · intro w' hSw
            (try dsimp only at hSw)
            go_simp
            all_goals with_reducible rfl
          (try simp only [Act.put, List.setIfInBounds_toArray, List.set_cons_zero, List.set_cons_succ])
          refine wpAnyH_done (by kernel_rfl) ?_ _
          clear E0 E1 BBd CC
          go_wp2_with fail
          go_roundw
          case rel =>
            refine ⟨i + 1, _, by omega, by go_num, ?_, rfl, ?_, HWb.out.trans (R7.out.mono HWb.out.size)⟩
            · rw [HN.out, hT]
            · rw [HN.out]
              exact HBb.out.below R7.out
          case measure => simp [intOf]; omega
    · obtain rfl : i = 2 := by omega
      have t1 : decide (((2 : Nat) : Int) < 2) = false := rfl
      have HJ : Hid (∀ j, (bestK q 2).2 = some j → ∃ a, a ≤ 1 ∧ j = headJ q a ∧ okR (areaL q a) (numV (q.S.getD a none_)) = true ∧ numV (q.S.getD a none_) ≤ most) := fun j hj => best_some hj
      generalize (bestK q 2).2 = B at *
      generalize (bestK q 2).1 = T at *
      cases B with
      | none =>
        have hb : _ = Value.pointer none := HB.out
        subst hb
        go_wp2_with fail
        rw [HO.out]
        go_ret2
        exact ⟨HW.out, rfl⟩
      | some j =>
        obtain ⟨gj, rfl, hrow, hge⟩ := HB.out
        obtain ⟨a, ha, ej, k1, k2⟩ := HJ.out j rfl
        have HI0 := Lib.hid (JIn.head hl8 ha k1 k2)
        rw [← ej] at HI0
        have eb : j.area = a := by rw [ej]; rfl
        have er : j.recs = [] := by rw [ej]; rfl
        have HR := Lib.hid hrow
        clear k1 k2 ej HJ hrow HB
        have C4 : wr.cell? ⟨gj, 4, none⟩ = some (.int .i64 a) := (HR.out.cell (by decide)).trans (by rw [← eb]; rfl)
        have C4d : wr.drew.cell? ⟨gj, 4, none⟩ = some (.int .i64 a) := C4
        have SC : Hid (∀ W, Below w.heap.size w W → Calls Tryz.prog 55 #[.pointer (some ⟨g, 0, none⟩), .int .i64 (a : Nat)] W fun e w' => ∃ c, q.S.length ≤ c ∧ e = .returned (.slice (some ⟨r, startD q a, none⟩) (roomD q) (c - startD q a)) ∧ SameW W w') := fun W hb => rj_sectors q g r k m a W (HDOC.out W hb) HF.out hk8 ha
        have HTX : Hid (∀ c, q.S.length ≤ c → Txts w w.heap.size (.slice (some ⟨r, startD q a, none⟩) (roomD q) (c - startD q a)) (areaL q a)) := fun c hc => area_txts H.out ⟨hl8, hlm⟩ ha hc
        have HAL := Lib.hid (area_len (q := q) hl8 ha)
        go_wp2_with fail
        refine (SC.out wr HW.out).mono ?_
        rintro e w2 ⟨c2, hc2, rfl, hs⟩
        have HW2 := Lib.hid (below_same HW.out hs)
        have HR2 := Lib.hid (HR.out.of_block (congrArg (·[gj]?) hs.heap))
        have HL := Lib.hid (HTX.out c2 hc2)
        have hg2 : gj < w2.heap.size := HR2.out.lt
        clear hs HR C4 C4d HTX SC HW
        generalize hSA : startD q a = SA at *
        generalize hRR : roomD q = R at *
        go_wp2_with fail
        go_loopw [11] (fun t wr => ∃ (i : Nat) (jj : JSt) (V : Value), t = .int .i64 i ∧ i ≤ 5000 ∧ Hid (goK q (5000 - i) jj = goK q 5000 j) ∧ Hid (JIn q a i jj) ∧ Hid (wr.rowIs gj 85 7 (jcell g V jj)) ∧ Hid (wr.ownsRow w2.heap.size 9 1 V jj.recs.length (jj.recs.map Value.string)) ∧ Hid (Below w.heap.size w wr) ∧ w2.heap.size ≤ wr.heap.size) (fun t _ => 5000 - (intOf t).toNat)
        case atStart => exact ⟨0, j, .slice none 0 0, rfl, by decide, rfl, HI0.out, HR2.out, (by rw [er]; exact World.ownsRow_nil _ _ _ _), HW2.out, Nat.le_refl _⟩
        case round =>
          obtain ⟨i, jj, V, rfl, hi, HG, HI, HR, HV, HW, hsz⟩ := hrel
          by_cases hlt : i < 5000
          · have t1 : decide ((i : Int) < 5000) = true := decide_eq_true (by omega)
            have hln : (areaL q a).length = R := HAL.out.2.1
            have hu := HI.out.used
            have hrr := HI.out.recs
            have hnx := HI.out.next
            rw [hRR] at hu
            obtain ⟨A2, hrun, htx⟩ := drop_run HL.out hln.symm (show 1 ≤ jj.used by omega) hu
            have HT2 := Lib.hid htx
            have hlt0 : gj < wr.heap.size := HR.out.lt
            have C3 : wr.cell? ⟨gj, 3, none⟩ = some (.int .u32 (jj.next : Nat)) := HR.out.cell (by decide)
            have C5 : wr.cell? ⟨gj, 5, none⟩ = some (.int .i64 (jj.used : Nat)) := HR.out.cell (by decide)
            have HSB : Hid (∀ W, Below wr.heap.size wr W → W.cell? ⟨gj, 3, none⟩ = some (.int .u32 (jj.next : Nat)) ∧ W.cell? ⟨gj, 5, none⟩ = some (.int .i64 (jj.used : Nat))) := fun W hb => ⟨(hb.cell (p := ⟨gj, 3, none⟩) hlt0).trans C3, (hb.cell (p := ⟨gj, 5, none⟩) hlt0).trans C5⟩
            have HTX : Hid (∀ W, Below wr.heap.size wr W → Txts W W.heap.size (.slice (some A2) (R - jj.used) (c2 - SA - jj.used)) ((areaL q a).drop jj.used)) := fun W hb => (HT2.out.below (HW.out.trans (hb.mono HW.out.size))).more (Nat.le_trans HW.out.size hb.size)
            have RD : Hid (∀ W v, Txts W W.heap.size v ((areaL q a).drop jj.used) → Calls Tryz.prog 54 #[v, .int .u32 (jj.next : Nat)] W fun e w' => e = .returned (.agg #[.string (readS ((areaL q a).drop jj.used) jj.next), .int .i64 (readN ((areaL q a).drop jj.used) jj.next : Nat), .bool (okR ((areaL q a).drop jj.used) jj.next)]) ∧ Below W.heap.size W w') := fun W v hv => r_read _ _ _ _ hv (by omega)
            have HNX : Hid (nextOk q jj = okR ((areaL q a).drop jj.used) jj.next) := show _ = _ by unfold nextOk; rw [HI.out.area]
            have HNJ : Hid (nextJ q jj = ⟨jj.base, jj.recs ++ [readS ((areaL q a).drop jj.used) jj.next], jj.next + 1, jj.area, jj.used + readN ((areaL q a).drop jj.used) jj.next, jj.dead⟩) := show _ = _ by unfold nextJ; rw [HI.out.area]
            have hrn : okR ((areaL q a).drop jj.used) jj.next = true → readN ((areaL q a).drop jj.used) jj.next ≤ 5000 := fun h => by
              have := (ok_len h).2
              rw [List.length_drop, hln] at this
              have := HAL.out.1
              omega
            generalize (areaL q a).drop jj.used = AL at *
            clear htx C3 C5
            generalize hy1 : readS AL jj.next = y1 at *
            generalize hy2 : readN AL jj.next = y2 at *
            generalize hy3 : okR AL jj.next = y3 at *
            have B0 : Hid (Below wr.heap.size wr wr.drew) := show Below _ _ _ from ⟨rfl, rfl, rfl, Nat.le_refl _, fun _ _ => rfl⟩
            go_upto_region 22 with fail
            go_cut [12] (fun b wx => ∃ bx, b = .pointer (some ⟨bx, 0, none⟩) ∧ wr.heap.size ≤ bx ∧ Hid (Below wr.heap.size wr wx) ∧ wx.heap[bx]? = some (.cells #[.string y1, .int .i64 (y2 : Nat), .bool y3] 90 (0, 0)))
            case first =>
              refine wp_region_held_drew (S := (fun w' => w'.cell? ⟨gj, 3, none⟩ = some (.int .u32 (jj.next : Nat)) ∧ w'.cell? ⟨gj, 5, none⟩ = some (.int .i64 (jj.used : Nat)))) (by kernel_rfl) (HSB.out _ B0.out) (fun hHeld => ?_)
              generalize wr.drew = x0 at *
              refine ByHand.take_yes (v := ?_) 0 94 rfl rfl (by kernel_rfl) (by kernel_rfl) (by kernel_rfl) (fun _ _ _ h => h) (by rfl) ?_ (by assumption) ?_
              rotate_left
              · intro w' hSw
                (try dsimp only at hSw)
                go_simp
                all_goals with_reducible rfl
              (try simp only [Act.put, List.setIfInBounds_toArray, List.set_cons_zero, List.set_cons_succ])
              refine ByHand.take_yes (v := ?_) 1 95 rfl rfl (by kernel_rfl) (by kernel_rfl) (by kernel_rfl) (fun _ _ _ h => h) (by rfl) ?_ (by assumption) ?_
              rotate_left
              · intro w' hSw
                (try dsimp only at hSw)
                go_simp
                all_goals with_reducible rfl
              (try simp only [Act.put, List.setIfInBounds_toArray, List.set_cons_zero, List.set_cons_succ])
              refine ByHand.take_yes (v := ?_) 2 96 rfl rfl (by kernel_rfl) (by kernel_rfl) (by kernel_rfl) (fun _ _ _ h => h) (by rfl) ?_ (by assumption) ?_
              rotate_left
              · intro w' hSw
                (try dsimp only at hSw)
                go_simp
                all_goals with_reducible rfl
              (try simp only [Act.put, List.setIfInBounds_toArray, List.set_cons_zero, List.set_cons_succ])
              refine ByHand.take_yes (v := ?_) 3 97 rfl rfl (by kernel_rfl) (by kernel_rfl) (by kernel_rfl) (fun _ _ _ h => h) (by rfl) ?_ (by assumption) ?_
              rotate_left
              · intro w' hSw
                (try dsimp only at hSw)
                go_simp
                all_goals with_reducible rfl
              (try simp only [Act.put, List.setIfInBounds_toArray, List.set_cons_zero, List.set_cons_succ])
              refine ByHand.take_yes (v := ?_) 4 98 rfl rfl (by kernel_rfl) (by kernel_rfl) (by kernel_rfl) (fun _ _ _ h => h) (by rfl) ?_ (by assumption) ?_
              rotate_left
              · intro w' hSw
                (try dsimp only at hSw)
                go_simp
                all_goals with_reducible rfl
              (try simp only [Act.put, List.setIfInBounds_toArray, List.set_cons_zero, List.set_cons_succ])
              refine ByHand.take_yes (v := ?_) 5 99 rfl rfl (by kernel_rfl) (by kernel_rfl) (by kernel_rfl) (fun _ _ _ h => h) (by rfl) ?_ (by assumption) ?_
              rotate_left
              · intro w' hSw
                (try dsimp only at hSw)
                go_simp
                all_goals with_reducible rfl
              (try simp only [Act.put, List.setIfInBounds_toArray, List.set_cons_zero, List.set_cons_succ])
              refine ByHand.take_yes (v := ?_) 6 100 rfl rfl (by kernel_rfl) (by kernel_rfl) (by kernel_rfl) (fun _ _ _ h => h) (by rfl) ?_ (by assumption) ?_
              rotate_left
              · intro w' hSw
                (try dsimp only at hSw)
                go_simp
                all_goals with_reducible rfl
              (try simp only [Act.put, List.setIfInBounds_toArray, List.set_cons_zero, List.set_cons_succ])
              refine ByHand.take_yes (v := ?_) 7 101 rfl rfl (by kernel_rfl) (by kernel_rfl) (by kernel_rfl) (fun _ _ _ h => h) (by rfl) ?_ (by assumption) ?_
              rotate_left
              · intro w' hSw
                (try dsimp only at hSw)
                go_simp
                all_goals with_reducible rfl
              (try simp only [Act.put, List.setIfInBounds_toArray, List.set_cons_zero, List.set_cons_succ])
              refine ByHand.take_yes (v := ?_) 8 102 rfl rfl (by kernel_rfl) (by kernel_rfl) (by kernel_rfl) (fun _ _ _ h => h) (by rfl) ?_ (by assumption) ?_
              rotate_left
              · intro w' hSw
                (try dsimp only at hSw)
                go_simp
                all_goals with_reducible rfl
              (try simp only [Act.put, List.setIfInBounds_toArray, List.set_cons_zero, List.set_cons_succ])
              refine ByHand.take_yes (v := ?_) 9 103 rfl rfl (by kernel_rfl) (by kernel_rfl) (by kernel_rfl) (fun _ _ _ h => h) (by rfl) ?_ (by assumption) ?_
              rotate_left
              · intro w' hSw
                (try dsimp only at hSw)
                go_simp
                all_goals with_reducible rfl
              (try simp only [Act.put, List.setIfInBounds_toArray, List.set_cons_zero, List.set_cons_succ])
              refine wpAnyH_ready (rs := [10, 11]) (by kernel_rfl) (by simp) (AllReadyH.cons rfl (fun K hK => ?_) (AllReadyH.cons rfl (fun K hK => ?_) (AllReadyH.nil)))
              · go_simp
                (go_at_call 54; refine (RD.out _ _ (HTX.out _ B0.out)).mono ?_; rintro e x1 ⟨rfl, hb⟩; have B1 : Hid (Below wr.heap.size wr x1) := B0.out.trans ((show Below x0.heap.size x0 x1 from hb).mono B0.out.size); have hbo : Below x0.heap.size x0 x1 := hb; clear hb)
                go_wp2_with fail
                refine hK.out _ _ (HSB.out _ B1.out) (fun hHeld => ?_)
                clear hK K
                (try simp only [Act.put, List.setIfInBounds_toArray, List.set_cons_zero, List.set_cons_succ])
                refine wpAnyH_ready (rs := [11]) (by kernel_rfl) (by simp) (AllReadyH.cons rfl (fun K hK => ?_) (AllReadyH.nil))
                go_simp
                obtain ⟨bx, x2, e1, e2, hB, hb⟩ := box_new x1 #[.string ⟨#[]⟩, .int .i64 0, .bool false] 90
                rw [← e2, ← e1]
                have B2 : Hid (Below wr.heap.size wr x2) := B1.out.trans (hb.mono B1.out.size)
                have lg : wr.heap.size ≤ bx := by rw [e1]; exact B1.out.size
                have lb : bx < x2.heap.size := by rw [e1, e2]; simp
                clear e1 e2 hb
                refine hK.out _ _ (HSB.out _ B2.out) (fun hHeld => ?_)
                clear hK K
                (try simp only [Act.put, List.setIfInBounds_toArray, List.set_cons_zero, List.set_cons_succ])
                refine wpAnyH_ready (rs := [12]) (by kernel_rfl) (by simp) (AllReadyH.cons rfl (fun K hK => ?_) (AllReadyH.nil))
                rw [if_pos (by rfl)]
                refine rstore_none 90 (.tmp 12) (.tmp 104) (by rfl) bx #[.string y1, .int .i64 (y2 : Nat), .bool y3] (by rfl) (by rfl) 90 #[.string ⟨#[]⟩, .int .i64 0, .bool false] hB (got_info _ _ _) (by rfl) (got_one _ _ _) rfl ?_
                refine hK.out _ _ (HSB.out _ (below_setRow B2.out lg _)) (fun hHeld => ?_)
                clear hK K
                refine wpAnyH_done (by kernel_rfl) ?_ _
                have HBf := Lib.hid (setRow_heap x2 bx _ #[.string y1, .int .i64 (y2 : Nat), .bool y3] _ _ hB)
                have Bf := Lib.hid (below_setRow B2.out lg #[.string y1, .int .i64 (y2 : Nat), .bool y3])
                generalize x2.setRow bx #[.string y1, .int .i64 (y2 : Nat), .bool y3] = x9 at *
                go_wp2_with fail
                go_meet
                exact ⟨bx, rfl, lg, Bf, HBf.out⟩
              · go_simp
                obtain ⟨bx, x1, e1, e2, hB, hb⟩ := box_new x0 #[.string ⟨#[]⟩, .int .i64 0, .bool false] 90
                rw [← e2, ← e1]
                have B1 : Hid (Below wr.heap.size wr x1) := B0.out.trans (hb.mono B0.out.size)
                have lg : wr.heap.size ≤ bx := by rw [e1]; exact B0.out.size
                have lb : bx < x1.heap.size := by rw [e1, e2]; simp
                clear e1 e2 hb
                refine hK.out _ _ (HSB.out _ B1.out) (fun hHeld => ?_)
                clear hK K
                (try simp only [Act.put, List.setIfInBounds_toArray, List.set_cons_zero, List.set_cons_succ])
                refine wpAnyH_ready (rs := [10]) (by kernel_rfl) (by simp) (AllReadyH.cons rfl (fun K hK => ?_) (AllReadyH.nil))
                go_simp
                (go_at_call 54; refine (RD.out _ _ (HTX.out _ B1.out)).mono ?_; rintro e x2 ⟨rfl, hb⟩; have B2 : Hid (Below wr.heap.size wr x2) := B1.out.trans ((show Below x1.heap.size x1 x2 from hb).mono B1.out.size); have hbo : Below x1.heap.size x1 x2 := hb; clear hb)
                go_wp2_with fail
                refine hK.out _ _ (HSB.out _ B2.out) (fun hHeld => ?_)
                clear hK K
                (try simp only [Act.put, List.setIfInBounds_toArray, List.set_cons_zero, List.set_cons_succ])
                replace hB := (hbo.block bx lb).trans hB
                refine wpAnyH_ready (rs := [12]) (by kernel_rfl) (by simp) (AllReadyH.cons rfl (fun K hK => ?_) (AllReadyH.nil))
                rw [if_pos (by rfl)]
                refine rstore_none 90 (.tmp 12) (.tmp 104) (by rfl) bx #[.string y1, .int .i64 (y2 : Nat), .bool y3] (by rfl) (by rfl) 90 #[.string ⟨#[]⟩, .int .i64 0, .bool false] hB (got_info _ _ _) (by rfl) (got_one _ _ _) rfl ?_
                refine hK.out _ _ (HSB.out _ (below_setRow B2.out lg _)) (fun hHeld => ?_)
                clear hK K
                refine wpAnyH_done (by kernel_rfl) ?_ _
                have HBf := Lib.hid (setRow_heap x2 bx _ #[.string y1, .int .i64 (y2 : Nat), .bool y3] _ _ hB)
                have Bf := Lib.hid (below_setRow B2.out lg #[.string y1, .int .i64 (y2 : Nat), .bool y3])
                generalize x2.setRow bx #[.string y1, .int .i64 (y2 : Nat), .bool y3] = x9 at *
                go_wp2_with fail
                go_meet
                exact ⟨bx, rfl, lg, Bf, HBf.out⟩
            case rest =>
              obtain ⟨bx, rfl, hbx, hBB, hbo⟩ := hcut
              have HBX := Lib.hid hbo
              have HW3 := Lib.hid (HW.out.trans (hBB.out.mono HW.out.size))
              have HR3 := Lib.hid (HR.out.of_block (hBB.out.block gj hlt0))
              have HV3 := Lib.hid (rown_still HV.out hBB.out)
              have hs3 : w2.heap.size ≤ wc.heap.size := Nat.le_trans hsz hBB.out.size
              have b0 : wc.cell? ⟨bx, 0, none⟩ = some (.string y1) := rcell_of hbo
              have b1 : wc.cell? ⟨bx, 1, none⟩ = some (.int .i64 (y2 : Nat)) := rcell_of hbo
              have b2 : wc.cell? ⟨bx, 2, none⟩ = some (.bool y3) := rcell_of hbo
              have hob : V.ownBlock ≠ some bx := fun e => by
                have := (HV.out.lt bx e).2
                omega
              have hlb : bx < wc.heap.size := World.block_lt_of_cell? wc _ b0
              clear RD HTX HSB HT2 hrun HR HV HW hsz hbo B0 hBB
              cases y3 with
              | false =>
                go_wp2_with fail
                go_ret2
                rw [HO.out, ← HG.out, goK_no HNX.out]
                exact ⟨HW3.out, gj, rfl, jdoc_own (HDOC.out wc HW3.out) HR3.out HV3.out hg2 (by have := H.out.lt; omega) (fun i hi => by have := HA.out i hi; omega), hge⟩
              | true =>
                obtain ⟨A, cV, rfl⟩ := Slice.own_slice HV3.out
                obtain ⟨j0, hi0, hi1, hi2, hi3⟩ := Frame.str_info
                have HJ0 := Lib.hid hi0
                have HZ0 := Lib.hid hi1
                have HZ1 := Lib.hid hi2
                have HZ2 := Lib.hid hi3
                clear hi0 hi1 hi2 hi3
                have hl3 := HR3.out.lt
                have hy2m := hrn rfl
                have hlenq := HAL.out.1
                have i1 : IntKind.i64.wrap ((jj.used : Int) + (y2 : Int)) = (jj.used : Int) + (y2 : Int) := IntWalk.i64_in _ (by omega)
                have i2 : IntKind.u32.wrap ((jj.next : Int) + 1) = (jj.next : Int) + 1 := IntWalk.u32_in _ (by omega)
                have C2 : wc.cell? ⟨gj, 2, none⟩ = some (.slice A jj.recs.length cV) := HR3.out.cell (by decide)
                have OWN1 : Hid (wc.drew.ownsRow w2.heap.size 9 1 (.slice A jj.recs.length cV) jj.recs.length (jj.recs.map Value.string)) := World.ownsRow.drew HV3.out
                have HRW : Hid (wc.drew.rowIs gj 85 7 (jcell g (.slice A jj.recs.length cV) jj)) := World.rowIs.drew HR3.out
                have BW : Hid (Below w.heap.size w wc.drew) := show Below _ _ _ from ⟨HW3.out.os, HW3.out.tape, HW3.out.output, HW3.out.size, HW3.out.block⟩
                have HBD : Hid (wc.drew.heap[bx]? = some (.cells #[.string y1, .int .i64 (y2 : Nat), .bool true] 90 (0, 0))) := HBX.out
                have hs4 : w2.heap.size ≤ wc.drew.heap.size := hs3
                go_wp2_with fail
                go_region_law
                  (refine step_one (W := wc.drew) rfl (.tmp 112) (.tmp 115) _ rfl w2.heap.size 9 j0 (.string ⟨#[]⟩) 16 Tryz.underlying50 HJ0.out HZ0.out HZ1.out HZ2.out rfl 9 (.string y1) rfl (.slice A jj.recs.length cV) jj.recs.length _ (by rfl) OWN1.out _ (by rfl) (by simp) (by unfold maxLen; omega) (by omega) hs4 ?_
                   intro v' w' ho hgr
                   obtain ⟨A2, c5, rfl⟩ := Slice.own_slice ho
                   have hnb : (Value.slice A jj.recs.length cV).ownBlock ≠ some gj := fun e => by
                     have := (OWN1.out.lt gj e).1
                     omega
                   have R2 := HRW.out.of_block (hgr.block gj HRW.out.lt (fun e => hnb e.symm))
                   have c0 : w'.cell? ⟨gj, 2, none⟩ = some (.slice A jj.recs.length cV) := R2.cell (by decide)
                   have c1 : w'.cell? ⟨gj, 5, none⟩ = some (.int .i64 (jj.used : Nat)) := R2.cell (by decide)
                   have c3 : w'.cell? ⟨gj, 3, none⟩ = some (.int .u32 (jj.next : Nat)) := R2.cell (by decide)
                   have f2 := R2.frozen 2
                   have f3 := R2.frozen 3
                   have f5 := R2.frozen 5
                   have l0 := R2.lt
                   have HR4 := Lib.hid R2
                   have HO4 := Lib.hid ho
                   have HB4 := Lib.hid (show Below w.heap.size w w' from below_row (a := w) BW.out (by omega) OWN1.out hgr)
                   have HS4 := Lib.hid (Nat.le_trans hs4 hgr.size)
                   have HBX4 : Hid (w'.heap[bx]? = some (.cells #[.string y1, .int .i64 (y2 : Nat), .bool true] 90 (0, 0))) := (hgr.block bx hlb (fun e => hob e.symm)).trans HBD.out
                   have HLB4 : Hid (bx < w'.heap.size) := show _ < _ from Nat.lt_of_lt_of_le hlb hgr.size
                   have d1 : w'.cell? ⟨bx, 1, none⟩ = some (.int .i64 (y2 : Nat)) := rcell_of HBX4.out
                   clear R2 ho hgr hnb)
                all_goals
                  have HR6 := Lib.hid (HR4.out.set 2 (.slice A2 (jj.recs.length + 1) c5))
                  have HO6 := Lib.hid (ownsRow_setCell_below HO4.out (a := ⟨gj, 2, none⟩) hg2 (Value.slice A2 (jj.recs.length + 1) c5))
                  have HB6 := Lib.hid (HB4.out.setCell (p := ⟨gj, 2, none⟩) hge (Value.slice A2 (jj.recs.length + 1) c5))
                  have HS6 : Hid (w2.heap.size ≤ (w'.setCell ⟨gj, 2, none⟩ (Value.slice A2 (jj.recs.length + 1) c5)).heap.size) := show _ ≤ _ by rw [nblk_setCell]; exact HS4.out
                  have HX6 := Lib.hid ((box_apart (i := 2) HLB4.out (show bx ≠ gj by omega) (Value.slice A2 (jj.recs.length + 1) c5)).trans HBX4.out)
                  clear HR4 HO4 HB4 HS4 HBX4 HLB4 HBD HBX HRW OWN1 BW HR3 HV3 HW3 C2 c0 c1 c3 d1 f2 f3 f5 l0 b0 b1 b2 hob
                  generalize World.setCell w' ⟨gj, 2, none⟩ (Value.slice A2 (jj.recs.length + 1) c5) = x6 at *
                  have c16 : x6.cell? ⟨gj, 5, none⟩ = some (.int .i64 (jj.used : Nat)) := HR6.out.cell (by decide)
                  have f16 := HR6.out.frozen 5
                  have l16 := HR6.out.lt
                  have d16 : x6.cell? ⟨bx, 1, none⟩ = some (.int .i64 (y2 : Nat)) := rcell_of HX6.out
                  go_upto_region 25 with fail
                  go_region
                  have HR7 := Lib.hid (World.rowIs.drew (HR6.out.set 5 (.int .i64 ((jj.used : Int) + (y2 : Int)))))
                  have HO7 := Lib.hid (World.ownsRow.drew (ownsRow_setCell_below HO6.out (a := ⟨gj, 5, none⟩) hg2 (Value.int .i64 ((jj.used : Int) + (y2 : Int)))))
                  have HB7 : Hid (Below w.heap.size w (x6.setCell ⟨gj, 5, none⟩ (Value.int .i64 ((jj.used : Int) + (y2 : Int)))).drew) := show Below _ _ _ from below_drew (HB6.out.setCell (p := ⟨gj, 5, none⟩) hge (Value.int .i64 ((jj.used : Int) + (y2 : Int)))) 1
                  have HS7 : Hid (w2.heap.size ≤ (x6.setCell ⟨gj, 5, none⟩ (Value.int .i64 ((jj.used : Int) + (y2 : Int)))).drew.heap.size) := show _ ≤ (x6.setCell ⟨gj, 5, none⟩ (Value.int .i64 ((jj.used : Int) + (y2 : Int)))).heap.size by rw [nblk_setCell]; exact HS6.out
                  clear HR6 HO6 HB6 HS6 HX6 c16 f16 l16 d16 i1
                  generalize (World.setCell x6 ⟨gj, 5, none⟩ (Value.int .i64 ((jj.used : Int) + (y2 : Int)))).drew = x7 at *
                  have c37 : x7.cell? ⟨gj, 3, none⟩ = some (.int .u32 (jj.next : Nat)) := HR7.out.cell (by decide)
                  have f37 := HR7.out.frozen 3
                  have l37 := HR7.out.lt
                  have HR8 : Hid ((x7.setCell ⟨gj, 3, none⟩ (.int .u32 ((jj.next : Int) + 1))).rowIs gj 85 7 (jcell g (.slice A2 (jj.recs.length + 1) c5) (nextJ q jj))) := (HR7.out.set 3 (.int .u32 ((jj.next : Int) + 1))).congr (fun k hk => by
                    rw [HNJ.out]
                    match k, hk with
                    | 0, _ | 1, _ | 2, _ | 3, _ | 4, _ | 5, _ | 6, _ => rfl)
                  have HO8 : Hid ((x7.setCell ⟨gj, 3, none⟩ (.int .u32 ((jj.next : Int) + 1))).ownsRow w2.heap.size 9 1 (.slice A2 (jj.recs.length + 1) c5) (nextJ q jj).recs.length ((nextJ q jj).recs.map Value.string)) := by
                    have := ownsRow_setCell_below HO7.out (a := ⟨gj, 3, none⟩) hg2 (Value.int .u32 ((jj.next : Int) + 1))
                    rw [show jj.recs.map Value.string ++ [Value.string y1] = (jj.recs ++ [y1]).map Value.string by simp] at this
                    show World.ownsRow _ _ _ _ _ _ _
                    rw [HNJ.out]
                    simpa using this
                  have HB8 := Lib.hid (HB7.out.setCell (p := ⟨gj, 3, none⟩) hge (Value.int .u32 ((jj.next : Int) + 1)))
                  have HS8 : Hid (w2.heap.size ≤ (x7.setCell ⟨gj, 3, none⟩ (.int .u32 ((jj.next : Int) + 1))).heap.size) := show _ ≤ _ by rw [nblk_setCell]; exact HS7.out
                  clear HR7 HO7 HB7 HS7
                  go_wp2_with fail
                  go_roundw
                  case rel => exact ⟨i + 1, nextJ q jj, .slice A2 (jj.recs.length + 1) c5, by go_num, by omega, (by rw [← goK_yes HNX.out hlt]; exact HG.out), HI.out.step hl8 ha HNX.out, HR8.out, HO8.out, HB8.out, HS8.out⟩
                  case measure =>
                    clear i2
                    simp [intOf]
                    omega
          · obtain rfl : i = 5000 := by omega
            have t1 : decide (((5000 : Nat) : Int) < 5000) = false := rfl
            go_wp2_with fail
            go_ret2
            rw [HO.out, ← HG.out]
            exact ⟨HW.out, gj, rfl, jdoc_own (HDOC.out wr HW.out) HR.out HV.out hg2 (by have := H.out.lt; omega) (fun i hi => by have := HA.out i hi; omega), hge⟩

/-- What Open tells of a disk that does not fit. -/
theorem rj_open_unfit (q : DSt) (g r k m : Nat) (w : World) (h : DocAt w g r q) (hf : q.Fit k m) (hfit : fitsD q = false) :
    Calls Tryz.prog 20 #[.pointer (some ⟨g, 0, none⟩)] w (ODid AV (none, 1) g r q w) := by
  have FT := Lib.hid (rj_fits q g r k m w h hf)
  rw [hfit] at FT
  clear h hf hfit
  go_enter Tryz.func20, Tryz.ntmps20
  go_wp2_with fail
  refine FT.out.mono ?_
  rintro e w1 ⟨rfl, rfl⟩
  go_wp2_with fail
  go_ret2
  exact ⟨Below.refl _ _, rfl⟩
theorem rj_open_dead (q : DSt) (g r k m : Nat) (w : World) (h : DocAt w g r q) (hf : q.Fit k m) (hfit : fitsD q = true) (hd : q.dead = true) :
    Calls Tryz.prog 20 #[.pointer (some ⟨g, 0, none⟩)] w (ODid AV (none, 74) g r q w) := by
  have FT := Lib.hid (rj_fits q g r k m w h hf)
  rw [hfit] at FT
  obtain ⟨c, -, -, a1, -⟩ := doc_cells h
  rw [hd] at a1
  clear h hf hfit
  go_enter Tryz.func20, Tryz.ntmps20
  go_wp2_with fail
  refine FT.out.mono ?_
  rintro e w1 ⟨rfl, rfl⟩
  go_wp2_with fail
  go_ret2
  exact ⟨Below.refl _ _, rfl⟩
/-- Open of the document's own journal. -/
theorem rj_open (q : DSt) (g r k m : Nat) (w : World) (h : DocAt w g r q) (hf : q.Fit k m) (hA : ∀ i, AV i → i < w.heap.size) :
    Calls Tryz.prog 20 #[.pointer (some ⟨g, 0, none⟩)] w (ODid AV (opened q) g r q w) := by
  by_cases hfit : fitsD q = false
  · rw [show opened q = (none, 1) by unfold opened; rw [if_pos hfit]]
    exact rj_open_unfit q g r k m w h hf hfit
  · have hfit' : fitsD q = true := by rwa [Bool.not_eq_false] at hfit
    by_cases hd : q.dead = true
    · rw [show opened q = (none, 74) by unfold opened; rw [if_neg hfit, if_pos hd]]
      exact rj_open_dead q g r k m w h hf hfit' hd
    · exact open_best q g r k m w h hf hfit' (by rwa [Bool.not_eq_true] at hd) hA
end Go.Proofs.YtndanhacmfhlaaaGreat.Jour
