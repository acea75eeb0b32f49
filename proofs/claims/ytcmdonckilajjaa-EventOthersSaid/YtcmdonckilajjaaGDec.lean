/- The document's own Decode. The document's own Decode where there are 39 bytes. The document's own Open. -/
import Derived.Test.YtcmdonckilajjaaGCmd
import Derived.Test.YtcmdonckilajjaaGPack
import Derived.Deep.CutBlock
import Derived.Laws.CopyOwn
namespace Go.Proofs.Ytcmdonckilajjaa.Event
open Go.ChangeShapes Go.WideShapes Go.ChangeAt Go.RowKit Fl Date Cal Pack

theorem u64_info : (Try.prog.info? 69).map (fun i => (i.zero, i.size, i.bytes)) = some (some (.int .u64 0), 1, 8) := by kernel_rfl
/-- A row of numbers, of which those ahead of j are told. -/
def told (b : ByteArray) (j i : Nat) : Value := .int .u64 ((if i < j then ovl b i else 0 : Nat) : Int)
theorem told_set {w : World} {g j : Nat} {T : TypeId} {b : ByteArray} (h : w.rowIs g T 11 (told b j)) : (w.setCell ⟨g, j, none⟩ (.int .u64 (ovl b j : Nat))).rowIs g T 11 (told b (j + 1)) :=
  (h.set j _).congr fun i _ => by
    unfold told
    by_cases e : i = j
    · subst e; rw [if_pos rfl, if_pos (by omega)]
    · rw [if_neg e]
      by_cases hi : i < j
      · rw [if_pos hi, if_pos (by omega)]
      · rw [if_neg hi, if_neg (by omega)]
theorem Nums.grown {w w' : World} {g : Nat} {k : IntKind} {l : List Nat} {r : Nat} (h : Nums w g k l) (hg : w.grownBy w' (some r)) (hr : g ≠ r) : Nums w' g k l :=
  ⟨Nat.lt_of_lt_of_le h.1 hg.size, fun i hi => (World.cell?_of_block (w := w) (hg.block g h.1 (fun e => hr (by injection e)))).trans (h.2 i hi)⟩
theorem ro_first {w : World} {g : Nat} {b : ByteArray} (h : Boxd w g #[.string b, .int .i64 0, .bool false] 65) (hl : b.size ≤ 200000) : RO w g (ost b 0) := by
  refine ⟨⟨_, h, rfl, fun i hi => ?_⟩, Nat.zero_le _, hl⟩
  match i, hi with
  | 0, _ => rfl
  | 1, _ => rfl
  | 2, _ => rfl
theorem Boxd.lt {w : World} {g : Nat} {C : Array Value} {T : TypeId} (h : Boxd w g C T) : g < w.heap.size := by
  rcases Nat.lt_or_ge g w.heap.size with hlt | hge
  · exact hlt
  · unfold Boxd at h; rw [Array.getElem?_eq_none hge] at h; cases h
theorem Boxd.grown {w w' : World} {g r : Nat} {C : Array Value} {T : TypeId} (h : Boxd w g C T) (hg : w.grownBy w' (some r)) (hr : g ≠ r) : Boxd w' g C T :=
  (hg.block g h.lt (fun e => hr (by injection e))).trans h
theorem held_cells {P : Program} {f : FuncId} {args : Array Value} {v a c : Value} {wr W : World} {gn : Nat}
    (hS : W.cell? ⟨gn, 5, none⟩ = some a ∧ W.cell? ⟨gn, 6, none⟩ = some c ∧ Below wr.heap.size wr W) (hc : Calls P f args W fun e w' => e = .returned v ∧ Below W.heap.size W w') :
    Calls P f args W fun e w' => e = .returned v ∧ (w'.cell? ⟨gn, 5, none⟩ = some a ∧ w'.cell? ⟨gn, 6, none⟩ = some c ∧ Below wr.heap.size wr w') ∧ Below W.heap.size W w' := by
  have l := World.block_lt_of_cell? W _ hS.1
  exact hc.mono fun e w' ⟨he, hb⟩ => ⟨he, ⟨(hb.cell (p := ⟨gn, 5, none⟩) l).trans hS.1, (hb.cell (p := ⟨gn, 6, none⟩) l).trans hS.2.1, hS.2.2.trans (hb.mono hS.2.2.size)⟩, hb⟩
theorem cells_new {v a : Value} {wr W W' : World} {gn : Nat} (hS : W.cell? ⟨gn, 5, none⟩ = some v ∧ W.cell? ⟨gn, 6, none⟩ = some a ∧ Below wr.heap.size wr W) (hb : Below W.heap.size W W') :
    W'.cell? ⟨gn, 5, none⟩ = some v ∧ W'.cell? ⟨gn, 6, none⟩ = some a ∧ Below wr.heap.size wr W' := by
  have l := World.block_lt_of_cell? W _ hS.1
  exact ⟨(hb.cell (p := ⟨gn, 5, none⟩) l).trans hS.1, (hb.cell (p := ⟨gn, 6, none⟩) l).trans hS.2.1, hS.2.2.trans (hb.mono hS.2.2.size)⟩
theorem bx_set {w : World} {g i : Nat} {v : Value} {C D : Array Value} {T : TypeId} (h : Boxd w g C T) (hd : C.setIfInBounds i v = D) : Boxd (w.setCell ⟨g, i, none⟩ v) g D T := by
  unfold Boxd at *
  subst hd
  simp [World.setCell, Array.getElem?_modify, h]
theorem bx_free {w : World} {g i : Nat} {C : Array Value} {T : TypeId} (h : Boxd w g C T) : w.frozen? ⟨g, i, none⟩ = false := by
  unfold Boxd at h
  simp [World.frozen?, h]
theorem bx_other {w : World} {g r i : Nat} {v : Value} {C : Array Value} {T : TypeId} (h : Boxd w g C T) (hr : g ≠ r) : Boxd (w.setCell ⟨r, i, none⟩ v) g C T := by
  unfold Boxd at *
  rw [Deep.blk_setCell_other _ _ _ _ hr, h]
theorem real_set {v a : Value} {wr W : World} {gn G H : Nat} {X : Array Value} {T U : TypeId} (h8 : Boxd W G #[.float .f64 0, .bool false] T) (h9 : Boxd W H X U) (ne : G ≠ H)
    (hS : W.cell? ⟨gn, 5, none⟩ = some v ∧ W.cell? ⟨gn, 6, none⟩ = some a ∧ Below wr.heap.size wr W) (le : wr.heap.size ≤ G) (lgn : gn < wr.heap.size) (f : Nat) (q : Bool) :
    W.cell? ⟨G, 0, none⟩ = some (.float .f64 0) ∧ W.cell? ⟨G, 1, none⟩ = some (.bool false) ∧ W.frozen? ⟨G, 0, none⟩ = false ∧ W.frozen? ⟨G, 1, none⟩ = false ∧
    Boxd ((W.setCell ⟨G, 0, none⟩ (.float .f64 f)).setCell ⟨G, 1, none⟩ (.bool q)) G #[.float .f64 f, .bool q] T ∧ Boxd ((W.setCell ⟨G, 0, none⟩ (.float .f64 f)).setCell ⟨G, 1, none⟩ (.bool q)) H X U ∧
    (((W.setCell ⟨G, 0, none⟩ (.float .f64 f)).setCell ⟨G, 1, none⟩ (.bool q)).cell? ⟨gn, 5, none⟩ = some v ∧ ((W.setCell ⟨G, 0, none⟩ (.float .f64 f)).setCell ⟨G, 1, none⟩ (.bool q)).cell? ⟨gn, 6, none⟩ = some a ∧ Below wr.heap.size wr ((W.setCell ⟨G, 0, none⟩ (.float .f64 f)).setCell ⟨G, 1, none⟩ (.bool q))) := by
  have hgn : gn ≠ G := by omega
  have e : ((W.setCell ⟨G, 0, none⟩ (.float .f64 f)).setCell ⟨G, 1, none⟩ (.bool q)).heap[gn]? = W.heap[gn]? := by
    rw [Deep.blk_setCell_other _ _ _ _ hgn, Deep.blk_setCell_other _ _ _ _ hgn]
  exact ⟨h8.cell, h8.cell, bx_free h8, bx_free h8, bx_set (bx_set h8 rfl) rfl, bx_other (bx_other h9 ne.symm) ne.symm,
    (World.cell?_of_block e).trans hS.1, (World.cell?_of_block e).trans hS.2.1, (hS.2.2.setCell (p := ⟨G, 0, none⟩) le _).setCell (p := ⟨G, 1, none⟩) le _⟩
attribute [local go_sem] run_store_float'
theorem results_two {P : Program} {fn : Func} {p q : Tmp} {ty : TypeId} (h : fn.results = #[.cell p ty, .tmp q]) (tmps : Array Value) (w : World) (g : Nat) (t : TypeId) (cs : Array Value) (fr : Nat × Nat) (d : TypeDesc) (v : Value)
    (hp : tmps.getD p undef = .pointer (some ⟨g, 0, none⟩)) (hg : w.heap[g]? = some (.cells cs t fr))
    (hu : P.underlying ty = some d) (hd : (match d with | .struct _ | .array _ _ => true | _ => false) = true) (hi : (P.info? ty).map (·.size) = some cs.size) (hq : tmps.getD q undef = v) :
    (results fn tmps).run P w = .ok (.tuple #[.agg cs, v]) w := by
  have hp' : tmps[p]?.getD undef = .pointer (some ⟨g, 0, none⟩) := by simpa using hp
  have hq' : tmps[q]?.getD undef = v := by simpa using hq
  simp [results, h, hp', hq', asAddr, run_loadVar_row w g t ty cs fr d hg hu hd hi]
theorem ev0_one : ev0.cells.all (·.oneCell') = true := by simp [Ev.cells, Value.oneCell']
theorem store_row0 {P : Program} {ops : Array Oper} {rest : List Oper} {o : Oper} {a : Act} {w : World} {Q : Exit → Act → World → Prop} (hgd : o.guard = none) (ty : TypeId) (x y : Operand) (ho : o.op = .store ty x y) (hd : o.dst = none)
    (g : Nat) (cells : Array Value) (hx : a.eval x = .pointer (some ⟨g, 0, none⟩)) (hy : a.eval y = .agg cells)
    (t : TypeId) (old : Array Value) (hg : w.heap[g]? = some (.cells old t (0, 0))) (hi : (P.info? ty).map (·.size) = some cells.size)
    (hold : old.size = cells.size) (h1 : cells.all (·.oneCell') = true)
    (h : wpList P ops Q rest a (w.setRow g cells)) : wpList P ops Q (o :: rest) a w :=
  wpList_store_row hgd ty x y ho g cells hx hy t old hg hi hold h1 (by rw [hd]; exact h)
/-- The head of a round: the opener, the row of numbers, the sizes, the result's variable. -/
structure Reads (b : ByteArray) (w : World) (g0 go gn gs j : Nat) (wr : World) : Prop where
  ro : RO wr go (ost b j)
  row : wr.rowIs gn 69 11 (told b j)
  sizes : Nums wr gs .i64 sizeL
  res : Boxd wr g0 ev0.cells 25
  below : Below w.heap.size w wr
theorem reads_num {b : ByteArray} {w wr w1 : World} {g0 go gn gs j : Nat} (h : Reads b w g0 go gn gs j wr) (hro : RO w1 go (ost b (j + 1))) (hg : wr.grownBy w1 (some go)) (h0 : w.heap.size ≤ go) (d1 : gn ≠ go) (d2 : gs ≠ go) (d3 : g0 ≠ go) :
    RO w1 go (ost b (j + 1)) ∧ w1.rowIs gn 69 11 (told b j) ∧ Nums w1 gs .i64 sizeL ∧ Boxd w1 g0 ev0.cells 25 ∧ Below w.heap.size w w1 := by
  refine ⟨hro, h.row.of_block (hg.block gn h.row.lt (fun e => d1 (by injection e))), h.sizes.grown hg d2, h.res.grown hg d3, ?_⟩
  have hb := h.below
  exact ⟨hg.os.trans hb.os, hg.tape.trans hb.tape, hg.output.trans hb.output, Nat.le_trans hb.size hg.size, fun k hk => (hg.block k (Nat.lt_of_lt_of_le hk hb.size) (fun e => by
    have h2 : k = go := by injection e
    omega)).trans (hb.block k hk)⟩
theorem reads_store {b : ByteArray} {w w1 : World} {g0 go gn gs j : Nat} (h : RO w1 go (ost b (j + 1)) ∧ w1.rowIs gn 69 11 (told b j) ∧ Nums w1 gs .i64 sizeL ∧ Boxd w1 g0 ev0.cells 25 ∧ Below w.heap.size w w1)
    (h0 : w.heap.size ≤ gn) (d1 : go ≠ gn) (d2 : gs ≠ gn) (d3 : g0 ≠ gn) : Reads b w g0 go gn gs (j + 1) (w1.setCell ⟨gn, j, none⟩ (.int .u64 (ovl b j : Nat))) := by
  obtain ⟨a1, a2, a3, a4, a5⟩ := h
  refine ⟨⟨a1.1.setOther d1 _, a1.2⟩, told_set a2, ⟨by rw [Deep.nblk_setCell]; exact a3.1, fun i hi => ?_⟩, ?_, a5.setCell h0 _⟩
  · rw [← a3.2 i hi]
    exact World.cell?_of_block (Deep.blk_setCell_other _ _ _ _ d2)
  · unfold Boxd
    rw [Deep.blk_setCell_other _ _ _ _ d3]
    exact a4
set_option maxRecDepth 20000 in
set_option maxHeartbeats 4000000 in
theorem r_decode_no (b : ByteArray) (w : World) (hl : b.size ≤ 100000) (h39 : ¬ b.size = 39) : Calls Try.prog 12 #[.string b] w fun x w' => x = .returned (.tuple #[.agg (decE b).cells, .int .i64 (decX b)]) ∧ Below w.heap.size w w' := by
  have HL := Lib.hid hl
  obtain ⟨E, hE⟩ : ∃ E, decE b = E := ⟨_, rfl⟩
  obtain ⟨X, hX⟩ : ∃ X, decX b = X := ⟨_, rfl⟩
  rw [hE, hX]
  have HEX := Lib.hid (And.intro hE hX)
  clear hE hX
  have hmk0 := fun W : World => run_make_row' (P := Try.prog) 68 69 (.int .u64 0) 8 Try.underlying68 u64_info rfl .i64 .i64 11 (by decide) (by decide) W
  have hmk : ∀ W : World, (Instr.makeSlice 68 (.int .i64 11) (.int .i64 11)).run Try.prog W = .ok (.slice (some ⟨W.heap.size, 0, none⟩) 11 11) (W.alloc (.cells (madeCells #[.int .u64 0] 11) 69)) := hmk0
  obtain ⟨g0, wa, e1, e2, hA, ha⟩ := boxd_new w ev0.cells 25
  obtain ⟨go, wb, e3, e4, hO, ho⟩ := boxd_new wa #[.string b, .int .i64 0, .bool false] 65
  have e5 : go = w.heap.size + 1 := by rw [e3, e2, Deep.nblk_alloc]
  have HRO := Lib.hid (ro_first hO (by omega))
  have HRES := Lib.hid (hA.below ho)
  have HW := Lib.hid (below_via ha ho)
  have lgo := hO.lt
  clear hl hmk0 hA ha hO ho
  rw [ev0_cells] at e2
  go_enter Try.func12, Try.ntmps12
  go_upto_region 2 with fail
  rw [← e2, ← e4, ← e5, ← e1]
  have lwo : w.heap.size ≤ go := by omega
  have lg0 : g0 < go := by omega
  have hg0 : w.heap.size ≤ g0 := by omega
  clear e1 e2 e3 e4 e5
  go_upto_region 3 with (first
    | (go_at_call 31
       refine (r_sizes wb).mono ?_
       rintro e w2 ⟨gs, c2, rfl, hn2, hb2, hge⟩))
  have HW2 := Lib.hid (below_via HW.out hb2)
  have HRO2 := Lib.hid (⟨HRO.out.1.of_block (hb2.block go lgo), HRO.out.2⟩ : RO w2 go (ost b 0))
  have HRES2 := Lib.hid (HRES.out.below hb2)
  have lgs := hn2.1
  have HN2 := Lib.hid hn2
  have dgs : go < gs := by omega
  have lw2 := hb2.size
  clear hn2 hb2
  go_upto_region 4 with fail
  obtain ⟨gn, hgn⟩ : ∃ gn, gn = w2.heap.size := ⟨_, rfl⟩
  have HR0 : Hid (Reads b w g0 go gn gs 0 (w2.alloc (.cells (madeCells #[.int .u64 0] 11) 69))) := by
    have hbn : Below w2.heap.size w2 (w2.alloc (.cells (madeCells #[.int .u64 0] 11) 69)) := (Below.refl _ w2).alloc (Nat.le_refl _) _
    refine ⟨⟨HRO2.out.1.of_block (hbn.block go (by omega)), HRO2.out.2⟩, ?_, HN2.out.below hbn, HRES2.out.below hbn, below_via HW2.out hbn⟩
    rw [hgn]
    exact (World.rowIs_made w2 (.int .u64 0) 11 69).congr fun i _ => rfl
  have dgn : gs < gn := by omega
  have lwn : w.heap.size ≤ gn := by omega
  generalize w2.alloc (.cells (madeCells #[.int .u64 0] 11) 69) = w3 at *
  rw [← hgn]
  clear hgn HRO HRES HW HRO2 HRES2 HN2 HW2 lw2 lgs lgo hmk
  go_upto_region 5 with fail
  go_loopw [7] (fun t wr => ∃ j : Nat, j ≤ 11 ∧ t = .int .i64 j ∧ Hid (Reads b w g0 go gn gs j wr)) (fun t _ => 11 - (intOf t).toNat)
  case atStart => exact ⟨0, by omega, rfl, HR0⟩
  case round =>
    obtain ⟨j, hj, rfl, HR⟩ := hrel
    by_cases hlt : j < 11
    · have j0 : (0 : Int) ≤ j := by omega
      have j1 : (j : Int) < 11 := by omega
      have c1 := HR.out.sizes.2 j hlt
      have hs := size_le j
      have hn : Calls Try.prog 32 #[.pointer (some ⟨go, 0, none⟩), .int .i64 ((sizeL.getD j 0 : Nat) : Int)] wr fun e w' => e = .returned (.int .u64 (ovl b j : Nat)) ∧ RO w' go (ost b (j + 1)) ∧ wr.grownBy w' (some go) := r_onum (ost b j) _ go wr HR.out.ro (by omega)
      obtain ⟨n, hn0⟩ : ∃ n, sizeL.getD j 0 = n := ⟨_, rfl⟩
      rw [hn0] at hn c1
      obtain ⟨v, hv0⟩ : ∃ v, ovl b j = v := ⟨_, rfl⟩
      have HST : Hid (∀ w1, RO w1 go (ost b (j + 1)) → wr.grownBy w1 (some go) → w1.rowIs gn 69 11 (told b j) ∧ Reads b w g0 go gn gs (j + 1) (w1.setCell ⟨gn, j, none⟩ (.int .u64 (v : Nat)))) := fun w1 h1 h2 => by
        have h3 := reads_num HR.out h1 h2 lwo (by omega) (by omega) (by omega)
        refine ⟨h3.2.1, ?_⟩
        rw [← hv0]
        exact reads_store h3 lwn (by omega) (by omega) (by omega)
      rw [hv0] at hn
      clear hn0 hv0 hs
      go_wp2_with fail
      refine hn.mono ?_
      rintro e w1 ⟨rfl, hro, hgr⟩
      obtain ⟨q1, q2⟩ := HST.out w1 hro hgr
      have Q := Lib.hid q2
      have fz := q1.frozen j
      obtain ⟨v0, hv0⟩ : ∃ v0, w1.cell? ⟨gn, j, none⟩ = some v0 := ⟨_, q1.cell hlt⟩
      clear hro hgr q1 q2 HST hn
      go_wp2_with fail
      go_roundw
      case rel => exact ⟨j + 1, by omega, by go_num, Q⟩
      case measure => simp [intOf]; omega
    · obtain rfl : j = 11 := by omega
      go_upto_region 8 with fail
      have lgn := HR.out.row.lt
      have k5 : wr.cell? ⟨gn, 5, none⟩ = some (.int .u64 (ovl b 5 : Nat)) := HR.out.row.cell (i := 5) (by decide)
      have k6 : wr.cell? ⟨gn, 6, none⟩ = some (.int .u64 (ovl b 6 : Nat)) := HR.out.row.cell (i := 6) (by decide)
      have H5 : Hid (∀ W, Calls Try.prog 33 #[.int .u64 (ovl b 5 : Nat)] W fun z w' => z = .returned (.agg #[.float .f64 (ofF (ovl b 5)), .bool (ofB (ovl b 5))]) ∧ Below W.heap.size W w') := fun W => rof_any _ W (ovl_lt b 5)
      have H6 : Hid (∀ W, Calls Try.prog 33 #[.int .u64 (ovl b 6 : Nat)] W fun z w' => z = .returned (.agg #[.float .f64 (ofF (ovl b 6)), .bool (ofB (ovl b 6))]) ∧ Below W.heap.size W w') := fun W => rof_any _ W (ovl_lt b 6)
      obtain ⟨r5, hr5⟩ : ∃ r5, ovl b 5 = r5 := ⟨_, rfl⟩
      obtain ⟨r6, hr6⟩ : ∃ r6, ovl b 6 = r6 := ⟨_, rfl⟩
      rw [hr5] at H5 k5
      rw [hr6] at H6 k6
      go_cut [8, 9] (fun s t wx => ∃ G8 G9 : Nat, s = .pointer (some ⟨G8, 0, none⟩) ∧ t = .pointer (some ⟨G9, 0, none⟩) ∧ Hid (Boxd wx G8 #[.float .f64 (ofF r5), .bool (ofB r5)] 72) ∧ Hid (Boxd wx G9 #[.float .f64 (ofF r6), .bool (ofB r6)] 72) ∧ Hid (Below wr.heap.size wr wx) ∧ Hid (G8 ≠ G9))
      case first =>
        as_aux_lemma =>
          have hS0 : wr.drew.cell? ⟨gn, 5, none⟩ = some (.int .u64 (r5 : Nat)) ∧ wr.drew.cell? ⟨gn, 6, none⟩ = some (.int .u64 (r6 : Nat)) ∧ Below wr.heap.size wr wr.drew := ⟨k5, k6, below_drew (Below.refl _ _)⟩
          refine wp_region_held_drew (S := (fun w' => w'.cell? ⟨gn, 5, none⟩ = some (.int .u64 (r5 : Nat)) ∧ w'.cell? ⟨gn, 6, none⟩ = some (.int .u64 (r6 : Nat)) ∧ Below wr.heap.size wr w')) (by kernel_rfl) hS0 (fun hHeld => ?_)
          generalize wr.drew = y0 at *
          refine ByHand.take_yes (v := ?_) 0 31 rfl rfl (by kernel_rfl) (by kernel_rfl) (by kernel_rfl) (fun _ _ _ h => h) (by rfl) ?_ (by assumption) ?_
          rotate_left
          · intro w' hSw
            (try dsimp only at hSw)
            go_simp
            all_goals with_reducible rfl
          (try simp only [Act.put, List.setIfInBounds_toArray, List.set_cons_zero, List.set_cons_succ])
          refine ByHand.take_yes (v := ?_) 1 32 rfl rfl (by kernel_rfl) (by kernel_rfl) (by kernel_rfl) (fun _ _ _ h => h) (by rfl) ?_ (by assumption) ?_
          rotate_left
          · intro w' hSw
            (try dsimp only at hSw)
            go_simp
            all_goals with_reducible rfl
          (try simp only [Act.put, List.setIfInBounds_toArray, List.set_cons_zero, List.set_cons_succ])
          refine ByHand.take_yes (v := ?_) 2 33 rfl rfl (by kernel_rfl) (by kernel_rfl) (by kernel_rfl) (fun _ _ _ h => h) (by rfl) ?_ (by assumption) ?_
          rotate_left
          · intro w' hSw
            (try dsimp only at hSw)
            go_simp
            all_goals with_reducible rfl
          (try simp only [Act.put, List.setIfInBounds_toArray, List.set_cons_zero, List.set_cons_succ])
          refine ByHand.take_yes (v := ?_) 4 35 rfl rfl (by kernel_rfl) (by kernel_rfl) (by kernel_rfl) (fun _ _ _ h => h) (by rfl) ?_ (by assumption) ?_
          rotate_left
          · intro w' hSw
            (try dsimp only at hSw)
            go_simp
            all_goals with_reducible rfl
          (try simp only [Act.put, List.setIfInBounds_toArray, List.set_cons_zero, List.set_cons_succ])
          refine ByHand.take_yes (v := ?_) 5 36 rfl rfl (by kernel_rfl) (by kernel_rfl) (by kernel_rfl) (fun _ _ _ h => h) (by rfl) ?_ (by assumption) ?_
          rotate_left
          · intro w' hSw
            (try dsimp only at hSw)
            go_simp
            all_goals with_reducible rfl
          (try simp only [Act.put, List.setIfInBounds_toArray, List.set_cons_zero, List.set_cons_succ])
          refine ByHand.take_yes (v := ?_) 6 37 rfl rfl (by kernel_rfl) (by kernel_rfl) (by kernel_rfl) (fun _ _ _ h => h) (by rfl) ?_ (by assumption) ?_
          rotate_left
          · intro w' hSw
            (try dsimp only at hSw)
            go_simp
            all_goals with_reducible rfl
          (try simp only [Act.put, List.setIfInBounds_toArray, List.set_cons_zero, List.set_cons_succ])
          refine wpAnyH_ready (rs := [3, 8, 9]) (by kernel_rfl) (by simp) (AllReadyH.cons rfl (fun K hK => ?_) (AllReadyH.cons rfl (fun K hK => ?_) (AllReadyH.cons rfl (fun K hK => ?_) (AllReadyH.nil))))
          · go_simp
            (go_at_call 33
             with_reducible refine (held_cells (by assumption) (H5.out _)).mono ?_
             rintro e y1 ⟨rfl, hS1, hb⟩)
            clear hb
            go_wp2_with fail
            refine hK.out _ _ ?_ (fun hHeld => ?_)
            · exact hS1
            clear hK K
            (try simp only [Act.put, List.setIfInBounds_toArray, List.set_cons_zero, List.set_cons_succ])
            refine wpAnyH_ready (rs := [7, 8, 9]) (by kernel_rfl) (by simp) (AllReadyH.cons rfl (fun K hK => ?_) (AllReadyH.cons rfl (fun K hK => ?_) (AllReadyH.cons rfl (fun K hK => ?_) (AllReadyH.nil))))
            · go_simp
              (go_at_call 33
               with_reducible refine (held_cells (by assumption) (H6.out _)).mono ?_
               rintro e y2 ⟨rfl, hS2, hb⟩)
              clear hb
              go_wp2_with fail
              refine hK.out _ _ ?_ (fun hHeld => ?_)
              · exact hS2
              clear hK K
              (try simp only [Act.put, List.setIfInBounds_toArray, List.set_cons_zero, List.set_cons_succ])
              refine wpAnyH_ready (rs := [8, 9]) (by kernel_rfl) (by simp) (AllReadyH.cons rfl (fun K hK => ?_) (AllReadyH.cons rfl (fun K hK => ?_) (AllReadyH.nil)))
              · go_simp
                obtain ⟨G8, y3, e1, e2, hB, hb⟩ := boxd_new y2 #[.float .f64 0, .bool false] 72
                rw [← e2, ← e1]
                have hS3 := cells_new ‹_ ∧ _ ∧ Below wr.heap.size wr y2› hb
                have le8 : wr.heap.size ≤ G8 := by rw [e1]; exact (‹_ ∧ _ ∧ Below wr.heap.size wr y2›).2.2.size
                have p3 := Lib.hid hB
                clear e1 e2 hB hb
                refine hK.out _ _ ?_ (fun hHeld => ?_)
                · exact hS3
                clear hK K
                (try simp only [Act.put, List.setIfInBounds_toArray, List.set_cons_zero, List.set_cons_succ])
                refine wpAnyH_ready (rs := [9]) (by kernel_rfl) (by simp) (AllReadyH.cons rfl (fun K hK => ?_) (AllReadyH.nil))
                · go_simp
                  obtain ⟨G9, y4, e1, e2, hB, hb⟩ := boxd_new y3 #[.float .f64 0, .bool false] 72
                  rw [← e2, ← e1]
                  have hS4 := cells_new ‹_ ∧ _ ∧ Below wr.heap.size wr y3› hb
                  have le9 : wr.heap.size ≤ G9 := by rw [e1]; exact (‹_ ∧ _ ∧ Below wr.heap.size wr y3›).2.2.size
                  have q4 := Lib.hid hB
                  have ne : G8 ≠ G9 := by have := p3.out.lt; omega
                  have p4 := Lib.hid (p3.out.below hb)
                  clear e1 e2 hB hb
                  refine hK.out _ _ ?_ (fun hHeld => ?_)
                  · exact hS4
                  clear hK K
                  (try simp only [Act.put, List.setIfInBounds_toArray, List.set_cons_zero, List.set_cons_succ])
                  have hS9 := ‹_ ∧ _ ∧ Below wr.heap.size wr y4›
                  obtain ⟨u0, u1, z0, z1, k8, m9, hT⟩ := real_set p4.out q4.out ne hS9 le8 lgn (ofF r5) (ofB r5)
                  refine wpAnyH_ready (rs := [10]) (by kernel_rfl) (by simp) (AllReadyH.cons rfl (fun K hK => ?_) AllReadyH.nil)
                  go_simp
                  refine hK.out _ _ ?_ (fun hHeld => ?_)
                  · exact hT
                  clear hK K
                  (try simp only [Act.put, List.setIfInBounds_toArray, List.set_cons_zero, List.set_cons_succ])
                  generalize World.setCell (World.setCell y4 ⟨G8, 0, none⟩ _) ⟨G8, 1, none⟩ _ = wS at *
                  obtain ⟨v0, v1, x0, x1, m8, k9, hU⟩ := real_set m9 k8 (fun e => ne e.symm) hT le9 lgn (ofF r6) (ofB r6)
                  clear u0 u1 z0 z1
                  refine wpAnyH_ready (rs := [11]) (by kernel_rfl) (by simp) (AllReadyH.cons rfl (fun K hK => ?_) AllReadyH.nil)
                  go_simp
                  refine hK.out _ _ ?_ (fun hHeld => ?_)
                  · exact hU
                  clear hK K
                  (try simp only [Act.put, List.setIfInBounds_toArray, List.set_cons_zero, List.set_cons_succ])
                  refine wpAnyH_done (by kernel_rfl) ?_ _
                  go_wp2_with fail
                  go_meet
                  exact ⟨_, _, rfl, rfl, k9, m8, hU.2.2, ne⟩
              · go_simp
                obtain ⟨G9, y5, e1, e2, hB, hb⟩ := boxd_new y2 #[.float .f64 0, .bool false] 72
                rw [← e2, ← e1]
                have hS5 := cells_new ‹_ ∧ _ ∧ Below wr.heap.size wr y2› hb
                have le9 : wr.heap.size ≤ G9 := by rw [e1]; exact (‹_ ∧ _ ∧ Below wr.heap.size wr y2›).2.2.size
                have q5 := Lib.hid hB
                clear e1 e2 hB hb
                refine hK.out _ _ ?_ (fun hHeld => ?_)
                · exact hS5
                clear hK K
                (try simp only [Act.put, List.setIfInBounds_toArray, List.set_cons_zero, List.set_cons_succ])
                refine wpAnyH_ready (rs := [8]) (by kernel_rfl) (by simp) (AllReadyH.cons rfl (fun K hK => ?_) (AllReadyH.nil))
                · go_simp
                  obtain ⟨G8, y6, e1, e2, hB, hb⟩ := boxd_new y5 #[.float .f64 0, .bool false] 72
                  rw [← e2, ← e1]
                  have hS6 := cells_new ‹_ ∧ _ ∧ Below wr.heap.size wr y5› hb
                  have le8 : wr.heap.size ≤ G8 := by rw [e1]; exact (‹_ ∧ _ ∧ Below wr.heap.size wr y5›).2.2.size
                  have p6 := Lib.hid hB
                  have ne : G8 ≠ G9 := by have := q5.out.lt; omega
                  have q6 := Lib.hid (q5.out.below hb)
                  clear e1 e2 hB hb
                  refine hK.out _ _ ?_ (fun hHeld => ?_)
                  · exact hS6
                  clear hK K
                  (try simp only [Act.put, List.setIfInBounds_toArray, List.set_cons_zero, List.set_cons_succ])
                  have hS9 := ‹_ ∧ _ ∧ Below wr.heap.size wr y6›
                  obtain ⟨u0, u1, z0, z1, k8, m9, hT⟩ := real_set p6.out q6.out ne hS9 le8 lgn (ofF r5) (ofB r5)
                  refine wpAnyH_ready (rs := [10]) (by kernel_rfl) (by simp) (AllReadyH.cons rfl (fun K hK => ?_) AllReadyH.nil)
                  go_simp
                  refine hK.out _ _ ?_ (fun hHeld => ?_)
                  · exact hT
                  clear hK K
                  (try simp only [Act.put, List.setIfInBounds_toArray, List.set_cons_zero, List.set_cons_succ])
                  generalize World.setCell (World.setCell y6 ⟨G8, 0, none⟩ _) ⟨G8, 1, none⟩ _ = wS at *
                  obtain ⟨v0, v1, x0, x1, m8, k9, hU⟩ := real_set m9 k8 (fun e => ne e.symm) hT le9 lgn (ofF r6) (ofB r6)
                  clear u0 u1 z0 z1
                  refine wpAnyH_ready (rs := [11]) (by kernel_rfl) (by simp) (AllReadyH.cons rfl (fun K hK => ?_) AllReadyH.nil)
                  go_simp
                  refine hK.out _ _ ?_ (fun hHeld => ?_)
                  · exact hU
                  clear hK K
                  (try simp only [Act.put, List.setIfInBounds_toArray, List.set_cons_zero, List.set_cons_succ])
                  refine wpAnyH_done (by kernel_rfl) ?_ _
                  go_wp2_with fail
                  go_meet
                  exact ⟨_, _, rfl, rfl, k9, m8, hU.2.2, ne⟩
            · go_simp
              obtain ⟨G8, y7, e1, e2, hB, hb⟩ := boxd_new y1 #[.float .f64 0, .bool false] 72
              rw [← e2, ← e1]
              have hS7 := cells_new ‹_ ∧ _ ∧ Below wr.heap.size wr y1› hb
              have le8 : wr.heap.size ≤ G8 := by rw [e1]; exact (‹_ ∧ _ ∧ Below wr.heap.size wr y1›).2.2.size
              have p7 := Lib.hid hB
              clear e1 e2 hB hb
              refine hK.out _ _ ?_ (fun hHeld => ?_)
              · exact hS7
              clear hK K
              (try simp only [Act.put, List.setIfInBounds_toArray, List.set_cons_zero, List.set_cons_succ])
              refine wpAnyH_ready (rs := [7, 9]) (by kernel_rfl) (by simp) (AllReadyH.cons rfl (fun K hK => ?_) (AllReadyH.cons rfl (fun K hK => ?_) (AllReadyH.nil)))
              · go_simp
                (go_at_call 33
                 with_reducible refine (held_cells (by assumption) (H6.out _)).mono ?_
                 rintro e y8 ⟨rfl, hS8, hb⟩)
                have p8 := Lib.hid (p7.out.below hb)
                clear hb
                go_wp2_with fail
                refine hK.out _ _ ?_ (fun hHeld => ?_)
                · exact hS8
                clear hK K
                (try simp only [Act.put, List.setIfInBounds_toArray, List.set_cons_zero, List.set_cons_succ])
                refine wpAnyH_ready (rs := [9]) (by kernel_rfl) (by simp) (AllReadyH.cons rfl (fun K hK => ?_) (AllReadyH.nil))
                · go_simp
                  obtain ⟨G9, y9, e1, e2, hB, hb⟩ := boxd_new y8 #[.float .f64 0, .bool false] 72
                  rw [← e2, ← e1]
                  have hS9 := cells_new ‹_ ∧ _ ∧ Below wr.heap.size wr y8› hb
                  have le9 : wr.heap.size ≤ G9 := by rw [e1]; exact (‹_ ∧ _ ∧ Below wr.heap.size wr y8›).2.2.size
                  have q9 := Lib.hid hB
                  have ne : G8 ≠ G9 := by have := p8.out.lt; omega
                  have p9 := Lib.hid (p8.out.below hb)
                  clear e1 e2 hB hb
                  refine hK.out _ _ ?_ (fun hHeld => ?_)
                  · exact hS9
                  clear hK K
                  (try simp only [Act.put, List.setIfInBounds_toArray, List.set_cons_zero, List.set_cons_succ])
                  have hS9 := ‹_ ∧ _ ∧ Below wr.heap.size wr y9›
                  obtain ⟨u0, u1, z0, z1, k8, m9, hT⟩ := real_set p9.out q9.out ne hS9 le8 lgn (ofF r5) (ofB r5)
                  refine wpAnyH_ready (rs := [10]) (by kernel_rfl) (by simp) (AllReadyH.cons rfl (fun K hK => ?_) AllReadyH.nil)
                  go_simp
                  refine hK.out _ _ ?_ (fun hHeld => ?_)
                  · exact hT
                  clear hK K
                  (try simp only [Act.put, List.setIfInBounds_toArray, List.set_cons_zero, List.set_cons_succ])
                  generalize World.setCell (World.setCell y9 ⟨G8, 0, none⟩ _) ⟨G8, 1, none⟩ _ = wS at *
                  obtain ⟨v0, v1, x0, x1, m8, k9, hU⟩ := real_set m9 k8 (fun e => ne e.symm) hT le9 lgn (ofF r6) (ofB r6)
                  clear u0 u1 z0 z1
                  refine wpAnyH_ready (rs := [11]) (by kernel_rfl) (by simp) (AllReadyH.cons rfl (fun K hK => ?_) AllReadyH.nil)
                  go_simp
                  refine hK.out _ _ ?_ (fun hHeld => ?_)
                  · exact hU
                  clear hK K
                  (try simp only [Act.put, List.setIfInBounds_toArray, List.set_cons_zero, List.set_cons_succ])
                  refine wpAnyH_done (by kernel_rfl) ?_ _
                  go_wp2_with fail
                  go_meet
                  exact ⟨_, _, rfl, rfl, k9, m8, hU.2.2, ne⟩
              · go_simp
                obtain ⟨G9, y10, e1, e2, hB, hb⟩ := boxd_new y7 #[.float .f64 0, .bool false] 72
                rw [← e2, ← e1]
                have hS10 := cells_new ‹_ ∧ _ ∧ Below wr.heap.size wr y7› hb
                have le9 : wr.heap.size ≤ G9 := by rw [e1]; exact (‹_ ∧ _ ∧ Below wr.heap.size wr y7›).2.2.size
                have q10 := Lib.hid hB
                have ne : G8 ≠ G9 := by have := p7.out.lt; omega
                have p10 := Lib.hid (p7.out.below hb)
                clear e1 e2 hB hb
                refine hK.out _ _ ?_ (fun hHeld => ?_)
                · exact hS10
                clear hK K
                (try simp only [Act.put, List.setIfInBounds_toArray, List.set_cons_zero, List.set_cons_succ])
                refine wpAnyH_ready (rs := [7]) (by kernel_rfl) (by simp) (AllReadyH.cons rfl (fun K hK => ?_) (AllReadyH.nil))
                · go_simp
                  (go_at_call 33
                   with_reducible refine (held_cells (by assumption) (H6.out _)).mono ?_
                   rintro e y11 ⟨rfl, hS11, hb⟩)
                  have p11 := Lib.hid (p10.out.below hb)
                  have q11 := Lib.hid (q10.out.below hb)
                  clear hb
                  go_wp2_with fail
                  refine hK.out _ _ ?_ (fun hHeld => ?_)
                  · exact hS11
                  clear hK K
                  (try simp only [Act.put, List.setIfInBounds_toArray, List.set_cons_zero, List.set_cons_succ])
                  have hS9 := ‹_ ∧ _ ∧ Below wr.heap.size wr y11›
                  obtain ⟨u0, u1, z0, z1, k8, m9, hT⟩ := real_set p11.out q11.out ne hS9 le8 lgn (ofF r5) (ofB r5)
                  refine wpAnyH_ready (rs := [10]) (by kernel_rfl) (by simp) (AllReadyH.cons rfl (fun K hK => ?_) AllReadyH.nil)
                  go_simp
                  refine hK.out _ _ ?_ (fun hHeld => ?_)
                  · exact hT
                  clear hK K
                  (try simp only [Act.put, List.setIfInBounds_toArray, List.set_cons_zero, List.set_cons_succ])
                  generalize World.setCell (World.setCell y11 ⟨G8, 0, none⟩ _) ⟨G8, 1, none⟩ _ = wS at *
                  obtain ⟨v0, v1, x0, x1, m8, k9, hU⟩ := real_set m9 k8 (fun e => ne e.symm) hT le9 lgn (ofF r6) (ofB r6)
                  clear u0 u1 z0 z1
                  refine wpAnyH_ready (rs := [11]) (by kernel_rfl) (by simp) (AllReadyH.cons rfl (fun K hK => ?_) AllReadyH.nil)
                  go_simp
                  refine hK.out _ _ ?_ (fun hHeld => ?_)
                  · exact hU
                  clear hK K
                  (try simp only [Act.put, List.setIfInBounds_toArray, List.set_cons_zero, List.set_cons_succ])
                  refine wpAnyH_done (by kernel_rfl) ?_ _
                  go_wp2_with fail
                  go_meet
                  exact ⟨_, _, rfl, rfl, k9, m8, hU.2.2, ne⟩
            · go_simp
              obtain ⟨G9, y12, e1, e2, hB, hb⟩ := boxd_new y1 #[.float .f64 0, .bool false] 72
              rw [← e2, ← e1]
              have hS12 := cells_new ‹_ ∧ _ ∧ Below wr.heap.size wr y1› hb
              have le9 : wr.heap.size ≤ G9 := by rw [e1]; exact (‹_ ∧ _ ∧ Below wr.heap.size wr y1›).2.2.size
              have q12 := Lib.hid hB
              clear e1 e2 hB hb
              refine hK.out _ _ ?_ (fun hHeld => ?_)
              · exact hS12
              clear hK K
              (try simp only [Act.put, List.setIfInBounds_toArray, List.set_cons_zero, List.set_cons_succ])
              refine wpAnyH_ready (rs := [7, 8]) (by kernel_rfl) (by simp) (AllReadyH.cons rfl (fun K hK => ?_) (AllReadyH.cons rfl (fun K hK => ?_) (AllReadyH.nil)))
              · go_simp
                (go_at_call 33
                 with_reducible refine (held_cells (by assumption) (H6.out _)).mono ?_
                 rintro e y13 ⟨rfl, hS13, hb⟩)
                have q13 := Lib.hid (q12.out.below hb)
                clear hb
                go_wp2_with fail
                refine hK.out _ _ ?_ (fun hHeld => ?_)
                · exact hS13
                clear hK K
                (try simp only [Act.put, List.setIfInBounds_toArray, List.set_cons_zero, List.set_cons_succ])
                refine wpAnyH_ready (rs := [8]) (by kernel_rfl) (by simp) (AllReadyH.cons rfl (fun K hK => ?_) (AllReadyH.nil))
                · go_simp
                  obtain ⟨G8, y14, e1, e2, hB, hb⟩ := boxd_new y13 #[.float .f64 0, .bool false] 72
                  rw [← e2, ← e1]
                  have hS14 := cells_new ‹_ ∧ _ ∧ Below wr.heap.size wr y13› hb
                  have le8 : wr.heap.size ≤ G8 := by rw [e1]; exact (‹_ ∧ _ ∧ Below wr.heap.size wr y13›).2.2.size
                  have p14 := Lib.hid hB
                  have ne : G8 ≠ G9 := by have := q13.out.lt; omega
                  have q14 := Lib.hid (q13.out.below hb)
                  clear e1 e2 hB hb
                  refine hK.out _ _ ?_ (fun hHeld => ?_)
                  · exact hS14
                  clear hK K
                  (try simp only [Act.put, List.setIfInBounds_toArray, List.set_cons_zero, List.set_cons_succ])
                  have hS9 := ‹_ ∧ _ ∧ Below wr.heap.size wr y14›
                  obtain ⟨u0, u1, z0, z1, k8, m9, hT⟩ := real_set p14.out q14.out ne hS9 le8 lgn (ofF r5) (ofB r5)
                  refine wpAnyH_ready (rs := [10]) (by kernel_rfl) (by simp) (AllReadyH.cons rfl (fun K hK => ?_) AllReadyH.nil)
                  go_simp
                  refine hK.out _ _ ?_ (fun hHeld => ?_)
                  · exact hT
                  clear hK K
                  (try simp only [Act.put, List.setIfInBounds_toArray, List.set_cons_zero, List.set_cons_succ])
                  generalize World.setCell (World.setCell y14 ⟨G8, 0, none⟩ _) ⟨G8, 1, none⟩ _ = wS at *
                  obtain ⟨v0, v1, x0, x1, m8, k9, hU⟩ := real_set m9 k8 (fun e => ne e.symm) hT le9 lgn (ofF r6) (ofB r6)
                  clear u0 u1 z0 z1
                  refine wpAnyH_ready (rs := [11]) (by kernel_rfl) (by simp) (AllReadyH.cons rfl (fun K hK => ?_) AllReadyH.nil)
                  go_simp
                  refine hK.out _ _ ?_ (fun hHeld => ?_)
                  · exact hU
                  clear hK K
                  (try simp only [Act.put, List.setIfInBounds_toArray, List.set_cons_zero, List.set_cons_succ])
                  refine wpAnyH_done (by kernel_rfl) ?_ _
                  go_wp2_with fail
                  go_meet
                  exact ⟨_, _, rfl, rfl, k9, m8, hU.2.2, ne⟩
              · go_simp
                obtain ⟨G8, y15, e1, e2, hB, hb⟩ := boxd_new y12 #[.float .f64 0, .bool false] 72
                rw [← e2, ← e1]
                have hS15 := cells_new ‹_ ∧ _ ∧ Below wr.heap.size wr y12› hb
                have le8 : wr.heap.size ≤ G8 := by rw [e1]; exact (‹_ ∧ _ ∧ Below wr.heap.size wr y12›).2.2.size
                have p15 := Lib.hid hB
                have ne : G8 ≠ G9 := by have := q12.out.lt; omega
                have q15 := Lib.hid (q12.out.below hb)
                clear e1 e2 hB hb
                refine hK.out _ _ ?_ (fun hHeld => ?_)
                · exact hS15
                clear hK K
                (try simp only [Act.put, List.setIfInBounds_toArray, List.set_cons_zero, List.set_cons_succ])
                refine wpAnyH_ready (rs := [7]) (by kernel_rfl) (by simp) (AllReadyH.cons rfl (fun K hK => ?_) (AllReadyH.nil))
                · go_simp
                  (go_at_call 33
                   with_reducible refine (held_cells (by assumption) (H6.out _)).mono ?_
                   rintro e y16 ⟨rfl, hS16, hb⟩)
                  have p16 := Lib.hid (p15.out.below hb)
                  have q16 := Lib.hid (q15.out.below hb)
                  clear hb
                  go_wp2_with fail
                  refine hK.out _ _ ?_ (fun hHeld => ?_)
                  · exact hS16
                  clear hK K
                  (try simp only [Act.put, List.setIfInBounds_toArray, List.set_cons_zero, List.set_cons_succ])
                  have hS9 := ‹_ ∧ _ ∧ Below wr.heap.size wr y16›
                  obtain ⟨u0, u1, z0, z1, k8, m9, hT⟩ := real_set p16.out q16.out ne hS9 le8 lgn (ofF r5) (ofB r5)
                  refine wpAnyH_ready (rs := [10]) (by kernel_rfl) (by simp) (AllReadyH.cons rfl (fun K hK => ?_) AllReadyH.nil)
                  go_simp
                  refine hK.out _ _ ?_ (fun hHeld => ?_)
                  · exact hT
                  clear hK K
                  (try simp only [Act.put, List.setIfInBounds_toArray, List.set_cons_zero, List.set_cons_succ])
                  generalize World.setCell (World.setCell y16 ⟨G8, 0, none⟩ _) ⟨G8, 1, none⟩ _ = wS at *
                  obtain ⟨v0, v1, x0, x1, m8, k9, hU⟩ := real_set m9 k8 (fun e => ne e.symm) hT le9 lgn (ofF r6) (ofB r6)
                  clear u0 u1 z0 z1
                  refine wpAnyH_ready (rs := [11]) (by kernel_rfl) (by simp) (AllReadyH.cons rfl (fun K hK => ?_) AllReadyH.nil)
                  go_simp
                  refine hK.out _ _ ?_ (fun hHeld => ?_)
                  · exact hU
                  clear hK K
                  (try simp only [Act.put, List.setIfInBounds_toArray, List.set_cons_zero, List.set_cons_succ])
                  refine wpAnyH_done (by kernel_rfl) ?_ _
                  go_wp2_with fail
                  go_meet
                  exact ⟨_, _, rfl, rfl, k9, m8, hU.2.2, ne⟩
          · go_simp
            obtain ⟨G8, y17, e1, e2, hB, hb⟩ := boxd_new y0 #[.float .f64 0, .bool false] 72
            rw [← e2, ← e1]
            have hS17 := cells_new ‹_ ∧ _ ∧ Below wr.heap.size wr y0› hb
            have le8 : wr.heap.size ≤ G8 := by rw [e1]; exact (‹_ ∧ _ ∧ Below wr.heap.size wr y0›).2.2.size
            have p17 := Lib.hid hB
            clear e1 e2 hB hb
            refine hK.out _ _ ?_ (fun hHeld => ?_)
            · exact hS17
            clear hK K
            (try simp only [Act.put, List.setIfInBounds_toArray, List.set_cons_zero, List.set_cons_succ])
            refine wpAnyH_ready (rs := [3, 9]) (by kernel_rfl) (by simp) (AllReadyH.cons rfl (fun K hK => ?_) (AllReadyH.cons rfl (fun K hK => ?_) (AllReadyH.nil)))
            · go_simp
              (go_at_call 33
               with_reducible refine (held_cells (by assumption) (H5.out _)).mono ?_
               rintro e y18 ⟨rfl, hS18, hb⟩)
              have p18 := Lib.hid (p17.out.below hb)
              clear hb
              go_wp2_with fail
              refine hK.out _ _ ?_ (fun hHeld => ?_)
              · exact hS18
              clear hK K
              (try simp only [Act.put, List.setIfInBounds_toArray, List.set_cons_zero, List.set_cons_succ])
              refine wpAnyH_ready (rs := [7, 9]) (by kernel_rfl) (by simp) (AllReadyH.cons rfl (fun K hK => ?_) (AllReadyH.cons rfl (fun K hK => ?_) (AllReadyH.nil)))
              · go_simp
                (go_at_call 33
                 with_reducible refine (held_cells (by assumption) (H6.out _)).mono ?_
                 rintro e y19 ⟨rfl, hS19, hb⟩)
                have p19 := Lib.hid (p18.out.below hb)
                clear hb
                go_wp2_with fail
                refine hK.out _ _ ?_ (fun hHeld => ?_)
                · exact hS19
                clear hK K
                (try simp only [Act.put, List.setIfInBounds_toArray, List.set_cons_zero, List.set_cons_succ])
                refine wpAnyH_ready (rs := [9]) (by kernel_rfl) (by simp) (AllReadyH.cons rfl (fun K hK => ?_) (AllReadyH.nil))
                · go_simp
                  obtain ⟨G9, y20, e1, e2, hB, hb⟩ := boxd_new y19 #[.float .f64 0, .bool false] 72
                  rw [← e2, ← e1]
                  have hS20 := cells_new ‹_ ∧ _ ∧ Below wr.heap.size wr y19› hb
                  have le9 : wr.heap.size ≤ G9 := by rw [e1]; exact (‹_ ∧ _ ∧ Below wr.heap.size wr y19›).2.2.size
                  have q20 := Lib.hid hB
                  have ne : G8 ≠ G9 := by have := p19.out.lt; omega
                  have p20 := Lib.hid (p19.out.below hb)
                  clear e1 e2 hB hb
                  refine hK.out _ _ ?_ (fun hHeld => ?_)
                  · exact hS20
                  clear hK K
                  (try simp only [Act.put, List.setIfInBounds_toArray, List.set_cons_zero, List.set_cons_succ])
                  have hS9 := ‹_ ∧ _ ∧ Below wr.heap.size wr y20›
                  obtain ⟨u0, u1, z0, z1, k8, m9, hT⟩ := real_set p20.out q20.out ne hS9 le8 lgn (ofF r5) (ofB r5)
                  refine wpAnyH_ready (rs := [10]) (by kernel_rfl) (by simp) (AllReadyH.cons rfl (fun K hK => ?_) AllReadyH.nil)
                  go_simp
                  refine hK.out _ _ ?_ (fun hHeld => ?_)
                  · exact hT
                  clear hK K
                  (try simp only [Act.put, List.setIfInBounds_toArray, List.set_cons_zero, List.set_cons_succ])
                  generalize World.setCell (World.setCell y20 ⟨G8, 0, none⟩ _) ⟨G8, 1, none⟩ _ = wS at *
                  obtain ⟨v0, v1, x0, x1, m8, k9, hU⟩ := real_set m9 k8 (fun e => ne e.symm) hT le9 lgn (ofF r6) (ofB r6)
                  clear u0 u1 z0 z1
                  refine wpAnyH_ready (rs := [11]) (by kernel_rfl) (by simp) (AllReadyH.cons rfl (fun K hK => ?_) AllReadyH.nil)
                  go_simp
                  refine hK.out _ _ ?_ (fun hHeld => ?_)
                  · exact hU
                  clear hK K
                  (try simp only [Act.put, List.setIfInBounds_toArray, List.set_cons_zero, List.set_cons_succ])
                  refine wpAnyH_done (by kernel_rfl) ?_ _
                  go_wp2_with fail
                  go_meet
                  exact ⟨_, _, rfl, rfl, k9, m8, hU.2.2, ne⟩
              · go_simp
                obtain ⟨G9, y21, e1, e2, hB, hb⟩ := boxd_new y18 #[.float .f64 0, .bool false] 72
                rw [← e2, ← e1]
                have hS21 := cells_new ‹_ ∧ _ ∧ Below wr.heap.size wr y18› hb
                have le9 : wr.heap.size ≤ G9 := by rw [e1]; exact (‹_ ∧ _ ∧ Below wr.heap.size wr y18›).2.2.size
                have q21 := Lib.hid hB
                have ne : G8 ≠ G9 := by have := p18.out.lt; omega
                have p21 := Lib.hid (p18.out.below hb)
                clear e1 e2 hB hb
                refine hK.out _ _ ?_ (fun hHeld => ?_)
                · exact hS21
                clear hK K
                (try simp only [Act.put, List.setIfInBounds_toArray, List.set_cons_zero, List.set_cons_succ])
                refine wpAnyH_ready (rs := [7]) (by kernel_rfl) (by simp) (AllReadyH.cons rfl (fun K hK => ?_) (AllReadyH.nil))
                · go_simp
                  (go_at_call 33
                   with_reducible refine (held_cells (by assumption) (H6.out _)).mono ?_
                   rintro e y22 ⟨rfl, hS22, hb⟩)
                  have p22 := Lib.hid (p21.out.below hb)
                  have q22 := Lib.hid (q21.out.below hb)
                  clear hb
                  go_wp2_with fail
                  refine hK.out _ _ ?_ (fun hHeld => ?_)
                  · exact hS22
                  clear hK K
                  (try simp only [Act.put, List.setIfInBounds_toArray, List.set_cons_zero, List.set_cons_succ])
                  have hS9 := ‹_ ∧ _ ∧ Below wr.heap.size wr y22›
                  obtain ⟨u0, u1, z0, z1, k8, m9, hT⟩ := real_set p22.out q22.out ne hS9 le8 lgn (ofF r5) (ofB r5)
                  refine wpAnyH_ready (rs := [10]) (by kernel_rfl) (by simp) (AllReadyH.cons rfl (fun K hK => ?_) AllReadyH.nil)
                  go_simp
                  refine hK.out _ _ ?_ (fun hHeld => ?_)
                  · exact hT
                  clear hK K
                  (try simp only [Act.put, List.setIfInBounds_toArray, List.set_cons_zero, List.set_cons_succ])
                  generalize World.setCell (World.setCell y22 ⟨G8, 0, none⟩ _) ⟨G8, 1, none⟩ _ = wS at *
                  obtain ⟨v0, v1, x0, x1, m8, k9, hU⟩ := real_set m9 k8 (fun e => ne e.symm) hT le9 lgn (ofF r6) (ofB r6)
                  clear u0 u1 z0 z1
                  refine wpAnyH_ready (rs := [11]) (by kernel_rfl) (by simp) (AllReadyH.cons rfl (fun K hK => ?_) AllReadyH.nil)
                  go_simp
                  refine hK.out _ _ ?_ (fun hHeld => ?_)
                  · exact hU
                  clear hK K
                  (try simp only [Act.put, List.setIfInBounds_toArray, List.set_cons_zero, List.set_cons_succ])
                  refine wpAnyH_done (by kernel_rfl) ?_ _
                  go_wp2_with fail
                  go_meet
                  exact ⟨_, _, rfl, rfl, k9, m8, hU.2.2, ne⟩
            · go_simp
              obtain ⟨G9, y23, e1, e2, hB, hb⟩ := boxd_new y17 #[.float .f64 0, .bool false] 72
              rw [← e2, ← e1]
              have hS23 := cells_new ‹_ ∧ _ ∧ Below wr.heap.size wr y17› hb
              have le9 : wr.heap.size ≤ G9 := by rw [e1]; exact (‹_ ∧ _ ∧ Below wr.heap.size wr y17›).2.2.size
              have q23 := Lib.hid hB
              have ne : G8 ≠ G9 := by have := p17.out.lt; omega
              have p23 := Lib.hid (p17.out.below hb)
              clear e1 e2 hB hb
              refine hK.out _ _ ?_ (fun hHeld => ?_)
              · exact hS23
              clear hK K
              (try simp only [Act.put, List.setIfInBounds_toArray, List.set_cons_zero, List.set_cons_succ])
              refine wpAnyH_ready (rs := [3]) (by kernel_rfl) (by simp) (AllReadyH.cons rfl (fun K hK => ?_) (AllReadyH.nil))
              · go_simp
                (go_at_call 33
                 with_reducible refine (held_cells (by assumption) (H5.out _)).mono ?_
                 rintro e y24 ⟨rfl, hS24, hb⟩)
                have p24 := Lib.hid (p23.out.below hb)
                have q24 := Lib.hid (q23.out.below hb)
                clear hb
                go_wp2_with fail
                refine hK.out _ _ ?_ (fun hHeld => ?_)
                · exact hS24
                clear hK K
                (try simp only [Act.put, List.setIfInBounds_toArray, List.set_cons_zero, List.set_cons_succ])
                refine wpAnyH_ready (rs := [7]) (by kernel_rfl) (by simp) (AllReadyH.cons rfl (fun K hK => ?_) (AllReadyH.nil))
                · go_simp
                  (go_at_call 33
                   with_reducible refine (held_cells (by assumption) (H6.out _)).mono ?_
                   rintro e y25 ⟨rfl, hS25, hb⟩)
                  have p25 := Lib.hid (p24.out.below hb)
                  have q25 := Lib.hid (q24.out.below hb)
                  clear hb
                  go_wp2_with fail
                  refine hK.out _ _ ?_ (fun hHeld => ?_)
                  · exact hS25
                  clear hK K
                  (try simp only [Act.put, List.setIfInBounds_toArray, List.set_cons_zero, List.set_cons_succ])
                  have hS9 := ‹_ ∧ _ ∧ Below wr.heap.size wr y25›
                  obtain ⟨u0, u1, z0, z1, k8, m9, hT⟩ := real_set p25.out q25.out ne hS9 le8 lgn (ofF r5) (ofB r5)
                  refine wpAnyH_ready (rs := [10]) (by kernel_rfl) (by simp) (AllReadyH.cons rfl (fun K hK => ?_) AllReadyH.nil)
                  go_simp
                  refine hK.out _ _ ?_ (fun hHeld => ?_)
                  · exact hT
                  clear hK K
                  (try simp only [Act.put, List.setIfInBounds_toArray, List.set_cons_zero, List.set_cons_succ])
                  generalize World.setCell (World.setCell y25 ⟨G8, 0, none⟩ _) ⟨G8, 1, none⟩ _ = wS at *
                  obtain ⟨v0, v1, x0, x1, m8, k9, hU⟩ := real_set m9 k8 (fun e => ne e.symm) hT le9 lgn (ofF r6) (ofB r6)
                  clear u0 u1 z0 z1
                  refine wpAnyH_ready (rs := [11]) (by kernel_rfl) (by simp) (AllReadyH.cons rfl (fun K hK => ?_) AllReadyH.nil)
                  go_simp
                  refine hK.out _ _ ?_ (fun hHeld => ?_)
                  · exact hU
                  clear hK K
                  (try simp only [Act.put, List.setIfInBounds_toArray, List.set_cons_zero, List.set_cons_succ])
                  refine wpAnyH_done (by kernel_rfl) ?_ _
                  go_wp2_with fail
                  go_meet
                  exact ⟨_, _, rfl, rfl, k9, m8, hU.2.2, ne⟩
          · go_simp
            obtain ⟨G9, y26, e1, e2, hB, hb⟩ := boxd_new y0 #[.float .f64 0, .bool false] 72
            rw [← e2, ← e1]
            have hS26 := cells_new ‹_ ∧ _ ∧ Below wr.heap.size wr y0› hb
            have le9 : wr.heap.size ≤ G9 := by rw [e1]; exact (‹_ ∧ _ ∧ Below wr.heap.size wr y0›).2.2.size
            have q26 := Lib.hid hB
            clear e1 e2 hB hb
            refine hK.out _ _ ?_ (fun hHeld => ?_)
            · exact hS26
            clear hK K
            (try simp only [Act.put, List.setIfInBounds_toArray, List.set_cons_zero, List.set_cons_succ])
            refine wpAnyH_ready (rs := [3, 8]) (by kernel_rfl) (by simp) (AllReadyH.cons rfl (fun K hK => ?_) (AllReadyH.cons rfl (fun K hK => ?_) (AllReadyH.nil)))
            · go_simp
              (go_at_call 33
               with_reducible refine (held_cells (by assumption) (H5.out _)).mono ?_
               rintro e y27 ⟨rfl, hS27, hb⟩)
              have q27 := Lib.hid (q26.out.below hb)
              clear hb
              go_wp2_with fail
              refine hK.out _ _ ?_ (fun hHeld => ?_)
              · exact hS27
              clear hK K
              (try simp only [Act.put, List.setIfInBounds_toArray, List.set_cons_zero, List.set_cons_succ])
              refine wpAnyH_ready (rs := [7, 8]) (by kernel_rfl) (by simp) (AllReadyH.cons rfl (fun K hK => ?_) (AllReadyH.cons rfl (fun K hK => ?_) (AllReadyH.nil)))
              · go_simp
                (go_at_call 33
                 with_reducible refine (held_cells (by assumption) (H6.out _)).mono ?_
                 rintro e y28 ⟨rfl, hS28, hb⟩)
                have q28 := Lib.hid (q27.out.below hb)
                clear hb
                go_wp2_with fail
                refine hK.out _ _ ?_ (fun hHeld => ?_)
                · exact hS28
                clear hK K
                (try simp only [Act.put, List.setIfInBounds_toArray, List.set_cons_zero, List.set_cons_succ])
                refine wpAnyH_ready (rs := [8]) (by kernel_rfl) (by simp) (AllReadyH.cons rfl (fun K hK => ?_) (AllReadyH.nil))
                · go_simp
                  obtain ⟨G8, y29, e1, e2, hB, hb⟩ := boxd_new y28 #[.float .f64 0, .bool false] 72
                  rw [← e2, ← e1]
                  have hS29 := cells_new ‹_ ∧ _ ∧ Below wr.heap.size wr y28› hb
                  have le8 : wr.heap.size ≤ G8 := by rw [e1]; exact (‹_ ∧ _ ∧ Below wr.heap.size wr y28›).2.2.size
                  have p29 := Lib.hid hB
                  have ne : G8 ≠ G9 := by have := q28.out.lt; omega
                  have q29 := Lib.hid (q28.out.below hb)
                  clear e1 e2 hB hb
                  refine hK.out _ _ ?_ (fun hHeld => ?_)
                  · exact hS29
                  clear hK K
                  (try simp only [Act.put, List.setIfInBounds_toArray, List.set_cons_zero, List.set_cons_succ])
                  have hS9 := ‹_ ∧ _ ∧ Below wr.heap.size wr y29›
                  obtain ⟨u0, u1, z0, z1, k8, m9, hT⟩ := real_set p29.out q29.out ne hS9 le8 lgn (ofF r5) (ofB r5)
                  refine wpAnyH_ready (rs := [10]) (by kernel_rfl) (by simp) (AllReadyH.cons rfl (fun K hK => ?_) AllReadyH.nil)
                  go_simp
                  refine hK.out _ _ ?_ (fun hHeld => ?_)
                  · exact hT
                  clear hK K
                  (try simp only [Act.put, List.setIfInBounds_toArray, List.set_cons_zero, List.set_cons_succ])
                  generalize World.setCell (World.setCell y29 ⟨G8, 0, none⟩ _) ⟨G8, 1, none⟩ _ = wS at *
                  obtain ⟨v0, v1, x0, x1, m8, k9, hU⟩ := real_set m9 k8 (fun e => ne e.symm) hT le9 lgn (ofF r6) (ofB r6)
                  clear u0 u1 z0 z1
                  refine wpAnyH_ready (rs := [11]) (by kernel_rfl) (by simp) (AllReadyH.cons rfl (fun K hK => ?_) AllReadyH.nil)
                  go_simp
                  refine hK.out _ _ ?_ (fun hHeld => ?_)
                  · exact hU
                  clear hK K
                  (try simp only [Act.put, List.setIfInBounds_toArray, List.set_cons_zero, List.set_cons_succ])
                  refine wpAnyH_done (by kernel_rfl) ?_ _
                  go_wp2_with fail
                  go_meet
                  exact ⟨_, _, rfl, rfl, k9, m8, hU.2.2, ne⟩
              · go_simp
                obtain ⟨G8, y30, e1, e2, hB, hb⟩ := boxd_new y27 #[.float .f64 0, .bool false] 72
                rw [← e2, ← e1]
                have hS30 := cells_new ‹_ ∧ _ ∧ Below wr.heap.size wr y27› hb
                have le8 : wr.heap.size ≤ G8 := by rw [e1]; exact (‹_ ∧ _ ∧ Below wr.heap.size wr y27›).2.2.size
                have p30 := Lib.hid hB
                have ne : G8 ≠ G9 := by have := q27.out.lt; omega
                have q30 := Lib.hid (q27.out.below hb)
                clear e1 e2 hB hb
                refine hK.out _ _ ?_ (fun hHeld => ?_)
                · exact hS30
                clear hK K
                (try simp only [Act.put, List.setIfInBounds_toArray, List.set_cons_zero, List.set_cons_succ])
                refine wpAnyH_ready (rs := [7]) (by kernel_rfl) (by simp) (AllReadyH.cons rfl (fun K hK => ?_) (AllReadyH.nil))
                · go_simp
                  (go_at_call 33
                   with_reducible refine (held_cells (by assumption) (H6.out _)).mono ?_
                   rintro e y31 ⟨rfl, hS31, hb⟩)
                  have p31 := Lib.hid (p30.out.below hb)
                  have q31 := Lib.hid (q30.out.below hb)
                  clear hb
                  go_wp2_with fail
                  refine hK.out _ _ ?_ (fun hHeld => ?_)
                  · exact hS31
                  clear hK K
                  (try simp only [Act.put, List.setIfInBounds_toArray, List.set_cons_zero, List.set_cons_succ])
                  have hS9 := ‹_ ∧ _ ∧ Below wr.heap.size wr y31›
                  obtain ⟨u0, u1, z0, z1, k8, m9, hT⟩ := real_set p31.out q31.out ne hS9 le8 lgn (ofF r5) (ofB r5)
                  refine wpAnyH_ready (rs := [10]) (by kernel_rfl) (by simp) (AllReadyH.cons rfl (fun K hK => ?_) AllReadyH.nil)
                  go_simp
                  refine hK.out _ _ ?_ (fun hHeld => ?_)
                  · exact hT
                  clear hK K
                  (try simp only [Act.put, List.setIfInBounds_toArray, List.set_cons_zero, List.set_cons_succ])
                  generalize World.setCell (World.setCell y31 ⟨G8, 0, none⟩ _) ⟨G8, 1, none⟩ _ = wS at *
                  obtain ⟨v0, v1, x0, x1, m8, k9, hU⟩ := real_set m9 k8 (fun e => ne e.symm) hT le9 lgn (ofF r6) (ofB r6)
                  clear u0 u1 z0 z1
                  refine wpAnyH_ready (rs := [11]) (by kernel_rfl) (by simp) (AllReadyH.cons rfl (fun K hK => ?_) AllReadyH.nil)
                  go_simp
                  refine hK.out _ _ ?_ (fun hHeld => ?_)
                  · exact hU
                  clear hK K
                  (try simp only [Act.put, List.setIfInBounds_toArray, List.set_cons_zero, List.set_cons_succ])
                  refine wpAnyH_done (by kernel_rfl) ?_ _
                  go_wp2_with fail
                  go_meet
                  exact ⟨_, _, rfl, rfl, k9, m8, hU.2.2, ne⟩
            · go_simp
              obtain ⟨G8, y32, e1, e2, hB, hb⟩ := boxd_new y26 #[.float .f64 0, .bool false] 72
              rw [← e2, ← e1]
              have hS32 := cells_new ‹_ ∧ _ ∧ Below wr.heap.size wr y26› hb
              have le8 : wr.heap.size ≤ G8 := by rw [e1]; exact (‹_ ∧ _ ∧ Below wr.heap.size wr y26›).2.2.size
              have p32 := Lib.hid hB
              have ne : G8 ≠ G9 := by have := q26.out.lt; omega
              have q32 := Lib.hid (q26.out.below hb)
              clear e1 e2 hB hb
              refine hK.out _ _ ?_ (fun hHeld => ?_)
              · exact hS32
              clear hK K
              (try simp only [Act.put, List.setIfInBounds_toArray, List.set_cons_zero, List.set_cons_succ])
              refine wpAnyH_ready (rs := [3]) (by kernel_rfl) (by simp) (AllReadyH.cons rfl (fun K hK => ?_) (AllReadyH.nil))
              · go_simp
                (go_at_call 33
                 with_reducible refine (held_cells (by assumption) (H5.out _)).mono ?_
                 rintro e y33 ⟨rfl, hS33, hb⟩)
                have p33 := Lib.hid (p32.out.below hb)
                have q33 := Lib.hid (q32.out.below hb)
                clear hb
                go_wp2_with fail
                refine hK.out _ _ ?_ (fun hHeld => ?_)
                · exact hS33
                clear hK K
                (try simp only [Act.put, List.setIfInBounds_toArray, List.set_cons_zero, List.set_cons_succ])
                refine wpAnyH_ready (rs := [7]) (by kernel_rfl) (by simp) (AllReadyH.cons rfl (fun K hK => ?_) (AllReadyH.nil))
                · go_simp
                  (go_at_call 33
                   with_reducible refine (held_cells (by assumption) (H6.out _)).mono ?_
                   rintro e y34 ⟨rfl, hS34, hb⟩)
                  have p34 := Lib.hid (p33.out.below hb)
                  have q34 := Lib.hid (q33.out.below hb)
                  clear hb
                  go_wp2_with fail
                  refine hK.out _ _ ?_ (fun hHeld => ?_)
                  · exact hS34
                  clear hK K
                  (try simp only [Act.put, List.setIfInBounds_toArray, List.set_cons_zero, List.set_cons_succ])
                  have hS9 := ‹_ ∧ _ ∧ Below wr.heap.size wr y34›
                  obtain ⟨u0, u1, z0, z1, k8, m9, hT⟩ := real_set p34.out q34.out ne hS9 le8 lgn (ofF r5) (ofB r5)
                  refine wpAnyH_ready (rs := [10]) (by kernel_rfl) (by simp) (AllReadyH.cons rfl (fun K hK => ?_) AllReadyH.nil)
                  go_simp
                  refine hK.out _ _ ?_ (fun hHeld => ?_)
                  · exact hT
                  clear hK K
                  (try simp only [Act.put, List.setIfInBounds_toArray, List.set_cons_zero, List.set_cons_succ])
                  generalize World.setCell (World.setCell y34 ⟨G8, 0, none⟩ _) ⟨G8, 1, none⟩ _ = wS at *
                  obtain ⟨v0, v1, x0, x1, m8, k9, hU⟩ := real_set m9 k8 (fun e => ne e.symm) hT le9 lgn (ofF r6) (ofB r6)
                  clear u0 u1 z0 z1
                  refine wpAnyH_ready (rs := [11]) (by kernel_rfl) (by simp) (AllReadyH.cons rfl (fun K hK => ?_) AllReadyH.nil)
                  go_simp
                  refine hK.out _ _ ?_ (fun hHeld => ?_)
                  · exact hU
                  clear hK K
                  (try simp only [Act.put, List.setIfInBounds_toArray, List.set_cons_zero, List.set_cons_succ])
                  refine wpAnyH_done (by kernel_rfl) ?_ _
                  go_wp2_with fail
                  go_meet
                  exact ⟨_, _, rfl, rfl, k9, m8, hU.2.2, ne⟩
      case rest =>
        obtain ⟨G8, G9, rfl, rfl, B8, B9, HX, -⟩ := hcut
        have RO1 : RO wc go (ost b 11) := ⟨HR.out.ro.1.of_block (HX.out.block go HR.out.ro.1.lt), HR.out.ro.2⟩
        have RW1 : wc.rowIs gn 69 11 (told b 11) := HR.out.row.of_block (HX.out.block gn lgn)
        have RS1 := Lib.hid (HR.out.res.below HX.out)
        have HW1 := Lib.hid (below_via HR.out.below HX.out)
        have HDone := r_odone (ost b 11) go wc RO1
        rw [ost_done] at HDone
        have HS := Lib.hid (ev_info ev0)
        have H1 := Lib.hid (ev0_one)
        rw [decide_eq_false h39] at HDone
        have hk : okD b = false := by unfold okD; rw [decide_eq_false h39]; rfl
        obtain rfl : E = ev0 := HEX.out.1.symm.trans (by unfold decE; rw [hk]; rfl)
        obtain rfl : X = 11 := HEX.out.2.symm.trans (by unfold decX; rw [hk]; rfl)
        go_wp2_with fail
        refine HDone.mono ?_
        rintro e w4 ⟨rfl, d, rfl⟩
        have RS2 : Hid (Boxd (wc.drewN d) g0 ev0.cells 25) := RS1
        have HW2 := Lib.hid (below_drewN HW1.out d)
        generalize wc.drewN d = w5 at *
        rw [ev0_cells] at *
        go_wp2_with (first
          | (refine store_row0 rfl 25 _ _ rfl rfl _ _ rfl rfl _ _ RS2.out HS.out rfl H1.out ?_))
        refine bodyPost_ret (results_two rfl _ _ _ _ _ _ _ _ rfl (setRow_heap _ _ _ _ _ _ RS2.out) Try.underlying25 rfl HS.out rfl) rfl ?_
        exact ⟨rfl, below_setRow HW2.out hg0 _⟩
end Go.Proofs.Ytcmdonckilajjaa.Event
namespace Go.Proofs.Ytcmdonckilajjaa.Event
open Go.ChangeShapes Go.WideShapes Go.ChangeAt Go.RowKit Fl Date Cal Pack

attribute [local go_sem] run_store_float'
theorem fld_bound (b : ByteArray) {j n : Nat} (h : j < 11) (hs : sizeL.getD j 0 = n) : fld b j < 256 ^ n := by
  rw [fld_at b h, hs]
  exact valN_lt b n _
theorem of_less {u : Nat} (hu : u < 18446744073709551616) : ofF u < 18446744073709551616 := by
  unfold ofF
  split
  · exact hu
  · decide
theorem fit_dec {b : ByteArray} (h4 : fld b 4 ≤ 1000000000) : (evD b).Fit := by
  have b0 := fld_bound b (j := 0) (n := 1) (by decide) rfl
  have b1 := fld_bound b (j := 1) (n := 4) (by decide) rfl
  have b2 := fld_bound b (j := 2) (n := 4) (by decide) rfl
  have b3 := fld_bound b (j := 3) (n := 2) (by decide) rfl
  have b5 := fld_bound b (j := 5) (n := 8) (by decide) rfl
  have b6 := fld_bound b (j := 6) (n := 8) (by decide) rfl
  have b8 := fld_bound b (j := 8) (n := 1) (by decide) rfl
  have b9 := fld_bound b (j := 9) (n := 1) (by decide) rfl
  have b10 := fld_bound b (j := 10) (n := 1) (by decide) rfl
  have o5 : ofF (fld b 5) < 18446744073709551616 := of_less (by omega)
  have o6 : ofF (fld b 6) < 18446744073709551616 := of_less (by omega)
  unfold evD
  generalize fld b 0 = v0 at *
  generalize fld b 1 = v1 at *
  generalize fld b 2 = v2 at *
  generalize fld b 3 = v3 at *
  generalize fld b 4 = v4 at *
  generalize fld b 8 = v8 at *
  generalize fld b 9 = v9 at *
  generalize fld b 10 = v10 at *
  generalize ofF (fld b 5) = f5 at *
  generalize ofF (fld b 6) = f6 at *
  clear b5 b6
  refine ⟨?_, ?_, ?_, ?_, ?_, o5, o6, ?_, ?_, ?_⟩
  all_goals
    simp only
    omega
set_option maxRecDepth 20000 in
set_option maxHeartbeats 4000000 in
theorem r_decode_yes (b : ByteArray) (w : World) (hl : b.size ≤ 100000) (h39 : b.size = 39) : Calls Try.prog 12 #[.string b] w fun x w' => x = .returned (.tuple #[.agg (decE b).cells, .int .i64 (decX b)]) ∧ Below w.heap.size w w' := by
  have HL := Lib.hid hl
  obtain ⟨E, hE⟩ : ∃ E, decE b = E := ⟨_, rfl⟩
  obtain ⟨X, hX⟩ : ∃ X, decX b = X := ⟨_, rfl⟩
  rw [hE, hX]
  have HEX := Lib.hid (And.intro hE hX)
  clear hE hX
  have hmk0 := fun W : World => run_make_row' (P := Try.prog) 68 69 (.int .u64 0) 8 Try.underlying68 u64_info rfl .i64 .i64 11 (by decide) (by decide) W
  have hmk : ∀ W : World, (Instr.makeSlice 68 (.int .i64 11) (.int .i64 11)).run Try.prog W = .ok (.slice (some ⟨W.heap.size, 0, none⟩) 11 11) (W.alloc (.cells (madeCells #[.int .u64 0] 11) 69)) := hmk0
  obtain ⟨g0, wa, e1, e2, hA, ha⟩ := boxd_new w ev0.cells 25
  obtain ⟨go, wb, e3, e4, hO, ho⟩ := boxd_new wa #[.string b, .int .i64 0, .bool false] 65
  have e5 : go = w.heap.size + 1 := by rw [e3, e2, Deep.nblk_alloc]
  have HRO := Lib.hid (ro_first hO (by omega))
  have HRES := Lib.hid (hA.below ho)
  have HW := Lib.hid (below_via ha ho)
  have lgo := hO.lt
  clear hl hmk0 hA ha hO ho
  rw [ev0_cells] at e2
  go_enter Try.func12, Try.ntmps12
  go_upto_region 2 with fail
  rw [← e2, ← e4, ← e5, ← e1]
  have lwo : w.heap.size ≤ go := by omega
  have lg0 : g0 < go := by omega
  have hg0 : w.heap.size ≤ g0 := by omega
  clear e1 e2 e3 e4 e5
  go_upto_region 3 with (first
    | (go_at_call 31
       refine (r_sizes wb).mono ?_
       rintro e w2 ⟨gs, c2, rfl, hn2, hb2, hge⟩))
  have HW2 := Lib.hid (below_via HW.out hb2)
  have HRO2 := Lib.hid (⟨HRO.out.1.of_block (hb2.block go lgo), HRO.out.2⟩ : RO w2 go (ost b 0))
  have HRES2 := Lib.hid (HRES.out.below hb2)
  have lgs := hn2.1
  have HN2 := Lib.hid hn2
  have dgs : go < gs := by omega
  have lw2 := hb2.size
  clear hn2 hb2
  go_upto_region 4 with fail
  obtain ⟨gn, hgn⟩ : ∃ gn, gn = w2.heap.size := ⟨_, rfl⟩
  have HR0 : Hid (Reads b w g0 go gn gs 0 (w2.alloc (.cells (madeCells #[.int .u64 0] 11) 69))) := by
    have hbn : Below w2.heap.size w2 (w2.alloc (.cells (madeCells #[.int .u64 0] 11) 69)) := (Below.refl _ w2).alloc (Nat.le_refl _) _
    refine ⟨⟨HRO2.out.1.of_block (hbn.block go (by omega)), HRO2.out.2⟩, ?_, HN2.out.below hbn, HRES2.out.below hbn, below_via HW2.out hbn⟩
    rw [hgn]
    exact (World.rowIs_made w2 (.int .u64 0) 11 69).congr fun i _ => rfl
  have dgn : gs < gn := by omega
  have lwn : w.heap.size ≤ gn := by omega
  generalize w2.alloc (.cells (madeCells #[.int .u64 0] 11) 69) = w3 at *
  rw [← hgn]
  clear hgn HRO HRES HW HRO2 HRES2 HN2 HW2 lw2 lgs lgo hmk
  go_upto_region 5 with fail
  go_loopw [7] (fun t wr => ∃ j : Nat, j ≤ 11 ∧ t = .int .i64 j ∧ Hid (Reads b w g0 go gn gs j wr)) (fun t _ => 11 - (intOf t).toNat)
  case atStart => exact ⟨0, by omega, rfl, HR0⟩
  case round =>
    obtain ⟨j, hj, rfl, HR⟩ := hrel
    by_cases hlt : j < 11
    · have j0 : (0 : Int) ≤ j := by omega
      have j1 : (j : Int) < 11 := by omega
      have c1 := HR.out.sizes.2 j hlt
      have hs := size_le j
      have hn : Calls Try.prog 32 #[.pointer (some ⟨go, 0, none⟩), .int .i64 ((sizeL.getD j 0 : Nat) : Int)] wr fun e w' => e = .returned (.int .u64 (ovl b j : Nat)) ∧ RO w' go (ost b (j + 1)) ∧ wr.grownBy w' (some go) := r_onum (ost b j) _ go wr HR.out.ro (by omega)
      obtain ⟨n, hn0⟩ : ∃ n, sizeL.getD j 0 = n := ⟨_, rfl⟩
      rw [hn0] at hn c1
      obtain ⟨v, hv0⟩ : ∃ v, ovl b j = v := ⟨_, rfl⟩
      have HST : Hid (∀ w1, RO w1 go (ost b (j + 1)) → wr.grownBy w1 (some go) → w1.rowIs gn 69 11 (told b j) ∧ Reads b w g0 go gn gs (j + 1) (w1.setCell ⟨gn, j, none⟩ (.int .u64 (v : Nat)))) := fun w1 h1 h2 => by
        have h3 := reads_num HR.out h1 h2 lwo (by omega) (by omega) (by omega)
        refine ⟨h3.2.1, ?_⟩
        rw [← hv0]
        exact reads_store h3 lwn (by omega) (by omega) (by omega)
      rw [hv0] at hn
      clear hn0 hv0 hs
      go_wp2_with fail
      refine hn.mono ?_
      rintro e w1 ⟨rfl, hro, hgr⟩
      obtain ⟨q1, q2⟩ := HST.out w1 hro hgr
      have Q := Lib.hid q2
      have fz := q1.frozen j
      obtain ⟨v0, hv0⟩ : ∃ v0, w1.cell? ⟨gn, j, none⟩ = some v0 := ⟨_, q1.cell hlt⟩
      clear hro hgr q1 q2 HST hn
      go_wp2_with fail
      go_roundw
      case rel => exact ⟨j + 1, by omega, by go_num, Q⟩
      case measure => simp [intOf]; omega
    · obtain rfl : j = 11 := by omega
      go_upto_region 8 with fail
      have lgn := HR.out.row.lt
      have k5 : wr.cell? ⟨gn, 5, none⟩ = some (.int .u64 (ovl b 5 : Nat)) := HR.out.row.cell (i := 5) (by decide)
      have k6 : wr.cell? ⟨gn, 6, none⟩ = some (.int .u64 (ovl b 6 : Nat)) := HR.out.row.cell (i := 6) (by decide)
      have H5 : Hid (∀ W, Calls Try.prog 33 #[.int .u64 (ovl b 5 : Nat)] W fun z w' => z = .returned (.agg #[.float .f64 (ofF (ovl b 5)), .bool (ofB (ovl b 5))]) ∧ Below W.heap.size W w') := fun W => rof_any _ W (ovl_lt b 5)
      have H6 : Hid (∀ W, Calls Try.prog 33 #[.int .u64 (ovl b 6 : Nat)] W fun z w' => z = .returned (.agg #[.float .f64 (ofF (ovl b 6)), .bool (ofB (ovl b 6))]) ∧ Below W.heap.size W w') := fun W => rof_any _ W (ovl_lt b 6)
      obtain ⟨r5, hr5⟩ : ∃ r5, ovl b 5 = r5 := ⟨_, rfl⟩
      obtain ⟨r6, hr6⟩ : ∃ r6, ovl b 6 = r6 := ⟨_, rfl⟩
      rw [hr5] at H5 k5
      rw [hr6] at H6 k6
      go_cut [8, 9] (fun s t wx => ∃ G8 G9 : Nat, s = .pointer (some ⟨G8, 0, none⟩) ∧ t = .pointer (some ⟨G9, 0, none⟩) ∧ Hid (Boxd wx G8 #[.float .f64 (ofF r5), .bool (ofB r5)] 72) ∧ Hid (Boxd wx G9 #[.float .f64 (ofF r6), .bool (ofB r6)] 72) ∧ Hid (Below wr.heap.size wr wx) ∧ Hid (G8 ≠ G9))
      case first =>
        as_aux_lemma =>
          have hS0 : wr.drew.cell? ⟨gn, 5, none⟩ = some (.int .u64 (r5 : Nat)) ∧ wr.drew.cell? ⟨gn, 6, none⟩ = some (.int .u64 (r6 : Nat)) ∧ Below wr.heap.size wr wr.drew := ⟨k5, k6, below_drew (Below.refl _ _)⟩
          refine wp_region_held_drew (S := (fun w' => w'.cell? ⟨gn, 5, none⟩ = some (.int .u64 (r5 : Nat)) ∧ w'.cell? ⟨gn, 6, none⟩ = some (.int .u64 (r6 : Nat)) ∧ Below wr.heap.size wr w')) (by kernel_rfl) hS0 (fun hHeld => ?_)
          generalize wr.drew = y0 at *
          refine ByHand.take_yes (v := ?_) 0 31 rfl rfl (by kernel_rfl) (by kernel_rfl) (by kernel_rfl) (fun _ _ _ h => h) (by rfl) ?_ (by assumption) ?_
          rotate_left
          · intro w' hSw
            (try dsimp only at hSw)
            go_simp
            all_goals with_reducible rfl
          (try simp only [Act.put, List.setIfInBounds_toArray, List.set_cons_zero, List.set_cons_succ])
          refine ByHand.take_yes (v := ?_) 1 32 rfl rfl (by kernel_rfl) (by kernel_rfl) (by kernel_rfl) (fun _ _ _ h => h) (by rfl) ?_ (by assumption) ?_
          rotate_left
          · intro w' hSw
            (try dsimp only at hSw)
            go_simp
            all_goals with_reducible rfl
          (try simp only [Act.put, List.setIfInBounds_toArray, List.set_cons_zero, List.set_cons_succ])
          refine ByHand.take_yes (v := ?_) 2 33 rfl rfl (by kernel_rfl) (by kernel_rfl) (by kernel_rfl) (fun _ _ _ h => h) (by rfl) ?_ (by assumption) ?_
          rotate_left
          · intro w' hSw
            (try dsimp only at hSw)
            go_simp
            all_goals with_reducible rfl
          (try simp only [Act.put, List.setIfInBounds_toArray, List.set_cons_zero, List.set_cons_succ])
          refine ByHand.take_yes (v := ?_) 4 35 rfl rfl (by kernel_rfl) (by kernel_rfl) (by kernel_rfl) (fun _ _ _ h => h) (by rfl) ?_ (by assumption) ?_
          rotate_left
          · intro w' hSw
            (try dsimp only at hSw)
            go_simp
            all_goals with_reducible rfl
          (try simp only [Act.put, List.setIfInBounds_toArray, List.set_cons_zero, List.set_cons_succ])
          refine ByHand.take_yes (v := ?_) 5 36 rfl rfl (by kernel_rfl) (by kernel_rfl) (by kernel_rfl) (fun _ _ _ h => h) (by rfl) ?_ (by assumption) ?_
          rotate_left
          · intro w' hSw
            (try dsimp only at hSw)
            go_simp
            all_goals with_reducible rfl
          (try simp only [Act.put, List.setIfInBounds_toArray, List.set_cons_zero, List.set_cons_succ])
          refine ByHand.take_yes (v := ?_) 6 37 rfl rfl (by kernel_rfl) (by kernel_rfl) (by kernel_rfl) (fun _ _ _ h => h) (by rfl) ?_ (by assumption) ?_
          rotate_left
          · intro w' hSw
            (try dsimp only at hSw)
            go_simp
            all_goals with_reducible rfl
          (try simp only [Act.put, List.setIfInBounds_toArray, List.set_cons_zero, List.set_cons_succ])
          refine wpAnyH_ready (rs := [3, 8, 9]) (by kernel_rfl) (by simp) (AllReadyH.cons rfl (fun K hK => ?_) (AllReadyH.cons rfl (fun K hK => ?_) (AllReadyH.cons rfl (fun K hK => ?_) (AllReadyH.nil))))
          · go_simp
            (go_at_call 33
             with_reducible refine (held_cells (by assumption) (H5.out _)).mono ?_
             rintro e y1 ⟨rfl, hS1, hb⟩)
            clear hb
            go_wp2_with fail
            refine hK.out _ _ ?_ (fun hHeld => ?_)
            · exact hS1
            clear hK K
            (try simp only [Act.put, List.setIfInBounds_toArray, List.set_cons_zero, List.set_cons_succ])
            refine wpAnyH_ready (rs := [7, 8, 9]) (by kernel_rfl) (by simp) (AllReadyH.cons rfl (fun K hK => ?_) (AllReadyH.cons rfl (fun K hK => ?_) (AllReadyH.cons rfl (fun K hK => ?_) (AllReadyH.nil))))
            · go_simp
              (go_at_call 33
               with_reducible refine (held_cells (by assumption) (H6.out _)).mono ?_
               rintro e y2 ⟨rfl, hS2, hb⟩)
              clear hb
              go_wp2_with fail
              refine hK.out _ _ ?_ (fun hHeld => ?_)
              · exact hS2
              clear hK K
              (try simp only [Act.put, List.setIfInBounds_toArray, List.set_cons_zero, List.set_cons_succ])
              refine wpAnyH_ready (rs := [8, 9]) (by kernel_rfl) (by simp) (AllReadyH.cons rfl (fun K hK => ?_) (AllReadyH.cons rfl (fun K hK => ?_) (AllReadyH.nil)))
              · go_simp
                obtain ⟨G8, y3, e1, e2, hB, hb⟩ := boxd_new y2 #[.float .f64 0, .bool false] 72
                rw [← e2, ← e1]
                have hS3 := cells_new ‹_ ∧ _ ∧ Below wr.heap.size wr y2› hb
                have le8 : wr.heap.size ≤ G8 := by rw [e1]; exact (‹_ ∧ _ ∧ Below wr.heap.size wr y2›).2.2.size
                have p3 := Lib.hid hB
                clear e1 e2 hB hb
                refine hK.out _ _ ?_ (fun hHeld => ?_)
                · exact hS3
                clear hK K
                (try simp only [Act.put, List.setIfInBounds_toArray, List.set_cons_zero, List.set_cons_succ])
                refine wpAnyH_ready (rs := [9]) (by kernel_rfl) (by simp) (AllReadyH.cons rfl (fun K hK => ?_) (AllReadyH.nil))
                · go_simp
                  obtain ⟨G9, y4, e1, e2, hB, hb⟩ := boxd_new y3 #[.float .f64 0, .bool false] 72
                  rw [← e2, ← e1]
                  have hS4 := cells_new ‹_ ∧ _ ∧ Below wr.heap.size wr y3› hb
                  have le9 : wr.heap.size ≤ G9 := by rw [e1]; exact (‹_ ∧ _ ∧ Below wr.heap.size wr y3›).2.2.size
                  have q4 := Lib.hid hB
                  have ne : G8 ≠ G9 := by have := p3.out.lt; omega
                  have p4 := Lib.hid (p3.out.below hb)
                  clear e1 e2 hB hb
                  refine hK.out _ _ ?_ (fun hHeld => ?_)
                  · exact hS4
                  clear hK K
                  (try simp only [Act.put, List.setIfInBounds_toArray, List.set_cons_zero, List.set_cons_succ])
                  have hS9 := ‹_ ∧ _ ∧ Below wr.heap.size wr y4›
                  obtain ⟨u0, u1, z0, z1, k8, m9, hT⟩ := real_set p4.out q4.out ne hS9 le8 lgn (ofF r5) (ofB r5)
                  refine wpAnyH_ready (rs := [10]) (by kernel_rfl) (by simp) (AllReadyH.cons rfl (fun K hK => ?_) AllReadyH.nil)
                  go_simp
                  refine hK.out _ _ ?_ (fun hHeld => ?_)
                  · exact hT
                  clear hK K
                  (try simp only [Act.put, List.setIfInBounds_toArray, List.set_cons_zero, List.set_cons_succ])
                  generalize World.setCell (World.setCell y4 ⟨G8, 0, none⟩ _) ⟨G8, 1, none⟩ _ = wS at *
                  obtain ⟨v0, v1, x0, x1, m8, k9, hU⟩ := real_set m9 k8 (fun e => ne e.symm) hT le9 lgn (ofF r6) (ofB r6)
                  clear u0 u1 z0 z1
                  refine wpAnyH_ready (rs := [11]) (by kernel_rfl) (by simp) (AllReadyH.cons rfl (fun K hK => ?_) AllReadyH.nil)
                  go_simp
                  refine hK.out _ _ ?_ (fun hHeld => ?_)
                  · exact hU
                  clear hK K
                  (try simp only [Act.put, List.setIfInBounds_toArray, List.set_cons_zero, List.set_cons_succ])
                  refine wpAnyH_done (by kernel_rfl) ?_ _
                  go_wp2_with fail
                  go_meet
                  exact ⟨_, _, rfl, rfl, k9, m8, hU.2.2, ne⟩
              · go_simp
                obtain ⟨G9, y5, e1, e2, hB, hb⟩ := boxd_new y2 #[.float .f64 0, .bool false] 72
                rw [← e2, ← e1]
                have hS5 := cells_new ‹_ ∧ _ ∧ Below wr.heap.size wr y2› hb
                have le9 : wr.heap.size ≤ G9 := by rw [e1]; exact (‹_ ∧ _ ∧ Below wr.heap.size wr y2›).2.2.size
                have q5 := Lib.hid hB
                clear e1 e2 hB hb
                refine hK.out _ _ ?_ (fun hHeld => ?_)
                · exact hS5
                clear hK K
                (try simp only [Act.put, List.setIfInBounds_toArray, List.set_cons_zero, List.set_cons_succ])
                refine wpAnyH_ready (rs := [8]) (by kernel_rfl) (by simp) (AllReadyH.cons rfl (fun K hK => ?_) (AllReadyH.nil))
                · go_simp
                  obtain ⟨G8, y6, e1, e2, hB, hb⟩ := boxd_new y5 #[.float .f64 0, .bool false] 72
                  rw [← e2, ← e1]
                  have hS6 := cells_new ‹_ ∧ _ ∧ Below wr.heap.size wr y5› hb
                  have le8 : wr.heap.size ≤ G8 := by rw [e1]; exact (‹_ ∧ _ ∧ Below wr.heap.size wr y5›).2.2.size
                  have p6 := Lib.hid hB
                  have ne : G8 ≠ G9 := by have := q5.out.lt; omega
                  have q6 := Lib.hid (q5.out.below hb)
                  clear e1 e2 hB hb
                  refine hK.out _ _ ?_ (fun hHeld => ?_)
                  · exact hS6
                  clear hK K
                  (try simp only [Act.put, List.setIfInBounds_toArray, List.set_cons_zero, List.set_cons_succ])
                  have hS9 := ‹_ ∧ _ ∧ Below wr.heap.size wr y6›
                  obtain ⟨u0, u1, z0, z1, k8, m9, hT⟩ := real_set p6.out q6.out ne hS9 le8 lgn (ofF r5) (ofB r5)
                  refine wpAnyH_ready (rs := [10]) (by kernel_rfl) (by simp) (AllReadyH.cons rfl (fun K hK => ?_) AllReadyH.nil)
                  go_simp
                  refine hK.out _ _ ?_ (fun hHeld => ?_)
                  · exact hT
                  clear hK K
                  (try simp only [Act.put, List.setIfInBounds_toArray, List.set_cons_zero, List.set_cons_succ])
                  generalize World.setCell (World.setCell y6 ⟨G8, 0, none⟩ _) ⟨G8, 1, none⟩ _ = wS at *
                  obtain ⟨v0, v1, x0, x1, m8, k9, hU⟩ := real_set m9 k8 (fun e => ne e.symm) hT le9 lgn (ofF r6) (ofB r6)
                  clear u0 u1 z0 z1
                  refine wpAnyH_ready (rs := [11]) (by kernel_rfl) (by simp) (AllReadyH.cons rfl (fun K hK => ?_) AllReadyH.nil)
                  go_simp
                  refine hK.out _ _ ?_ (fun hHeld => ?_)
                  · exact hU
                  clear hK K
                  (try simp only [Act.put, List.setIfInBounds_toArray, List.set_cons_zero, List.set_cons_succ])
                  refine wpAnyH_done (by kernel_rfl) ?_ _
                  go_wp2_with fail
                  go_meet
                  exact ⟨_, _, rfl, rfl, k9, m8, hU.2.2, ne⟩
            · go_simp
              obtain ⟨G8, y7, e1, e2, hB, hb⟩ := boxd_new y1 #[.float .f64 0, .bool false] 72
              rw [← e2, ← e1]
              have hS7 := cells_new ‹_ ∧ _ ∧ Below wr.heap.size wr y1› hb
              have le8 : wr.heap.size ≤ G8 := by rw [e1]; exact (‹_ ∧ _ ∧ Below wr.heap.size wr y1›).2.2.size
              have p7 := Lib.hid hB
              clear e1 e2 hB hb
              refine hK.out _ _ ?_ (fun hHeld => ?_)
              · exact hS7
              clear hK K
              (try simp only [Act.put, List.setIfInBounds_toArray, List.set_cons_zero, List.set_cons_succ])
              refine wpAnyH_ready (rs := [7, 9]) (by kernel_rfl) (by simp) (AllReadyH.cons rfl (fun K hK => ?_) (AllReadyH.cons rfl (fun K hK => ?_) (AllReadyH.nil)))
              · go_simp
                (go_at_call 33
                 with_reducible refine (held_cells (by assumption) (H6.out _)).mono ?_
                 rintro e y8 ⟨rfl, hS8, hb⟩)
                have p8 := Lib.hid (p7.out.below hb)
                clear hb
                go_wp2_with fail
                refine hK.out _ _ ?_ (fun hHeld => ?_)
                · exact hS8
                clear hK K
                (try simp only [Act.put, List.setIfInBounds_toArray, List.set_cons_zero, List.set_cons_succ])
                refine wpAnyH_ready (rs := [9]) (by kernel_rfl) (by simp) (AllReadyH.cons rfl (fun K hK => ?_) (AllReadyH.nil))
                · go_simp
                  obtain ⟨G9, y9, e1, e2, hB, hb⟩ := boxd_new y8 #[.float .f64 0, .bool false] 72
                  rw [← e2, ← e1]
                  have hS9 := cells_new ‹_ ∧ _ ∧ Below wr.heap.size wr y8› hb
                  have le9 : wr.heap.size ≤ G9 := by rw [e1]; exact (‹_ ∧ _ ∧ Below wr.heap.size wr y8›).2.2.size
                  have q9 := Lib.hid hB
                  have ne : G8 ≠ G9 := by have := p8.out.lt; omega
                  have p9 := Lib.hid (p8.out.below hb)
                  clear e1 e2 hB hb
                  refine hK.out _ _ ?_ (fun hHeld => ?_)
                  · exact hS9
                  clear hK K
                  (try simp only [Act.put, List.setIfInBounds_toArray, List.set_cons_zero, List.set_cons_succ])
                  have hS9 := ‹_ ∧ _ ∧ Below wr.heap.size wr y9›
                  obtain ⟨u0, u1, z0, z1, k8, m9, hT⟩ := real_set p9.out q9.out ne hS9 le8 lgn (ofF r5) (ofB r5)
                  refine wpAnyH_ready (rs := [10]) (by kernel_rfl) (by simp) (AllReadyH.cons rfl (fun K hK => ?_) AllReadyH.nil)
                  go_simp
                  refine hK.out _ _ ?_ (fun hHeld => ?_)
                  · exact hT
                  clear hK K
                  (try simp only [Act.put, List.setIfInBounds_toArray, List.set_cons_zero, List.set_cons_succ])
                  generalize World.setCell (World.setCell y9 ⟨G8, 0, none⟩ _) ⟨G8, 1, none⟩ _ = wS at *
                  obtain ⟨v0, v1, x0, x1, m8, k9, hU⟩ := real_set m9 k8 (fun e => ne e.symm) hT le9 lgn (ofF r6) (ofB r6)
                  clear u0 u1 z0 z1
                  refine wpAnyH_ready (rs := [11]) (by kernel_rfl) (by simp) (AllReadyH.cons rfl (fun K hK => ?_) AllReadyH.nil)
                  go_simp
                  refine hK.out _ _ ?_ (fun hHeld => ?_)
                  · exact hU
                  clear hK K
                  (try simp only [Act.put, List.setIfInBounds_toArray, List.set_cons_zero, List.set_cons_succ])
                  refine wpAnyH_done (by kernel_rfl) ?_ _
                  go_wp2_with fail
                  go_meet
                  exact ⟨_, _, rfl, rfl, k9, m8, hU.2.2, ne⟩
              · go_simp
                obtain ⟨G9, y10, e1, e2, hB, hb⟩ := boxd_new y7 #[.float .f64 0, .bool false] 72
                rw [← e2, ← e1]
                have hS10 := cells_new ‹_ ∧ _ ∧ Below wr.heap.size wr y7› hb
                have le9 : wr.heap.size ≤ G9 := by rw [e1]; exact (‹_ ∧ _ ∧ Below wr.heap.size wr y7›).2.2.size
                have q10 := Lib.hid hB
                have ne : G8 ≠ G9 := by have := p7.out.lt; omega
                have p10 := Lib.hid (p7.out.below hb)
                clear e1 e2 hB hb
                refine hK.out _ _ ?_ (fun hHeld => ?_)
                · exact hS10
                clear hK K
                (try simp only [Act.put, List.setIfInBounds_toArray, List.set_cons_zero, List.set_cons_succ])
                refine wpAnyH_ready (rs := [7]) (by kernel_rfl) (by simp) (AllReadyH.cons rfl (fun K hK => ?_) (AllReadyH.nil))
                · go_simp
                  (go_at_call 33
                   with_reducible refine (held_cells (by assumption) (H6.out _)).mono ?_
                   rintro e y11 ⟨rfl, hS11, hb⟩)
                  have p11 := Lib.hid (p10.out.below hb)
                  have q11 := Lib.hid (q10.out.below hb)
                  clear hb
                  go_wp2_with fail
                  refine hK.out _ _ ?_ (fun hHeld => ?_)
                  · exact hS11
                  clear hK K
                  (try simp only [Act.put, List.setIfInBounds_toArray, List.set_cons_zero, List.set_cons_succ])
                  have hS9 := ‹_ ∧ _ ∧ Below wr.heap.size wr y11›
                  obtain ⟨u0, u1, z0, z1, k8, m9, hT⟩ := real_set p11.out q11.out ne hS9 le8 lgn (ofF r5) (ofB r5)
                  refine wpAnyH_ready (rs := [10]) (by kernel_rfl) (by simp) (AllReadyH.cons rfl (fun K hK => ?_) AllReadyH.nil)
                  go_simp
                  refine hK.out _ _ ?_ (fun hHeld => ?_)
                  · exact hT
                  clear hK K
                  (try simp only [Act.put, List.setIfInBounds_toArray, List.set_cons_zero, List.set_cons_succ])
                  generalize World.setCell (World.setCell y11 ⟨G8, 0, none⟩ _) ⟨G8, 1, none⟩ _ = wS at *
                  obtain ⟨v0, v1, x0, x1, m8, k9, hU⟩ := real_set m9 k8 (fun e => ne e.symm) hT le9 lgn (ofF r6) (ofB r6)
                  clear u0 u1 z0 z1
                  refine wpAnyH_ready (rs := [11]) (by kernel_rfl) (by simp) (AllReadyH.cons rfl (fun K hK => ?_) AllReadyH.nil)
                  go_simp
                  refine hK.out _ _ ?_ (fun hHeld => ?_)
                  · exact hU
                  clear hK K
                  (try simp only [Act.put, List.setIfInBounds_toArray, List.set_cons_zero, List.set_cons_succ])
                  refine wpAnyH_done (by kernel_rfl) ?_ _
                  go_wp2_with fail
                  go_meet
                  exact ⟨_, _, rfl, rfl, k9, m8, hU.2.2, ne⟩
            · go_simp
              obtain ⟨G9, y12, e1, e2, hB, hb⟩ := boxd_new y1 #[.float .f64 0, .bool false] 72
              rw [← e2, ← e1]
              have hS12 := cells_new ‹_ ∧ _ ∧ Below wr.heap.size wr y1› hb
              have le9 : wr.heap.size ≤ G9 := by rw [e1]; exact (‹_ ∧ _ ∧ Below wr.heap.size wr y1›).2.2.size
              have q12 := Lib.hid hB
              clear e1 e2 hB hb
              refine hK.out _ _ ?_ (fun hHeld => ?_)
              · exact hS12
              clear hK K
              (try simp only [Act.put, List.setIfInBounds_toArray, List.set_cons_zero, List.set_cons_succ])
              refine wpAnyH_ready (rs := [7, 8]) (by kernel_rfl) (by simp) (AllReadyH.cons rfl (fun K hK => ?_) (AllReadyH.cons rfl (fun K hK => ?_) (AllReadyH.nil)))
              · go_simp
                (go_at_call 33
                 with_reducible refine (held_cells (by assumption) (H6.out _)).mono ?_
                 rintro e y13 ⟨rfl, hS13, hb⟩)
                have q13 := Lib.hid (q12.out.below hb)
                clear hb
                go_wp2_with fail
                refine hK.out _ _ ?_ (fun hHeld => ?_)
                · exact hS13
                clear hK K
                (try simp only [Act.put, List.setIfInBounds_toArray, List.set_cons_zero, List.set_cons_succ])
                refine wpAnyH_ready (rs := [8]) (by kernel_rfl) (by simp) (AllReadyH.cons rfl (fun K hK => ?_) (AllReadyH.nil))
                · go_simp
                  obtain ⟨G8, y14, e1, e2, hB, hb⟩ := boxd_new y13 #[.float .f64 0, .bool false] 72
                  rw [← e2, ← e1]
                  have hS14 := cells_new ‹_ ∧ _ ∧ Below wr.heap.size wr y13› hb
                  have le8 : wr.heap.size ≤ G8 := by rw [e1]; exact (‹_ ∧ _ ∧ Below wr.heap.size wr y13›).2.2.size
                  have p14 := Lib.hid hB
                  have ne : G8 ≠ G9 := by have := q13.out.lt; omega
                  have q14 := Lib.hid (q13.out.below hb)
                  clear e1 e2 hB hb
                  refine hK.out _ _ ?_ (fun hHeld => ?_)
                  · exact hS14
                  clear hK K
                  (try simp only [Act.put, List.setIfInBounds_toArray, List.set_cons_zero, List.set_cons_succ])
                  have hS9 := ‹_ ∧ _ ∧ Below wr.heap.size wr y14›
                  obtain ⟨u0, u1, z0, z1, k8, m9, hT⟩ := real_set p14.out q14.out ne hS9 le8 lgn (ofF r5) (ofB r5)
                  refine wpAnyH_ready (rs := [10]) (by kernel_rfl) (by simp) (AllReadyH.cons rfl (fun K hK => ?_) AllReadyH.nil)
                  go_simp
                  refine hK.out _ _ ?_ (fun hHeld => ?_)
                  · exact hT
                  clear hK K
                  (try simp only [Act.put, List.setIfInBounds_toArray, List.set_cons_zero, List.set_cons_succ])
                  generalize World.setCell (World.setCell y14 ⟨G8, 0, none⟩ _) ⟨G8, 1, none⟩ _ = wS at *
                  obtain ⟨v0, v1, x0, x1, m8, k9, hU⟩ := real_set m9 k8 (fun e => ne e.symm) hT le9 lgn (ofF r6) (ofB r6)
                  clear u0 u1 z0 z1
                  refine wpAnyH_ready (rs := [11]) (by kernel_rfl) (by simp) (AllReadyH.cons rfl (fun K hK => ?_) AllReadyH.nil)
                  go_simp
                  refine hK.out _ _ ?_ (fun hHeld => ?_)
                  · exact hU
                  clear hK K
                  (try simp only [Act.put, List.setIfInBounds_toArray, List.set_cons_zero, List.set_cons_succ])
                  refine wpAnyH_done (by kernel_rfl) ?_ _
                  go_wp2_with fail
                  go_meet
                  exact ⟨_, _, rfl, rfl, k9, m8, hU.2.2, ne⟩
              · go_simp
                obtain ⟨G8, y15, e1, e2, hB, hb⟩ := boxd_new y12 #[.float .f64 0, .bool false] 72
                rw [← e2, ← e1]
                have hS15 := cells_new ‹_ ∧ _ ∧ Below wr.heap.size wr y12› hb
                have le8 : wr.heap.size ≤ G8 := by rw [e1]; exact (‹_ ∧ _ ∧ Below wr.heap.size wr y12›).2.2.size
                have p15 := Lib.hid hB
                have ne : G8 ≠ G9 := by have := q12.out.lt; omega
                have q15 := Lib.hid (q12.out.below hb)
                clear e1 e2 hB hb
                refine hK.out _ _ ?_ (fun hHeld => ?_)
                · exact hS15
                clear hK K
                (try simp only [Act.put, List.setIfInBounds_toArray, List.set_cons_zero, List.set_cons_succ])
                refine wpAnyH_ready (rs := [7]) (by kernel_rfl) (by simp) (AllReadyH.cons rfl (fun K hK => ?_) (AllReadyH.nil))
                · go_simp
                  (go_at_call 33
                   with_reducible refine (held_cells (by assumption) (H6.out _)).mono ?_
                   rintro e y16 ⟨rfl, hS16, hb⟩)
                  have p16 := Lib.hid (p15.out.below hb)
                  have q16 := Lib.hid (q15.out.below hb)
                  clear hb
                  go_wp2_with fail
                  refine hK.out _ _ ?_ (fun hHeld => ?_)
                  · exact hS16
                  clear hK K
                  (try simp only [Act.put, List.setIfInBounds_toArray, List.set_cons_zero, List.set_cons_succ])
                  have hS9 := ‹_ ∧ _ ∧ Below wr.heap.size wr y16›
                  obtain ⟨u0, u1, z0, z1, k8, m9, hT⟩ := real_set p16.out q16.out ne hS9 le8 lgn (ofF r5) (ofB r5)
                  refine wpAnyH_ready (rs := [10]) (by kernel_rfl) (by simp) (AllReadyH.cons rfl (fun K hK => ?_) AllReadyH.nil)
                  go_simp
                  refine hK.out _ _ ?_ (fun hHeld => ?_)
                  · exact hT
                  clear hK K
                  (try simp only [Act.put, List.setIfInBounds_toArray, List.set_cons_zero, List.set_cons_succ])
                  generalize World.setCell (World.setCell y16 ⟨G8, 0, none⟩ _) ⟨G8, 1, none⟩ _ = wS at *
                  obtain ⟨v0, v1, x0, x1, m8, k9, hU⟩ := real_set m9 k8 (fun e => ne e.symm) hT le9 lgn (ofF r6) (ofB r6)
                  clear u0 u1 z0 z1
                  refine wpAnyH_ready (rs := [11]) (by kernel_rfl) (by simp) (AllReadyH.cons rfl (fun K hK => ?_) AllReadyH.nil)
                  go_simp
                  refine hK.out _ _ ?_ (fun hHeld => ?_)
                  · exact hU
                  clear hK K
                  (try simp only [Act.put, List.setIfInBounds_toArray, List.set_cons_zero, List.set_cons_succ])
                  refine wpAnyH_done (by kernel_rfl) ?_ _
                  go_wp2_with fail
                  go_meet
                  exact ⟨_, _, rfl, rfl, k9, m8, hU.2.2, ne⟩
          · go_simp
            obtain ⟨G8, y17, e1, e2, hB, hb⟩ := boxd_new y0 #[.float .f64 0, .bool false] 72
            rw [← e2, ← e1]
            have hS17 := cells_new ‹_ ∧ _ ∧ Below wr.heap.size wr y0› hb
            have le8 : wr.heap.size ≤ G8 := by rw [e1]; exact (‹_ ∧ _ ∧ Below wr.heap.size wr y0›).2.2.size
            have p17 := Lib.hid hB
            clear e1 e2 hB hb
            refine hK.out _ _ ?_ (fun hHeld => ?_)
            · exact hS17
            clear hK K
            (try simp only [Act.put, List.setIfInBounds_toArray, List.set_cons_zero, List.set_cons_succ])
            refine wpAnyH_ready (rs := [3, 9]) (by kernel_rfl) (by simp) (AllReadyH.cons rfl (fun K hK => ?_) (AllReadyH.cons rfl (fun K hK => ?_) (AllReadyH.nil)))
            · go_simp
              (go_at_call 33
               with_reducible refine (held_cells (by assumption) (H5.out _)).mono ?_
               rintro e y18 ⟨rfl, hS18, hb⟩)
              have p18 := Lib.hid (p17.out.below hb)
              clear hb
              go_wp2_with fail
              refine hK.out _ _ ?_ (fun hHeld => ?_)
              · exact hS18
              clear hK K
              (try simp only [Act.put, List.setIfInBounds_toArray, List.set_cons_zero, List.set_cons_succ])
              refine wpAnyH_ready (rs := [7, 9]) (by kernel_rfl) (by simp) (AllReadyH.cons rfl (fun K hK => ?_) (AllReadyH.cons rfl (fun K hK => ?_) (AllReadyH.nil)))
              · go_simp
                (go_at_call 33
                 with_reducible refine (held_cells (by assumption) (H6.out _)).mono ?_
                 rintro e y19 ⟨rfl, hS19, hb⟩)
                have p19 := Lib.hid (p18.out.below hb)
                clear hb
                go_wp2_with fail
                refine hK.out _ _ ?_ (fun hHeld => ?_)
                · exact hS19
                clear hK K
                (try simp only [Act.put, List.setIfInBounds_toArray, List.set_cons_zero, List.set_cons_succ])
                refine wpAnyH_ready (rs := [9]) (by kernel_rfl) (by simp) (AllReadyH.cons rfl (fun K hK => ?_) (AllReadyH.nil))
                · go_simp
                  obtain ⟨G9, y20, e1, e2, hB, hb⟩ := boxd_new y19 #[.float .f64 0, .bool false] 72
                  rw [← e2, ← e1]
                  have hS20 := cells_new ‹_ ∧ _ ∧ Below wr.heap.size wr y19› hb
                  have le9 : wr.heap.size ≤ G9 := by rw [e1]; exact (‹_ ∧ _ ∧ Below wr.heap.size wr y19›).2.2.size
                  have q20 := Lib.hid hB
                  have ne : G8 ≠ G9 := by have := p19.out.lt; omega
                  have p20 := Lib.hid (p19.out.below hb)
                  clear e1 e2 hB hb
                  refine hK.out _ _ ?_ (fun hHeld => ?_)
                  · exact hS20
                  clear hK K
                  (try simp only [Act.put, List.setIfInBounds_toArray, List.set_cons_zero, List.set_cons_succ])
                  have hS9 := ‹_ ∧ _ ∧ Below wr.heap.size wr y20›
                  obtain ⟨u0, u1, z0, z1, k8, m9, hT⟩ := real_set p20.out q20.out ne hS9 le8 lgn (ofF r5) (ofB r5)
                  refine wpAnyH_ready (rs := [10]) (by kernel_rfl) (by simp) (AllReadyH.cons rfl (fun K hK => ?_) AllReadyH.nil)
                  go_simp
                  refine hK.out _ _ ?_ (fun hHeld => ?_)
                  · exact hT
                  clear hK K
                  (try simp only [Act.put, List.setIfInBounds_toArray, List.set_cons_zero, List.set_cons_succ])
                  generalize World.setCell (World.setCell y20 ⟨G8, 0, none⟩ _) ⟨G8, 1, none⟩ _ = wS at *
                  obtain ⟨v0, v1, x0, x1, m8, k9, hU⟩ := real_set m9 k8 (fun e => ne e.symm) hT le9 lgn (ofF r6) (ofB r6)
                  clear u0 u1 z0 z1
                  refine wpAnyH_ready (rs := [11]) (by kernel_rfl) (by simp) (AllReadyH.cons rfl (fun K hK => ?_) AllReadyH.nil)
                  go_simp
                  refine hK.out _ _ ?_ (fun hHeld => ?_)
                  · exact hU
                  clear hK K
                  (try simp only [Act.put, List.setIfInBounds_toArray, List.set_cons_zero, List.set_cons_succ])
                  refine wpAnyH_done (by kernel_rfl) ?_ _
                  go_wp2_with fail
                  go_meet
                  exact ⟨_, _, rfl, rfl, k9, m8, hU.2.2, ne⟩
              · go_simp
                obtain ⟨G9, y21, e1, e2, hB, hb⟩ := boxd_new y18 #[.float .f64 0, .bool false] 72
                rw [← e2, ← e1]
                have hS21 := cells_new ‹_ ∧ _ ∧ Below wr.heap.size wr y18› hb
                have le9 : wr.heap.size ≤ G9 := by rw [e1]; exact (‹_ ∧ _ ∧ Below wr.heap.size wr y18›).2.2.size
                have q21 := Lib.hid hB
                have ne : G8 ≠ G9 := by have := p18.out.lt; omega
                have p21 := Lib.hid (p18.out.below hb)
                clear e1 e2 hB hb
                refine hK.out _ _ ?_ (fun hHeld => ?_)
                · exact hS21
                clear hK K
                (try simp only [Act.put, List.setIfInBounds_toArray, List.set_cons_zero, List.set_cons_succ])
                refine wpAnyH_ready (rs := [7]) (by kernel_rfl) (by simp) (AllReadyH.cons rfl (fun K hK => ?_) (AllReadyH.nil))
                · go_simp
                  (go_at_call 33
                   with_reducible refine (held_cells (by assumption) (H6.out _)).mono ?_
                   rintro e y22 ⟨rfl, hS22, hb⟩)
                  have p22 := Lib.hid (p21.out.below hb)
                  have q22 := Lib.hid (q21.out.below hb)
                  clear hb
                  go_wp2_with fail
                  refine hK.out _ _ ?_ (fun hHeld => ?_)
                  · exact hS22
                  clear hK K
                  (try simp only [Act.put, List.setIfInBounds_toArray, List.set_cons_zero, List.set_cons_succ])
                  have hS9 := ‹_ ∧ _ ∧ Below wr.heap.size wr y22›
                  obtain ⟨u0, u1, z0, z1, k8, m9, hT⟩ := real_set p22.out q22.out ne hS9 le8 lgn (ofF r5) (ofB r5)
                  refine wpAnyH_ready (rs := [10]) (by kernel_rfl) (by simp) (AllReadyH.cons rfl (fun K hK => ?_) AllReadyH.nil)
                  go_simp
                  refine hK.out _ _ ?_ (fun hHeld => ?_)
                  · exact hT
                  clear hK K
                  (try simp only [Act.put, List.setIfInBounds_toArray, List.set_cons_zero, List.set_cons_succ])
                  generalize World.setCell (World.setCell y22 ⟨G8, 0, none⟩ _) ⟨G8, 1, none⟩ _ = wS at *
                  obtain ⟨v0, v1, x0, x1, m8, k9, hU⟩ := real_set m9 k8 (fun e => ne e.symm) hT le9 lgn (ofF r6) (ofB r6)
                  clear u0 u1 z0 z1
                  refine wpAnyH_ready (rs := [11]) (by kernel_rfl) (by simp) (AllReadyH.cons rfl (fun K hK => ?_) AllReadyH.nil)
                  go_simp
                  refine hK.out _ _ ?_ (fun hHeld => ?_)
                  · exact hU
                  clear hK K
                  (try simp only [Act.put, List.setIfInBounds_toArray, List.set_cons_zero, List.set_cons_succ])
                  refine wpAnyH_done (by kernel_rfl) ?_ _
                  go_wp2_with fail
                  go_meet
                  exact ⟨_, _, rfl, rfl, k9, m8, hU.2.2, ne⟩
            · go_simp
              obtain ⟨G9, y23, e1, e2, hB, hb⟩ := boxd_new y17 #[.float .f64 0, .bool false] 72
              rw [← e2, ← e1]
              have hS23 := cells_new ‹_ ∧ _ ∧ Below wr.heap.size wr y17› hb
              have le9 : wr.heap.size ≤ G9 := by rw [e1]; exact (‹_ ∧ _ ∧ Below wr.heap.size wr y17›).2.2.size
              have q23 := Lib.hid hB
              have ne : G8 ≠ G9 := by have := p17.out.lt; omega
              have p23 := Lib.hid (p17.out.below hb)
              clear e1 e2 hB hb
              refine hK.out _ _ ?_ (fun hHeld => ?_)
              · exact hS23
              clear hK K
              (try simp only [Act.put, List.setIfInBounds_toArray, List.set_cons_zero, List.set_cons_succ])
              refine wpAnyH_ready (rs := [3]) (by kernel_rfl) (by simp) (AllReadyH.cons rfl (fun K hK => ?_) (AllReadyH.nil))
              · go_simp
                (go_at_call 33
                 with_reducible refine (held_cells (by assumption) (H5.out _)).mono ?_
                 rintro e y24 ⟨rfl, hS24, hb⟩)
                have p24 := Lib.hid (p23.out.below hb)
                have q24 := Lib.hid (q23.out.below hb)
                clear hb
                go_wp2_with fail
                refine hK.out _ _ ?_ (fun hHeld => ?_)
                · exact hS24
                clear hK K
                (try simp only [Act.put, List.setIfInBounds_toArray, List.set_cons_zero, List.set_cons_succ])
                refine wpAnyH_ready (rs := [7]) (by kernel_rfl) (by simp) (AllReadyH.cons rfl (fun K hK => ?_) (AllReadyH.nil))
                · go_simp
                  (go_at_call 33
                   with_reducible refine (held_cells (by assumption) (H6.out _)).mono ?_
                   rintro e y25 ⟨rfl, hS25, hb⟩)
                  have p25 := Lib.hid (p24.out.below hb)
                  have q25 := Lib.hid (q24.out.below hb)
                  clear hb
                  go_wp2_with fail
                  refine hK.out _ _ ?_ (fun hHeld => ?_)
                  · exact hS25
                  clear hK K
                  (try simp only [Act.put, List.setIfInBounds_toArray, List.set_cons_zero, List.set_cons_succ])
                  have hS9 := ‹_ ∧ _ ∧ Below wr.heap.size wr y25›
                  obtain ⟨u0, u1, z0, z1, k8, m9, hT⟩ := real_set p25.out q25.out ne hS9 le8 lgn (ofF r5) (ofB r5)
                  refine wpAnyH_ready (rs := [10]) (by kernel_rfl) (by simp) (AllReadyH.cons rfl (fun K hK => ?_) AllReadyH.nil)
                  go_simp
                  refine hK.out _ _ ?_ (fun hHeld => ?_)
                  · exact hT
                  clear hK K
                  (try simp only [Act.put, List.setIfInBounds_toArray, List.set_cons_zero, List.set_cons_succ])
                  generalize World.setCell (World.setCell y25 ⟨G8, 0, none⟩ _) ⟨G8, 1, none⟩ _ = wS at *
                  obtain ⟨v0, v1, x0, x1, m8, k9, hU⟩ := real_set m9 k8 (fun e => ne e.symm) hT le9 lgn (ofF r6) (ofB r6)
                  clear u0 u1 z0 z1
                  refine wpAnyH_ready (rs := [11]) (by kernel_rfl) (by simp) (AllReadyH.cons rfl (fun K hK => ?_) AllReadyH.nil)
                  go_simp
                  refine hK.out _ _ ?_ (fun hHeld => ?_)
                  · exact hU
                  clear hK K
                  (try simp only [Act.put, List.setIfInBounds_toArray, List.set_cons_zero, List.set_cons_succ])
                  refine wpAnyH_done (by kernel_rfl) ?_ _
                  go_wp2_with fail
                  go_meet
                  exact ⟨_, _, rfl, rfl, k9, m8, hU.2.2, ne⟩
          · go_simp
            obtain ⟨G9, y26, e1, e2, hB, hb⟩ := boxd_new y0 #[.float .f64 0, .bool false] 72
            rw [← e2, ← e1]
            have hS26 := cells_new ‹_ ∧ _ ∧ Below wr.heap.size wr y0› hb
            have le9 : wr.heap.size ≤ G9 := by rw [e1]; exact (‹_ ∧ _ ∧ Below wr.heap.size wr y0›).2.2.size
            have q26 := Lib.hid hB
            clear e1 e2 hB hb
            refine hK.out _ _ ?_ (fun hHeld => ?_)
            · exact hS26
            clear hK K
            (try simp only [Act.put, List.setIfInBounds_toArray, List.set_cons_zero, List.set_cons_succ])
            refine wpAnyH_ready (rs := [3, 8]) (by kernel_rfl) (by simp) (AllReadyH.cons rfl (fun K hK => ?_) (AllReadyH.cons rfl (fun K hK => ?_) (AllReadyH.nil)))
            · go_simp
              (go_at_call 33
               with_reducible refine (held_cells (by assumption) (H5.out _)).mono ?_
               rintro e y27 ⟨rfl, hS27, hb⟩)
              have q27 := Lib.hid (q26.out.below hb)
              clear hb
              go_wp2_with fail
              refine hK.out _ _ ?_ (fun hHeld => ?_)
              · exact hS27
              clear hK K
              (try simp only [Act.put, List.setIfInBounds_toArray, List.set_cons_zero, List.set_cons_succ])
              refine wpAnyH_ready (rs := [7, 8]) (by kernel_rfl) (by simp) (AllReadyH.cons rfl (fun K hK => ?_) (AllReadyH.cons rfl (fun K hK => ?_) (AllReadyH.nil)))
              · go_simp
                (go_at_call 33
                 with_reducible refine (held_cells (by assumption) (H6.out _)).mono ?_
                 rintro e y28 ⟨rfl, hS28, hb⟩)
                have q28 := Lib.hid (q27.out.below hb)
                clear hb
                go_wp2_with fail
                refine hK.out _ _ ?_ (fun hHeld => ?_)
                · exact hS28
                clear hK K
                (try simp only [Act.put, List.setIfInBounds_toArray, List.set_cons_zero, List.set_cons_succ])
                refine wpAnyH_ready (rs := [8]) (by kernel_rfl) (by simp) (AllReadyH.cons rfl (fun K hK => ?_) (AllReadyH.nil))
                · go_simp
                  obtain ⟨G8, y29, e1, e2, hB, hb⟩ := boxd_new y28 #[.float .f64 0, .bool false] 72
                  rw [← e2, ← e1]
                  have hS29 := cells_new ‹_ ∧ _ ∧ Below wr.heap.size wr y28› hb
                  have le8 : wr.heap.size ≤ G8 := by rw [e1]; exact (‹_ ∧ _ ∧ Below wr.heap.size wr y28›).2.2.size
                  have p29 := Lib.hid hB
                  have ne : G8 ≠ G9 := by have := q28.out.lt; omega
                  have q29 := Lib.hid (q28.out.below hb)
                  clear e1 e2 hB hb
                  refine hK.out _ _ ?_ (fun hHeld => ?_)
                  · exact hS29
                  clear hK K
                  (try simp only [Act.put, List.setIfInBounds_toArray, List.set_cons_zero, List.set_cons_succ])
                  have hS9 := ‹_ ∧ _ ∧ Below wr.heap.size wr y29›
                  obtain ⟨u0, u1, z0, z1, k8, m9, hT⟩ := real_set p29.out q29.out ne hS9 le8 lgn (ofF r5) (ofB r5)
                  refine wpAnyH_ready (rs := [10]) (by kernel_rfl) (by simp) (AllReadyH.cons rfl (fun K hK => ?_) AllReadyH.nil)
                  go_simp
                  refine hK.out _ _ ?_ (fun hHeld => ?_)
                  · exact hT
                  clear hK K
                  (try simp only [Act.put, List.setIfInBounds_toArray, List.set_cons_zero, List.set_cons_succ])
                  generalize World.setCell (World.setCell y29 ⟨G8, 0, none⟩ _) ⟨G8, 1, none⟩ _ = wS at *
                  obtain ⟨v0, v1, x0, x1, m8, k9, hU⟩ := real_set m9 k8 (fun e => ne e.symm) hT le9 lgn (ofF r6) (ofB r6)
                  clear u0 u1 z0 z1
                  refine wpAnyH_ready (rs := [11]) (by kernel_rfl) (by simp) (AllReadyH.cons rfl (fun K hK => ?_) AllReadyH.nil)
                  go_simp
                  refine hK.out _ _ ?_ (fun hHeld => ?_)
                  · exact hU
                  clear hK K
                  (try simp only [Act.put, List.setIfInBounds_toArray, List.set_cons_zero, List.set_cons_succ])
                  refine wpAnyH_done (by kernel_rfl) ?_ _
                  go_wp2_with fail
                  go_meet
                  exact ⟨_, _, rfl, rfl, k9, m8, hU.2.2, ne⟩
              · go_simp
                obtain ⟨G8, y30, e1, e2, hB, hb⟩ := boxd_new y27 #[.float .f64 0, .bool false] 72
                rw [← e2, ← e1]
                have hS30 := cells_new ‹_ ∧ _ ∧ Below wr.heap.size wr y27› hb
                have le8 : wr.heap.size ≤ G8 := by rw [e1]; exact (‹_ ∧ _ ∧ Below wr.heap.size wr y27›).2.2.size
                have p30 := Lib.hid hB
                have ne : G8 ≠ G9 := by have := q27.out.lt; omega
                have q30 := Lib.hid (q27.out.below hb)
                clear e1 e2 hB hb
                refine hK.out _ _ ?_ (fun hHeld => ?_)
                · exact hS30
                clear hK K
                (try simp only [Act.put, List.setIfInBounds_toArray, List.set_cons_zero, List.set_cons_succ])
                refine wpAnyH_ready (rs := [7]) (by kernel_rfl) (by simp) (AllReadyH.cons rfl (fun K hK => ?_) (AllReadyH.nil))
                · go_simp
                  (go_at_call 33
                   with_reducible refine (held_cells (by assumption) (H6.out _)).mono ?_
                   rintro e y31 ⟨rfl, hS31, hb⟩)
                  have p31 := Lib.hid (p30.out.below hb)
                  have q31 := Lib.hid (q30.out.below hb)
                  clear hb
                  go_wp2_with fail
                  refine hK.out _ _ ?_ (fun hHeld => ?_)
                  · exact hS31
                  clear hK K
                  (try simp only [Act.put, List.setIfInBounds_toArray, List.set_cons_zero, List.set_cons_succ])
                  have hS9 := ‹_ ∧ _ ∧ Below wr.heap.size wr y31›
                  obtain ⟨u0, u1, z0, z1, k8, m9, hT⟩ := real_set p31.out q31.out ne hS9 le8 lgn (ofF r5) (ofB r5)
                  refine wpAnyH_ready (rs := [10]) (by kernel_rfl) (by simp) (AllReadyH.cons rfl (fun K hK => ?_) AllReadyH.nil)
                  go_simp
                  refine hK.out _ _ ?_ (fun hHeld => ?_)
                  · exact hT
                  clear hK K
                  (try simp only [Act.put, List.setIfInBounds_toArray, List.set_cons_zero, List.set_cons_succ])
                  generalize World.setCell (World.setCell y31 ⟨G8, 0, none⟩ _) ⟨G8, 1, none⟩ _ = wS at *
                  obtain ⟨v0, v1, x0, x1, m8, k9, hU⟩ := real_set m9 k8 (fun e => ne e.symm) hT le9 lgn (ofF r6) (ofB r6)
                  clear u0 u1 z0 z1
                  refine wpAnyH_ready (rs := [11]) (by kernel_rfl) (by simp) (AllReadyH.cons rfl (fun K hK => ?_) AllReadyH.nil)
                  go_simp
                  refine hK.out _ _ ?_ (fun hHeld => ?_)
                  · exact hU
                  clear hK K
                  (try simp only [Act.put, List.setIfInBounds_toArray, List.set_cons_zero, List.set_cons_succ])
                  refine wpAnyH_done (by kernel_rfl) ?_ _
                  go_wp2_with fail
                  go_meet
                  exact ⟨_, _, rfl, rfl, k9, m8, hU.2.2, ne⟩
            · go_simp
              obtain ⟨G8, y32, e1, e2, hB, hb⟩ := boxd_new y26 #[.float .f64 0, .bool false] 72
              rw [← e2, ← e1]
              have hS32 := cells_new ‹_ ∧ _ ∧ Below wr.heap.size wr y26› hb
              have le8 : wr.heap.size ≤ G8 := by rw [e1]; exact (‹_ ∧ _ ∧ Below wr.heap.size wr y26›).2.2.size
              have p32 := Lib.hid hB
              have ne : G8 ≠ G9 := by have := q26.out.lt; omega
              have q32 := Lib.hid (q26.out.below hb)
              clear e1 e2 hB hb
              refine hK.out _ _ ?_ (fun hHeld => ?_)
              · exact hS32
              clear hK K
              (try simp only [Act.put, List.setIfInBounds_toArray, List.set_cons_zero, List.set_cons_succ])
              refine wpAnyH_ready (rs := [3]) (by kernel_rfl) (by simp) (AllReadyH.cons rfl (fun K hK => ?_) (AllReadyH.nil))
              · go_simp
                (go_at_call 33
                 with_reducible refine (held_cells (by assumption) (H5.out _)).mono ?_
                 rintro e y33 ⟨rfl, hS33, hb⟩)
                have p33 := Lib.hid (p32.out.below hb)
                have q33 := Lib.hid (q32.out.below hb)
                clear hb
                go_wp2_with fail
                refine hK.out _ _ ?_ (fun hHeld => ?_)
                · exact hS33
                clear hK K
                (try simp only [Act.put, List.setIfInBounds_toArray, List.set_cons_zero, List.set_cons_succ])
                refine wpAnyH_ready (rs := [7]) (by kernel_rfl) (by simp) (AllReadyH.cons rfl (fun K hK => ?_) (AllReadyH.nil))
                · go_simp
                  (go_at_call 33
                   with_reducible refine (held_cells (by assumption) (H6.out _)).mono ?_
                   rintro e y34 ⟨rfl, hS34, hb⟩)
                  have p34 := Lib.hid (p33.out.below hb)
                  have q34 := Lib.hid (q33.out.below hb)
                  clear hb
                  go_wp2_with fail
                  refine hK.out _ _ ?_ (fun hHeld => ?_)
                  · exact hS34
                  clear hK K
                  (try simp only [Act.put, List.setIfInBounds_toArray, List.set_cons_zero, List.set_cons_succ])
                  have hS9 := ‹_ ∧ _ ∧ Below wr.heap.size wr y34›
                  obtain ⟨u0, u1, z0, z1, k8, m9, hT⟩ := real_set p34.out q34.out ne hS9 le8 lgn (ofF r5) (ofB r5)
                  refine wpAnyH_ready (rs := [10]) (by kernel_rfl) (by simp) (AllReadyH.cons rfl (fun K hK => ?_) AllReadyH.nil)
                  go_simp
                  refine hK.out _ _ ?_ (fun hHeld => ?_)
                  · exact hT
                  clear hK K
                  (try simp only [Act.put, List.setIfInBounds_toArray, List.set_cons_zero, List.set_cons_succ])
                  generalize World.setCell (World.setCell y34 ⟨G8, 0, none⟩ _) ⟨G8, 1, none⟩ _ = wS at *
                  obtain ⟨v0, v1, x0, x1, m8, k9, hU⟩ := real_set m9 k8 (fun e => ne e.symm) hT le9 lgn (ofF r6) (ofB r6)
                  clear u0 u1 z0 z1
                  refine wpAnyH_ready (rs := [11]) (by kernel_rfl) (by simp) (AllReadyH.cons rfl (fun K hK => ?_) AllReadyH.nil)
                  go_simp
                  refine hK.out _ _ ?_ (fun hHeld => ?_)
                  · exact hU
                  clear hK K
                  (try simp only [Act.put, List.setIfInBounds_toArray, List.set_cons_zero, List.set_cons_succ])
                  refine wpAnyH_done (by kernel_rfl) ?_ _
                  go_wp2_with fail
                  go_meet
                  exact ⟨_, _, rfl, rfl, k9, m8, hU.2.2, ne⟩
      case rest =>
        obtain ⟨G8, G9, rfl, rfl, B8, B9, HX, -⟩ := hcut
        have RO1 : RO wc go (ost b 11) := ⟨HR.out.ro.1.of_block (HX.out.block go HR.out.ro.1.lt), HR.out.ro.2⟩
        have RW1 : wc.rowIs gn 69 11 (told b 11) := HR.out.row.of_block (HX.out.block gn lgn)
        have RS1 := Lib.hid (HR.out.res.below HX.out)
        have HW1 := Lib.hid (below_via HR.out.below HX.out)
        have HDone := r_odone (ost b 11) go wc RO1
        rw [ost_done] at HDone
        have HS := Lib.hid (ev_info ev0)
        have H1 := Lib.hid (ev0_one)
        rw [decide_eq_true h39] at HDone
        have h39' : 39 ≤ b.size := by omega
        have kk : ∀ j, j < 11 → wc.cell? ⟨gn, j, none⟩ = some (.int .u64 (fld b j : Nat)) := fun j hj => by
          rw [RW1.cell hj, told, if_pos hj, ovl_ok h39' hj]
        have f5 : fld b 5 = r5 := by rw [← hr5, ovl_ok h39' (by decide)]
        have f6 : fld b 6 = r6 := by rw [← hr6, ovl_ok h39' (by decide)]
        have HKK := Lib.hid kk
        have HK : okD b = (decide (fld b 4 ≤ 1000000000) && (ofB r5 && (ofB r6 && (decide (fld b 7 ≤ 1) && goodE (evD b))))) := by
          unfold okD
          rw [decide_eq_true h39, f5, f6]
          rfl
        have HKH := Lib.hid HK
        clear kk HK hr5 hr6 k5 k6 H5 H6
        go_wp2_with fail
        refine HDone.mono ?_
        rintro e w4 ⟨rfl, d, rfl⟩
        have RS2 : Hid (Boxd (wc.drewN d) g0 ev0.cells 25) := RS1
        have HW2 := Lib.hid (below_drewN HW1.out d)
        have c80 : (wc.drewN d).cell? ⟨G8, 0, none⟩ = some (.float .f64 (ofF r5)) := B8.out.cell
        have c81 : (wc.drewN d).cell? ⟨G8, 1, none⟩ = some (.bool (ofB r5)) := B8.out.cell
        have c90 : (wc.drewN d).cell? ⟨G9, 0, none⟩ = some (.float .f64 (ofF r6)) := B9.out.cell
        have c91 : (wc.drewN d).cell? ⟨G9, 1, none⟩ = some (.bool (ofB r6)) := B9.out.cell
        have n0 : (wc.drewN d).cell? ⟨gn, 0, none⟩ = some (.int .u64 (fld b 0 : Nat)) := HKK.out 0 (by decide)
        have n1 : (wc.drewN d).cell? ⟨gn, 1, none⟩ = some (.int .u64 (fld b 1 : Nat)) := HKK.out 1 (by decide)
        have n2 : (wc.drewN d).cell? ⟨gn, 2, none⟩ = some (.int .u64 (fld b 2 : Nat)) := HKK.out 2 (by decide)
        have n3 : (wc.drewN d).cell? ⟨gn, 3, none⟩ = some (.int .u64 (fld b 3 : Nat)) := HKK.out 3 (by decide)
        have n4 : (wc.drewN d).cell? ⟨gn, 4, none⟩ = some (.int .u64 (fld b 4 : Nat)) := HKK.out 4 (by decide)
        have n7 : (wc.drewN d).cell? ⟨gn, 7, none⟩ = some (.int .u64 (fld b 7 : Nat)) := HKK.out 7 (by decide)
        have n8 : (wc.drewN d).cell? ⟨gn, 8, none⟩ = some (.int .u64 (fld b 8 : Nat)) := HKK.out 8 (by decide)
        have n9 : (wc.drewN d).cell? ⟨gn, 9, none⟩ = some (.int .u64 (fld b 9 : Nat)) := HKK.out 9 (by decide)
        have n10 : (wc.drewN d).cell? ⟨gn, 10, none⟩ = some (.int .u64 (fld b 10 : Nat)) := HKK.out 10 (by decide)
        generalize wc.drewN d = w5 at *
        clear HDone HKK RS1 HW1 B8 B9 HX RO1 RW1 HR0 HR
        by_cases h4 : fld b 4 ≤ 1000000000
        case neg =>
          have d4 : decide ((1000000000 : Int) < (fld b 4 : Nat)) = true := decide_eq_true (by omega)
          have hk : okD b = false := by rw [HKH.out]; simp [h4]
          obtain rfl : E = ev0 := HEX.out.1.symm.trans (by unfold decE; rw [hk]; rfl)
          obtain rfl : X = 11 := HEX.out.2.symm.trans (by unfold decX; rw [hk]; rfl)
          rw [ev0_cells] at *
          go_wp2_with (first
            | (refine store_row0 rfl 25 _ _ rfl rfl _ _ rfl rfl _ _ RS2.out HS.out rfl H1.out ?_))
          refine bodyPost_ret (results_two rfl _ _ _ _ _ _ _ _ rfl (setRow_heap _ _ _ _ _ _ RS2.out) Try.underlying25 rfl HS.out rfl) rfl ?_
          exact ⟨rfl, below_setRow HW2.out hg0 _⟩
        have d4 : decide ((1000000000 : Int) < (fld b 4 : Nat)) = false := decide_eq_false (by omega)
        cases h5 : ofB r5 with
        | false =>
          rw [h5] at c81
          have hk : okD b = false := by rw [HKH.out]; simp [h5]
          obtain rfl : E = ev0 := HEX.out.1.symm.trans (by unfold decE; rw [hk]; rfl)
          obtain rfl : X = 11 := HEX.out.2.symm.trans (by unfold decX; rw [hk]; rfl)
          rw [ev0_cells] at *
          go_wp2_with (first
            | (refine store_row0 rfl 25 _ _ rfl rfl _ _ rfl rfl _ _ RS2.out HS.out rfl H1.out ?_))
          refine bodyPost_ret (results_two rfl _ _ _ _ _ _ _ _ rfl (setRow_heap _ _ _ _ _ _ RS2.out) Try.underlying25 rfl HS.out rfl) rfl ?_
          exact ⟨rfl, below_setRow HW2.out hg0 _⟩
        | true =>
        rw [h5] at c81
        cases h6 : ofB r6 with
        | false =>
          rw [h6] at c91
          have hk : okD b = false := by rw [HKH.out]; simp [h6]
          obtain rfl : E = ev0 := HEX.out.1.symm.trans (by unfold decE; rw [hk]; rfl)
          obtain rfl : X = 11 := HEX.out.2.symm.trans (by unfold decX; rw [hk]; rfl)
          rw [ev0_cells] at *
          go_wp2_with (first
            | (refine store_row0 rfl 25 _ _ rfl rfl _ _ rfl rfl _ _ RS2.out HS.out rfl H1.out ?_))
          refine bodyPost_ret (results_two rfl _ _ _ _ _ _ _ _ rfl (setRow_heap _ _ _ _ _ _ RS2.out) Try.underlying25 rfl HS.out rfl) rfl ?_
          exact ⟨rfl, below_setRow HW2.out hg0 _⟩
        | true =>
        rw [h6] at c91
        by_cases h7 : fld b 7 ≤ 1
        case neg =>
          have d7 : decide ((1 : Int) < (fld b 7 : Nat)) = true := decide_eq_true (by omega)
          have hk : okD b = false := by rw [HKH.out]; simp [h7]
          obtain rfl : E = ev0 := HEX.out.1.symm.trans (by unfold decE; rw [hk]; rfl)
          obtain rfl : X = 11 := HEX.out.2.symm.trans (by unfold decX; rw [hk]; rfl)
          rw [ev0_cells] at *
          go_wp2_with (first
            | (refine store_row0 rfl 25 _ _ rfl rfl _ _ rfl rfl _ _ RS2.out HS.out rfl H1.out ?_))
          refine bodyPost_ret (results_two rfl _ _ _ _ _ _ _ _ rfl (setRow_heap _ _ _ _ _ _ RS2.out) Try.underlying25 rfl HS.out rfl) rfl ?_
          exact ⟨rfl, below_setRow HW2.out hg0 _⟩
        have d7 : decide ((1 : Int) < (fld b 7 : Nat)) = false := decide_eq_false (by omega)
        go_upto_region 11 with fail
        have b0 : fld b 0 < 256 := fld_bound b (j := 0) (n := 1) (by decide) rfl
        have b1 : fld b 1 < 4294967296 := fld_bound b (j := 1) (n := 4) (by decide) rfl
        have b2 : fld b 2 < 4294967296 := fld_bound b (j := 2) (n := 4) (by decide) rfl
        have b3 : fld b 3 < 65536 := fld_bound b (j := 3) (n := 2) (by decide) rfl
        have b8 : fld b 8 < 256 := fld_bound b (j := 8) (n := 1) (by decide) rfl
        have b9 : fld b 9 < 256 := fld_bound b (j := 9) (n := 1) (by decide) rfl
        have b10 : fld b 10 < 256 := fld_bound b (j := 10) (n := 1) (by decide) rfl
        have HEV : Hid (evD b = ⟨(fld b 0 : Nat), (fld b 1 : Nat), fld b 2, (fld b 3 : Nat), (fld b 4 : Nat), ofF r5, ofF r6, decide (fld b 7 = 1), (fld b 8 : Nat), (fld b 9 : Nat), (fld b 10 : Nat)⟩) := show _ = _ by unfold evD; rw [f5, f6]
        have HOK : Hid (okD b = goodE (evD b)) := show _ = _ by rw [HKH.out, decide_eq_true h4, h5, h6, decide_eq_true h7]; rfl
        have H4 : Hid (fld b 4 ≤ 1000000000) := show _ ≤ _ from h4
        clear HKH h39 h39' f5 f6 h4 h7 d4 d7 c81 c91
        have lgn5 := World.block_lt_of_cell? _ _ n0
        have lg8 := World.block_lt_of_cell? _ _ c80
        have lg9 := World.block_lt_of_cell? _ _ c90
        obtain ⟨v0, hv0⟩ : ∃ v, fld b 0 = v := ⟨_, rfl⟩
        obtain ⟨v1, hv1⟩ : ∃ v, fld b 1 = v := ⟨_, rfl⟩
        obtain ⟨v2, hv2⟩ : ∃ v, fld b 2 = v := ⟨_, rfl⟩
        obtain ⟨v3, hv3⟩ : ∃ v, fld b 3 = v := ⟨_, rfl⟩
        obtain ⟨v4, hv4⟩ : ∃ v, fld b 4 = v := ⟨_, rfl⟩
        obtain ⟨v7, hv7⟩ : ∃ v, fld b 7 = v := ⟨_, rfl⟩
        obtain ⟨v8, hv8⟩ : ∃ v, fld b 8 = v := ⟨_, rfl⟩
        obtain ⟨v9, hv9⟩ : ∃ v, fld b 9 = v := ⟨_, rfl⟩
        obtain ⟨v10, hv10⟩ : ∃ v, fld b 10 = v := ⟨_, rfl⟩
        rw [hv0, hv1, hv2, hv3, hv4, hv7, hv8, hv9, hv10] at HEV
        rw [hv4] at H4
        rw [hv0] at n0 b0
        rw [hv1] at n1 b1
        rw [hv2] at n2 b2
        rw [hv3] at n3 b3
        rw [hv4] at n4
        rw [hv7] at n7
        rw [hv8] at n8 b8
        rw [hv9] at n9 b9
        rw [hv10] at n10 b10
        have hv4' := hv4
        clear hv0
        clear hv1
        clear hv2
        clear hv3
        clear hv4
        clear hv7
        clear hv8
        clear hv9
        clear hv10
        have hSB : Hid (∀ W, Below w5.heap.size w5 W → (fun w' => w'.cell? ⟨G8, 0, none⟩ = some (.float .f64 (ofF r5)) ∧ w'.cell? ⟨G9, 0, none⟩ = some (.float .f64 (ofF r6)) ∧ w'.cell? ⟨gn, 0, none⟩ = some (.int .u64 (v0 : Nat)) ∧ w'.cell? ⟨gn, 1, none⟩ = some (.int .u64 (v1 : Nat)) ∧ w'.cell? ⟨gn, 2, none⟩ = some (.int .u64 (v2 : Nat)) ∧ w'.cell? ⟨gn, 3, none⟩ = some (.int .u64 (v3 : Nat)) ∧ w'.cell? ⟨gn, 4, none⟩ = some (.int .u64 (v4 : Nat)) ∧ w'.cell? ⟨gn, 7, none⟩ = some (.int .u64 (v7 : Nat)) ∧ w'.cell? ⟨gn, 8, none⟩ = some (.int .u64 (v8 : Nat)) ∧ w'.cell? ⟨gn, 9, none⟩ = some (.int .u64 (v9 : Nat)) ∧ w'.cell? ⟨gn, 10, none⟩ = some (.int .u64 (v10 : Nat)) ∧ Below w5.heap.size w5 w') W) := fun W hb => ⟨(hb.cell (p := ⟨G8, 0, none⟩) lg8).trans c80, (hb.cell (p := ⟨G9, 0, none⟩) lg9).trans c90, (hb.cell (p := ⟨gn, 0, none⟩) lgn5).trans n0, (hb.cell (p := ⟨gn, 1, none⟩) lgn5).trans n1, (hb.cell (p := ⟨gn, 2, none⟩) lgn5).trans n2, (hb.cell (p := ⟨gn, 3, none⟩) lgn5).trans n3, (hb.cell (p := ⟨gn, 4, none⟩) lgn5).trans n4, (hb.cell (p := ⟨gn, 7, none⟩) lgn5).trans n7, (hb.cell (p := ⟨gn, 8, none⟩) lgn5).trans n8, (hb.cell (p := ⟨gn, 9, none⟩) lgn5).trans n9, (hb.cell (p := ⟨gn, 10, none⟩) lgn5).trans n10, hb⟩
        have m0 : IntKind.i64.wrap (v0 : Int) = v0 := IntWalk.i64_in _ (by omega)
        have m1 : IntKind.i64.wrap (v1 : Int) = v1 := IntWalk.i64_in _ (by omega)
        have m3 : IntKind.i64.wrap (v3 : Int) = v3 := IntWalk.i64_in _ (by omega)
        have m8 : IntKind.i64.wrap (v8 : Int) = v8 := IntWalk.i64_in _ (by omega)
        have m9 : IntKind.i64.wrap (v9 : Int) = v9 := IntWalk.i64_in _ (by omega)
        have m10 : IntKind.i64.wrap (v10 : Int) = v10 := IntWalk.i64_in _ (by omega)
        have m4 : IntKind.i64.wrap (v4 : Int) = v4 := IntWalk.i64_in _ (by have := H4.out; omega)
        have m2 : IntKind.u32.wrap (v2 : Int) = v2 := IntWalk.u32_in _ (by omega)
        clear b0 b1 b2 b3 b8 b9 b10
        have HFIT := Lib.hid (fit_dec (b := b) (by rw [← hv4'] at H4; exact H4.out))
        obtain ⟨C, hC⟩ : ∃ C, Ev.cells ⟨(v0 : Nat), (v1 : Nat), v2, (v3 : Nat), (v4 : Nat), ofF r5, ofF r6, decide (v7 = 1), (v8 : Nat), (v9 : Nat), (v10 : Nat)⟩ = C := ⟨_, rfl⟩
        have HCC := Lib.hid hC
        have HCC2 : Hid ((evD b).cells = C) := show _ = _ by rw [HEV.out, hC]
        have HSC : Hid ((Try.prog.info? 25).map (·.size) = some C.size) := show _ = _ by rw [← hC]; exact ev_info _
        have HSZ : Hid (ev0.cells.size = C.size) := show _ = _ by rw [← hC]; rfl
        have HSZ2 : Hid ((#[.int .i64 0, .int .i64 0, .int .u32 0, .int .i64 0, .int .i64 0, .float .f64 0, .float .f64 0, .bool false, .int .i64 0, .int .i64 0, .int .i64 0] : Array Value).size = C.size) := show _ = _ by rw [← hC]; rfl
        have HONE : Hid (C.all (·.oneCell') = true) := show _ = _ by rw [← hC]; simp [Ev.cells, Value.oneCell']
        have d77 : ((v7 : Int) == 1) = decide (v7 = 1) := by by_cases h : v7 = 1 <;> simp [h] <;> omega
        clear hC
        have hS0 : (fun w' => w'.cell? ⟨G8, 0, none⟩ = some (.float .f64 (ofF r5)) ∧ w'.cell? ⟨G9, 0, none⟩ = some (.float .f64 (ofF r6)) ∧ w'.cell? ⟨gn, 0, none⟩ = some (.int .u64 (v0 : Nat)) ∧ w'.cell? ⟨gn, 1, none⟩ = some (.int .u64 (v1 : Nat)) ∧ w'.cell? ⟨gn, 2, none⟩ = some (.int .u64 (v2 : Nat)) ∧ w'.cell? ⟨gn, 3, none⟩ = some (.int .u64 (v3 : Nat)) ∧ w'.cell? ⟨gn, 4, none⟩ = some (.int .u64 (v4 : Nat)) ∧ w'.cell? ⟨gn, 7, none⟩ = some (.int .u64 (v7 : Nat)) ∧ w'.cell? ⟨gn, 8, none⟩ = some (.int .u64 (v8 : Nat)) ∧ w'.cell? ⟨gn, 9, none⟩ = some (.int .u64 (v9 : Nat)) ∧ w'.cell? ⟨gn, 10, none⟩ = some (.int .u64 (v10 : Nat)) ∧ Below w5.heap.size w5 w') w5.drew := hSB.out _ (below_drew (Below.refl _ _))
        refine wp_region_held_drew (S := (fun w' => w'.cell? ⟨G8, 0, none⟩ = some (.float .f64 (ofF r5)) ∧ w'.cell? ⟨G9, 0, none⟩ = some (.float .f64 (ofF r6)) ∧ w'.cell? ⟨gn, 0, none⟩ = some (.int .u64 (v0 : Nat)) ∧ w'.cell? ⟨gn, 1, none⟩ = some (.int .u64 (v1 : Nat)) ∧ w'.cell? ⟨gn, 2, none⟩ = some (.int .u64 (v2 : Nat)) ∧ w'.cell? ⟨gn, 3, none⟩ = some (.int .u64 (v3 : Nat)) ∧ w'.cell? ⟨gn, 4, none⟩ = some (.int .u64 (v4 : Nat)) ∧ w'.cell? ⟨gn, 7, none⟩ = some (.int .u64 (v7 : Nat)) ∧ w'.cell? ⟨gn, 8, none⟩ = some (.int .u64 (v8 : Nat)) ∧ w'.cell? ⟨gn, 9, none⟩ = some (.int .u64 (v9 : Nat)) ∧ w'.cell? ⟨gn, 10, none⟩ = some (.int .u64 (v10 : Nat)) ∧ Below w5.heap.size w5 w')) (by kernel_rfl) hS0 (fun hHeld => ?_)
        generalize w5.drew = y0 at *
        have HY : Hid (Below w5.heap.size w5 y0) := hS0.2.2.2.2.2.2.2.2.2.2.2
        clear c80 c90 n0 n1 n2 n3 n4 n7 n8 n9 n10
        refine ByHand.take_yes (v := ?_) 0 65 rfl rfl (by kernel_rfl) (by kernel_rfl) (by kernel_rfl) (fun _ _ _ h => h) (by rfl) ?_ (by assumption) ?_
        rotate_left
        · intro w' hSw
          (try dsimp only at hSw)
          go_simp
          all_goals with_reducible rfl
        (try simp only [Act.put, List.setIfInBounds_toArray, List.set_cons_zero, List.set_cons_succ])
        refine ByHand.take_yes (v := ?_) 1 66 rfl rfl (by kernel_rfl) (by kernel_rfl) (by kernel_rfl) (fun _ _ _ h => h) (by rfl) ?_ (by assumption) ?_
        rotate_left
        · intro w' hSw
          (try dsimp only at hSw)
          go_simp
          all_goals with_reducible rfl
        (try simp only [Act.put, List.setIfInBounds_toArray, List.set_cons_zero, List.set_cons_succ])
        refine ByHand.take_yes (v := ?_) 2 67 rfl rfl (by kernel_rfl) (by kernel_rfl) (by kernel_rfl) (fun _ _ _ h => h) (by rfl) ?_ (by assumption) ?_
        rotate_left
        · intro w' hSw
          (try dsimp only at hSw)
          go_simp
          all_goals with_reducible rfl
        (try simp only [Act.put, List.setIfInBounds_toArray, List.set_cons_zero, List.set_cons_succ])
        refine ByHand.take_yes (v := ?_) 3 68 rfl rfl (by kernel_rfl) (by kernel_rfl) (by kernel_rfl) (fun _ _ _ h => h) (by rfl) ?_ (by assumption) ?_
        rotate_left
        · intro w' hSw
          (try dsimp only at hSw)
          go_simp
          all_goals with_reducible rfl
        (try simp only [Act.put, List.setIfInBounds_toArray, List.set_cons_zero, List.set_cons_succ])
        refine ByHand.take_yes (v := ?_) 4 69 rfl rfl (by kernel_rfl) (by kernel_rfl) (by kernel_rfl) (fun _ _ _ h => h) (by rfl) ?_ (by assumption) ?_
        rotate_left
        · intro w' hSw
          (try dsimp only at hSw)
          go_simp
          all_goals with_reducible rfl
        (try simp only [Act.put, List.setIfInBounds_toArray, List.set_cons_zero, List.set_cons_succ])
        refine ByHand.take_yes (v := ?_) 5 70 rfl rfl (by kernel_rfl) (by kernel_rfl) (by kernel_rfl) (fun _ _ _ h => h) (by rfl) ?_ (by assumption) ?_
        rotate_left
        · intro w' hSw
          (try dsimp only at hSw)
          go_simp
          all_goals with_reducible rfl
        (try simp only [Act.put, List.setIfInBounds_toArray, List.set_cons_zero, List.set_cons_succ])
        refine ByHand.take_yes (v := ?_) 6 71 rfl rfl (by kernel_rfl) (by kernel_rfl) (by kernel_rfl) (fun _ _ _ h => h) (by rfl) ?_ (by assumption) ?_
        rotate_left
        · intro w' hSw
          (try dsimp only at hSw)
          go_simp
          all_goals with_reducible rfl
        (try simp only [Act.put, List.setIfInBounds_toArray, List.set_cons_zero, List.set_cons_succ])
        refine ByHand.take_yes (v := ?_) 7 72 rfl rfl (by kernel_rfl) (by kernel_rfl) (by kernel_rfl) (fun _ _ _ h => h) (by rfl) ?_ (by assumption) ?_
        rotate_left
        · intro w' hSw
          (try dsimp only at hSw)
          go_simp
          all_goals with_reducible rfl
        (try simp only [Act.put, List.setIfInBounds_toArray, List.set_cons_zero, List.set_cons_succ])
        refine ByHand.take_yes (v := ?_) 8 73 rfl rfl (by kernel_rfl) (by kernel_rfl) (by kernel_rfl) (fun _ _ _ h => h) (by rfl) ?_ (by assumption) ?_
        rotate_left
        · intro w' hSw
          (try dsimp only at hSw)
          go_simp
          all_goals with_reducible rfl
        (try simp only [Act.put, List.setIfInBounds_toArray, List.set_cons_zero, List.set_cons_succ])
        refine ByHand.take_yes (v := ?_) 9 74 rfl rfl (by kernel_rfl) (by kernel_rfl) (by kernel_rfl) (fun _ _ _ h => h) (by rfl) ?_ (by assumption) ?_
        rotate_left
        · intro w' hSw
          (try dsimp only at hSw)
          go_simp
          all_goals with_reducible rfl
        (try simp only [Act.put, List.setIfInBounds_toArray, List.set_cons_zero, List.set_cons_succ])
        refine ByHand.take_yes (v := ?_) 10 75 rfl rfl (by kernel_rfl) (by kernel_rfl) (by kernel_rfl) (fun _ _ _ h => h) (by rfl) ?_ (by assumption) ?_
        rotate_left
        · intro w' hSw
          (try dsimp only at hSw)
          go_simp
          all_goals with_reducible rfl
        (try simp only [Act.put, List.setIfInBounds_toArray, List.set_cons_zero, List.set_cons_succ])
        refine ByHand.take_yes (v := ?_) 11 76 rfl rfl (by kernel_rfl) (by kernel_rfl) (by kernel_rfl) (fun _ _ _ h => h) (by rfl) ?_ (by assumption) ?_
        rotate_left
        · intro w' hSw
          (try dsimp only at hSw)
          go_simp
          all_goals with_reducible rfl
        (try simp only [Act.put, List.setIfInBounds_toArray, List.set_cons_zero, List.set_cons_succ])
        refine ByHand.take_yes (v := ?_) 12 77 rfl rfl (by kernel_rfl) (by kernel_rfl) (by kernel_rfl) (fun _ _ _ h => h) (by rfl) ?_ (by assumption) ?_
        rotate_left
        · intro w' hSw
          (try dsimp only at hSw)
          go_simp
          all_goals with_reducible rfl
        (try simp only [Act.put, List.setIfInBounds_toArray, List.set_cons_zero, List.set_cons_succ])
        refine ByHand.take_yes (v := ?_) 13 78 rfl rfl (by kernel_rfl) (by kernel_rfl) (by kernel_rfl) (fun _ _ _ h => h) (by rfl) ?_ (by assumption) ?_
        rotate_left
        · intro w' hSw
          (try dsimp only at hSw)
          go_simp
          all_goals with_reducible rfl
        (try simp only [Act.put, List.setIfInBounds_toArray, List.set_cons_zero, List.set_cons_succ])
        refine ByHand.take_yes (v := ?_) 14 79 rfl rfl (by kernel_rfl) (by kernel_rfl) (by kernel_rfl) (fun _ _ _ h => h) (by rfl) ?_ (by assumption) ?_
        rotate_left
        · intro w' hSw
          (try dsimp only at hSw)
          go_simp
          all_goals with_reducible rfl
        (try simp only [Act.put, List.setIfInBounds_toArray, List.set_cons_zero, List.set_cons_succ])
        refine ByHand.take_yes (v := ?_) 15 80 rfl rfl (by kernel_rfl) (by kernel_rfl) (by kernel_rfl) (fun _ _ _ h => h) (by rfl) ?_ (by assumption) ?_
        rotate_left
        · intro w' hSw
          (try dsimp only at hSw)
          go_simp
          all_goals with_reducible rfl
        (try simp only [Act.put, List.setIfInBounds_toArray, List.set_cons_zero, List.set_cons_succ])
        refine ByHand.take_yes (v := ?_) 16 81 rfl rfl (by kernel_rfl) (by kernel_rfl) (by kernel_rfl) (fun _ _ _ h => h) (by rfl) ?_ (by assumption) ?_
        rotate_left
        · intro w' hSw
          (try dsimp only at hSw)
          go_simp
          all_goals with_reducible rfl
        (try simp only [Act.put, List.setIfInBounds_toArray, List.set_cons_zero, List.set_cons_succ])
        refine ByHand.take_yes (v := ?_) 17 82 rfl rfl (by kernel_rfl) (by kernel_rfl) (by kernel_rfl) (fun _ _ _ h => h) (by rfl) ?_ (by assumption) ?_
        rotate_left
        · intro w' hSw
          (try dsimp only at hSw)
          go_simp
          all_goals with_reducible rfl
        (try simp only [Act.put, List.setIfInBounds_toArray, List.set_cons_zero, List.set_cons_succ])
        refine ByHand.take_yes (v := ?_) 18 83 rfl rfl (by kernel_rfl) (by kernel_rfl) (by kernel_rfl) (fun _ _ _ h => h) (by rfl) ?_ (by assumption) ?_
        rotate_left
        · intro w' hSw
          (try dsimp only at hSw)
          go_simp
          all_goals with_reducible rfl
        (try simp only [Act.put, List.setIfInBounds_toArray, List.set_cons_zero, List.set_cons_succ])
        refine ByHand.take_yes (v := ?_) 19 84 rfl rfl (by kernel_rfl) (by kernel_rfl) (by kernel_rfl) (fun _ _ _ h => h) (by rfl) ?_ (by assumption) ?_
        rotate_left
        · intro w' hSw
          (try dsimp only at hSw)
          go_simp
          all_goals with_reducible rfl
        (try simp only [Act.put, List.setIfInBounds_toArray, List.set_cons_zero, List.set_cons_succ])
        refine ByHand.take_yes (v := ?_) 20 85 rfl rfl (by kernel_rfl) (by kernel_rfl) (by kernel_rfl) (fun _ _ _ h => h) (by rfl) ?_ (by assumption) ?_
        rotate_left
        · intro w' hSw
          (try dsimp only at hSw)
          go_simp
          all_goals with_reducible rfl
        (try simp only [Act.put, List.setIfInBounds_toArray, List.set_cons_zero, List.set_cons_succ])
        refine ByHand.take_yes (v := ?_) 21 86 rfl rfl (by kernel_rfl) (by kernel_rfl) (by kernel_rfl) (fun _ _ _ h => h) (by rfl) ?_ (by assumption) ?_
        rotate_left
        · intro w' hSw
          (try dsimp only at hSw)
          go_simp
          all_goals with_reducible rfl
        (try simp only [Act.put, List.setIfInBounds_toArray, List.set_cons_zero, List.set_cons_succ])
        refine ByHand.take_yes (v := ?_) 22 87 rfl rfl (by kernel_rfl) (by kernel_rfl) (by kernel_rfl) (fun _ _ _ h => h) (by rfl) ?_ (by assumption) ?_
        rotate_left
        · intro w' hSw
          (try dsimp only at hSw)
          go_simp
          all_goals with_reducible rfl
        (try simp only [Act.put, List.setIfInBounds_toArray, List.set_cons_zero, List.set_cons_succ])
        refine ByHand.take_yes (v := ?_) 23 88 rfl rfl (by kernel_rfl) (by kernel_rfl) (by kernel_rfl) (fun _ _ _ h => h) (by rfl) ?_ (by assumption) ?_
        rotate_left
        · intro w' hSw
          (try dsimp only at hSw)
          go_simp
          all_goals with_reducible rfl
        (try simp only [Act.put, List.setIfInBounds_toArray, List.set_cons_zero, List.set_cons_succ])
        refine ByHand.take_yes (v := ?_) 24 89 rfl rfl (by kernel_rfl) (by kernel_rfl) (by kernel_rfl) (fun _ _ _ h => h) (by rfl) ?_ (by assumption) ?_
        rotate_left
        · intro w' hSw
          (try dsimp only at hSw)
          go_simp
          all_goals with_reducible rfl
        (try simp only [Act.put, List.setIfInBounds_toArray, List.set_cons_zero, List.set_cons_succ])
        refine ByHand.take_yes (v := ?_) 25 90 rfl rfl (by kernel_rfl) (by kernel_rfl) (by kernel_rfl) (fun _ _ _ h => h) (by rfl) ?_ (by assumption) ?_
        rotate_left
        · intro w' hSw
          (try dsimp only at hSw)
          go_simp
          all_goals with_reducible rfl
        (try simp only [Act.put, List.setIfInBounds_toArray, List.set_cons_zero, List.set_cons_succ])
        refine ByHand.take_yes (v := ?_) 26 91 rfl rfl (by kernel_rfl) (by kernel_rfl) (by kernel_rfl) (fun _ _ _ h => h) (by rfl) ?_ (by assumption) ?_
        rotate_left
        · intro w' hSw
          (try dsimp only at hSw)
          go_simp
          all_goals with_reducible rfl
        (try simp only [Act.put, List.setIfInBounds_toArray, List.set_cons_zero, List.set_cons_succ])
        refine ByHand.take_yes (v := ?_) 27 92 rfl rfl (by kernel_rfl) (by kernel_rfl) (by kernel_rfl) (fun _ _ _ h => h) (by rfl) ?_ (by assumption) ?_
        rotate_left
        · intro w' hSw
          (try dsimp only at hSw)
          go_simp
          all_goals with_reducible rfl
        (try simp only [Act.put, List.setIfInBounds_toArray, List.set_cons_zero, List.set_cons_succ])
        refine ByHand.take_yes (v := ?_) 28 93 rfl rfl (by kernel_rfl) (by kernel_rfl) (by kernel_rfl) (fun _ _ _ h => h) (by rfl) ?_ (by assumption) ?_
        rotate_left
        · intro w' hSw
          (try dsimp only at hSw)
          go_simp
          all_goals with_reducible rfl
        (try simp only [Act.put, List.setIfInBounds_toArray, List.set_cons_zero, List.set_cons_succ])
        refine ByHand.take_yes (v := ?_) 29 94 rfl rfl (by kernel_rfl) (by kernel_rfl) (by kernel_rfl) (fun _ _ _ h => h) (by rfl) ?_ (by assumption) ?_
        rotate_left
        · intro w' hSw
          (try dsimp only at hSw)
          go_simp
          all_goals with_reducible rfl
        (try simp only [Act.put, List.setIfInBounds_toArray, List.set_cons_zero, List.set_cons_succ])
        refine ByHand.take_yes (v := ?_) 30 95 rfl rfl (by kernel_rfl) (by kernel_rfl) (by kernel_rfl) (fun _ _ _ h => h) (by rfl) ?_ (by assumption) ?_
        rotate_left
        · intro w' hSw
          (try dsimp only at hSw)
          go_simp
          all_goals with_reducible rfl
        (try simp only [Act.put, List.setIfInBounds_toArray, List.set_cons_zero, List.set_cons_succ])
        refine ByHand.take_yes (v := ?_) 31 96 rfl rfl (by kernel_rfl) (by kernel_rfl) (by kernel_rfl) (fun _ _ _ h => h) (by rfl) ?_ (by assumption) ?_
        rotate_left
        · intro w' hSw
          (try dsimp only at hSw)
          go_simp
          all_goals with_reducible rfl
        (try simp only [Act.put, List.setIfInBounds_toArray, List.set_cons_zero, List.set_cons_succ])
        refine ByHand.take_yes (v := ?_) 32 97 rfl rfl (by kernel_rfl) (by kernel_rfl) (by kernel_rfl) (fun _ _ _ h => h) (by rfl) ?_ (by assumption) ?_
        rotate_left
        · intro w' hSw
          (try dsimp only at hSw)
          go_simp
          all_goals with_reducible rfl
        (try simp only [Act.put, List.setIfInBounds_toArray, List.set_cons_zero, List.set_cons_succ])
        refine ByHand.take_yes (v := ?_) 33 98 rfl rfl (by kernel_rfl) (by kernel_rfl) (by kernel_rfl) (fun _ _ _ h => h) (by rfl) ?_ (by assumption) ?_
        rotate_left
        · intro w' hSw
          (try dsimp only at hSw)
          go_simp
          all_goals with_reducible rfl
        (try simp only [Act.put, List.setIfInBounds_toArray, List.set_cons_zero, List.set_cons_succ])
        refine ByHand.take_yes (v := ?_) 34 99 rfl rfl (by kernel_rfl) (by kernel_rfl) (by kernel_rfl) (fun _ _ _ h => h) (by rfl) ?_ (by assumption) ?_
        rotate_left
        · intro w' hSw
          (try dsimp only at hSw)
          go_simp
          all_goals with_reducible rfl
        (try simp only [Act.put, List.setIfInBounds_toArray, List.set_cons_zero, List.set_cons_succ])
        refine ByHand.take_yes (v := ?_) 35 100 rfl rfl (by kernel_rfl) (by kernel_rfl) (by kernel_rfl) (fun _ _ _ h => h) (by rfl) ?_ (by assumption) ?_
        rotate_left
        · intro w' hSw
          (try dsimp only at hSw)
          go_simp
          all_goals with_reducible rfl
        (try simp only [Act.put, List.setIfInBounds_toArray, List.set_cons_zero, List.set_cons_succ])
        refine ByHand.take_yes (v := ?_) 36 101 rfl rfl (by kernel_rfl) (by kernel_rfl) (by kernel_rfl) (fun _ _ _ h => h) (by rfl) ?_ (by assumption) ?_
        rotate_left
        · intro w' hSw
          (try dsimp only at hSw)
          go_simp
          all_goals with_reducible rfl
        (try simp only [Act.put, List.setIfInBounds_toArray, List.set_cons_zero, List.set_cons_succ])
        refine ByHand.take_yes (v := ?_) 37 102 rfl rfl (by kernel_rfl) (by kernel_rfl) (by kernel_rfl) (fun _ _ _ h => h) (by rfl) ?_ (by assumption) ?_
        rotate_left
        · intro w' hSw
          (try dsimp only at hSw)
          go_simp
          all_goals with_reducible rfl
        (try simp only [Act.put, List.setIfInBounds_toArray, List.set_cons_zero, List.set_cons_succ])
        refine ByHand.take_yes (v := ?_) 38 103 rfl rfl (by kernel_rfl) (by kernel_rfl) (by kernel_rfl) (fun _ _ _ h => h) (by rfl) ?_ (by assumption) ?_
        rotate_left
        · intro w' hSw
          (try dsimp only at hSw)
          go_simp
          all_goals with_reducible rfl
        (try simp only [Act.put, List.setIfInBounds_toArray, List.set_cons_zero, List.set_cons_succ])
        refine ByHand.take_yes (v := ?_) 39 104 rfl rfl (by kernel_rfl) (by kernel_rfl) (by kernel_rfl) (fun _ _ _ h => h) (by rfl) ?_ (by assumption) ?_
        rotate_left
        · intro w' hSw
          (try dsimp only at hSw)
          go_simp
          all_goals with_reducible rfl
        (try simp only [Act.put, List.setIfInBounds_toArray, List.set_cons_zero, List.set_cons_succ])
        refine ByHand.take_yes (v := ?_) 40 105 rfl rfl (by kernel_rfl) (by kernel_rfl) (by kernel_rfl) (fun _ _ _ h => h) (by rfl) ?_ (by assumption) ?_
        rotate_left
        · intro w' hSw
          (try dsimp only at hSw)
          go_simp
          all_goals with_reducible rfl
        (try simp only [Act.put, List.setIfInBounds_toArray, List.set_cons_zero, List.set_cons_succ])
        refine wpAnyH_ready (rs := [41]) (by kernel_rfl) (by simp) (AllReadyH.cons rfl (fun K hK => ?_) AllReadyH.nil)
        go_simp
        obtain ⟨G10, y1, e1, e2, hB, hb⟩ := boxd_new y0 ev0.cells 25
        rw [ev0_cells] at e2
        rw [← e2, ← e1]
        have HY1 := Lib.hid (HY.out.trans (hb.mono HY.out.size))
        have lg10 : w5.heap.size ≤ G10 := by rw [e1]; exact HY.out.size
        clear e1 e2 hb
        refine hK.out _ _ ?_ (fun hHeld => ?_)
        · exact hSB.out _ HY1.out
        clear hK K
        (try simp only [Act.put, List.setIfInBounds_toArray, List.set_cons_zero, List.set_cons_succ])
        refine wpAnyH_ready (rs := [42]) (by kernel_rfl) (by simp) (AllReadyH.cons rfl (fun K hK => ?_) AllReadyH.nil)
        rw [if_pos (by rfl)]
        refine wp_store_row 25 _ _ rfl G10 C rfl ?_ 25 ev0.cells hB HSC.out HSZ.out HONE.out ?_
        · rw [← HCC.out]
          simp [Act.eval, Ev.cells]
        refine hK.out _ _ ?_ (fun hHeld => ?_)
        · exact hSB.out _ (below_setRow HY1.out lg10 _)
        clear hK K
        (try simp only [Act.put, List.setIfInBounds_toArray])
        refine wpAnyH_done (by kernel_rfl) ?_ _
        have HB10 : Hid (Boxd (y1.setRow G10 C) G10 C 25) := show Boxd _ _ _ _ from setRow_heap y1 G10 _ C _ _ hB
        have HY2 := Lib.hid (below_setRow HY1.out lg10 C)
        have RS3 : Hid (Boxd (y1.setRow G10 C) g0 ev0.cells 25) := show Boxd _ _ _ _ from RS2.out.below HY2.out
        have HW3 := Lib.hid (below_via HW2.out HY2.out)
        clear hSB hS0 hHeld HY HY1 hB RS2 HW2 m0 m1 m2 m3 m4 m8 m9 m10
        generalize y1.setRow G10 C = y2 at *
        have HEVC : evD b = evD b := rfl
        cases hg : goodE (evD b) with
        | false =>
          have HG : Hid (∀ W, Calls Try.prog 14 #[.agg C] W fun x w' => x = .returned (.bool false) ∧ Below W.heap.size W w') := fun W => by rw [← hg, ← HCC2.out]; exact r_good _ W HFIT.out
          rw [hg] at HOK
          have hk := HOK.out
          obtain rfl : E = ev0 := HEX.out.1.symm.trans (by unfold decE; rw [hk]; rfl)
          obtain rfl : X = 11 := HEX.out.2.symm.trans (by unfold decX; rw [hk]; rfl)
          clear hk HOK HEVC HEX hg
          rw [ev0_cells] at *
          go_wp2_with (first
            | (refine wpList_load_row rfl 25 _ rfl _ rfl _ _ _ _ HB10.out Try.underlying25 rfl HSC.out ?_)
            | (go_at_call 14
               refine (HG.out y2).mono ?_
               rintro e y3 ⟨rfl, hb⟩
               have HW4 := Lib.hid (below_via HW3.out hb)
               have RS4 := Lib.hid (RS3.out.below hb)
               clear hb)
            | (refine store_row0 rfl 25 _ _ rfl rfl _ _ rfl rfl _ _ RS4.out HS.out rfl H1.out ?_))
          refine bodyPost_ret (results_two rfl _ _ _ _ _ _ _ _ rfl (setRow_heap _ _ _ _ _ _ RS4.out) Try.underlying25 rfl HS.out rfl) rfl ?_
          exact ⟨rfl, below_setRow HW4.out hg0 _⟩
        | true =>
          have HG : Hid (∀ W, Calls Try.prog 14 #[.agg C] W fun x w' => x = .returned (.bool true) ∧ Below W.heap.size W w') := fun W => by rw [← hg, ← HCC2.out]; exact r_good _ W HFIT.out
          rw [hg] at HOK
          have hk := HOK.out
          obtain rfl : E = evD b := HEX.out.1.symm.trans (by unfold decE; rw [hk]; rfl)
          obtain rfl : X = 0 := HEX.out.2.symm.trans (by unfold decX; rw [hk]; rfl)
          clear hk HOK HEVC HEX hg
          rw [ev0_cells] at *
          go_wp2_with (first
            | (refine wpList_load_row rfl 25 _ rfl _ rfl _ _ _ _ HB11.out Try.underlying25 rfl HSC.out ?_)
            | (refine wpList_load_row rfl 25 _ rfl _ rfl _ _ _ _ HB10.out Try.underlying25 rfl HSC.out ?_)
            | (go_at_call 14
               refine (HG.out y2).mono ?_
               rintro e y3 ⟨rfl, hb⟩
               have HW4 := Lib.hid (below_via HW3.out hb)
               have RS4 := Lib.hid (RS3.out.below hb)
               have HB11 := Lib.hid (HB10.out.below hb)
               clear hb)
            | (refine store_row0 rfl 25 _ _ rfl rfl _ _ rfl rfl _ _ RS4.out HSC.out HSZ2.out HONE.out ?_))
          refine bodyPost_ret (results_two rfl _ _ _ _ _ _ _ _ rfl (setRow_heap _ _ _ _ _ _ RS4.out) Try.underlying25 rfl HSC.out rfl) rfl ?_
          exact ⟨by rw [HCC2.out]; rfl, below_setRow HW4.out hg0 _⟩
end Go.Proofs.Ytcmdonckilajjaa.Event
namespace Go.Proofs.Ytcmdonckilajjaa.Event
open Go.ChangeShapes Go.WideShapes Go.ChangeAt Go.RowKit Fl Date Cal Pack

theorem r_decode (b : ByteArray) (w : World) (hl : b.size ≤ 100000) : Calls Try.prog 12 #[.string b] w fun x w' => x = .returned (.tuple #[.agg (decE b).cells, .int .i64 (decX b)]) ∧ Below w.heap.size w w' := by
  by_cases h : b.size = 39
  · exact r_decode_yes b w hl h
  · exact r_decode_no b w hl h
theorem cm0_cells : cm0.cells = #[.bool false, .int .u32 0, .int .i64 0, .int .i64 0, .int .u32 0, .int .i64 0, .int .i64 0, .float .f64 0, .float .f64 0, .bool false, .int .i64 0, .int .i64 0, .int .i64 0, .int .u32 0] := rfl
theorem cm_one (c : Cm) : c.cells.all (·.oneCell') = true := by simp [Cm.cells, Value.oneCell']
theorem ev_one (e : Ev) : e.cells.all (·.oneCell') = true := by simp [Ev.cells, Value.oneCell']
theorem num_one {b : ByteArray} (h : 5 ≤ b.size) : OSt.num ⟨b, 0, false⟩ 1 = (valN b 0 1, ⟨b, 1, false⟩) := by
  unfold OSt.num OSt.hasNum
  rw [if_pos (by rw [show sizedB 1 = true by rfl, decide_eq_true (show (1 : Int) ≤ (b.size : Int) - ((0 : Nat) : Int) by omega)]; rfl)]
  rfl
theorem num_four {b : ByteArray} (h : 5 ≤ b.size) : OSt.num ⟨b, 1, false⟩ 4 = (valN b 1 4, ⟨b, 5, false⟩) := by
  unfold OSt.num OSt.hasNum
  rw [if_pos (by rw [show sizedB 4 = true by rfl, decide_eq_true (show (4 : Int) ≤ (b.size : Int) - ((1 : Nat) : Int) by omega)]; rfl)]
  rfl
theorem num_last {b : ByteArray} (h : 9 ≤ b.size) : OSt.num ⟨b, 5, false⟩ 4 = (valN b 5 4, ⟨b, 9, false⟩) := by
  unfold OSt.num OSt.hasNum
  rw [if_pos (by rw [show sizedB 4 = true by rfl, decide_eq_true (show (4 : Int) ≤ (b.size : Int) - ((5 : Nat) : Int) by omega)]; rfl)]
  rfl
theorem num_lost {b : ByteArray} (h : b.size < 9) : (OSt.num ⟨b, 5, false⟩ 4).2.bad = true := by
  unfold OSt.num OSt.hasNum
  rw [if_neg (by rw [show sizedB 4 = true by rfl, decide_eq_false (show ¬ (4 : Int) ≤ (b.size : Int) - ((5 : Nat) : Int) by omega)]; simp)]
  rfl
theorem num_bad {b : ByteArray} (h : b.size < 5) : ((OSt.num ⟨b, 0, false⟩ 1).2.num 4).2.bad = true := by
  by_cases h1 : 1 ≤ b.size
  · have e : OSt.num ⟨b, 0, false⟩ 1 = (valN b 0 1, ⟨b, 1, false⟩) := by
      unfold OSt.num OSt.hasNum
      rw [if_pos (by rw [show sizedB 1 = true by rfl, decide_eq_true (show (1 : Int) ≤ (b.size : Int) - ((0 : Nat) : Int) by omega)]; rfl)]
      rfl
    rw [e]
    unfold OSt.num OSt.hasNum
    rw [if_neg (by rw [show sizedB 4 = true by rfl, decide_eq_false (show ¬ (4 : Int) ≤ (b.size : Int) - ((1 : Nat) : Int) by omega)]; simp)]
    rfl
  · have e : OSt.num ⟨b, 0, false⟩ 1 = (0, ⟨b, 0, true⟩) := by
      unfold OSt.num OSt.hasNum
      rw [if_neg (by rw [show sizedB 1 = true by rfl, decide_eq_false (show ¬ (1 : Int) ≤ (b.size : Int) - ((0 : Nat) : Int) by omega)]; simp)]
      rfl
    rw [e]
    rfl
theorem num_small (o : OSt) (n : Nat) : (o.num n).1 < 256 ^ n := by
  unfold OSt.num
  split
  · exact valN_lt _ _ _
  · exact Nat.pos_of_neZero _
theorem ro_grown {w w1 : World} {g0 go : Nat} {C : Array Value} {T : TypeId} {W : World} (hg : W.grownBy w1 (some go)) (hb : Below w.heap.size w W) (h0 : w.heap.size ≤ go) (hr : Boxd W g0 C T) (hne : g0 ≠ go) : Boxd w1 g0 C T ∧ Below w.heap.size w w1 :=
  ⟨hr.grown hg hne, ⟨hg.os.trans hb.os, hg.tape.trans hb.tape, hg.output.trans hb.output, Nat.le_trans hb.size hg.size, fun k hk => (hg.block k (Nat.lt_of_lt_of_le hk hb.size) (fun e => by injection e; omega)).trans (hb.block k hk)⟩⟩
set_option maxRecDepth 20000 in
set_option maxHeartbeats 4000000 in
theorem r_open (b : ByteArray) (w : World) (hl : b.size ≤ 100000) : Calls Try.prog 20 #[.string b] w fun x w' => x = .returned (.tuple #[.agg (opnE b).cells, .int .i64 (opnX b)]) ∧ Below w.heap.size w w' := by
  obtain ⟨E, hE⟩ : ∃ E, opnE b = E := ⟨_, rfl⟩
  obtain ⟨X, hX⟩ : ∃ X, opnX b = X := ⟨_, rfl⟩
  rw [hE, hX]
  have HEX := Lib.hid (And.intro hE hX)
  clear hE hX
  obtain ⟨g0, wa, e1, e2, hA, ha⟩ := boxd_new w cm0.cells 40
  obtain ⟨go, wb, e3, e4, hO, ho⟩ := boxd_new wa #[.string b, .int .i64 0, .bool false] 65
  have e5 : go = w.heap.size + 1 := by rw [e3, e2, Deep.nblk_alloc]
  have HN1 := r_onum ⟨b, 0, false⟩ 1 go wb (ro_first hO (by omega)) (by omega)
  have HRES := Lib.hid (hA.below ho)
  have HW := Lib.hid (below_via ha ho)
  have hg0 : w.heap.size ≤ g0 := by omega
  have hgo : w.heap.size ≤ go := by omega
  have hne : g0 ≠ go := by omega
  clear hA ha hO ho
  rw [cm0_cells] at e2
  have HL := Lib.hid hl
  clear hl
  have HSM1 := Lib.hid (num_small ⟨b, 0, false⟩ 1)
  have HQ : Hid (∀ h : 5 ≤ b.size, OSt.num ⟨b, 0, false⟩ 1 = (valN b 0 1, ⟨b, 1, false⟩)) := num_one
  have HBAD : Hid (b.size < 5 → ((OSt.num ⟨b, 0, false⟩ 1).2.num 4).2.bad = true) := num_bad
  obtain ⟨u, o1, hu⟩ : ∃ u o1, OSt.num ⟨b, 0, false⟩ 1 = (u, o1) := ⟨_, _, rfl⟩
  rw [show ((1 : Nat) : Int) = 1 by rfl, hu] at HSM1
  rw [hu] at HN1 HQ HBAD
  clear hu
  go_enter Try.func20, Try.ntmps20
  go_upto_region 2 with fail
  rw [← e2, ← e4, ← e5, ← e1]
  clear e1 e2 e3 e4 e5
  go_wp2_with fail
  refine HN1.mono ?_
  rintro e w1 ⟨rfl, hro1, hgr1⟩
  obtain ⟨hr1, hb1⟩ := ro_grown hgr1 HW.out hgo HRES.out hne
  have HRES := Lib.hid hr1
  have HW := Lib.hid hb1
  have HN2 := r_onum o1 4 go w1 hro1 (by omega)
  have HSM2 := Lib.hid (num_small o1 4)
  have HQ2 : Hid (∀ h : 5 ≤ b.size, OSt.num o1 4 = (valN b 1 4, ⟨b, 5, false⟩)) := fun h => by
    have := HQ.out h
    injection this with _ e
    rw [e]
    exact num_four h
  have HBAD2 : Hid (b.size < 5 → (o1.num 4).2.bad = true) := HBAD.out
  obtain ⟨k, o2, hk⟩ : ∃ k o2, OSt.num o1 4 = (k, o2) := ⟨_, _, rfl⟩
  rw [show ((4 : Nat) : Int) = 4 by rfl, hk] at HSM2
  rw [hk] at HN2 HQ2 HBAD2
  have m2 : IntKind.u32.wrap (k : Int) = k := IntWalk.u32_in _ (by have : k < 4294967296 := HSM2.out; omega)
  have m3 : (k : Int) % 4294967296 = k := by have : k < 4294967296 := HSM2.out; omega
  clear hk hro1 hgr1 hr1 hb1 HBAD HN1
  go_wp2_with fail
  refine HN2.mono ?_
  rintro e w2 ⟨rfl, hro2, hgr2⟩
  obtain ⟨hr2, hb2⟩ := ro_grown hgr2 HW.out hgo HRES.out hne
  have HRES := Lib.hid hr2
  have HW := Lib.hid hb2
  have HRO := Lib.hid hro2
  have cb : w2.cell? ⟨go, 2, none⟩ = some (.bool o2.bad) := hro2.1.cell (i := 2) (by omega)
  clear hro2 hgr2 hr2 hb2 HN2
  have HS0 := Lib.hid (cm_info cm0)
  have H10 := Lib.hid (cm_one cm0)
  by_cases h5 : 5 ≤ b.size
  case neg =>
    have hbad := HBAD2.out (by omega)
    rw [hbad] at cb
    have hk : okC b = false := by unfold okC; rw [decide_eq_false h5]; rfl
    obtain rfl : E = cm0 := HEX.out.1.symm.trans (by unfold opnE; rw [hk]; rfl)
    obtain rfl : X = 11 := HEX.out.2.symm.trans (by unfold opnX; rw [hk]; rfl)
    clear hk HEX HQ HQ2 HBAD2 hbad
    rw [cm0_cells] at *
    go_wp2_with (first
      | (refine store_row0 rfl 40 _ _ rfl rfl _ _ rfl rfl _ _ HRES.out HS0.out rfl H10.out ?_))
    refine bodyPost_ret (results_two rfl _ _ _ _ _ _ _ _ rfl (setRow_heap _ _ _ _ _ _ HRES.out) Try.underlying40 rfl HS0.out rfl) rfl ?_
    exact ⟨rfl, below_setRow HW.out hg0 _⟩
  have hq1 := HQ.out h5
  have hq2 := HQ2.out h5
  obtain ⟨hu, -⟩ := Prod.mk.inj hq1
  obtain ⟨hk, ho⟩ := Prod.mk.inj hq2
  clear hq1 hq2
  subst ho
  have HU := Lib.hid hu
  have HK := Lib.hid hk
  clear hu hk HQ HQ2 HBAD2
  by_cases hu1 : u ≤ 1
  case neg =>
    have d1 : decide ((1 : Int) < (u : Int)) = true := decide_eq_true (by omega)
    have hk : okC b = false := by unfold okC; rw [← HU.out, decide_eq_false hu1, Bool.false_and, Bool.and_false]
    obtain rfl : E = cm0 := HEX.out.1.symm.trans (by unfold opnE; rw [hk]; rfl)
    obtain rfl : X = 11 := HEX.out.2.symm.trans (by unfold opnX; rw [hk]; rfl)
    clear hk HEX
    rw [cm0_cells] at *
    go_wp2_with (first
      | (refine store_row0 rfl 40 _ _ rfl rfl _ _ rfl rfl _ _ HRES.out HS0.out rfl H10.out ?_))
    refine bodyPost_ret (results_two rfl _ _ _ _ _ _ _ _ rfl (setRow_heap _ _ _ _ _ _ HRES.out) Try.underlying40 rfl HS0.out rfl) rfl ?_
    exact ⟨rfl, below_setRow HW.out hg0 _⟩
  have d1 : decide ((1 : Int) < (u : Int)) = false := decide_eq_false (by omega)
  by_cases hu2 : u = 1
  · have d2 : ((u : Int) == 1) = true := by rw [beq_iff_eq]; omega
    have HN3 := r_onum ⟨b, 5, false⟩ 4 go w2 HRO.out (by omega)
    by_cases h9 : b.size = 9
    · have e3 := num_last (b := b) (by omega)
      rw [e3] at HN3
      have hok : okC b = true := by
        unfold okC
        rw [← HU.out, decide_eq_true h5, decide_eq_true hu1, if_pos hu2, decide_eq_true h9]; rfl
      have hv4 : valN b 5 4 < 4294967296 := valN_lt b 4 5
      obtain ⟨v, hv⟩ : ∃ v, valN b 5 4 = v := ⟨_, rfl⟩
      obtain rfl : E = ⟨true, k, ev0, v⟩ := HEX.out.1.symm.trans (by unfold opnE cmD; rw [if_pos hok, ← HU.out, if_pos hu2, ← HK.out, hv])
      obtain rfl : X = 0 := HEX.out.2.symm.trans (by unfold opnX; rw [if_pos hok])
      rw [hv] at HN3 hv4
      have m4 : IntKind.u32.wrap (v : Int) = v := IntWalk.u32_in _ (by omega)
      have HSE : Hid ((Try.prog.info? 40).map (·.size) = some (#[.bool true, .int .u32 (k : Nat), .int .i64 0, .int .i64 0, .int .u32 0, .int .i64 0, .int .i64 0, .float .f64 0, .float .f64 0, .bool false, .int .i64 0, .int .i64 0, .int .i64 0, .int .u32 (v : Nat)] : Array Value).size) := show _ = _ from cm_info ⟨true, k, ev0, v⟩
      have HOE : Hid ((#[.bool true, .int .u32 (k : Nat), .int .i64 0, .int .i64 0, .int .u32 0, .int .i64 0, .int .i64 0, .float .f64 0, .float .f64 0, .bool false, .int .i64 0, .int .i64 0, .int .i64 0, .int .u32 (v : Nat)] : Array Value).all (·.oneCell') = true) := show _ = _ from cm_one ⟨true, k, ev0, v⟩
      clear hok HEX e3 hv hv4
      go_wp2_with fail
      refine HN3.mono ?_
      rintro e w3 ⟨rfl, hro3, hgr3⟩
      obtain ⟨hr3, hb3⟩ := ro_grown hgr3 HW.out hgo HRES.out hne
      have HRES := Lib.hid hr3
      have HW := Lib.hid hb3
      have HD := r_odone _ go w3 hro3
      rw [show (!(OSt.mk b 9 false).bad && decide ((OSt.mk b 9 false).at_ = (OSt.mk b 9 false).s.size)) = true by simp [h9]] at HD
      clear HN3 hro3 hgr3 hr3 hb3 cb HRO
      go_wp2_with fail
      refine HD.mono ?_
      rintro e w4 ⟨rfl, d, rfl⟩
      have HRES : Hid (Boxd (w3.drewN d) g0 cm0.cells 40) := HRES
      have HW := Lib.hid (below_drewN HW.out d)
      clear HD
      generalize w3.drewN d = w5 at *
      go_wp2_with (first
        | (refine store_row0 rfl 40 _ _ rfl rfl _ _ rfl rfl _ _ HRES.out HSE.out rfl HOE.out ?_))
      refine bodyPost_ret (results_two rfl _ _ _ _ _ _ _ _ rfl (setRow_heap _ _ _ _ _ _ HRES.out) Try.underlying40 rfl HSE.out rfl) rfl ?_
      exact ⟨rfl, below_setRow HW.out hg0 _⟩
    · have hok : okC b = false := by
        unfold okC
        rw [← HU.out, decide_eq_true hu1, if_pos hu2, decide_eq_false h9, Bool.and_false, Bool.and_false]
      obtain rfl : E = cm0 := HEX.out.1.symm.trans (by unfold opnE; rw [hok]; rfl)
      obtain rfl : X = 11 := HEX.out.2.symm.trans (by unfold opnX; rw [hok]; rfl)
      have hdone : (!(OSt.num ⟨b, 5, false⟩ 4).2.bad && decide ((OSt.num ⟨b, 5, false⟩ 4).2.at_ = (OSt.num ⟨b, 5, false⟩ 4).2.s.size)) = false := by
        by_cases h8 : b.size < 9
        · rw [num_lost h8]; rfl
        · rw [num_last (by omega)]
          simp
          omega
      have HD0 := fun w3 h => r_odone (OSt.num ⟨b, 5, false⟩ 4).2 go w3 h
      rw [hdone] at HD0
      obtain ⟨v, o3, hv⟩ : ∃ v o3, OSt.num ⟨b, 5, false⟩ 4 = (v, o3) := ⟨_, _, rfl⟩
      rw [hv] at HN3 HD0
      clear hok HEX hdone hv
      rw [cm0_cells] at *
      go_wp2_with fail
      refine HN3.mono ?_
      rintro e w3 ⟨rfl, hro3, hgr3⟩
      obtain ⟨hr3, hb3⟩ := ro_grown hgr3 HW.out hgo HRES.out hne
      have HRES := Lib.hid hr3
      have HW := Lib.hid hb3
      have HD := HD0 w3 hro3
      clear HN3 hro3 hgr3 hr3 hb3 cb HRO HD0
      go_wp2_with fail
      refine HD.mono ?_
      rintro e w4 ⟨rfl, d, rfl⟩
      have HRES := Lib.hid (HRES.out.below (below_drewN (Below.refl _ w3) d))
      have HW := Lib.hid (below_drewN HW.out d)
      clear HD
      generalize w3.drewN d = w5 at *
      go_wp2_with (first
        | (refine store_row0 rfl 40 _ _ rfl rfl _ _ rfl rfl _ _ HRES.out HS0.out rfl H10.out ?_))
      refine bodyPost_ret (results_two rfl _ _ _ _ _ _ _ _ rfl (setRow_heap _ _ _ _ _ _ HRES.out) Try.underlying40 rfl HS0.out rfl) rfl ?_
      exact ⟨rfl, below_setRow HW.out hg0 _⟩
  · have d2 : ((u : Int) == 1) = false := by rw [beq_eq_false_iff_ne]; omega
    have hu0 : u = 0 := by omega
    have ht : (tailB b).size ≤ 100000 := by have := HL.out; unfold tailB; rw [ByteArray.size_extract]; omega
    have HD : Hid (∀ W, Calls Try.prog 12 #[.string (b.extract 5 b.size)] W fun x w' => x = .returned (.tuple #[.agg (decE (tailB b)).cells, .int .i64 (decX (tailB b))]) ∧ Below W.heap.size W w') := fun W => r_decode (tailB b) W ht
    have s1 : (5 : Int) ≤ (b.size : Int) := by omega
    have hopn : okC b = (okD (tailB b) && decide ((evD (tailB b)).key = k)) := by
      unfold okC
      rw [decide_eq_true h5, ← HU.out, decide_eq_true hu1, if_neg hu2, ← HK.out]; rfl
    have hcm : cmD b = ⟨false, k, evD (tailB b), 0⟩ := by
      unfold cmD
      rw [← HU.out, if_neg hu2, ← HK.out]
    have HE1 : Hid (opnE b = if okC b = true then cmD b else cm0) := show _ = _ from rfl
    have HX1 : Hid (opnX b = if okC b = true then 0 else 11) := show _ = _ from rfl
    rw [hcm, hopn] at HE1
    rw [hopn] at HX1
    unfold decE decX at HD
    have HKB : (evD (tailB b)).key < 4294967296 := fld_bound (tailB b) (j := 2) (n := 4) (by decide) rfl
    generalize tailB b = t at *
    generalize evD t = D at *
    clear hopn hcm ht HU HK HRO hu1 hu2
    subst hu0
    cases hd : okD t
    · rw [hd] at HE1 HX1 HD
      obtain rfl : E = cm0 := HEX.out.1.symm.trans HE1.out
      obtain rfl : X = 11 := HEX.out.2.symm.trans HX1.out
      have HD : Hid (∀ W, Calls Try.prog 12 #[.string (b.extract 5 b.size)] W fun x w' => x = .returned (.tuple #[.agg ev0.cells, .int .i64 11]) ∧ Below W.heap.size W w') := HD
      clear HEX HE1 HX1 hd
      have HSV := Lib.hid (ev_info ev0)
      have HOV := Lib.hid (ev_one ev0)
      rw [cm0_cells, ev0_cells] at *
      go_wp2_with (first
        | (go_at_call 12
           refine (HD.out _).mono ?_
           rintro e w3 ⟨rfl, hb⟩
           have HRES := Lib.hid (HRES.out.below hb)
           have HW := Lib.hid (below_via HW.out hb)
           clear hb)
        | (refine store_row0 rfl 25 _ _ rfl rfl _ _ rfl rfl _ _ (heap_alloc_last _ _) HSV.out rfl HOV.out ?_
           rw [World.setRow_alloc_new]
           obtain ⟨G8, w4, e1, e2, hB, hb⟩ := boxd_new w3 #[.int .i64 0, .int .i64 0, .int .u32 0, .int .i64 0, .int .i64 0, .float .f64 0, .float .f64 0, .bool false, .int .i64 0, .int .i64 0, .int .i64 0] 25
           rw [← e2, ← e1]
           have HRES := Lib.hid (HRES.out.below hb)
           have HW := Lib.hid (below_via HW.out hb)
           have HB := Lib.hid hB
           clear e1 e2 hB hb)
        | (refine store_row0 rfl 40 _ _ rfl rfl _ _ rfl rfl _ _ HRES.out HS0.out rfl H10.out ?_))
      refine bodyPost_ret (results_two rfl _ _ _ _ _ _ _ _ rfl (setRow_heap _ _ _ _ _ _ HRES.out) Try.underlying40 rfl HS0.out rfl) rfl ?_
      exact ⟨rfl, below_setRow HW.out hg0 _⟩
    · rw [hd] at HE1 HX1 HD
      obtain ⟨x0, x1, x2, x3, x4, x5, x6, x7, x8, x9, x10⟩ := D
      have HDX : Hid (∀ W, Calls Try.prog 12 #[.string (b.extract 5 b.size)] W fun x w' => x = .returned (.tuple #[.agg #[.int .i64 x0, .int .i64 x1, .int .u32 (x2 : Nat), .int .i64 x3, .int .i64 x4, .float .f64 x5, .float .f64 x6, .bool x7, .int .i64 x8, .int .i64 x9, .int .i64 x10], .int .i64 0]) ∧ Below W.heap.size W w') := HD
      clear HD
      have HSV : Hid ((Try.prog.info? 25).map (·.size) = some (#[.int .i64 x0, .int .i64 x1, .int .u32 (x2 : Nat), .int .i64 x3, .int .i64 x4, .float .f64 x5, .float .f64 x6, .bool x7, .int .i64 x8, .int .i64 x9, .int .i64 x10] : Array Value).size) := show _ = _ from ev_info ⟨x0, x1, x2, x3, x4, x5, x6, x7, x8, x9, x10⟩
      have HOV : Hid ((#[.int .i64 x0, .int .i64 x1, .int .u32 (x2 : Nat), .int .i64 x3, .int .i64 x4, .float .f64 x5, .float .f64 x6, .bool x7, .int .i64 x8, .int .i64 x9, .int .i64 x10] : Array Value).all (·.oneCell') = true) := show _ = _ from ev_one ⟨x0, x1, x2, x3, x4, x5, x6, x7, x8, x9, x10⟩
      have HKB : x2 < 4294967296 := HKB
      by_cases hkk : x2 = k
      · have d3 : ((x2 : Int) != (k : Int)) = false := by rw [bne_eq_false_iff_eq]; omega
        obtain rfl : E = ⟨false, k, ⟨x0, x1, x2, x3, x4, x5, x6, x7, x8, x9, x10⟩, 0⟩ := HEX.out.1.symm.trans (HE1.out.trans (if_pos (by show (true && decide (x2 = k)) = true; rw [decide_eq_true hkk]; rfl)))
        obtain rfl : X = 0 := HEX.out.2.symm.trans (HX1.out.trans (if_pos (by show (true && decide (x2 = k)) = true; rw [decide_eq_true hkk]; rfl)))
        have HSE : Hid ((Try.prog.info? 40).map (·.size) = some (#[.bool false, .int .u32 (k : Nat), .int .i64 x0, .int .i64 x1, .int .u32 (x2 : Nat), .int .i64 x3, .int .i64 x4, .float .f64 x5, .float .f64 x6, .bool x7, .int .i64 x8, .int .i64 x9, .int .i64 x10, .int .u32 0] : Array Value).size) := show _ = _ from cm_info ⟨false, k, ⟨x0, x1, x2, x3, x4, x5, x6, x7, x8, x9, x10⟩, 0⟩
        have HOE : Hid ((#[.bool false, .int .u32 (k : Nat), .int .i64 x0, .int .i64 x1, .int .u32 (x2 : Nat), .int .i64 x3, .int .i64 x4, .float .f64 x5, .float .f64 x6, .bool x7, .int .i64 x8, .int .i64 x9, .int .i64 x10, .int .u32 0] : Array Value).all (·.oneCell') = true) := show _ = _ from cm_one ⟨false, k, ⟨x0, x1, x2, x3, x4, x5, x6, x7, x8, x9, x10⟩, 0⟩
        clear HEX HE1 HX1 hd hkk HKB
        rw [cm0_cells] at *
        go_wp2_with (first
          | (go_at_call 12
             refine (HDX.out _).mono ?_
             rintro e w3 ⟨rfl, hb⟩
             have HRES := Lib.hid (HRES.out.below hb)
             have HW := Lib.hid (below_via HW.out hb)
             clear hb)
          | (refine store_row0 rfl 25 _ _ rfl rfl _ _ rfl rfl _ _ (heap_alloc_last _ _) HSV.out rfl HOV.out ?_
             rw [World.setRow_alloc_new]
             obtain ⟨G8, w4, e1, e2, hB, hb⟩ := boxd_new w3 #[.int .i64 x0, .int .i64 x1, .int .u32 (x2 : Nat), .int .i64 x3, .int .i64 x4, .float .f64 x5, .float .f64 x6, .bool x7, .int .i64 x8, .int .i64 x9, .int .i64 x10] 25
             rw [← e2, ← e1]
             have HRES := Lib.hid (HRES.out.below hb)
             have HW := Lib.hid (below_via HW.out hb)
             have HB := Lib.hid hB
             have k2 : w4.cell? ⟨G8, 2, none⟩ = some (.int .u32 (x2 : Nat)) := hB.cell
             clear e1 e2 hB hb)
          | (refine wpList_load_row rfl 25 _ rfl _ rfl _ _ _ _ HB.out Try.underlying25 rfl HSV.out ?_)
          | (refine store_row0 rfl 40 _ _ rfl rfl _ _ rfl rfl _ _ HRES.out HSE.out rfl HOE.out ?_))
        refine bodyPost_ret (results_two rfl _ _ _ _ _ _ _ _ rfl (setRow_heap _ _ _ _ _ _ HRES.out) Try.underlying40 rfl HSE.out rfl) rfl ?_
        exact ⟨rfl, below_setRow HW.out hg0 _⟩
      · have d3 : ((x2 : Int) != (k : Int)) = true := by rw [bne_iff_ne]; omega
        obtain rfl : E = cm0 := HEX.out.1.symm.trans (HE1.out.trans (if_neg (by show ¬ (true && decide (x2 = k)) = true; rw [decide_eq_false hkk]; decide)))
        obtain rfl : X = 11 := HEX.out.2.symm.trans (HX1.out.trans (if_neg (by show ¬ (true && decide (x2 = k)) = true; rw [decide_eq_false hkk]; decide)))
        clear HEX HE1 HX1 hd hkk HKB
        rw [cm0_cells] at *
        go_wp2_with (first
          | (go_at_call 12
             refine (HDX.out _).mono ?_
             rintro e w3 ⟨rfl, hb⟩
             have HRES := Lib.hid (HRES.out.below hb)
             have HW := Lib.hid (below_via HW.out hb)
             clear hb)
          | (refine store_row0 rfl 25 _ _ rfl rfl _ _ rfl rfl _ _ (heap_alloc_last _ _) HSV.out rfl HOV.out ?_
             rw [World.setRow_alloc_new]
             obtain ⟨G8, w4, e1, e2, hB, hb⟩ := boxd_new w3 #[.int .i64 x0, .int .i64 x1, .int .u32 (x2 : Nat), .int .i64 x3, .int .i64 x4, .float .f64 x5, .float .f64 x6, .bool x7, .int .i64 x8, .int .i64 x9, .int .i64 x10] 25
             rw [← e2, ← e1]
             have HRES := Lib.hid (HRES.out.below hb)
             have HW := Lib.hid (below_via HW.out hb)
             have HB := Lib.hid hB
             have k2 : w4.cell? ⟨G8, 2, none⟩ = some (.int .u32 (x2 : Nat)) := hB.cell
             clear e1 e2 hB hb)
          | (refine store_row0 rfl 40 _ _ rfl rfl _ _ rfl rfl _ _ HRES.out HS0.out rfl H10.out ?_))
        refine bodyPost_ret (results_two rfl _ _ _ _ _ _ _ _ rfl (setRow_heap _ _ _ _ _ _ HRES.out) Try.underlying40 rfl HS0.out rfl) rfl ?_
        exact ⟨rfl, below_setRow HW.out hg0 _⟩
end Go.Proofs.Ytcmdonckilajjaa.Event
