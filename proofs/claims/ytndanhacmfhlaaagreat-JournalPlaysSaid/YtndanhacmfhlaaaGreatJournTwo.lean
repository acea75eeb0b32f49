/- Two journals side by side, the program's and the document's, over two disks; what each call leaves of all. Of no one law. -/
import Derived.Test.YtndanhacmfhlaaaGreatJournOk
import Derived.Test.YtndanhacmfhlaaaGreatRefJournal8
import Derived.Test.YtndanhacmfhlaaaGreatGJe
namespace Go.Proofs.YtndanhacmfhlaaaGreat.Jour
open Go.ChangeShapes Go.WideShapes Go.ChangeAt Go.RowKit Go.Deep Els Go.Proofs.YtndanhacmfhlaaaGreat.Frame Disk Slice

def D3 (gd gr r : Nat) (i : Nat) : Prop := i = gd ∨ i = gr ∨ i = r
/-- The blocks P and D, apart, of the call's own; X's blocks lie as H says, apart from both. -/
structure Fr (w W : World) (X : Nat → Prop) (H : Nat → Option Obj) (P D : Nat → Prop) : Prop where
  below : Below w.heap.size w W
  lowP : ∀ i, P i → w.heap.size ≤ i
  lowD : ∀ i, D i → w.heap.size ≤ i
  ltP : ∀ i, P i → i < W.heap.size
  ltD : ∀ i, D i → i < W.heap.size
  ap : ∀ i, P i → ¬ D i
  ext : ∀ i, X i → i < W.heap.size ∧ W.heap[i]? = H i ∧ ¬ P i ∧ ¬ D i
section
variable {w W W' : World} {X : Nat → Prop} {H : Nat → Option Obj} {P P' D D' : Nat → Prop}
theorem Fr.first (h : Fr w W X H P D) (ho : OnlyF P W W') (hP : ∀ i, P' i → P i ∨ W.heap.size ≤ i) (hlt : ∀ i, P' i → i < W'.heap.size) : Fr w W' X H P' D where
  below := only_far h.below ho h.lowP h.below.size
  lowP := fun i hi => (hP i hi).elim (h.lowP i) (fun e => Nat.le_trans h.below.size e)
  lowD := h.lowD
  ltP := hlt
  ltD := fun i hi => Nat.lt_of_lt_of_le (h.ltD i hi) ho.size
  ap := fun i hi hd => (hP i hi).elim (fun e => h.ap i e hd) (fun e => by have := h.ltD i hd; omega)
  ext := fun i hi => by
    obtain ⟨h1, h2, h3, h4⟩ := h.ext i hi
    exact ⟨Nat.lt_of_lt_of_le h1 ho.size, (ho.block i h1 h3).trans h2, fun e => (hP i e).elim h3 (fun e => by omega), h4⟩
theorem Fr.second (h : Fr w W X H P D) (ho : OnlyF D W W') (hD : ∀ i, D' i → D i ∨ W.heap.size ≤ i) (hlt : ∀ i, D' i → i < W'.heap.size) : Fr w W' X H P D' where
  below := only_far h.below ho h.lowD h.below.size
  lowP := h.lowP
  lowD := fun i hi => (hD i hi).elim (h.lowD i) (fun e => Nat.le_trans h.below.size e)
  ltP := fun i hi => Nat.lt_of_lt_of_le (h.ltP i hi) ho.size
  ltD := hlt
  ap := fun i hi hd => (hD i hd).elim (h.ap i hi) (fun e => by have := h.ltP i hi; omega)
  ext := fun i hi => by
    obtain ⟨h1, h2, h3, h4⟩ := h.ext i hi
    exact ⟨Nat.lt_of_lt_of_le h1 ho.size, (ho.block i h1 h4).trans h2, h3, fun e => (hD i e).elim h4 (fun e => by omega)⟩
theorem Fr.less (h : Fr w W X H P D) (hP : ∀ i, P' i → P i) (hD : ∀ i, D' i → D i) : Fr w W X H P' D' :=
  ⟨h.below, fun i hi => h.lowP i (hP i hi), fun i hi => h.lowD i (hD i hi), fun i hi => h.ltP i (hP i hi), fun i hi => h.ltD i (hD i hi), fun i hi hd => h.ap i (hP i hi) (hD i hd), fun i hi => by
    obtain ⟨h1, h2, h3, h4⟩ := h.ext i hi
    exact ⟨h1, h2, fun e => h3 (hP i e), fun e => h4 (hD i e)⟩⟩
theorem Fr.drop {H' : Nat → Option Obj} (h : Fr w W X H P D) : Fr w W (fun _ => False) H' P D := ⟨h.below, h.lowP, h.lowD, h.ltP, h.ltD, h.ap, fun _ e => e.elim⟩
theorem Fr.grow (h : Fr w W X H P D) (hb : Below W.heap.size W W') : Fr w W' X H P D := h.first (OnlyF.of_below hb) (fun _ e => Or.inl e) (fun i hi => Nat.lt_of_lt_of_le (h.ltP i hi) hb.size)
theorem Fr.box (h : Fr w W X H P D) (o : Obj) : Fr w (W.alloc o) (fun i => i = W.heap.size) (fun _ => some o) P D := by
  have hb : Below W.heap.size W (W.alloc o) := (Below.refl _ _).alloc (Nat.le_refl _) o
  have hg : Fr w (W.alloc o) (fun _ => False) H P D := h.drop.grow hb
  refine ⟨hg.below, hg.lowP, hg.lowD, hg.ltP, hg.ltD, hg.ap, fun i hi => ?_⟩
  subst hi
  exact ⟨by simp, heap_alloc_last W o, fun e => by have := h.ltP _ e; omega, fun e => by have := h.ltD _ e; omega⟩
end
section
variable {w W W' : World} {X : Nat → Prop} {H : Nat → Option Obj} {gj g b gd gr r : Nat} {V V' : Value} {q p q' p' : DSt} {j i j' i' : JSt} {AV AV' : Nat → Prop}
theorem two_f2 (h : OnlyTwo gr r W W') : OnlyF (F2 gr r) W W' := ⟨h.os, h.tape, h.output, h.size, fun k hk hf => h.block k hk (fun e => hf (Or.inl e)) (fun e => hf (Or.inr e))⟩
theorem three_d3 (h : OnlyThree gd gr r W W') : OnlyF (D3 gd gr r) W W' := ⟨h.os, h.tape, h.output, h.size, fun k hk hf => h.block k hk (fun e => hf (Or.inl e)) (fun e => hf (Or.inr (Or.inl e))) (fun e => hf (Or.inr (Or.inr e)))⟩
theorem Off.apart {V : Value} {l : List ByteArray} {a c d : Nat} (h : Off AV W a c d V l) (ho : OnlyF AV W W') (hA : ∀ k, AV' k → AV k ∨ W.heap.size ≤ k) : Off AV' W' a c d V l := by
  obtain ⟨⟨A, k, rfl, hl, hn, hc⟩, h1⟩ := h
  refine ⟨⟨A, k, rfl, hl, hn, fun h0 => ?_⟩, fun x n k' hx hn' => ⟨(h1 x n k' hx hn').1, fun e => ?_⟩⟩
  · obtain ⟨b', off, rfl, hb, hcell⟩ := hc h0
    obtain ⟨-, o4⟩ := h1 ⟨b', off, none⟩ _ _ rfl h0
    exact ⟨b', off, rfl, Nat.lt_of_lt_of_le hb ho.size, fun i x hi => (World.cell?_of_block (ho.block b' hb o4)).trans (hcell i x hi)⟩
  · have h2 := h1 x n k' hx hn'
    injection hx with hx1 hx2 hx3
    obtain ⟨b', off, hA', hb, -⟩ := hc (by omega)
    rw [hx1] at hA'
    injection hA' with hA'
    subst hA'
    rcases hA _ e with e | e
    · exact h2.2 e
    · exact absurd hb (Nat.not_lt_of_le e)
/-- A call of the other side's leaves it as it was. -/
theorem JDoc.apart (h : JDoc AV W gd gr r p i) (ho : OnlyF AV W W') (ha : ∀ k, AV k → ¬ D3 gd gr r k) (hA : ∀ k, AV' k → AV k ∨ W.heap.size ≤ k) : JDoc AV' W' gd gr r p i := by
  obtain ⟨V, r1, r2⟩ := h.row
  have l1 := h.doc.lt
  exact ⟨h.doc.keep (ho.block gr l1.1 (fun e => ha _ e (Or.inr (Or.inl rfl)))) (ho.block r l1.2 (fun e => ha _ e (Or.inr (Or.inr rfl)))), ⟨V, r1.of_block (ho.block gd r1.lt (fun e => ha _ e (Or.inl rfl))), r2.apart ho hA⟩, h.ne⟩
/-- Two disks. -/
structure TD (w W : World) (X : Nat → Prop) (H : Nat → Option Obj) (g b gr r : Nat) (q p : DSt) : Prop where
  fr : Fr w W X H (F2 g b) (F2 gr r)
  own : Dk W g b q
  doc : DocAt W gr r p
/-- The program's journal, and the document's disk. -/
structure TM (w W : World) (X : Nat → Prop) (H : Nat → Option Obj) (gj g b : Nat) (V : Value) (gr r : Nat) (q : DSt) (j : JSt) (p : DSt) : Prop where
  fr : Fr w W X H (J4 gj g b V) (F2 gr r)
  own : JAt W gj g b V q j
  doc : DocAt W gr r p
/-- Both journals. -/
structure TJ (w W : World) (X : Nat → Prop) (H : Nat → Option Obj) (gj g b : Nat) (V : Value) (gd gr r : Nat) (q : DSt) (j : JSt) (p : DSt) (i : JSt) : Prop where
  fr : Fr w W X H (J4 gj g b V) (D3 gd gr r)
  own : JAt W gj g b V q j
  doc : JDoc (J4 gj g b V) W gd gr r p i
theorem f2_same (P : Nat → Prop) (h : ∀ k, F2 g b k → P k) : ∀ k, F2 g b k → P k ∨ W.heap.size ≤ k := fun k hk => Or.inl (h k hk)
theorem TD.first (h : TD w W X H g b gr r q p) (h1 : Dk W' g b q') (h2 : OnlyF (F2 g b) W W') : TD w W' X H g b gr r q' p :=
  ⟨h.fr.first h2 (fun _ e => Or.inl e) (fun k hk => by have := h1.lt; rcases hk with rfl | rfl; exact this.1; exact this.2), h1, h.doc.keep (h2.block gr h.doc.lt.1 (fun e => h.fr.ap _ e (Or.inl rfl))) (h2.block r h.doc.lt.2 (fun e => h.fr.ap _ e (Or.inr rfl)))⟩
theorem TD.second (h : TD w W X H g b gr r q p) (h1 : DocAt W' gr r p') (h2 : OnlyTwo gr r W W') : TD w W' X H g b gr r q p' :=
  ⟨h.fr.second (two_f2 h2) (fun _ e => Or.inl e) (fun k hk => by have := h1.lt; rcases hk with rfl | rfl; exact this.1; exact this.2), h.own.keep ((two_f2 h2).block g h.own.lt.1 (h.fr.ap _ (Or.inl rfl))) ((two_f2 h2).block b h.own.lt.2 (h.fr.ap _ (Or.inr rfl))), h1⟩
theorem TD.grow (h : TD w W X H g b gr r q p) (hb : Below W.heap.size W W') : TD w W' X H g b gr r q p :=
  h.first (h.own.keep (hb.block g h.own.lt.1) (hb.block b h.own.lt.2)) (OnlyF.of_below hb)
theorem TJ.first (h : TJ w W X H gj g b V gd gr r q j p i) (h1 : JAt W' gj g b V' q' j') (h2 : OnlyF (J4 gj g b V) W W') (h3 : ∀ c, V'.ownBlock = some c → V.ownBlock = some c ∨ W.heap.size ≤ c) : TJ w W' X H gj g b V' gd gr r q' j' p i := by
  have h4 : ∀ k, J4 gj g b V' k → J4 gj g b V k ∨ W.heap.size ≤ k := fun k hk => by
    rcases hk with e | e
    · exact Or.inl (Or.inl e)
    · exact (h3 k e).imp Or.inr id
  exact ⟨h.fr.first h2 h4 h1.lt4, h1, h.doc.apart h2 h.fr.ap h4⟩
theorem TJ.second (h : TJ w W X H gj g b V gd gr r q j p i) (h1 : JDoc (J4 gj g b V) W' gd gr r p' i') (h2 : OnlyThree gd gr r W W') : TJ w W' X H gj g b V gd gr r q j p' i' :=
  ⟨h.fr.second (three_d3 h2) (fun _ e => Or.inl e) (fun k hk => Nat.lt_of_lt_of_le (h.fr.ltD k hk) h2.size), h.own.only (three_d3 h2) h.fr.ap, h1⟩
theorem TJ.grow (h : TJ w W X H gj g b V gd gr r q j p i) (hb : Below W.heap.size W W') : TJ w W' X H gj g b V gd gr r q j p i :=
  h.first (h.own.below hb) (OnlyF.of_below hb) (fun _ e => Or.inl e)
theorem TJ.disk (h : TJ w W X H gj g b V gd gr r q j p i) (h1 : Dk W' g b q') (h2 : OnlyF (F2 g b) W W') : TJ w W' X H gj g b V gd gr r q' j p i :=
  h.first (h.own.disk h1 h2) ⟨h2.os, h2.tape, h2.output, h2.size, fun k hk hf => h2.block k hk (fun e => hf (Or.inl (Or.inr e)))⟩ (fun _ e => Or.inl e)
theorem TJ.disk2 (h : TJ w W X H gj g b V gd gr r q j p i) (h1 : DocAt W' gr r p') (h2 : OnlyTwo gr r W W') : TJ w W' X H gj g b V gd gr r q j p' i :=
  h.second (h.doc.disk h1 h2) (OnlyThree.of_two h2)
theorem TJ.td (h : TJ w W X H gj g b V gd gr r q j p i) : TD w W X H g b gr r q p :=
  ⟨h.fr.less (fun _ hk => Or.inl (Or.inr hk)) (fun _ hk => Or.inr hk), h.own.dk, h.doc.doc⟩
theorem TD.tm (h : TD w W X H g b gr r q p) (h1 : JAt W' gj g b V q' j) (h2 : OnlyF (F2 g b) W W') (h3 : W.heap.size ≤ gj) (h4 : ∀ c, V.ownBlock = some c → W.heap.size ≤ c) : TM w W' X H gj g b V gr r q' j p := by
  have h5 := h.first h1.dk h2
  refine ⟨h.fr.first h2 (fun k hk => ?_) h1.lt4, h1, h5.doc⟩
  rcases hk with (rfl | e) | e
  · exact Or.inr h3
  · exact Or.inl e
  · exact Or.inr (h4 k e)
theorem TM.tj (h : TM w W X H gj g b V gr r q j p) (h1 : JDoc (J4 gj g b V) W' gd gr r p' i) (h2 : OnlyTwo gr r W W') (h3 : W.heap.size ≤ gd) : TJ w W' X H gj g b V gd gr r q j p' i := by
  have h4 := h1.lt
  refine ⟨h.fr.second (two_f2 h2) (fun k hk => ?_) (fun k hk => ?_), h.own.only (two_f2 h2) h.fr.ap, h1⟩
  · rcases hk with rfl | e
    · exact Or.inr h3
    · exact Or.inl e
  · have h5 := h1.doc.lt
    rcases hk with rfl | rfl | rfl
    · exact h4
    · exact h5.1
    · exact h5.2
theorem TM.td (h : TM w W X H gj g b V gr r q j p) (h1 : DocAt W' gr r p') (h2 : OnlyTwo gr r W W') : TD w W' X H g b gr r q p' := by
  have h3 : TD w W X H g b gr r q p := ⟨h.fr.less (fun _ hk => Or.inl (Or.inr hk)) (fun _ hk => hk), h.own.dk, h.doc⟩
  exact h3.second h1 h2
end
section
variable {w W : World} {X : Nat → Prop} {H : Nat → Option Obj} {gj g b gd gr r k m : Nat} {V : Value} {q p : DSt} {j i : JSt}
theorem td_start1 (h : TD w W X H g b gr r q p) : Calls Tryz.prog 17 #[.pointer (some ⟨g, 0, none⟩)] W fun e w' => e = .returned (.tuple #[]) ∧ TD w w' X H g b gr r q.start p :=
  (d_start q (F2 g b) g b W (fun _ => Iff.rfl) h.own).mono fun _ _ kk => ⟨kk.1, h.first kk.2.1 kk.2.2⟩
theorem td_start2 (h : TD w W X H g b gr r q p) : Calls Tryz.prog 18 #[.pointer (some ⟨gr, 0, none⟩)] W fun e w' => e = .returned (.tuple #[]) ∧ TD w w' X H g b gr r q p.start :=
  (r_start p gr r W h.doc).mono fun _ _ kk => ⟨kk.1, h.second kk.2.1 kk.2.2⟩
theorem td_arm1 (n t : Int) (h : TD w W X H g b gr r q p) : Calls Tryz.prog 15 #[.pointer (some ⟨g, 0, none⟩), .int .i64 n, .int .i64 t] W fun e w' => e = .returned (.int .i64 (armE n t)) ∧ TD w w' X H g b gr r (q.arm n t) p :=
  (d_arm q (F2 g b) g b n t W (fun _ => Iff.rfl) h.own).mono fun _ _ kk => ⟨kk.1, h.first kk.2.1 kk.2.2⟩
theorem td_arm2 (n t : Int) (h : TD w W X H g b gr r q p) : Calls Tryz.prog 16 #[.pointer (some ⟨gr, 0, none⟩), .int .i64 n, .int .i64 t] W fun e w' => e = .returned (.int .i64 (armE n t)) ∧ TD w w' X H g b gr r q (p.arm n t) :=
  (r_arm p gr r n t W h.doc).mono fun _ _ kk => ⟨kk.1, h.second kk.2.1 kk.2.2⟩
theorem tj_arm1 (n t : Int) (h : TJ w W X H gj g b V gd gr r q j p i) : Calls Tryz.prog 15 #[.pointer (some ⟨g, 0, none⟩), .int .i64 n, .int .i64 t] W fun e w' => e = .returned (.int .i64 (armE n t)) ∧ TJ w w' X H gj g b V gd gr r (q.arm n t) j p i :=
  (d_arm q (F2 g b) g b n t W (fun _ => Iff.rfl) h.own.dk).mono fun _ _ kk => ⟨kk.1, h.disk kk.2.1 kk.2.2⟩
theorem tj_arm2 (n t : Int) (h : TJ w W X H gj g b V gd gr r q j p i) : Calls Tryz.prog 16 #[.pointer (some ⟨gr, 0, none⟩), .int .i64 n, .int .i64 t] W fun e w' => e = .returned (.int .i64 (armE n t)) ∧ TJ w w' X H gj g b V gd gr r q j (p.arm n t) i :=
  (r_arm p gr r n t W h.doc.doc).mono fun _ _ kk => ⟨kk.1, h.disk2 kk.2.1 kk.2.2⟩
theorem td_write1 (n : Int) (s : ByteArray) (h : TD w W X H g b gr r q p) (hf : q.Fit k m) (hm : m ≤ 1000000000) : Calls Tryz.prog 21 #[.pointer (some ⟨g, 0, none⟩), .int .i64 n, .string s] W fun e w' => e = .returned (.int .i64 (q.writeE n s)) ∧ TD w w' X H g b gr r (q.write n s) p :=
  (d_write q (F2 g b) g b n s W k m (fun _ => Iff.rfl) h.own hf hm).mono fun _ _ kk => ⟨kk.1, h.first kk.2.1 kk.2.2⟩
theorem td_write2 (n : Int) (s : ByteArray) (h : TD w W X H g b gr r q p) (hf : p.Fit k m) (hm : m ≤ 1000000000) : Calls Tryz.prog 23 #[.pointer (some ⟨gr, 0, none⟩), .int .i64 n, .string s] W fun e w' => e = .returned (.int .i64 (p.writeE n s)) ∧ TD w w' X H g b gr r q (p.write n s) :=
  (r_write p gr r n s W k m h.doc hf hm).mono fun _ _ kk => ⟨kk.1, h.second kk.2.1 kk.2.2⟩
theorem tj_append1 (s : ByteArray) (h : TJ w W X H gj g b V gd gr r q j p i) (hf : q.Fit k m) (hm : m ≤ 10000000) (hk : 2 ≤ k) (ho : j.Ok q) (hs : s.size ≤ 9223372036854775807) : Calls Tryz.prog 11 #[.pointer (some ⟨gj, 0, none⟩), .string s] W fun e w' => e = .returned (.int .i64 (append q j s).e) ∧ ∃ V', TJ w w' X H gj g b V' gd gr r (append q j s).q (append q j s).j p i :=
  (p_append q j gj g b k m V s W h.own hf hm (by rw [hf.len]; exact hf.most) (by rw [hf.len]; exact hk) ho.fit ho.pos hs).mono fun _ _ kk => by
    obtain ⟨k1, V', k2, k3, k4⟩ := kk
    exact ⟨k1, V', h.first k2 k3 k4⟩
theorem tj_save1 (s : ByteArray) (h : TJ w W X H gj g b V gd gr r q j p i) (hf : q.Fit k m) (hm : m ≤ 10000000) (hk : 2 ≤ k) (ho : j.Ok q) (hs : s.size ≤ 9223372036854775807) : Calls Tryz.prog 13 #[.pointer (some ⟨gj, 0, none⟩), .string s] W fun e w' => e = .returned (.int .i64 (save q j s).e) ∧ ∃ V', TJ w w' X H gj g b V' gd gr r (save q j s).q (save q j s).j p i :=
  (p_save q j gj g b k m V s W h.own hf hm (by rw [hf.len]; exact hf.most) (by rw [hf.len]; exact hk) ho.fit ho.pos hs).mono fun _ _ kk => by
    obtain ⟨k1, V', k2, k3, k4⟩ := kk
    exact ⟨k1, V', h.first k2 k3 k4⟩
theorem tj_append2 (s : ByteArray) (h : TJ w W X H gj g b V gd gr r q j p i) (hf : p.Fit k m) (hm : m ≤ 10000000) (hk : 2 ≤ k) (ho : i.Fit p) : Calls Tryz.prog 12 #[.pointer (some ⟨gd, 0, none⟩), .string s] W fun e w' => e = .returned (.int .i64 (append p i s).e) ∧ TJ w w' X H gj g b V gd gr r q j (append p i s).q (append p i s).j :=
  (rj_append p i gd gr r k m s W h.doc hf hk hm ho h.own.lt4).mono fun _ _ kk => ⟨kk.1, h.second kk.2.1 kk.2.2⟩
theorem tj_save2 (s : ByteArray) (h : TJ w W X H gj g b V gd gr r q j p i) (hf : p.Fit k m) (hm : m ≤ 10000000) (hk : 2 ≤ k) (ho : i.Fit p) : Calls Tryz.prog 14 #[.pointer (some ⟨gd, 0, none⟩), .string s] W fun e w' => e = .returned (.int .i64 (save p i s).e) ∧ TJ w w' X H gj g b V gd gr r q j (save p i s).q (save p i s).j :=
  (rj_save p i gd gr r k m s W h.doc hf hk hm ho).mono fun _ _ kk => ⟨kk.1, h.second kk.2.1 kk.2.2⟩
/-- What the program's Open or Format has told: none, or its journal. -/
def TO (w w' : World) (X : Nat → Prop) (H : Nat → Option Obj) (g b gr r : Nat) (q p : DSt) (oj : Option JSt) (v : Value) : Prop := match oj with
  | none => v = .pointer none ∧ TD w w' X H g b gr r q p
  | some j => ∃ gj V, v = .pointer (some ⟨gj, 0, none⟩) ∧ TM w w' X H gj g b V gr r q j p
/-- Both sides': none, or a journal each. -/
def TS (w w' : World) (X : Nat → Prop) (H : Nat → Option Obj) (g b gr r : Nat) (q p : DSt) (oj : Option JSt) (v u : Value) : Prop := match oj with
  | none => v = .pointer none ∧ u = .pointer none ∧ TD w w' X H g b gr r q p
  | some j => ∃ gj V gd, v = .pointer (some ⟨gj, 0, none⟩) ∧ u = .pointer (some ⟨gd, 0, none⟩) ∧ TJ w w' X H gj g b V gd gr r q j p j
theorem td_open1 (h : TD w W X H g b gr r q p) (hf : q.Fit k m) (hk : k ≤ 600) : Calls Tryz.prog 19 #[.pointer (some ⟨g, 0, none⟩)] W fun e w' => ∃ v, e = .returned (.tuple #[v, .int .i64 (opened q).2]) ∧ TO w w' X H g b gr r q p (opened q).1 v :=
  (p_open q g b k m W h.own hf (by rw [hf.len]; exact hk)).mono fun e w' kk => by
    unfold OpDid at kk
    unfold TO
    generalize opened q = x at *
    obtain ⟨oj, er⟩ := x
    cases oj with
    | none =>
      obtain ⟨k1, k2, k3⟩ := kk
      exact ⟨_, k1, rfl, h.first k2 k3⟩
    | some j =>
      obtain ⟨gj, V, k1, k2, k3, k4, k5⟩ := kk
      exact ⟨_, k1, gj, V, rfl, h.tm k2 k3 k4 k5⟩
theorem td_format1 (s : ByteArray) (h : TD w W X H g b gr r q p) (hf : q.Fit k m) (hm : m ≤ 10000000) (hs : s.size ≤ 9223372036854775807) : Calls Tryz.prog 8 #[.pointer (some ⟨g, 0, none⟩), .string s] W fun e w' => ∃ v, e = .returned (.tuple #[v, .int .i64 (format q s).e]) ∧ TO w w' X H g b gr r (format q s).q p (format q s).j v :=
  (p_format q g b k m s W h.own hf hm (by rw [hf.len]; exact hf.most) hs).mono fun e w' kk => by
    unfold FmDid at kk
    unfold TO
    generalize format q s = x at *
    obtain ⟨q', oj, er⟩ := x
    obtain ⟨k2, k3, kk⟩ := kk
    cases oj with
    | none => exact ⟨_, kk, rfl, h.first k2 k3⟩
    | some j =>
      obtain ⟨gj, V, k1, k4, k5, k6⟩ := kk
      exact ⟨_, k1, gj, V, rfl, h.tm k4 k3 k5 k6⟩
theorem to_open2 {oj : Option JSt} {v : Value} (h : TO w W X H g b gr r q p oj v) (hf : p.Fit k m) (he : (opened p).1 = oj) : Calls Tryz.prog 20 #[.pointer (some ⟨gr, 0, none⟩)] W fun e w' => ∃ u, e = .returned (.tuple #[u, .int .i64 (opened p).2]) ∧ TS w w' X H g b gr r q p oj v u := by
  unfold TO at h
  unfold TS
  cases oj with
  | none =>
    obtain ⟨h1, h2⟩ := h
    refine (rj_open (AV := fun _ => False) p gr r k m W h2.doc hf (fun _ e => e.elim)).mono fun e w' kk => ?_
    unfold ODid at kk
    rw [he] at kk
    exact ⟨_, kk.2, h1, rfl, h2.grow kk.1⟩
  | some j =>
    obtain ⟨gj, V, h1, h2⟩ := h
    refine (rj_open (AV := J4 gj g b V) p gr r k m W h2.doc hf h2.own.lt4).mono fun e w' kk => ?_
    unfold ODid at kk
    rw [he] at kk
    obtain ⟨k1, gd, k2, k3, k4⟩ := kk
    exact ⟨_, k2, gj, V, gd, h1, rfl, h2.tj k3 ⟨k1.os, k1.tape, k1.output, k1.size, fun i hi _ _ => k1.block i hi⟩ k4⟩
theorem to_format2 {oj : Option JSt} {v : Value} (s : ByteArray) (h : TO w W X H g b gr r q p oj v) (hf : p.Fit k m) (hm : m ≤ 10000000) (he : (format p s).j = oj) : Calls Tryz.prog 9 #[.pointer (some ⟨gr, 0, none⟩), .string s] W fun e w' => ∃ u, e = .returned (.tuple #[u, .int .i64 (format p s).e]) ∧ TS w w' X H g b gr r q (format p s).q oj v u := by
  unfold TO at h
  unfold TS
  cases oj with
  | none =>
    obtain ⟨h1, h2⟩ := h
    refine (rj_format (AV := fun _ => False) p gr r k m s W h2.doc hf hm).mono fun e w' kk => ?_
    unfold FDid at kk
    rw [he] at kk
    exact ⟨_, kk.2.2, h1, rfl, h2.second kk.1 kk.2.1⟩
  | some j =>
    obtain ⟨gj, V, h1, h2⟩ := h
    refine (rj_format (AV := J4 gj g b V) p gr r k m s W h2.doc hf hm).mono fun e w' kk => ?_
    unfold FDid at kk
    rw [he] at kk
    obtain ⟨k0, k1, gd, k2, k3, k4⟩ := kk
    exact ⟨_, k2, gj, V, gd, h1, rfl, h2.tj k3 k1 k4⟩
end
section
variable {w W W' : World} {X : Nat → Prop} {H H' : Nat → Option Obj} {gj g b gd gr r k m : Nat} {V v u : Value} {q p : DSt} {j i : JSt} {oj : Option JSt}
theorem TD.drop (h : TD w W X H g b gr r q p) : TD w W (fun _ => False) H' g b gr r q p := ⟨h.fr.drop, h.own, h.doc⟩
theorem TJ.drop (h : TJ w W X H gj g b V gd gr r q j p i) : TJ w W (fun _ => False) H' gj g b V gd gr r q j p i := ⟨h.fr.drop, h.own, h.doc⟩
theorem ts_drop (h : TS w W X H g b gr r q p oj v u) : TS w W (fun _ => False) H' g b gr r q p oj v u := by
  unfold TS at *
  cases oj with
  | none => exact ⟨h.1, h.2.1, h.2.2.drop⟩
  | some j =>
    obtain ⟨gj, V, gd, h1, h2, h3⟩ := h
    exact ⟨gj, V, gd, h1, h2, h3.drop⟩
theorem ts_grow (h : TS w W X H g b gr r q p oj v u) (hb : Below W.heap.size W W') : TS w W' X H g b gr r q p oj v u := by
  unfold TS at *
  cases oj with
  | none => exact ⟨h.1, h.2.1, h.2.2.grow hb⟩
  | some j =>
    obtain ⟨gj, V, gd, h1, h2, h3⟩ := h
    exact ⟨gj, V, gd, h1, h2, h3.grow hb⟩
theorem ts_td (h : TS w W X H g b gr r q p oj v u) : TD w W X H g b gr r q p := by
  unfold TS at h
  cases oj with
  | none => exact h.2.2
  | some j =>
    obtain ⟨gj, V, gd, h1, h2, h3⟩ := h
    exact h3.td
theorem ts_box (h : TS w W X H g b gr r q p oj v u) (o : Obj) : TS w (W.alloc o) (fun i => i = W.heap.size) (fun _ => some o) g b gr r q p oj v u := by
  have hb : Below W.heap.size W (W.alloc o) := (Below.refl _ _).alloc (Nat.le_refl _) o
  unfold TS at *
  cases oj with
  | none =>
    have h2 := h.2.2.grow hb
    exact ⟨h.1, h.2.1, h.2.2.fr.box o, h2.own, h2.doc⟩
  | some j =>
    obtain ⟨gj, V, gd, h1, h2, h3⟩ := h
    have h4 := h3.grow hb
    exact ⟨gj, V, gd, h1, h2, h3.fr.box o, h4.own, h4.doc⟩
theorem ts_same (h : TS w W X H g b gr r q q oj v u) (hf : q.Fit k m) (hk : ∀ j, oj = some j → 2 ≤ k ∧ j.Ok q) (sb : ∀ gj gd V j, TJ w W X H gj g b V gd gr r q j q j → q.Fit k m → 2 ≤ k → j.Ok q → Calls Tryz.prog 10 #[.pointer (some ⟨gj, 0, none⟩), .pointer (some ⟨gd, 0, none⟩)] W fun e w' => e = .returned (.bool true) ∧ Below W.heap.size W w')
    (sn : Calls Tryz.prog 10 #[.pointer none, .pointer none] W fun e w' => e = .returned (.bool true) ∧ W = w') :
    Calls Tryz.prog 10 #[v, u] W fun e w' => e = .returned (.bool true) ∧ Below W.heap.size W w' := by
  unfold TS at h
  cases oj with
  | none =>
    obtain ⟨rfl, rfl, -⟩ := h
    exact sn.mono fun _ w' kk => ⟨kk.1, by rw [← kk.2]; exact Below.refl _ _⟩
  | some j =>
    obtain ⟨gj, V, gd, rfl, rfl, h3⟩ := h
    exact sb _ _ _ _ h3 hf (hk j rfl).1 (hk j rfl).2
end
end Go.Proofs.YtndanhacmfhlaaaGreat.Jour
