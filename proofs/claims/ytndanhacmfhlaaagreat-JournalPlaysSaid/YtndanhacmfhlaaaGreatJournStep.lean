/- What JournalPlays asks of two journals side by side beside their own calls: the step's box, Dead, Writes, both disks anew, and compared at last. -/
import Derived.Test.YtndanhacmfhlaaaGreatJournSame
import Derived.Test.YtndanhacmfhlaaaGreatJournFair
import Derived.Test.YtndanhacmfhlaaaGreatDiskSame
namespace Go.Proofs.YtndanhacmfhlaaaGreat.Jour
open Go.ChangeShapes Go.WideShapes Go.ChangeAt Go.RowKit Go.Deep Els Go.Proofs.YtndanhacmfhlaaaGreat.Frame Disk Slice Stp Nul
section
variable {w W W' : World} {X : Nat → Prop} {H : Nat → Option Obj} {gj g b gd gr r k m gx : Nat} {V v u : Value} {q p : DSt} {j i : JSt} {oj : Option JSt} {P D : Nat → Prop} {T : TypeId}
theorem fr_cells {x0 x1 x2 x3 : Value} (h : Fr w W (fun i => i = gx) (fun _ => some (.cells #[x0, x1, x2, x3] T)) P D) :
    W.cell? ⟨gx, 0, none⟩ = some x0 ∧ W.cell? ⟨gx, 1, none⟩ = some x1 ∧ W.cell? ⟨gx, 2, none⟩ = some x2 ∧ W.cell? ⟨gx, 3, none⟩ = some x3 := by
  have h1 := (h.ext gx rfl).2.1
  exact ⟨rcell_of h1, rcell_of h1, rcell_of h1, rcell_of h1⟩
theorem ts_cells {x0 x1 x2 x3 : Value} (h : TS w W (fun i => i = gx) (fun _ => some (.cells #[x0, x1, x2, x3] T)) g b gr r q p oj v u) :
    W.cell? ⟨gx, 0, none⟩ = some x0 ∧ W.cell? ⟨gx, 1, none⟩ = some x1 ∧ W.cell? ⟨gx, 2, none⟩ = some x2 ∧ W.cell? ⟨gx, 3, none⟩ = some x3 := fr_cells (ts_td h).fr
theorem ts_both (h : TS w W X H g b gr r q q oj v u) (hf : q.Fit k m) (hk : ∀ j, oj = some j → 2 ≤ k ∧ j.Ok q) : Calls Tryz.prog 10 #[v, u] W fun e w' => e = .returned (.bool true) ∧ Below W.heap.size W w' :=
  ts_same h hf hk (fun _ _ _ _ a b c d => same_both a b c d) (same_none W)
theorem td_new (h : LD w W g b q) (h1 : DocAt W' gr r p) (h2 : Below W.heap.size W W') (h3 : W.heap.size ≤ gr) (h4 : W.heap.size ≤ r) : TD w W' (fun _ => False) H g b gr r q p := by
  have l1 := h.dk.lt
  have l2 := h1.lt
  have l3 := h.below.size
  have l4 := h.lo
  have l5 := h2.size
  refine ⟨⟨below_on' h.below h2, fun i hi => ?_, fun i hi => ?_, fun i hi => ?_, fun i hi => ?_, fun i hi hd => ?_, fun i hi => hi.elim⟩, h.dk.keep (h2.block g l1.1) (h2.block b l1.2), h1⟩
  · rcases hi with rfl | rfl <;> omega
  · rcases hi with rfl | rfl <;> omega
  · rcases hi with rfl | rfl <;> omega
  · rcases hi with rfl | rfl <;> omega
  · rcases hi with rfl | rfl <;> rcases hd with rfl | rfl <;> omega
theorem td_two (h : TD w W X H g b gr r q p) : TwoD w W gr r (F2 g b) ⟨g, 0, none⟩ p q :=
  ⟨h.doc, ⟨g, b, rfl, fun _ => Iff.rfl, h.own⟩, ⟨fun e => h.fr.ap _ e (Or.inl rfl), fun e => h.fr.ap _ e (Or.inr rfl)⟩, h.fr.lowD _ (Or.inl rfl), h.fr.lowD _ (Or.inr rfl), h.fr.lowP, h.fr.below⟩
theorem ts_disk (h : TS w W X H g b gr r q q oj v u) (h1 : Dk W' g b q) (h2 : OnlyF (F2 g b) W W') : TS w W' X H g b gr r q q oj v u := by
  unfold TS at *
  cases oj with
  | none => exact ⟨h.1, h.2.1, h.2.2.first h1 h2⟩
  | some j =>
    obtain ⟨gj, V, gd, a1, a2, a3⟩ := h
    exact ⟨gj, V, gd, a1, a2, a3.disk h1 h2⟩
theorem ts_dead (h : TS w W X H g b gr r q q oj v u) : Calls Tryz.prog 24 #[.pointer (some ⟨g, 0, none⟩)] W fun e w' => e = .returned (.bool q.dead) ∧ TS w w' X H g b gr r q q oj v u ∧ w'.heap[gr]? = W.heap[gr]? :=
  (d_dead q (F2 g b) g b W (fun _ => Iff.rfl) (ts_td h).own).mono fun _ _ kk => ⟨kk.1, ts_disk h kk.2.1 kk.2.2, kk.2.2.block gr (ts_td h).doc.lt.1 (fun e => (ts_td h).fr.ap _ e (Or.inl rfl))⟩
theorem ts_writes (h : TS w W X H g b gr r q q oj v u) : Calls Tryz.prog 25 #[.pointer (some ⟨g, 0, none⟩)] W fun e w' => e = .returned (.int .i64 q.writes) ∧ TS w w' X H g b gr r q q oj v u ∧ w'.heap[gr]? = W.heap[gr]? :=
  (d_writes q (F2 g b) g b W (fun _ => Iff.rfl) (ts_td h).own).mono fun _ _ kk => ⟨kk.1, ts_disk h kk.2.1 kk.2.2, kk.2.2.block gr (ts_td h).doc.lt.1 (fun e => (ts_td h).fr.ap _ e (Or.inl rfl))⟩
theorem ts_none (h : TD w W X H g b gr r q q) : TS w W X H g b gr r q q none (.pointer none) (.pointer none) := ⟨rfl, rfl, h⟩
theorem ts_some (h : TJ w W X H gj g b V gd gr r q j q j) : TS w W X H g b gr r q q (some j) (.pointer (some ⟨gj, 0, none⟩)) (.pointer (some ⟨gd, 0, none⟩)) := ⟨gj, V, gd, rfl, rfl, h⟩
theorem arm_len' (a t : Int) : (q.arm a t).S.length = q.S.length := by unfold DSt.arm; split <;> rfl
theorem ts_of_none (h : TS w W X H g b gr r q p none v u) : v = .pointer none ∧ u = .pointer none ∧ TD w W X H g b gr r q p := h
theorem ts_of_some (h : TS w W X H g b gr r q p (some j) v u) : ∃ gj V gd, v = .pointer (some ⟨gj, 0, none⟩) ∧ u = .pointer (some ⟨gd, 0, none⟩) ∧ TJ w W X H gj g b V gd gr r q j p j := h
theorem to_cells {x0 x1 x2 x3 : Value} (h : TO w W (fun i => i = gx) (fun _ => some (.cells #[x0, x1, x2, x3] T)) g b gr r q p oj v) :
    W.cell? ⟨gx, 0, none⟩ = some x0 ∧ W.cell? ⟨gx, 1, none⟩ = some x1 ∧ W.cell? ⟨gx, 2, none⟩ = some x2 ∧ W.cell? ⟨gx, 3, none⟩ = some x3 := by
  unfold TO at h
  cases oj with
  | none => exact fr_cells h.2.fr
  | some j =>
    obtain ⟨gj, V, -, h2⟩ := h
    exact fr_cells h2.fr
theorem below_drew1 (W : World) : Below W.heap.size W W.drew := ⟨rfl, rfl, rfl, Nat.le_refl _, fun _ _ => rfl⟩
theorem oks_some (h2 : 2 ≤ k) (h : j.Ok q) : ∀ j', some j = some j' → 2 ≤ k ∧ j'.Ok q := fun j' e => by
  injection e with e
  subst e
  exact ⟨h2, h⟩
theorem oks_arm (a t : Int) (h : ∀ j, oj = some j → 2 ≤ k ∧ j.Ok q) : ∀ j, oj = some j → 2 ≤ k ∧ j.Ok (q.arm a t) := fun j e => ⟨(h j e).1, (h j e).2.same (arm_len' a t)⟩
theorem oks_none : ∀ j, (none : Option JSt) = some j → 2 ≤ k ∧ j.Ok q := fun _ e => by cases e
theorem fits_len (h : fitsD q = true) (hf : q.Fit k m) : 8 ≤ k := by
  have := of_decide_eq_true h
  have := hf.len
  omega
theorem opened_oks (hf : q.Fit k m) : ∀ j, (opened q).1 = some j → 2 ≤ k ∧ j.Ok q := fun j hj => by
  have h1 : fitsD q = true := by
    cases h2 : fitsD q with
    | true => rfl
    | false => unfold opened at hj; rw [if_pos h2] at hj; cases hj
  have h2 := fits_len h1 hf
  exact ⟨by omega, opened_ok (by rw [hf.len]; exact h2) hj⟩
theorem format_oks {s : ByteArray} (hf : q.Fit k m) : ∀ j, (format q s).j = some j → 2 ≤ k ∧ j.Ok (format q s).q := fun j hj => by
  have h1 : fitsD q = true := by
    cases h2 : fitsD q with
    | true => rfl
    | false => unfold format at hj; rw [if_pos h2] at hj; cases hj
  have h2 := fits_len h1 hf
  exact ⟨by omega, format_ok hj⟩
end
end Go.Proofs.YtndanhacmfhlaaaGreat.Jour
