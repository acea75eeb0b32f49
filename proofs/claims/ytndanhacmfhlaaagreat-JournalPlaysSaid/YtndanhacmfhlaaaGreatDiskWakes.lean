/- The document's example: a write cut at its third byte. -/
import Derived.Test.YtndanhacmfhlaaaGreatDiskTwo
namespace Go.Proofs.YtndanhacmfhlaaaGreat.Disk
open Go.ChangeShapes Go.WideShapes Go.ChangeAt Go.RowKit Go.Deep Stp Nul

/-- A disk of the call's own. -/
structure OneD (w wr : World) (F : Nat → Prop) (a : Addr) (p : DSt) : Prop where
  own : DkAt wr F (.pointer (some a)) p
  low : ∀ i, F i → w.heap.size ≤ i
  below : Below w.heap.size w wr
section
variable {w wr w' : World} {F F' : Nat → Prop} {a : Addr} {p p' : DSt}
theorem OneD.did (h : OneD w wr F a p) (h1 : DkAt w' F' (.pointer (some a)) p') (h2 : OnlyF F wr w') (h3 : ∀ i, F' i → F i ∨ wr.heap.size ≤ i) : OneD w w' F' a p' := by
  have hs := h.below.size
  refine ⟨h1, fun i hi => ?_, only_far h.below h2 h.low hs⟩
  rcases h3 i hi with e | e
  · exact h.low i e
  · omega
theorem OneD.more (h : OneD w wr F a p) (hb : Below wr.heap.size wr w') : OneD w w' F a p :=
  ⟨h.own.keep hb.size (fun i hi => hb.block i (h.own.lt i hi)), h.low, h.below.trans (hb.mono h.below.size)⟩
theorem OneD.same (h : OneD w wr F a p) (hh : w'.heap = wr.heap) (ho : w'.os = wr.os) (ht : w'.tape = wr.tape) (hp : w'.output = wr.output) : OneD w w' F a p :=
  ⟨h.own.keep (by rw [hh]; exact Nat.le_refl _) (fun i _ => by rw [hh]), h.low, ⟨ho.trans h.below.os, ht.trans h.below.tape, hp.trans h.below.output, by rw [hh]; exact h.below.size, fun i hi => by rw [hh]; exact h.below.block i hi⟩⟩
theorem OneD.drewN (h : OneD w wr F a p) (n : Nat) : OneD w (wr.drewN n) F a p := h.same rfl rfl rfl rfl
theorem OneD.drew (h : OneD w wr F a p) : OneD w wr.drew F a p := h.same rfl rfl rfl rfl
end
def wq1 : DSt := (newD 8).arm 0 3
def wq2 : DSt := wq1.write 0 (blockS 97)
def wq3 : DSt := wq2.start
theorem wq1_fit : wq1.Fit 8 0 := (new_fit (by decide)).arm 0 3
theorem wq2_fit : wq2.Fit 8 1 := wq1_fit.write 0 _
theorem wq3_fit : wq3.Fit 8 1 := wq2_fit.start
theorem wq1_goes : wq1.goes 0 (blockS 97) = true := goes_iff.2 ⟨rfl, ⟨Int.le_refl 0, by decide⟩, block_size 97⟩
theorem wq1_dies : wq1.dies = true := rfl
theorem wq2_is : wq2 = wq1.cut 0 (blockS 97) := by unfold wq2 DSt.write; rw [if_pos wq1_goes, if_pos wq1_dies]
theorem wq1_err : wq1.writeE 0 (blockS 97) = 74 := by unfold DSt.writeE; rw [if_neg (by decide), if_pos wq1_goes, if_pos wq1_dies]
theorem wq2_dead : wq2.dead = true := by rw [wq2_is]; rfl
theorem wq3_S : wq3.S = (List.replicate 8 zero256).set 0 (torn zero256 (blockS 97) 3) := by unfold wq3; rw [wq2_is]; rfl
theorem aaa : torn zero256 (blockS 97) 3 = ⟨#[97, 97, 97]⟩ ++ nul 253 := by
  unfold torn
  have e1 : (blockS 97).extract 0 3 = ⟨#[97, 97, 97]⟩ := by
    apply ByteArray.ext
    rw [ByteArray.data_extract]
    unfold blockS
    rw [Array.extract_replicate]
    rfl
  have e2 : zero256.extract 3 256 = nul 253 := by
    apply ByteArray.ext
    rw [ByteArray.data_extract]
    unfold zero256 nul
    rw [Array.extract_replicate]
    rfl
  rw [e1, e2]
theorem wq3_read : wq3.readS 0 = ⟨#[97, 97, 97]⟩ ++ nul 253 ∧ wq3.readE 0 = 0 := by
  have hl : wq3.S.length = 8 := wq3_fit.len
  have hh : wq3.has 0 = true := has_iff.2 ⟨Int.le_refl 0, by rw [hl]; decide⟩
  have hd : wq3.dead = false := rfl
  refine ⟨?_, by unfold DSt.readE; rw [if_neg (by rw [hd]; decide), if_pos hh]⟩
  unfold DSt.readS
  rw [if_pos ⟨hd, hh⟩]
  unfold DSt.text
  rw [wq3_S, getD_set, if_pos ⟨rfl, by simp⟩, aaa]
theorem wq3_writes : wq3.writes = 0 := by unfold wq3; rw [wq2_is]; rfl
end Go.Proofs.YtndanhacmfhlaaaGreat.Disk
