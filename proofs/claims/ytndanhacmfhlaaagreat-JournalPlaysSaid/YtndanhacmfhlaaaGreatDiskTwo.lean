/- Two disks side by side: the program's and the document's; the checker's own functions. -/
import Derived.Test.YtndanhacmfhlaaaGreatGDc
import Derived.Test.YtndanhacmfhlaaaGreatGA
namespace Go.Proofs.YtndanhacmfhlaaaGreat.Disk
open Go.ChangeShapes Go.WideShapes Go.ChangeAt Go.RowKit Go.Deep Stp Nul

/-- Side by side, both of the call's own: the document's holds q, the program's p. -/
structure TwoD (w wr : World) (g r : Nat) (F : Nat → Prop) (a : Addr) (q p : DSt) : Prop where
  doc : DocAt wr g r q
  own : DkAt wr F (.pointer (some a)) p
  apart : ¬ F g ∧ ¬ F r
  lowg : w.heap.size ≤ g
  lowr : w.heap.size ≤ r
  low : ∀ i, F i → w.heap.size ≤ i
  below : Below w.heap.size w wr
section
variable {w wr w' : World} {g r : Nat} {F F' : Nat → Prop} {a : Addr} {q p q' p' : DSt}
theorem TwoD.first (h : TwoD w wr g r F a q p) (h1 : DkAt w' F' (.pointer (some a)) p') (h2 : OnlyF F wr w') (h3 : ∀ i, F' i → F i ∨ wr.heap.size ≤ i) : TwoD w w' g r F' a q p' := by
  have lg := h.doc.lt
  have hs := h.below.size
  refine ⟨h.doc.keep (h2.block g lg.1 h.apart.1) (h2.block r lg.2 h.apart.2), h1, ⟨fun e => ?_, fun e => ?_⟩, h.lowg, h.lowr, fun i hi => ?_, only_far h.below h2 h.low hs⟩
  · rcases h3 g e with e | e
    · exact h.apart.1 e
    · omega
  · rcases h3 r e with e | e
    · exact h.apart.2 e
    · omega
  · rcases h3 i hi with e | e
    · exact h.low i e
    · omega
theorem TwoD.second (h : TwoD w wr g r F a q p) (h1 : DocAt w' g r q') (h2 : OnlyTwo g r wr w') : TwoD w w' g r F a q' p :=
  ⟨h1, h.own.keep h2.size (fun i hi => h2.block i (h.own.lt i hi) (fun e => h.apart.1 (e ▸ hi)) (fun e => h.apart.2 (e ▸ hi))), h.apart, h.lowg, h.lowr, h.low, two_far h.below h2 h.lowg h.lowr h.below.size⟩
theorem TwoD.same (h : TwoD w wr g r F a q p) (hh : w'.heap = wr.heap) (ho : w'.os = wr.os) (ht : w'.tape = wr.tape) (hp : w'.output = wr.output) : TwoD w w' g r F a q p :=
  ⟨h.doc.keep (by rw [hh]) (by rw [hh]), h.own.keep (by rw [hh]; exact Nat.le_refl _) (fun i _ => by rw [hh]), h.apart, h.lowg, h.lowr, h.low, ⟨ho.trans h.below.os, ht.trans h.below.tape, hp.trans h.below.output, by rw [hh]; exact h.below.size, fun i hi => by rw [hh]; exact h.below.block i hi⟩⟩
theorem TwoD.drewN (h : TwoD w wr g r F a q p) (n : Nat) : TwoD w (wr.drewN n) g r F a q p := h.same rfl rfl rfl rfl
theorem TwoD.drew (h : TwoD w wr g r F a q p) : TwoD w wr.drew g r F a q p := h.same rfl rfl rfl rfl
end
/-- Is a list of steps one that is gone through? -/
def fairB (l : List St) : Bool := l.all (fun z => decide (z.s.size ≤ 2000)) && decide (l.length ≤ 150)
theorem st_in {l : List St} {i : Nat} (h : i < l.length) : l.getD i st0 ∈ l := by
  rw [List.getD_eq_getElem?_getD, List.getElem?_eq_getElem h]; exact List.getElem_mem h
/-- A sector of one byte. -/
def blockS (b : Nat) : ByteArray := ⟨Array.replicate 256 (UInt8.ofNat b)⟩
theorem block_size (b : Nat) : (blockS b).size = 256 := by unfold blockS; simp [ByteArray.size]
end Go.Proofs.YtndanhacmfhlaaaGreat.Disk
