/- What the document's own MulDiv of layer 1 comes to, at every input. -/
import Derived.Test.YtkegmgjagcefhaaRef
namespace Go.Proofs.Ytkegmgjagcefhaa.Ref
open Go.ChangeShapes Go.WideShapes Go.ChangeAt Go.RowKit Bits Money

theorem bcell {W w1 : World} (hb : Below W.heap.size W w1) : (∀ b o, b < W.heap.size → w1.cell? ⟨b, o, none⟩ = W.cell? ⟨b, o, none⟩) ∧ (∀ b o, b < W.heap.size → w1.frozen? ⟨b, o, none⟩ = W.frozen? ⟨b, o, none⟩) :=
  ⟨fun b o h => hb.cell (p := ⟨b, o, none⟩) h, fun b o h => hb.frozen (p := ⟨b, o, none⟩) h⟩

theorem below_two {w w1 w2 : World} {o o' : Obj} (h1 : Below w.heap.size w w1) (h2 : Below (w1.alloc o).heap.size (w1.alloc o) w2) : Below w.heap.size w (w2.alloc o') := by
  have s1 := h1.size
  have s2 := h2.size
  rw [World.size_alloc] at s2
  exact ((h1.alloc (by omega) o).trans (h2.mono (by rw [World.size_alloc]; omega))).alloc (by omega) o'

end Go.Proofs.Ytkegmgjagcefhaa.Ref
