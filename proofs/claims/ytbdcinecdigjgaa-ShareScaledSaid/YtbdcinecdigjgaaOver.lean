/- Of no one law: a row of the call's own whose first n cells are known. -/
import Derived.Test.YtbdcinecdigjgaaSlice
import Derived.Deep.OwnRows
namespace Go.Proofs.Ytbdcinecdigjgaa.Slice
open Go.ChangeShapes Go.WideShapes Go.ChangeAt Go.RowKit

/-- Block g is a row of type e, its first n cells being X 0, X 1, .. -/
def Over (w : World) (g : Nat) (e : TypeId) (n : Nat) (X : Nat → Value) : Prop := ∃ cap f, n ≤ cap ∧ w.rowIs g e cap f ∧ ∀ i, i < n → f i = X i
section
variable {w w' : World} {g g' n n' : Nat} {e e' : TypeId} {X Y : Nat → Value}
theorem Over.cell (h : Over w g e n X) {i : Nat} (hi : i < n) : w.cell? ⟨g, i, none⟩ = some (X i) := by
  obtain ⟨cap, f, hc, hr, hf⟩ := h
  rw [← hf i hi]; exact hr.cell (by omega)
theorem Over.frozen (h : Over w g e n X) (i : Nat) : w.frozen? ⟨g, i, none⟩ = false := by
  obtain ⟨cap, f, -, hr, -⟩ := h
  exact hr.frozen i
theorem Over.lt (h : Over w g e n X) : g < w.heap.size := by
  obtain ⟨cap, f, -, hr, -⟩ := h
  exact hr.lt
theorem Over.block (h : Over w g e n X) (hb : w'.heap[g]? = w.heap[g]?) : Over w' g e n X := by
  obtain ⟨cap, f, hc, hr, hf⟩ := h
  exact ⟨cap, f, hc, hr.of_block hb, hf⟩
theorem Over.other (h : Over w g e n X) {a : Addr} (ha : g ≠ a.block) (v : Value) : Over (w.setCell a v) g e n X := by
  obtain ⟨cap, f, hc, hr, hf⟩ := h
  exact ⟨cap, f, hc, hr.setOther ha v, hf⟩
theorem Over.set (h : Over w g e n X) (p : Nat) (v : Value) (hY : ∀ i, i < n → Y i = if i = p then v else X i) : Over (w.setCell ⟨g, p, none⟩ v) g e n Y := by
  obtain ⟨cap, f, hc, hr, hf⟩ := h
  refine ⟨cap, _, hc, hr.set p v, fun i hi => ?_⟩
  rw [hY i hi]
  by_cases z : i = p
  · rw [if_pos z, if_pos z]
  · rw [if_neg z, if_neg z, hf i hi]
theorem Over.congr (h : Over w g e n X) (hY : ∀ i, i < n → X i = Y i) : Over w g e n Y := by
  obtain ⟨cap, f, hc, hr, hf⟩ := h
  exact ⟨cap, f, hc, hr, fun i hi => (hf i hi).trans (hY i hi)⟩
theorem Over.alloc (h : Over w g e n X) (o : Obj) : Over (w.alloc o) g e n X := by
  obtain ⟨cap, f, hc, hr, hf⟩ := h
  exact ⟨cap, f, hc, hr.alloc o, hf⟩
theorem Over.drewN (h : Over w g e n X) (m : Nat) : Over (w.drewN m) g e n X := h
theorem Over.apart (h : Over w g e n X) (h' : Over w g' e' n' Y) (hne : e ≠ e') : g ≠ g' := by
  rintro rfl
  obtain ⟨cap, f, -, ⟨c, hb, -⟩, -⟩ := h
  obtain ⟨cap', f', -, ⟨c', hb', -⟩, -⟩ := h'
  rw [hb] at hb'
  injection hb' with hb'
  injection hb' with _ ht
  exact hne ht
theorem Over.of_own {base : Nat} {v : Value} {xs : List Value} (h : w.ownsRow base e 1 v n xs) (hn : 0 < n) (hx : ∀ i, i < n → xs[i]? = some (X i)) : ∃ g c, v = .slice (some ⟨g, 0, none⟩) n c ∧ base ≤ g ∧ Over w g e n X := by
  rcases h.2 with ⟨rfl, rfl⟩ | ⟨g, cap, cur, rfl, hg, hh, hnc, hm, hs, ht⟩
  · omega
  · refine ⟨g, cap, rfl, hg, cap, fun i => (cur[i]?).getD default, hnc, ⟨cur, hh, by omega, fun i hi => ?_⟩, fun i hi => ?_⟩
    · show cur[i]? = some ((cur[i]?).getD default)
      rw [Array.getElem?_eq_getElem (by omega)]; rfl
    · have e1 : cur.toList[i]? = some (X i) := by
        have : (cur.toList.take (n * 1))[i]? = xs[i]? := by rw [ht]
        rw [List.getElem?_take_of_lt (by omega), hx i hi] at this
        exact this
      have e2 : cur[i]? = some (X i) := by simpa using e1
      show (cur[i]?).getD default = X i
      rw [e2]; rfl
theorem Over.ints {k : IntKind} {zs : List Int} (h : Over w g e n X) (hn : zs.length = n) (hm : n ≤ 9223372036854775807) (hX : ∀ i, i < n → X i = .int k (zs.getD i 0)) (c : Nat) : Ints w w.heap.size k (.slice (some ⟨g, 0, none⟩) n c) zs := by
  subst hn
  refine ⟨some ⟨g, 0, none⟩, c, rfl, hm, fun h => (by cases h), fun h0 => ⟨g, 0, rfl, h.lt, fun i hi => ?_⟩⟩
  rw [Nat.zero_add, h.cell hi, hX i hi]
end
end Go.Proofs.Ytbdcinecdigjgaa.Slice
