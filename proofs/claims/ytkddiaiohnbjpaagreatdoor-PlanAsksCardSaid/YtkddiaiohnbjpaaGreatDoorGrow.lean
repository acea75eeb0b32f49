/- Of layer 18: a struct of two slices, both grown by one element in one statement, of the document's own. -/
import Derived.Test.YtkddiaiohnbjpaaGreatDoorPlanC3
import Derived.Test.YtkddiaiohnbjpaaGreatDoorTill
namespace Go.Proofs.YtkddiaiohnbjpaaGreatDoor.Plan
open Go.ChangeShapes Go.WideShapes Go.ChangeAt Go.RowKit Loan Money Box Rws Slice

theorem one_grown {g : Nat} {w w' : World} (h : One g w w') : w.grownBy w' (some g) := ⟨h.os, h.tape, h.output, h.size, fun k hk hn => h.block k hk (fun e => hn (by rw [e]))⟩
/-- The struct in block g, made behind wf; its two slices' rows, made behind it. -/
structure Grow (wf W : World) (g : Nat) (C : Array Value) (vi va : Value) (X Y : List Value) : Prop where
  low : Below wf.heap.size wf W
  at_ : g = wf.heap.size
  box : Boxd W g C 47
  ri : W.ownsRow (g + 1) 3 1 vi X.length X
  ra : W.ownsRow (g + 1) 2 1 va Y.length Y
section
variable {wf W w' : World} {g : Nat} {C : Array Value} {vi va : Value} {X Y : List Value}
theorem Grow.start (wf : World) (C : Array Value) : Grow wf (wf.alloc (.cells C 47)) wf.heap.size C (.slice none 0 0) (.slice none 0 0) [] [] :=
  ⟨below_one _ _, rfl, heap_alloc_last _ _, World.ownsRow_nil _ _ _ _, World.ownsRow_nil _ _ _ _⟩
theorem Grow.below (h : Grow wf W g C vi va X Y) (hb : Below W.heap.size W w') : Grow wf w' g C vi va X Y := ⟨below_to h.low hb, h.at_, h.box.below hb, own_below h.ri hb, own_below h.ra hb⟩
theorem Grow.alloc (h : Grow wf W g C vi va X Y) (o : Obj) : Grow wf (W.alloc o) g C vi va X Y := h.below (below_one _ _)
theorem Grow.drew (h : Grow wf W g C vi va X Y) : Grow wf W.drew g C vi va X Y := h.below (below_drawn (Below.refl _ _))
theorem Grow.ni (h : Grow wf W g C vi va X Y) {k : Nat} (hk : W.heap.size ≤ k) : some k ≠ vi.ownBlock := fun e => by
  have := (h.ri.lt k e.symm).2
  omega
theorem Grow.na (h : Grow wf W g C vi va X Y) {k : Nat} (hk : W.heap.size ≤ k) : some k ≠ va.ownBlock := fun e => by
  have := (h.ra.lt k e.symm).2
  omega
theorem types_ne : (2 : TypeId) ≠ 3 := by decide
theorem Grow.growI (h : Grow wf W g C vi va X Y) {v u : Value} (ho : w'.ownsRow (g + 1) 3 1 v (X.length + 1) (X ++ [u])) (hg : W.grownBy w' vi.ownBlock) : Grow wf w' g C v va (X ++ [u]) Y :=
  ⟨below_row h.low (by rw [h.at_]; omega) h.ri hg, h.at_, (hg.block g h.box.lt (fun e => by have := (h.ri.lt g e.symm).1; omega)).trans h.box, by rw [List.length_append]; exact ho, h.ra.kept hg (own_apart h.ra h.ri types_ne)⟩
theorem Grow.growA (h : Grow wf W g C vi va X Y) {v u : Value} (ho : w'.ownsRow (g + 1) 2 1 v (Y.length + 1) (Y ++ [u])) (hg : W.grownBy w' va.ownBlock) : Grow wf w' g C vi v X (Y ++ [u]) :=
  ⟨below_row h.low (by rw [h.at_]; omega) h.ra hg, h.at_, (hg.block g h.box.lt (fun e => by have := (h.ra.lt g e.symm).1; omega)).trans h.box, h.ri.kept hg (own_apart h.ri h.ra (Ne.symm types_ne)), by rw [List.length_append]; exact ho⟩
theorem Grow.put {C' : Array Value} (h : Grow wf W g C vi va X Y) (hr : Boxd w' g C' 47) (ho : One g W w') : Grow wf w' g C' vi va X Y :=
  ⟨below_one_of h.low ho (Nat.le_of_eq h.at_.symm) h.low.size, h.at_, hr, h.ri.kept (one_grown ho) (by
    cases e : vi.ownBlock with
    | none => exact Or.inl rfl
    | some k => exact Or.inr fun e' => by injection e' with e'; have := (h.ri.lt k e).1; omega), h.ra.kept (one_grown ho) (by
    cases e : va.ownBlock with
    | none => exact Or.inl rfl
    | some k => exact Or.inr fun e' => by injection e' with e'; have := (h.ra.lt k e).1; omega)⟩
theorem Grow.keep {p q : Value} (h : Grow wf W g #[p, q] vi va X Y) {b o : Nat} {x : Value} (hb : b < wf.heap.size) (hc : wf.cell? ⟨b, o, none⟩ = some x) :
    W.cell? ⟨g, 0, none⟩ = some p ∧ W.cell? ⟨g, 1, none⟩ = some q ∧ W.cell? ⟨b, o, none⟩ = some x := ⟨h.box.cell, h.box.cell, (h.low.cell (p := ⟨b, o, none⟩) hb).trans hc⟩
end
theorem Grow.keep2 {wf W : World} {g : Nat} {vi va p q : Value} {X Y : List Value} (h : Grow wf W g #[p, q] vi va X Y) {b o b2 o2 : Nat} {x x2 : Value} (hb : b < wf.heap.size) (hc : wf.cell? ⟨b, o, none⟩ = some x) (hb2 : b2 < wf.heap.size) (hc2 : wf.cell? ⟨b2, o2, none⟩ = some x2) :
    W.cell? ⟨g, 0, none⟩ = some p ∧ W.cell? ⟨g, 1, none⟩ = some q ∧ W.cell? ⟨b, o, none⟩ = some x ∧ W.cell? ⟨b2, o2, none⟩ = some x2 := ⟨h.box.cell, h.box.cell, (h.low.cell (p := ⟨b, o, none⟩) hb).trans hc, (h.low.cell (p := ⟨b2, o2, none⟩) hb2).trans hc2⟩
theorem take_map {β : Type} (f : Ln → β) {L : List Ln} {j : Nat} {x : Ln} (hx : L[j]? = some x) : (L.take (j + 1)).map f = (L.take j).map f ++ [f x] := by
  rw [List.take_add_one, hx, List.map_append]
  rfl
theorem take_len {β : Type} (f : Ln → β) {L : List Ln} {j : Nat} (hj : j ≤ L.length) : ((L.take j).map f).length = j := by
  rw [List.length_map, List.length_take]
  omega
theorem range_next {β : Type} (f : Nat → β) (j : Nat) : (List.range (j + 1)).map f = (List.range j).map f ++ [f j] := by rw [List.range_succ, List.map_append]; rfl
theorem asked_info (a b : Value) : (Tryz.prog.info? 47).map (·.size) = some (#[a, b] : Array Value).size := by
  show _ = some 2
  kernel_rfl
theorem asked_one (A A' : Option Addr) (n c n' c' : Nat) : (#[.slice A n c, .slice A' n' c'] : Array Value).all (·.oneCell') = true := by simp [Value.oneCell']
theorem ints_one : (Tryz.prog.info? 41).map (·.size) = some 1 := by kernel_rfl
theorem longs_one : (Tryz.prog.info? 32).map (·.size) = some 1 := by kernel_rfl
theorem lit_int (x : Int) (w : World) : (Instr.buildSlice 41 1 #[(0, .int .i64 x)]).run Tryz.prog w = .ok (.slice (some ⟨w.heap.size, 0, none⟩) 1 1) (w.alloc (.cells #[.int .i64 x] 3)) := by kernel_rfl
theorem lit_long (x : Int) (w : World) : (Instr.buildSlice 32 1 #[(0, .int .i64 x)]).run Tryz.prog w = .ok (.slice (some ⟨w.heap.size, 0, none⟩) 1 1) (w.alloc (.cells #[.int .i64 x] 2)) := by kernel_rfl
theorem own_ints_far {W w' : World} {g base : Nat} {e : TypeId} {v : Value} {n : Nat} {zs : List Int} (h : W.ownsRow base e 1 v n (zs.map (Value.int .i64))) (hn : n = zs.length) (ho : One g W w') (hg : g < base) : Ints w' w'.heap.size .i64 v zs :=
  Ints.of_own hn (h.kept (one_grown ho) (by
    cases q : v.ownBlock with
    | none => exact Or.inl rfl
    | some k => exact Or.inr fun q' => by injection q' with q'; have := (h.lt k q).1; omega))
/-- What the document's Asks tells, as memory has it. -/
def AskedTold (R : List Int × List Int × Int) (w : World) (e : Ending) (w' : World) : Prop := ∃ u1 u2, e = .returned (.tuple #[.agg #[u1, u2], .int .i64 R.2.2]) ∧ Ints w' w'.heap.size .i64 u1 R.1 ∧ Ints w' w'.heap.size .i64 u2 R.2.1 ∧ Below w.heap.size w w'
theorem asked_none (n : Int) {w w' : World} (hb : Below w.heap.size w w') : AskedTold ([], [], n) w (.returned (.tuple #[.agg #[.slice none 0 0, .slice none 0 0], .int .i64 n])) w' := ⟨_, _, rfl, Ints.nil_ _ _ _, Ints.nil_ _ _ _, hb⟩
theorem ints_map {base : Nat} {e : TypeId} {w : World} {v : Value} {f : Ln → Int} {L : List Ln} (h : w.ownsRow base e 1 v L.length (L.map fun l => .int .i64 (f l))) : Ints w w.heap.size .i64 v (L.map f) := by
  refine Ints.of_own (base := base) (e := e) (n := L.length) (by simp) ?_
  rw [List.map_map]
  exact h
end Go.Proofs.YtkddiaiohnbjpaaGreatDoor.Plan
