/- Of no one law: a block that holds given cells, whole or a cell at a time; memory in which only one block has turned. -/
import Derived.Test.YtkegmgjagcefhaaByHand
import Derived.WalkKit
import Derived.ProofKit
import Derived.Carry
import Derived.Deep.WholeRow
import Derived.Deep.Heap
import Derived.Deep.MidRow
import Derived.BigFrame
import Derived.Deep.RegionHeld3
import Derived.Deep.DeepCutAuto
namespace Go.Proofs.Ytkegmgjagcefhaa.Box
open Go.ChangeShapes Go.WideShapes Go.ChangeAt Go.RowKit

/-- Block g holds these cells. -/
def Boxd (w : World) (g : Nat) (C : Array Value) (T : TypeId) : Prop := w.heap[g]? = some (.cells C T (0, 0))
theorem Boxd.lt {w : World} {g : Nat} {C : Array Value} {T : TypeId} (h : Boxd w g C T) : g < w.heap.size := by
  rcases Nat.lt_or_ge g w.heap.size with hlt | hge
  · exact hlt
  · unfold Boxd at h; rw [Array.getElem?_eq_none hge] at h; cases h
theorem Boxd.below {w w' : World} {g : Nat} {C : Array Value} {T : TypeId} (h : Boxd w g C T) (hb : Below w.heap.size w w') : Boxd w' g C T :=
  (hb.block g h.lt).trans h
theorem boxd_new (w : World) (C : Array Value) (T : TypeId) : ∃ g wb, g = w.heap.size ∧ wb = w.alloc (.cells C T) ∧ Boxd wb g C T ∧ Below w.heap.size w wb :=
  ⟨_, _, rfl, rfl, heap_alloc_last _ _, (Below.refl _ w).alloc (Nat.le_refl _) _⟩
theorem Boxd.cell {w : World} {g i : Nat} {C : Array Value} {T : TypeId} (h : Boxd w g C T) : w.cell? ⟨g, i, none⟩ = C[i]? := by
  simp only [World.cell?]
  rw [h]
  rfl
theorem boxd_set {w : World} {g i : Nat} {v : Value} {C D : Array Value} {T : TypeId} (h : Boxd w g C T) (hd : C.setIfInBounds i v = D) : Boxd (w.setCell ⟨g, i, none⟩ v) g D T := by
  unfold Boxd at *
  subst hd
  simp [World.setCell, Array.getElem?_modify, h]
theorem boxd_free {w : World} {g i : Nat} {C : Array Value} {T : TypeId} (h : Boxd w g C T) : w.frozen? ⟨g, i, none⟩ = false := by
  unfold Boxd at h
  simp [World.frozen?, h]
theorem boxd_row {w : World} {g : Nat} {C D : Array Value} {T : TypeId} (h : Boxd w g C T) : Boxd (w.setRow g D) g D T := setRow_heap _ _ _ _ _ _ h
theorem below_one (w : World) (o : Obj) : Below w.heap.size w (w.alloc o) := (Below.refl _ _).alloc (Nat.le_refl _) o
theorem below_row {B : Nat} {w w' : World} {g : Nat} (h : Below B w w') (hg : B ≤ g) (D : Array Value) : Below B w (w'.setRow g D) :=
  ⟨h.os, h.tape, h.output, by simpa using h.size, fun i hi => (setRow_other _ _ _ _ (by omega)).trans (h.block i hi)⟩
theorem below_to {a b c : World} (h : Below a.heap.size a b) (k : Below b.heap.size b c) : Below a.heap.size a c := h.trans (k.mono h.size)
theorem below_drawn {B : Nat} {a w : World} (h : Below B a w) : Below B a w.drew := ⟨h.os, h.tape, h.output, h.size, h.block⟩
theorem drawn_below {n : Nat} {a b : World} (h : Below n a.drew b) : Below n a b := ⟨h.os, h.tape, h.output, h.size, h.block⟩
/-- Only block g, and new ones, have turned. -/
structure One (g : Nat) (w w' : World) : Prop where
  os : w'.os = w.os
  tape : w'.tape = w.tape
  output : w'.output = w.output
  size : w.heap.size ≤ w'.heap.size
  block : ∀ i, i < w.heap.size → ¬ i = g → w'.heap[i]? = w.heap[i]?
theorem One.refl (g : Nat) (w : World) : One g w w := ⟨rfl, rfl, rfl, Nat.le_refl _, fun _ _ _ => rfl⟩
theorem One.of {g : Nat} {w w' : World} (h : Below w.heap.size w w') : One g w w' := ⟨h.os, h.tape, h.output, h.size, fun i hi _ => h.block i hi⟩
theorem One.trans {g : Nat} {w w1 w2 : World} (h : One g w w1) (k : One g w1 w2) : One g w w2 :=
  ⟨k.os.trans h.os, k.tape.trans h.tape, k.output.trans h.output, Nat.le_trans h.size k.size, fun i hi hf => (k.block i (Nat.lt_of_lt_of_le hi h.size) hf).trans (h.block i hi hf)⟩
theorem One.then {g : Nat} {w w1 w2 : World} (h : One g w w1) (k : Below w1.heap.size w1 w2) : One g w w2 := h.trans (One.of k)
theorem One.after {g : Nat} {w w1 w2 : World} (h : One g w1 w2) (k : Below w.heap.size w w1) : One g w w2 := (One.of k).trans h
theorem One.drawn {g : Nat} {w w' : World} (h : One g w w') : One g w w'.drew := ⟨h.os, h.tape, h.output, h.size, h.block⟩
theorem one_set (w : World) (g i : Nat) (v : Value) : One g w (w.setCell ⟨g, i, none⟩ v) :=
  ⟨rfl, rfl, rfl, by simp [World.setCell], fun j _ hf => Below.heap_setCell w ⟨g, i, none⟩ v j hf⟩
theorem one_row (w : World) (g : Nat) (D : Array Value) : One g w (w.setRow g D) := ⟨rfl, rfl, rfl, by simp, fun i _ hf => setRow_other _ _ _ _ hf⟩
theorem one_far {k g : Nat} {w w1 w2 : World} (h : One k w w1) (ho : One g w1 w2) (hg : w.heap.size ≤ g) : One k w w2 :=
  ⟨ho.os.trans h.os, ho.tape.trans h.tape, ho.output.trans h.output, Nat.le_trans h.size ho.size, fun i hi hf => (ho.block i (Nat.lt_of_lt_of_le hi h.size) (by omega)).trans (h.block i hi hf)⟩
theorem Boxd.one {g k : Nat} {w w' : World} {C : Array Value} {T : TypeId} (h : Boxd w k C T) (ho : One g w w') (hk : ¬ k = g) : Boxd w' k C T := (ho.block k h.lt hk).trans h
theorem below_one_of {B g : Nat} {w w1 w2 : World} (h : Below B w w1) (ho : One g w1 w2) (hB : B ≤ g) (hs : B ≤ w1.heap.size) : Below B w w2 :=
  ⟨ho.os.trans h.os, ho.tape.trans h.tape, ho.output.trans h.output, Nat.le_trans h.size ho.size, fun i hi => (ho.block i (by omega) (by omega)).trans (h.block i hi)⟩
theorem o_load {P : Program} {ops : Array Oper} {rest : List Oper} {o : Oper} {a : Act} {w : World} {Q : Exit → Act → World → Prop} (hw : Region.wanted o (yielded ops a.tmps) = true) (ty : TypeId) (x : Operand) (ho : o.op = .load ty x)
    (g : Nat) (hx : a.eval x = .pointer (some ⟨g, 0, none⟩)) (t : TypeId) (cs : Array Value) (d : TypeDesc) (hg : Boxd w g cs t)
    (hu : P.underlying ty = some d) (hd : (match d with | .struct _ | .array _ _ => true | _ => false) = true) (hi : (P.info? ty).map (·.size) = some cs.size)
    (h : wpList P ops Q rest (a.put o.dst (.agg cs)) w) : wpList P ops Q (o :: rest) a w :=
  BigFrame.wpList_want hw fun _ hK => wp_load_row ty x ho g hx t cs (0, 0) d hg hu hd hi (hK _ _ h)
/-- A whole struct's store: what follows knows the block's cells alone. -/
theorem o_store {P : Program} {ops : Array Oper} {rest : List Oper} {o : Oper} {a : Act} {w : World} {Q : Exit → Act → World → Prop} (hgd : o.guard = none) (ty : TypeId) (x y : Operand) (ho : o.op = .store ty x y) (hd : o.dst = none)
    (g : Nat) (cells : Array Value) (hx : a.eval x = .pointer (some ⟨g, 0, none⟩)) (hy : a.eval y = .agg cells)
    (t : TypeId) (old : Array Value) (hg : Boxd w g old t) (hi : (P.info? ty).map (·.size) = some cells.size)
    (hold : old.size = cells.size) (h1 : cells.all (·.oneCell') = true)
    (h : ∀ w', Boxd w' g cells t → One g w w' → wpList P ops Q rest a w') : wpList P ops Q (o :: rest) a w :=
  wpList_store_row hgd ty x y ho g cells hx hy t old hg hi hold h1 (by rw [hd]; exact h _ (boxd_row hg) (one_row w g cells))
theorem run_put {P : Program} (w : World) (g i : Nat) (T ty : TypeId) (C : Array Value) (v : Value) (hB : Boxd w g C T) (hi : i < C.size) (hz : (P.info? ty).map (·.size) = some 1)
    (h1 : v.oneCell' = true) : (storeVar ty ⟨g, i, none⟩ v).run P w = .ok () (w.setCell ⟨g, i, none⟩ v) := by
  have hc : v.cells = #[v] := by cases v <;> first | rfl | cases h1
  have c0 : w.cell? ⟨g, i, none⟩ = some C[i] := by rw [hB.cell, Array.getElem?_eq_getElem hi]
  have f0 := boxd_free (i := i) hB
  have e0 : (⟨g, i, none⟩ : Addr).add 0 = ⟨g, i, none⟩ := rfl
  cases hq : P.info? ty with
  | none => simp [hq] at hz
  | some q =>
    have hs : q.size = 1 := by simpa [hq] using hz
    simp [storeVar, sizeOf, typeInfo, hq, hc, hs, storeCells, run_store P w _ v _ h1, e0, c0, f0]
/-- A cell's store. -/
theorem o_put {P : Program} {ops : Array Oper} {rest : List Oper} {o : Oper} {a : Act} {w : World} {Q : Exit → Act → World → Prop} (hgd : o.guard = none) (ty : TypeId) (x y : Operand) (ho : o.op = .store ty x y) (hd : o.dst = none)
    (g i : Nat) (v : Value) (hx : a.eval x = .pointer (some ⟨g, i, none⟩)) (hy : a.eval y = v) (h1 : v.oneCell' = true) (T : TypeId) (C : Array Value) (hB : Boxd w g C T) (hi : i < C.size) (hz : (P.info? ty).map (·.size) = some 1)
    (h : ∀ w', Boxd w' g (C.setIfInBounds i v) T → One g w w' → wpList P ops Q rest a w') : wpList P ops Q (o :: rest) a w :=
  wpList_plain hgd fun _ hK => by
    unfold Oper.wp execOp
    simp only [ho, hx, hy, Instr.storeAt, Instr.sureAddr, Sem.run_bind, Sem.run_pure, Result.andThen_ok, run_put w g i T ty C v hB hi hz h1]
    exact hK _ _ (by rw [hd]; exact h _ (boxd_set hB rfl) (one_set w g i v))
/-- A whole struct's load, taken first in a region whose order is drawn. -/
theorem take_row {P : Program} {ops : Array Oper} {Q : Exit → Act → World → Prop} {md : Region.Mode} {S : World → Prop} {oi : Oper} {fuel : Nat} {listed : Array Bool} {a : Act} {w : World}
    (i k : Nat) (hi : ops[i]? = some oi) (hd : oi.dst = some k) (hs : Region.noSelect ops = true) (hf : Region.free md ops listed i = true) (hr : (Region.ready md ops listed).contains i = true)
    (T : TypeId) (x : Operand) (ho : oi.op = .load T x) (g : Nat) (hx : a.eval x = .pointer (some ⟨g, 0, none⟩)) (C : Array Value) (d : TypeDesc) (hu : P.underlying T = some d) (ht : (match d with | .struct _ | .array _ _ => true | _ => false) = true) (hz : (P.info? T).map (·.size) = some C.size)
    (hB : ∀ w, S w → Boxd w g C T)
    (hQ : ∀ c a w, Q (.panic c) (a.put oi.dst (.agg C)) w → Q (.panic c) a w) (hw : Region.wanted oi (yielded ops a.tmps) = true) (hS : S w)
    (h : wpAnyH P md ops Q S fuel (listed.setIfInBounds i true) (a.put (some k) (.agg C)) w) : wpAnyH P md ops Q S (fuel + 1) listed a w :=
  ByHand.take_yes (v := .agg C) i k hi hd hs hf hr hQ hw (fun W hW => by
    unfold execOp
    simp only [ho, hx, Instr.loadAt, Instr.sureAddr, Sem.run_bind, Sem.run_pure, Result.andThen_ok, run_loadVar_row W g T T C (0, 0) d (hB W hW) hu ht hz]) hS h
/-- A cell's store, at the end of a region whose order is drawn. -/
theorem wp_put {P : Program} {o : Oper} {a : Act} {w : World} {K : Act → World → Prop} {Q : Exit → Act → World → Prop} (ty : TypeId) (x y : Operand) (ho : o.op = .store ty x y) (hd : o.dst = none)
    (g i : Nat) (v : Value) (hx : a.eval x = .pointer (some ⟨g, i, none⟩)) (hy : a.eval y = v) (h1 : v.oneCell' = true) (T : TypeId) (C : Array Value) (hB : Boxd w g C T) (hi : i < C.size) (hz : (P.info? ty).map (·.size) = some 1)
    (h : ∀ w', Boxd w' g (C.setIfInBounds i v) T → One g w w' → K a w') : o.wp P a w K Q := by
  unfold Oper.wp execOp
  simp only [ho, hx, hy, Instr.storeAt, Instr.sureAddr, Sem.run_bind, Sem.run_pure, Result.andThen_ok, run_put w g i T ty C v hB hi hz h1]
  have := h _ (boxd_set hB rfl) (one_set w g i v)
  rw [show a = a.put o.dst undef by rw [hd]; rfl] at this
  exact this
/-- A struct and a cell, both told from memory. -/
theorem results_pair {P : Program} {fn : Func} {p q : Tmp} {ty te : TypeId} (h : fn.results = #[.cell p ty, .cell q te]) (tmps : Array Value) (w : World) (g g2 : Nat) (t : TypeId) (cs : Array Value) (d : TypeDesc) (v : Value)
    (hp : tmps.getD p undef = .pointer (some ⟨g, 0, none⟩)) (hq : tmps.getD q undef = .pointer (some ⟨g2, 0, none⟩)) (hg : Boxd w g cs t)
    (hu : P.underlying ty = some d) (hd : (match d with | .struct _ | .array _ _ => true | _ => false) = true) (hi : (P.info? ty).map (·.size) = some cs.size) (hl : (loadVar te ⟨g2, 0, none⟩).run P w = .ok v w) :
    (results fn tmps).run P w = .ok (.tuple #[.agg cs, v]) w := by
  have hp' : tmps[p]?.getD undef = .pointer (some ⟨g, 0, none⟩) := by simpa using hp
  have hq' : tmps[q]?.getD undef = .pointer (some ⟨g2, 0, none⟩) := by simpa using hq
  simp [results, h, hp', hq', asAddr, run_loadVar_row w g t ty cs (0, 0) d hg hu hd hi, hl]
/-- A struct told from memory, and a value beside it. -/
theorem results_two {P : Program} {fn : Func} {p q : Tmp} {ty : TypeId} (h : fn.results = #[.cell p ty, .tmp q]) (tmps : Array Value) (w : World) (g : Nat) (t : TypeId) (cs : Array Value) (d : TypeDesc) (v : Value)
    (hp : tmps.getD p undef = .pointer (some ⟨g, 0, none⟩)) (hg : Boxd w g cs t)
    (hu : P.underlying ty = some d) (hd : (match d with | .struct _ | .array _ _ => true | _ => false) = true) (hi : (P.info? ty).map (·.size) = some cs.size) (hq : tmps.getD q undef = v) :
    (results fn tmps).run P w = .ok (.tuple #[.agg cs, v]) w := by
  have hp' : tmps[p]?.getD undef = .pointer (some ⟨g, 0, none⟩) := by simpa using hp
  have hq' : tmps[q]?.getD undef = v := by simpa using hq
  simp [results, h, hp', hq', asAddr, run_loadVar_row w g t ty cs (0, 0) d hg hu hd hi]
theorem results_three {P : Program} {fn : Func} {p q r : Tmp} {ty : TypeId} (h : fn.results = #[.cell p ty, .tmp q, .tmp r]) (tmps : Array Value) (w : World) (g : Nat) (t : TypeId) (cs : Array Value) (d : TypeDesc) (v u : Value)
    (hp : tmps.getD p undef = .pointer (some ⟨g, 0, none⟩)) (hg : Boxd w g cs t)
    (hu : P.underlying ty = some d) (hd : (match d with | .struct _ | .array _ _ => true | _ => false) = true) (hi : (P.info? ty).map (·.size) = some cs.size) (hq : tmps.getD q undef = v) (hr : tmps.getD r undef = u) :
    (results fn tmps).run P w = .ok (.tuple #[.agg cs, v, u]) w := by
  have hp' : tmps[p]?.getD undef = .pointer (some ⟨g, 0, none⟩) := by simpa using hp
  have hq' : tmps[q]?.getD undef = v := by simpa using hq
  have hr' : tmps[r]?.getD undef = u := by simpa using hr
  simp [results, h, hp', hq', hr', asAddr, run_loadVar_row w g t ty cs (0, 0) d hg hu hd hi]
theorem make_fn (fn : Fn) (first cap : Array Value) (w : World) : (Instr.makeFunc fn first cap).run Try.prog w = .ok (.func fn first cap) w := rfl
end Go.Proofs.Ytkegmgjagcefhaa.Box
