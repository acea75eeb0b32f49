/- Of no one law: a map of the call's own from numbers to values of any one type (functions, say), told by a function: looked up, written, made. -/
import Derived.Test.YtkddiaiohnbjpaaGreatDoorGA
import Derived.Maps.Own
import Derived.Maps.OwnOps
import Derived.Maps.OwnSet
import Derived.Maps.Views
namespace Go.Proofs.YtkddiaiohnbjpaaGreatDoor.MapF
open Go.ChangeShapes Go.WideShapes Go.ChangeAt Go.RowKit Go.Maps

def In64 (n : Int) : Prop := -9223372036854775808 ≤ n ∧ n ≤ 9223372036854775807
theorem key_law : Keyed Tryz.prog 3 := int_keyed Tryz.underlying3
theorem key_of {i : Int} (h : In64 i) : keyOf Tryz.prog 3 (.int .i64 i) = some (.int .i64 i) := keyOf_int_mk Tryz.underlying3 (by
  unfold In64 at h
  simpa [Lit.wf, IntKind.min, IntKind.max, IntKind.bits, IntKind.signed] using h)
/-- An element is read as itself. -/
def heldR (v : Value) : Option (DataW Value × List MemPlace) := some (.held v, [])
/-- What the map says of a number, z where it says nothing. -/
def Says (z : Value) (D : DataW Value) (i : Int) (x : Option Value) : Prop :=
  match x with
  | some s => Maps.has D (.int .i64 i) = true ∧ D.atKey (.int .i64 i) (.held z) = .held s
  | none => Maps.has D (.int .i64 i) = false ∧ D.atKey (.int .i64 i) (.held z) = .held z
/-- Block b is a map of at most n entries: of each number what f says. -/
def MapIs (z : Value) (w : World) (b n : Nat) (f : Int → Option Value) : Prop :=
  ∃ D : DataW Value, w.ownsMap Tryz.prog 3 heldR b n D ∧ ∀ i, In64 i → Says z D i (f i)
theorem held_inj {a b : Value} (h : (DataW.held a : DataW Value) = .held b) : a = b := by
  injection h
theorem MapIs.look_ok {z : Value} {w : World} {b n : Nat} {f : Int → Option Value} (h : MapIs z w b n f) {t e : TypeId} (ht : Tryz.prog.underlying t = some (.map 3 e)) (hz : (zeroValue e).run Tryz.prog w = .ok z w) {i : Int} (hi : In64 i) :
    (Instr.lookup t (.map (some b)) (.int .i64 i) true).run Tryz.prog w = .ok (.tuple #[(f i).getD z, .bool (f i).isSome]) w := by
  obtain ⟨D, hD, hS⟩ := h
  obtain ⟨v, ps, hrun, hv⟩ := hD.look_ok key_law ht hz (show heldR z = some (.held z, []) from rfl) (key_of hi)
  have hv' : (DataW.held v : DataW Value) = D.atKey (.int .i64 i) (.held z) := by
    have e := Option.some.inj hv
    exact congrArg Prod.fst e
  have hh := hS i hi
  rw [hrun]
  cases hf : f i with
  | none =>
    rw [hf] at hh
    obtain ⟨h1, h2⟩ := hh
    rw [h1, held_inj (hv'.trans h2)]; rfl
  | some s =>
    rw [hf] at hh
    obtain ⟨h1, h2⟩ := hh
    rw [h1, held_inj (hv'.trans h2)]; rfl
theorem key_ne {i j : Int} (h : i ≠ j) : (Lit.int .i64 i) ≠ .int .i64 j := fun e => by injection e; contradiction
theorem says_put {z : Value} {D : DataW Value} (hD : Maps.IsMap D) (i j : Int) (s : Value) {x : Option Value} (h : Says z D j x) (hk : WideAt.IsKeyLit (.int .i64 i)) : Says z (D.put (.int .i64 i) (.held s)) j (if j = i then some s else x) := by
  by_cases e : j = i
  · rw [if_pos e, e]
    exact ⟨Maps.has_put_same hD hk _, Maps.atKey_put_same hD hk _ _⟩
  · rw [if_neg e]
    cases x with
    | none => exact ⟨(Maps.has_put_other (key_ne e) _).trans h.1, (Maps.atKey_put_other (key_ne e) _ _).trans h.2⟩
    | some t => exact ⟨(Maps.has_put_other (key_ne e) _).trans h.1, (Maps.atKey_put_other (key_ne e) _ _).trans h.2⟩
/-- Nothing but block b has turned, and no block is new. -/
structure Turned (b : Nat) (w w' : World) : Prop where
  os : w'.os = w.os
  tape : w'.tape = w.tape
  output : w'.output = w.output
  size : w'.heap.size = w.heap.size
  block : ∀ i, i ≠ b → w'.heap[i]? = w.heap[i]?
theorem turned_of {w w' : World} {b : Nat} (h : w.mapTurned w' b) : Turned b w w' := by
  obtain ⟨es, clock, es', clock', hb, rfl⟩ := h
  exact ⟨rfl, rfl, rfl, by simp [ChangeMaps.setBlock], fun i hi => ChangeMaps.heap_setBlock_other hb _ hi⟩
theorem Turned.cell {b g o : Nat} {w w' : World} (h : Turned b w w') (hg : g ≠ b) : w'.cell? ⟨g, o, none⟩ = w.cell? ⟨g, o, none⟩ := by
  have := h.block g hg
  simp only [World.cell?, this]
theorem Turned.below {b n : Nat} {a w w' : World} (h : Turned b w w') (hb : Below n a w) (hn : n ≤ b) : Below n a w' :=
  ⟨h.os.trans hb.os, h.tape.trans hb.tape, h.output.trans hb.output, by rw [h.size]; exact hb.size, fun i hi => (h.block i (by omega)).trans (hb.block i hi)⟩
theorem MapIs.store {z : Value} {w : World} {b n : Nat} {f : Int → Option Value} (h : MapIs z w b n f) (hn : n < 1000000000) {t e : TypeId} (ht : Tryz.prog.underlying t = some (.map 3 e)) {i : Int} (hi : In64 i) (s : Value) :
    ∃ w', (Instr.mapUpdate t (.map (some b)) (.int .i64 i) s).run Tryz.prog w = .ok () w' ∧ MapIs z w' b (n + 1) (fun j => if j = i then some s else f j) ∧ Turned b w w' := by
  obtain ⟨D, hD, hS⟩ := h
  obtain ⟨w', hrun, h1, h2⟩ := hD.store key_law ht (by unfold maxLen; omega) (key_of hi) (show heldR s = some (.held s, []) from rfl)
  have hk : WideAt.IsKeyLit (.int .i64 i) := trivial
  have hT := hD.tidy key_law
  exact ⟨w', hrun, ⟨_, h1, fun j hj => says_put hT.isMap i j s (hS j hj) hk⟩, turned_of h2⟩
theorem map_made (z : Value) (w : World) : MapIs z (w.alloc (.map #[] 0)) w.heap.size 0 (fun _ => none) :=
  ⟨.map [], World.ownsMap_made _ _ _ _, fun _ _ => ⟨rfl, rfl⟩⟩
theorem MapIs.keep {z : Value} {w w' : World} {b n : Nat} {f : Int → Option Value} (h : MapIs z w b n f) (hb : w'.heap[b]? = w.heap[b]?) : MapIs z w' b n f := by
  obtain ⟨D, ⟨es, clock, h1, h2, h3, h4⟩, hS⟩ := h
  exact ⟨D, ⟨es, clock, hb.trans h1, h2, h3, h4⟩, hS⟩
theorem MapIs.lt {z : Value} {w : World} {b n : Nat} {f : Int → Option Value} (h : MapIs z w b n f) : b < w.heap.size := by
  obtain ⟨D, hD, -⟩ := h
  exact hD.lt
theorem MapIs.below {z : Value} {w w' : World} {b n : Nat} {f : Int → Option Value} (h : MapIs z w b n f) (hb : Below w.heap.size w w') : MapIs z w' b n f := h.keep (hb.block _ h.lt)
theorem MapIs.congr {z : Value} {w : World} {b n : Nat} {f g : Int → Option Value} (h : MapIs z w b n f) (e : ∀ i, In64 i → f i = g i) : MapIs z w b n g := by
  obtain ⟨D, hD, hS⟩ := h
  exact ⟨D, hD, fun i hi => e i hi ▸ hS i hi⟩
end Go.Proofs.YtkddiaiohnbjpaaGreatDoor.MapF
