/- Of no one law: a block that holds given cells, whole or a cell at a time; memory in which only one block has turned. What accrue's calls answer, at every input: a day's interest, days more (what goes beyond is told by a panic, and kept within), whole cents, and what is left. Of layer 14: a loan as its cells are, and what each call tells of it, in plain words. Of layer 14: what follows of a good loan. Of layer 14: days and days more; what is owed (plain). Of no one law: a loan that came in by value. The program's own package loan: what only reads. The program's own package loan: what panics, what makes a new loan. -/
import Derived.Test.YtkddiaiohnbjpaaGreatDoorGA
import Derived.WalkKit
import Derived.ProofKit
import Derived.Carry
import Derived.Deep.WholeRow
import Derived.Deep.Heap
import Derived.Deep.MidRow
import Derived.BigFrame
import Derived.Deep.RegionHeld3
import Derived.Deep.DeepCutAuto
import Derived.Test.YtkddiaiohnbjpaaGreatDoorGNum
import Derived.Shelf.Abstract
import Derived.Defers
import Derived.Recover
import Derived.WalkLawsBesides
import Derived.OpenShut
import Derived.Test.YtkddiaiohnbjpaaGreatDoorChecked
import Derived.Test.YtkddiaiohnbjpaaGreatDoorGAdd
namespace Go.Proofs.YtkddiaiohnbjpaaGreatDoor.Box
open Go.ChangeShapes Go.WideShapes Go.ChangeAt Go.RowKit

/-- Block g holds these cells. -/
def Boxd (w : World) (g : Nat) (C : Array Value) (T : TypeId) : Prop := w.heap[g]? = some (.cells C T (0, 0))
theorem Boxd.lt {w : World} {g : Nat} {C : Array Value} {T : TypeId} (h : Boxd w g C T) : g < w.heap.size := by
  rcases Nat.lt_or_ge g w.heap.size with hlt | hge
  · exact hlt
  · unfold Boxd at h; rw [Array.getElem?_eq_none hge] at h; cases h
theorem Boxd.below {w w' : World} {g : Nat} {C : Array Value} {T : TypeId} (h : Boxd w g C T) (hb : Below w.heap.size w w') : Boxd w' g C T :=
  (hb.block g h.lt).trans h
theorem boxd_new (w : World) (C : Array Value) (T : TypeId) : ∃ g wb, g = w.heap.size ∧ wb = w.alloc (.cells C T) ∧ Boxd wb g C T ∧ Below w.heap.size w wb :=
  ⟨_, _, rfl, rfl, heap_alloc_last _ _, (Below.refl _ w).alloc (Nat.le_refl _) _⟩
theorem Boxd.cell {w : World} {g i : Nat} {C : Array Value} {T : TypeId} (h : Boxd w g C T) : w.cell? ⟨g, i, none⟩ = C[i]? := by
  simp only [World.cell?]
  rw [h]
  rfl
theorem boxd_set {w : World} {g i : Nat} {v : Value} {C D : Array Value} {T : TypeId} (h : Boxd w g C T) (hd : C.setIfInBounds i v = D) : Boxd (w.setCell ⟨g, i, none⟩ v) g D T := by
  unfold Boxd at *
  subst hd
  simp [World.setCell, Array.getElem?_modify, h]
theorem boxd_free {w : World} {g i : Nat} {C : Array Value} {T : TypeId} (h : Boxd w g C T) : w.frozen? ⟨g, i, none⟩ = false := by
  unfold Boxd at h
  simp [World.frozen?, h]
theorem boxd_row {w : World} {g : Nat} {C D : Array Value} {T : TypeId} (h : Boxd w g C T) : Boxd (w.setRow g D) g D T := setRow_heap _ _ _ _ _ _ h
theorem below_one (w : World) (o : Obj) : Below w.heap.size w (w.alloc o) := (Below.refl _ _).alloc (Nat.le_refl _) o
theorem below_row {B : Nat} {w w' : World} {g : Nat} (h : Below B w w') (hg : B ≤ g) (D : Array Value) : Below B w (w'.setRow g D) :=
  ⟨h.os, h.tape, h.output, by simpa using h.size, fun i hi => (setRow_other _ _ _ _ (by omega)).trans (h.block i hi)⟩
theorem below_to {a b c : World} (h : Below a.heap.size a b) (k : Below b.heap.size b c) : Below a.heap.size a c := h.trans (k.mono h.size)
theorem below_drawn {B : Nat} {a w : World} (h : Below B a w) : Below B a w.drew := ⟨h.os, h.tape, h.output, h.size, h.block⟩
theorem drawn_below {n : Nat} {a b : World} (h : Below n a.drew b) : Below n a b := ⟨h.os, h.tape, h.output, h.size, h.block⟩
/-- Only block g, and new ones, have turned. -/
structure One (g : Nat) (w w' : World) : Prop where
  os : w'.os = w.os
  tape : w'.tape = w.tape
  output : w'.output = w.output
  size : w.heap.size ≤ w'.heap.size
  block : ∀ i, i < w.heap.size → ¬ i = g → w'.heap[i]? = w.heap[i]?
theorem One.refl (g : Nat) (w : World) : One g w w := ⟨rfl, rfl, rfl, Nat.le_refl _, fun _ _ _ => rfl⟩
theorem One.of {g : Nat} {w w' : World} (h : Below w.heap.size w w') : One g w w' := ⟨h.os, h.tape, h.output, h.size, fun i hi _ => h.block i hi⟩
theorem One.trans {g : Nat} {w w1 w2 : World} (h : One g w w1) (k : One g w1 w2) : One g w w2 :=
  ⟨k.os.trans h.os, k.tape.trans h.tape, k.output.trans h.output, Nat.le_trans h.size k.size, fun i hi hf => (k.block i (Nat.lt_of_lt_of_le hi h.size) hf).trans (h.block i hi hf)⟩
theorem One.then {g : Nat} {w w1 w2 : World} (h : One g w w1) (k : Below w1.heap.size w1 w2) : One g w w2 := h.trans (One.of k)
theorem One.after {g : Nat} {w w1 w2 : World} (h : One g w1 w2) (k : Below w.heap.size w w1) : One g w w2 := (One.of k).trans h
theorem One.drawn {g : Nat} {w w' : World} (h : One g w w') : One g w w'.drew := ⟨h.os, h.tape, h.output, h.size, h.block⟩
theorem one_set (w : World) (g i : Nat) (v : Value) : One g w (w.setCell ⟨g, i, none⟩ v) :=
  ⟨rfl, rfl, rfl, by simp [World.setCell], fun j _ hf => Below.heap_setCell w ⟨g, i, none⟩ v j hf⟩
theorem one_row (w : World) (g : Nat) (D : Array Value) : One g w (w.setRow g D) := ⟨rfl, rfl, rfl, by simp, fun i _ hf => setRow_other _ _ _ _ hf⟩
theorem one_far {k g : Nat} {w w1 w2 : World} (h : One k w w1) (ho : One g w1 w2) (hg : w.heap.size ≤ g) : One k w w2 :=
  ⟨ho.os.trans h.os, ho.tape.trans h.tape, ho.output.trans h.output, Nat.le_trans h.size ho.size, fun i hi hf => (ho.block i (Nat.lt_of_lt_of_le hi h.size) (by omega)).trans (h.block i hi hf)⟩
theorem Boxd.one {g k : Nat} {w w' : World} {C : Array Value} {T : TypeId} (h : Boxd w k C T) (ho : One g w w') (hk : ¬ k = g) : Boxd w' k C T := (ho.block k h.lt hk).trans h
theorem below_one_of {B g : Nat} {w w1 w2 : World} (h : Below B w w1) (ho : One g w1 w2) (hB : B ≤ g) (hs : B ≤ w1.heap.size) : Below B w w2 :=
  ⟨ho.os.trans h.os, ho.tape.trans h.tape, ho.output.trans h.output, Nat.le_trans h.size ho.size, fun i hi => (ho.block i (by omega) (by omega)).trans (h.block i hi)⟩
theorem o_load {P : Program} {ops : Array Oper} {rest : List Oper} {o : Oper} {a : Act} {w : World} {Q : Exit → Act → World → Prop} (hw : Region.wanted o (yielded ops a.tmps) = true) (ty : TypeId) (x : Operand) (ho : o.op = .load ty x)
    (g : Nat) (hx : a.eval x = .pointer (some ⟨g, 0, none⟩)) (t : TypeId) (cs : Array Value) (d : TypeDesc) (hg : Boxd w g cs t)
    (hu : P.underlying ty = some d) (hd : (match d with | .struct _ | .array _ _ => true | _ => false) = true) (hi : (P.info? ty).map (·.size) = some cs.size)
    (h : wpList P ops Q rest (a.put o.dst (.agg cs)) w) : wpList P ops Q (o :: rest) a w :=
  BigFrame.wpList_want hw fun _ hK => wp_load_row ty x ho g hx t cs (0, 0) d hg hu hd hi (hK _ _ h)
/-- A whole struct's store: what follows knows the block's cells alone. -/
theorem o_store {P : Program} {ops : Array Oper} {rest : List Oper} {o : Oper} {a : Act} {w : World} {Q : Exit → Act → World → Prop} (hgd : o.guard = none) (ty : TypeId) (x y : Operand) (ho : o.op = .store ty x y) (hd : o.dst = none)
    (g : Nat) (cells : Array Value) (hx : a.eval x = .pointer (some ⟨g, 0, none⟩)) (hy : a.eval y = .agg cells)
    (t : TypeId) (old : Array Value) (hg : Boxd w g old t) (hi : (P.info? ty).map (·.size) = some cells.size)
    (hold : old.size = cells.size) (h1 : cells.all (·.oneCell') = true)
    (h : ∀ w', Boxd w' g cells t → One g w w' → wpList P ops Q rest a w') : wpList P ops Q (o :: rest) a w :=
  wpList_store_row hgd ty x y ho g cells hx hy t old hg hi hold h1 (by rw [hd]; exact h _ (boxd_row hg) (one_row w g cells))
theorem run_put {P : Program} (w : World) (g i : Nat) (T ty : TypeId) (C : Array Value) (v : Value) (hB : Boxd w g C T) (hi : i < C.size) (hz : (P.info? ty).map (·.size) = some 1)
    (h1 : v.oneCell' = true) : (storeVar ty ⟨g, i, none⟩ v).run P w = .ok () (w.setCell ⟨g, i, none⟩ v) := by
  have hc : v.cells = #[v] := by cases v <;> first | rfl | cases h1
  have c0 : w.cell? ⟨g, i, none⟩ = some C[i] := by rw [hB.cell, Array.getElem?_eq_getElem hi]
  have f0 := boxd_free (i := i) hB
  have e0 : (⟨g, i, none⟩ : Addr).add 0 = ⟨g, i, none⟩ := rfl
  cases hq : P.info? ty with
  | none => simp [hq] at hz
  | some q =>
    have hs : q.size = 1 := by simpa [hq] using hz
    simp [storeVar, sizeOf, typeInfo, hq, hc, hs, storeCells, run_store P w _ v _ h1, e0, c0, f0]
/-- A cell's store. -/
theorem o_put {P : Program} {ops : Array Oper} {rest : List Oper} {o : Oper} {a : Act} {w : World} {Q : Exit → Act → World → Prop} (hgd : o.guard = none) (ty : TypeId) (x y : Operand) (ho : o.op = .store ty x y) (hd : o.dst = none)
    (g i : Nat) (v : Value) (hx : a.eval x = .pointer (some ⟨g, i, none⟩)) (hy : a.eval y = v) (h1 : v.oneCell' = true) (T : TypeId) (C : Array Value) (hB : Boxd w g C T) (hi : i < C.size) (hz : (P.info? ty).map (·.size) = some 1)
    (h : ∀ w', Boxd w' g (C.setIfInBounds i v) T → One g w w' → wpList P ops Q rest a w') : wpList P ops Q (o :: rest) a w :=
  wpList_plain hgd fun _ hK => by
    unfold Oper.wp execOp
    simp only [ho, hx, hy, Instr.storeAt, Instr.sureAddr, Sem.run_bind, Sem.run_pure, Result.andThen_ok, run_put w g i T ty C v hB hi hz h1]
    exact hK _ _ (by rw [hd]; exact h _ (boxd_set hB rfl) (one_set w g i v))
/-- A whole struct's load, taken first in a region whose order is drawn. -/
theorem take_row {P : Program} {ops : Array Oper} {Q : Exit → Act → World → Prop} {md : Region.Mode} {S : World → Prop} {oi : Oper} {fuel : Nat} {listed : Array Bool} {a : Act} {w : World}
    (i k : Nat) (hi : ops[i]? = some oi) (hd : oi.dst = some k) (hs : Region.noSelect ops = true) (hf : Region.free md ops listed i = true) (hr : (Region.ready md ops listed).contains i = true)
    (T : TypeId) (x : Operand) (ho : oi.op = .load T x) (g : Nat) (hx : a.eval x = .pointer (some ⟨g, 0, none⟩)) (C : Array Value) (d : TypeDesc) (hu : P.underlying T = some d) (ht : (match d with | .struct _ | .array _ _ => true | _ => false) = true) (hz : (P.info? T).map (·.size) = some C.size)
    (hB : ∀ w, S w → Boxd w g C T)
    (hQ : ∀ c a w, Q (.panic c) (a.put oi.dst (.agg C)) w → Q (.panic c) a w) (hw : Region.wanted oi (yielded ops a.tmps) = true) (hS : S w)
    (h : wpAnyH P md ops Q S fuel (listed.setIfInBounds i true) (a.put (some k) (.agg C)) w) : wpAnyH P md ops Q S (fuel + 1) listed a w :=
  ByHand.take_yes (v := .agg C) i k hi hd hs hf hr hQ hw (fun W hW => by
    unfold execOp
    simp only [ho, hx, Instr.loadAt, Instr.sureAddr, Sem.run_bind, Sem.run_pure, Result.andThen_ok, run_loadVar_row W g T T C (0, 0) d (hB W hW) hu ht hz]) hS h
/-- A cell's store, at the end of a region whose order is drawn. -/
theorem wp_put {P : Program} {o : Oper} {a : Act} {w : World} {K : Act → World → Prop} {Q : Exit → Act → World → Prop} (ty : TypeId) (x y : Operand) (ho : o.op = .store ty x y) (hd : o.dst = none)
    (g i : Nat) (v : Value) (hx : a.eval x = .pointer (some ⟨g, i, none⟩)) (hy : a.eval y = v) (h1 : v.oneCell' = true) (T : TypeId) (C : Array Value) (hB : Boxd w g C T) (hi : i < C.size) (hz : (P.info? ty).map (·.size) = some 1)
    (h : ∀ w', Boxd w' g (C.setIfInBounds i v) T → One g w w' → K a w') : o.wp P a w K Q := by
  unfold Oper.wp execOp
  simp only [ho, hx, hy, Instr.storeAt, Instr.sureAddr, Sem.run_bind, Sem.run_pure, Result.andThen_ok, run_put w g i T ty C v hB hi hz h1]
  have := h _ (boxd_set hB rfl) (one_set w g i v)
  rw [show a = a.put o.dst undef by rw [hd]; rfl] at this
  exact this
/-- A struct and a cell, both told from memory. -/
theorem results_pair {P : Program} {fn : Func} {p q : Tmp} {ty te : TypeId} (h : fn.results = #[.cell p ty, .cell q te]) (tmps : Array Value) (w : World) (g g2 : Nat) (t : TypeId) (cs : Array Value) (d : TypeDesc) (v : Value)
    (hp : tmps.getD p undef = .pointer (some ⟨g, 0, none⟩)) (hq : tmps.getD q undef = .pointer (some ⟨g2, 0, none⟩)) (hg : Boxd w g cs t)
    (hu : P.underlying ty = some d) (hd : (match d with | .struct _ | .array _ _ => true | _ => false) = true) (hi : (P.info? ty).map (·.size) = some cs.size) (hl : (loadVar te ⟨g2, 0, none⟩).run P w = .ok v w) :
    (results fn tmps).run P w = .ok (.tuple #[.agg cs, v]) w := by
  have hp' : tmps[p]?.getD undef = .pointer (some ⟨g, 0, none⟩) := by simpa using hp
  have hq' : tmps[q]?.getD undef = .pointer (some ⟨g2, 0, none⟩) := by simpa using hq
  simp [results, h, hp', hq', asAddr, run_loadVar_row w g t ty cs (0, 0) d hg hu hd hi, hl]
/-- A struct told from memory, and a value beside it. -/
theorem results_two {P : Program} {fn : Func} {p q : Tmp} {ty : TypeId} (h : fn.results = #[.cell p ty, .tmp q]) (tmps : Array Value) (w : World) (g : Nat) (t : TypeId) (cs : Array Value) (d : TypeDesc) (v : Value)
    (hp : tmps.getD p undef = .pointer (some ⟨g, 0, none⟩)) (hg : Boxd w g cs t)
    (hu : P.underlying ty = some d) (hd : (match d with | .struct _ | .array _ _ => true | _ => false) = true) (hi : (P.info? ty).map (·.size) = some cs.size) (hq : tmps.getD q undef = v) :
    (results fn tmps).run P w = .ok (.tuple #[.agg cs, v]) w := by
  have hp' : tmps[p]?.getD undef = .pointer (some ⟨g, 0, none⟩) := by simpa using hp
  have hq' : tmps[q]?.getD undef = v := by simpa using hq
  simp [results, h, hp', hq', asAddr, run_loadVar_row w g t ty cs (0, 0) d hg hu hd hi]
theorem results_three {P : Program} {fn : Func} {p q r : Tmp} {ty : TypeId} (h : fn.results = #[.cell p ty, .tmp q, .tmp r]) (tmps : Array Value) (w : World) (g : Nat) (t : TypeId) (cs : Array Value) (d : TypeDesc) (v u : Value)
    (hp : tmps.getD p undef = .pointer (some ⟨g, 0, none⟩)) (hg : Boxd w g cs t)
    (hu : P.underlying ty = some d) (hd : (match d with | .struct _ | .array _ _ => true | _ => false) = true) (hi : (P.info? ty).map (·.size) = some cs.size) (hq : tmps.getD q undef = v) (hr : tmps.getD r undef = u) :
    (results fn tmps).run P w = .ok (.tuple #[.agg cs, v, u]) w := by
  have hp' : tmps[p]?.getD undef = .pointer (some ⟨g, 0, none⟩) := by simpa using hp
  have hq' : tmps[q]?.getD undef = v := by simpa using hq
  have hr' : tmps[r]?.getD undef = u := by simpa using hr
  simp [results, h, hp', hq', hr', asAddr, run_loadVar_row w g t ty cs (0, 0) d hg hu hd hi]
theorem make_fn (fn : Fn) (first cap : Array Value) (w : World) : (Instr.makeFunc fn first cap).run Tryz.prog w = .ok (.func fn first cap) w := rfl
end Go.Proofs.YtkddiaiohnbjpaaGreatDoor.Box
namespace Go.Proofs.YtkddiaiohnbjpaaGreatDoor.Accr
open Go.ChangeShapes Go.WideShapes Go.ChangeAt Go.RowKit Bits Law

/-- A day's interest. -/
def dayI (p r : Int) : Int := p * r / 365
def okD (p r : Int) : Bool := decide (0 ≤ p ∧ p ≤ 10000000000000 ∧ 0 ≤ r ∧ r ≤ 1000000)
theorem okD_iff {p r : Int} : okD p r = true ↔ (0 ≤ p ∧ p ≤ 10000000000000 ∧ 0 ≤ r ∧ r ≤ 1000000) := by unfold okD; simp
def dV (p r : Int) : Int := if okD p r then dayI p r else 0
def dE (p r : Int) : Int := if okD p r then 0 else 1
def okA (h p r n : Int) : Bool := decide (0 ≤ h ∧ h ≤ 1000000000000000000) && okD p r && decide (0 ≤ n ∧ n ≤ 87658)
def aV (h p r n : Int) : Int := if okA h p r n then (if h + dayI p r * n ≤ 1000000000000000000 then h + dayI p r * n else 0) else 0
def aE (h p r n : Int) : Int := if okA h p r n then (if h + dayI p r * n ≤ 1000000000000000000 then 0 else 14) else 1
def wholeI (m : Int) : Int := if m < 0 then 0 else m / 1000000
def okT (m c : Int) : Bool := decide (0 ≤ m ∧ m ≤ 1000000000000000000 ∧ 0 ≤ c ∧ c ≤ wholeI m)
def tV (m c : Int) : Int := if okT m c then m - c * 1000000 else 0
def tE (m c : Int) : Int := if okT m c then 0 else 1

theorem okA_iff {h p r n : Int} : okA h p r n = true ↔ (0 ≤ h ∧ h ≤ 1000000000000000000 ∧ okD p r = true ∧ 0 ≤ n ∧ n ≤ 87658) := by
  unfold okA; simp only [Bool.and_eq_true, decide_eq_true_eq]; exact ⟨fun ⟨⟨⟨a, b⟩, c⟩, d, e⟩ => ⟨a, b, c, d, e⟩, fun ⟨a, b, c, d, e⟩ => ⟨⟨⟨a, b⟩, c⟩, d, e⟩⟩
theorem dV_yes {p r : Int} (h : okD p r = true) : dV p r = dayI p r ∧ dE p r = 0 := by unfold dV dE; rw [h]; exact ⟨rfl, rfl⟩
theorem dV_no {p r : Int} (h : okD p r = false) : dV p r = 0 ∧ dE p r = 1 := by unfold dV dE; rw [h]; exact ⟨rfl, rfl⟩
theorem aV_yes {h p r n : Int} (h1 : okA h p r n = true) (h2 : h + dayI p r * n ≤ 1000000000000000000) : aV h p r n = h + dayI p r * n ∧ aE h p r n = 0 := by
  unfold aV aE; rw [if_pos h1, if_pos h1, if_pos h2, if_pos h2]; exact ⟨rfl, rfl⟩
theorem aV_over {h p r n : Int} (h1 : okA h p r n = true) (h2 : ¬ h + dayI p r * n ≤ 1000000000000000000) : aV h p r n = 0 ∧ aE h p r n = 14 := by
  unfold aV aE; rw [if_pos h1, if_pos h1, if_neg h2, if_neg h2]; exact ⟨rfl, rfl⟩
theorem aV_no {h p r n : Int} (h1 : okA h p r n = false) : aV h p r n = 0 ∧ aE h p r n = 1 := by
  unfold aV aE; rw [h1]; exact ⟨rfl, rfl⟩
theorem tV_yes {m c : Int} (h : okT m c = true) : tV m c = m - c * 1000000 ∧ tE m c = 0 := by unfold tV tE; rw [h]; exact ⟨rfl, rfl⟩
theorem tV_no {m c : Int} (h : okT m c = false) : tV m c = 0 ∧ tE m c = 1 := by unfold tV tE; rw [h]; exact ⟨rfl, rfl⟩
theorem prod_le {p r : Int} (h : okD p r = true) : 0 ≤ p * r ∧ p * r ≤ 10000000000000000000 := by
  obtain ⟨a, b, c, d⟩ := okD_iff.1 h
  refine ⟨Int.mul_nonneg a c, ?_⟩
  have := Int.mul_le_mul b d c (by omega)
  omega
theorem dayI_le {p r : Int} (h : okD p r = true) : 0 ≤ dayI p r ∧ dayI p r ≤ 27397260273972602 := by
  obtain ⟨a, b⟩ := prod_le h
  unfold dayI; omega
theorem days_le {d n : Int} (h0 : 0 ≤ d) (h1 : d ≤ 27397260273972602) (n0 : 0 ≤ n) (n1 : n ≤ 87658) : 0 ≤ d * n ∧ d * n ≤ 2401589041095890346116 := by
  refine ⟨Int.mul_nonneg h0 n0, ?_⟩
  have := Int.mul_le_mul h1 n1 n0 (by omega)
  omega
theorem wholeI_le (m : Int) (h : m ≤ 9223372036854775807) : 0 ≤ wholeI m ∧ wholeI m ≤ 9223372036854 ∧ wholeI m * 1000000 ≤ max m 0 := by
  unfold wholeI; split <;> omega

theorem ret_b {a b : Bool} (h : a = b) : Ending.returned (.bool a) = .returned (.bool b) := by rw [h]

theorem div_small (a c : Int) (w : World) (a0 : 0 ≤ a) (a1 : a ≤ 18446744073709551615) (c0 : 0 < c) (c1 : c ≤ 18446744073709551615) :
    Calls Tryz.prog 129 #[.int .u64 0, .int .u64 a, .int .u64 c] w fun e w' => e = .returned (.tuple #[.int .u64 (a / c), .int .u64 (a % c), .bool true]) ∧ ∃ n, w' = w.drewN n := by
  have t := Money.div_ok 0 a c w (by omega) c0 c1 a0 a1
  rw [Int.zero_mul, Int.zero_add] at t
  exact t

theorem mul_small (a b : Int) (w : World) (a0 : 0 ≤ a) (a1 : a ≤ 18446744073709551615) (b0 : 0 ≤ b) (b1 : b ≤ 18446744073709551615) (h : a * b ≤ 18446744073709551615) :
    Calls Tryz.prog 128 #[.int .u64 a, .int .u64 b] w fun e w' => e = .returned (.tuple #[.int .u64 0, .int .u64 (a * b)]) ∧ w = w' := by
  have t := Money.mul_any a b w a0 a1 b0 b1
  have h0 := Int.mul_nonneg a0 b0
  rw [Int.ediv_eq_zero_of_lt h0 (by omega), Int.emod_eq_of_lt h0 (by omega)] at t
  exact t

theorem whole_any (m : Int) (w : World) (h : m ≤ 9223372036854775807) : Calls Tryz.prog 155 #[.int .i64 m] w fun e w' => e = .returned (.int .i64 (wholeI m)) ∧ w = w' := by
  by_cases h1 : m < 0
  · have E : Hid (wholeI m = 0) := by show wholeI m = 0; unfold wholeI; rw [if_pos h1]
    have M : max m 0 = 0 := by omega
    rw [E.out]
    go_enter Tryz.func155, Tryz.ntmps155
    go_wp2
    go_ret
    exact ⟨rfl, rfl⟩
  · have E : Hid (wholeI m = m / 1000000) := by show wholeI m = m / 1000000; unfold wholeI; rw [if_neg h1]
    have M : max m 0 = m := by omega
    rw [E.out]
    go_enter Tryz.func155, Tryz.ntmps155
    go_wp2
    go_ret
    exact ⟨rfl, rfl⟩

/-- The panic of what goes beyond. -/
def beyond : List PanicEntry := [{ v := .iface 24 (.int .i64 14), recovered := false }]

end Go.Proofs.YtkddiaiohnbjpaaGreatDoor.Accr
namespace Go.Proofs.YtkddiaiohnbjpaaGreatDoor.Loan
open Go.ChangeShapes Go.WideShapes Go.ChangeAt Go.RowKit Accr Box

structure Ln where
  id : Int
  prin : Int
  intr : Int
  subs : Int
  fees : Int
  ppm : Int
  subd : Bool
  status : Int
  closed : Int
  entered : Int
  level : Int
  far : Int
  count : Int
def ln0 : Ln := ⟨0, 0, 0, 0, 0, 0, false, 0, 0, 0, 0, 0, 0⟩
/-- Its cells. -/
def Ln.cells (l : Ln) : Array Value := #[.int .i64 l.id, .int .i64 l.prin, .int .i64 l.intr, .int .i64 l.subs, .int .i64 l.fees, .int .i64 l.ppm, .bool l.subd, .int .i64 l.status, .int .i64 l.closed, .int .i64 l.entered, .int .i64 l.level, .int .i64 l.far, .int .i64 l.count]
/-- Are all fields alike? -/
def eqL (a b : Ln) : Bool := decide (a.id = b.id ∧ a.prin = b.prin ∧ a.intr = b.intr ∧ a.subs = b.subs ∧ a.fees = b.fees ∧ a.ppm = b.ppm ∧ a.subd = b.subd ∧ a.status = b.status ∧ a.closed = b.closed ∧ a.entered = b.entered ∧ a.level = b.level ∧ a.far = b.far ∧ a.count = b.count)
theorem eqL_iff {a b : Ln} : eqL a b = true ↔ a = b := by
  unfold eqL
  rw [decide_eq_true_iff]
  constructor
  · intro h
    cases a; cases b
    simp only [Ln.mk.injEq]
    exact h
  · rintro rfl
    exact ⟨rfl, rfl, rfl, rfl, rfl, rfl, rfl, rfl, rfl, rfl, rfl, rfl, rfl⟩
theorem eqL_self (a : Ln) : eqL a a = true := eqL_iff.2 rfl
/-- Is n from a to b? -/
def wB (n a b : Int) : Bool := decide (a ≤ n ∧ n ≤ b)
theorem wB_iff {n a b : Int} : wB n a b = true ↔ a ≤ n ∧ n ≤ b := by unfold wB; rw [decide_eq_true_iff]
theorem wB_not {n a b : Int} : wB n a b = false ↔ ¬ (a ≤ n ∧ n ≤ b) := by unfold wB; rw [decide_eq_false_iff_not]
def balB (l : Ln) : Bool := wB l.prin 0 10000000000000 && wB l.fees 0 10000000000000 && wB l.intr 0 1000000000000000000 && wB l.subs 0 1000000000000000000
def termB (l : Ln) : Bool := wB l.ppm 0 1000000 && wB l.status 1 5 && wB l.closed 0 4 && wB l.entered (-1) 87658 && wB l.level 0 10000000000000 && wB l.far 0 10000000000000 && decide (0 ≤ l.count)
def openB (l : Ln) : Bool := l.closed == 0
def emptyB (l : Ln) : Bool := l.prin == 0 && l.intr == 0 && l.fees == 0
/-- Is it good? -/
def goodL (l : Ln) : Bool := wB l.id 1 1000 && balB l && termB l && (openB l || emptyB l)
structure Good (l : Ln) : Prop where
  id0 : 1 ≤ l.id
  id1 : l.id ≤ 1000
  prin0 : 0 ≤ l.prin
  prin1 : l.prin ≤ 10000000000000
  fees0 : 0 ≤ l.fees
  fees1 : l.fees ≤ 10000000000000
  intr0 : 0 ≤ l.intr
  intr1 : l.intr ≤ 1000000000000000000
  subs0 : 0 ≤ l.subs
  subs1 : l.subs ≤ 1000000000000000000
  ppm0 : 0 ≤ l.ppm
  ppm1 : l.ppm ≤ 1000000
  status0 : 1 ≤ l.status
  status1 : l.status ≤ 5
  closed0 : 0 ≤ l.closed
  closed1 : l.closed ≤ 4
  entered0 : -1 ≤ l.entered
  entered1 : l.entered ≤ 87658
  level0 : 0 ≤ l.level
  level1 : l.level ≤ 10000000000000
  far0 : 0 ≤ l.far
  far1 : l.far ≤ 10000000000000
  count0 : 0 ≤ l.count
  empty : l.closed = 0 ∨ (l.prin = 0 ∧ l.intr = 0 ∧ l.fees = 0)
theorem goodL_iff {l : Ln} : goodL l = true ↔ Good l := by
  unfold goodL balB termB openB emptyB
  simp only [Bool.and_eq_true, Bool.or_eq_true, beq_iff_eq, wB_iff, decide_eq_true_iff]
  constructor
  · rintro ⟨⟨⟨⟨a0, a1⟩, ⟨⟨⟨b0, b1⟩, c0, c1⟩, d0, d1⟩, e0, e1⟩, ⟨⟨⟨⟨⟨⟨f0, f1⟩, g0, g1⟩, h0, h1⟩, i0, i1⟩, j0, j1⟩, k0, k1⟩, m0⟩, n⟩
    exact ⟨a0, a1, b0, b1, c0, c1, d0, d1, e0, e1, f0, f1, g0, g1, h0, h1, i0, i1, j0, j1, k0, k1, m0, n.imp id fun h => ⟨h.1.1, h.1.2, h.2⟩⟩
  · intro h
    exact ⟨⟨⟨⟨h.id0, h.id1⟩, ⟨⟨⟨h.prin0, h.prin1⟩, h.fees0, h.fees1⟩, h.intr0, h.intr1⟩, h.subs0, h.subs1⟩, ⟨⟨⟨⟨⟨⟨h.ppm0, h.ppm1⟩, h.status0, h.status1⟩, h.closed0, h.closed1⟩, h.entered0, h.entered1⟩, h.level0, h.level1⟩, h.far0, h.far1⟩, h.count0⟩, h.empty.imp id fun h => ⟨⟨h.1, h.2.1⟩, h.2.2⟩⟩
/-- The whole cents of interest. -/
def centsL (l : Ln) : Int := wholeI l.intr
def sumL (l : Ln) : Int := l.prin + l.fees + centsL l
def owesR (l : Ln) : Int × Int := if goodL l then (if sumL l ≤ 10000000000000 then (sumL l, 0) else (0, 14)) else (0, 1)
def sparedB (l : Ln) : Bool := l.subd && decide (l.status ≤ 3)
def dayB (d : Int) : Bool := wB d 0 87658
/-- The interest of some days more, on an open loan. -/
def accO (l : Ln) (d : Int) : Ln × Int :=
  if sparedB l then (if aE l.subs l.prin l.ppm d = 0 then ({ l with subs := aV l.subs l.prin l.ppm d }, 0) else (ln0, aE l.subs l.prin l.ppm d))
  else (if aE l.intr l.prin l.ppm d = 0 then ({ l with intr := aV l.intr l.prin l.ppm d }, 0) else (ln0, aE l.intr l.prin l.ppm d))
def accR (l : Ln) (d : Int) : Ln × Int := if goodL l && dayB d then (if openB l then accO l d else (l, 0)) else (ln0, 1)
/-- Capitalized. -/
def capL (l : Ln) : Ln := { l with prin := l.prin + centsL l, intr := l.intr - centsL l * 1000000 }
def capO (l : Ln) : Ln × Int := if l.prin + centsL l ≤ 10000000000000 then (capL l, 0) else (ln0, 14)
def capR (l : Ln) : Ln × Int := if goodL l then (if openB l then capO l else (ln0, 61)) else (ln0, 1)
/-- May it turn into this status? -/
def mayB (l : Ln) (s : Int) : Bool := wB s 1 5 && !(s == l.status) && (if s = 1 then decide (l.entered < 0) && !(l.status == 2) else if s = 2 then decide (l.entered < 0) else true)
def turnO (l : Ln) (s d : Int) : Ln × Int :=
  if s = 5 then (if l.prin + centsL l ≤ 10000000000000 then ({ capL l with entered := d, status := s }, 0) else (ln0, 14)) else ({ l with status := s }, 0)
def turnR (l : Ln) (s d : Int) : Ln × Int := if goodL l && dayB d then (if openB l then (if mayB l s then turnO l s d else (ln0, 62)) else (ln0, 61)) else (ln0, 1)
def amountB (a : Int) : Bool := wB a 1 1000000000
def feeR (l : Ln) (a : Int) : Ln × Int := if goodL l && amountB a then (if openB l then (if l.fees + a ≤ 10000000000000 then ({ l with fees := l.fees + a }, 0) else (ln0, 14)) else (ln0, 61)) else (ln0, 1)
def drawR (l : Ln) (a : Int) : Ln × Int := if goodL l && amountB a then (if openB l then (if l.prin + a ≤ 10000000000000 then ({ l with prin := l.prin + a }, 0) else (ln0, 14)) else (ln0, 61)) else (ln0, 1)
/-- Closed as something. -/
def shutL (l : Ln) (how : Int) : Ln := { l with prin := 0, intr := 0, fees := 0, closed := how }
def notB (f i p : Int) : Bool := decide (0 ≤ f) && decide (0 ≤ i) && decide (0 ≤ p)
def hasB (l : Ln) (f i p : Int) : Bool := decide (f ≤ l.fees) && decide (i ≤ centsL l) && decide (p ≤ l.prin)
def lessL (l : Ln) (f i p : Int) : Ln := { l with fees := l.fees - f, intr := l.intr - i * 1000000, prin := l.prin - p }
def paidB (l : Ln) : Bool := l.fees == 0 && centsL l == 0 && l.prin == 0
def payO (l : Ln) (f i p : Int) : Ln := if paidB (lessL l f i p) then shutL (lessL l f i p) 1 else lessL l f i p
def payR (l : Ln) (f i p : Int) : Ln × Int := if goodL l && notB f i p then (if openB l then (if hasB l f i p then (payO l f i p, 0) else (ln0, 14)) else (ln0, 61)) else (ln0, 1)
/-- What Close tells: the loan, what it owed, the error. -/
def closeR (l : Ln) (how : Int) : Ln × Int × Int := if goodL l && wB how 1 4 then (if openB l then (if sumL l ≤ 10000000000000 then (shutL l how, sumL l, 0) else (ln0, 0, 14)) else (ln0, 0, 61)) else (ln0, 0, 1)
theorem ln_size (l : Ln) : l.cells.size = 13 := rfl
theorem ln_one (l : Ln) : l.cells.all (·.oneCell') = true := by simp [Ln.cells, Value.oneCell']
theorem ln_info (l : Ln) : (Tryz.prog.info? 23).map (·.size) = some l.cells.size := by
  show _ = some 13
  kernel_rfl
theorem ln_info' (l : Ln) : (Tryz.prog.info? 23).map (·.size) = some l.cells.toList.length := by
  show _ = some 13
  kernel_rfl
theorem i64_one : (Tryz.prog.info? 2).map (·.size) = some 1 := by kernel_rfl
theorem int_one : (Tryz.prog.info? 3).map (·.size) = some 1 := by kernel_rfl
theorem err_one : (Tryz.prog.info? 24).map (·.size) = some 1 := by kernel_rfl
end Go.Proofs.YtkddiaiohnbjpaaGreatDoor.Loan
namespace Go.Proofs.YtkddiaiohnbjpaaGreatDoor.Loan
open Go.ChangeShapes Go.WideShapes Go.ChangeAt Go.RowKit Accr Box

theorem cents_le {l : Ln} (h : Good l) : 0 ≤ centsL l ∧ centsL l ≤ 1000000000000 ∧ centsL l * 1000000 ≤ l.intr := by
  have h0 := h.intr0
  have h1 := h.intr1
  unfold centsL wholeI
  rw [if_neg (by omega)]
  omega
theorem aE_two {h p r n : Int} (hk : okA h p r n = true) : aE h p r n = 0 ∨ aE h p r n = 14 := by
  by_cases hs : h + dayI p r * n ≤ 1000000000000000000
  · exact Or.inl (aV_yes hk hs).2
  · exact Or.inr (aV_over hk hs).2
theorem aE_good {l : Ln} {d : Int} (hg : (goodL l && dayB d) = true) : (aE l.subs l.prin l.ppm d = 0 ∨ aE l.subs l.prin l.ppm d = 14) ∧ (aE l.intr l.prin l.ppm d = 0 ∨ aE l.intr l.prin l.ppm d = 14) := by
  obtain ⟨h1, h2⟩ := Bool.and_eq_true_iff.1 hg
  have G := goodL_iff.1 h1
  have D := wB_iff.1 (show wB d 0 87658 = true from h2)
  have O : okD l.prin l.ppm = true := okD_iff.2 ⟨G.prin0, G.prin1, G.ppm0, G.ppm1⟩
  exact ⟨aE_two (okA_iff.2 ⟨G.subs0, G.subs1, O, D.1, D.2⟩), aE_two (okA_iff.2 ⟨G.intr0, G.intr1, O, D.1, D.2⟩)⟩
end Go.Proofs.YtkddiaiohnbjpaaGreatDoor.Loan
namespace Go.Proofs.YtkddiaiohnbjpaaGreatDoor.Loan
open Go.ChangeShapes Go.WideShapes Go.ChangeAt Go.RowKit Accr Box

theorem acc_sub {l : Ln} {d : Int} (hg : goodL l = true) (hd : dayB d = true) (ho : openB l = true) (hs : sparedB l = true) :
    (l.subs + dayI l.prin l.ppm * d ≤ 1000000000000000000 → accR l d = ({ l with subs := l.subs + dayI l.prin l.ppm * d }, 0)) ∧ (¬ l.subs + dayI l.prin l.ppm * d ≤ 1000000000000000000 → accR l d = (ln0, 14)) := by
  have G := goodL_iff.1 hg
  have D := wB_iff.1 (show wB d 0 87658 = true from hd)
  have O : okD l.prin l.ppm = true := okD_iff.2 ⟨G.prin0, G.prin1, G.ppm0, G.ppm1⟩
  have hk : okA l.subs l.prin l.ppm d = true := okA_iff.2 ⟨G.subs0, G.subs1, O, D.1, D.2⟩
  constructor
  · intro h
    obtain ⟨h1, h2⟩ := aV_yes hk h
    unfold accR accO
    simp [hg, hd, ho, hs, h1, h2]
  · intro h
    obtain ⟨h1, h2⟩ := aV_over hk h
    unfold accR accO
    simp [hg, hd, ho, hs, h2]
theorem acc_int {l : Ln} {d : Int} (hg : goodL l = true) (hd : dayB d = true) (ho : openB l = true) (hs : sparedB l = false) :
    (l.intr + dayI l.prin l.ppm * d ≤ 1000000000000000000 → accR l d = ({ l with intr := l.intr + dayI l.prin l.ppm * d }, 0)) ∧ (¬ l.intr + dayI l.prin l.ppm * d ≤ 1000000000000000000 → accR l d = (ln0, 14)) := by
  have G := goodL_iff.1 hg
  have D := wB_iff.1 (show wB d 0 87658 = true from hd)
  have O : okD l.prin l.ppm = true := okD_iff.2 ⟨G.prin0, G.prin1, G.ppm0, G.ppm1⟩
  have hk : okA l.intr l.prin l.ppm d = true := okA_iff.2 ⟨G.intr0, G.intr1, O, D.1, D.2⟩
  constructor
  · intro h
    obtain ⟨h1, h2⟩ := aV_yes hk h
    unfold accR accO
    simp [hg, hd, ho, hs, h1, h2]
  · intro h
    obtain ⟨h1, h2⟩ := aV_over hk h
    unfold accR accO
    simp [hg, hd, ho, hs, h2]
theorem acc_shut {l : Ln} {d : Int} (hg : goodL l = true) (hd : dayB d = true) (ho : openB l = false) : accR l d = (l, 0) := by
  unfold accR
  simp [hg, hd, ho]
theorem acc_bad {l : Ln} {d : Int} (hg : goodL l = false) : accR l d = (ln0, 1) := by
  unfold accR
  simp [hg]
theorem dayI_nn {l : Ln} (hg : goodL l = true) : 0 ≤ dayI l.prin l.ppm := by
  have G := goodL_iff.1 hg
  exact (dayI_le (okD_iff.2 ⟨G.prin0, G.prin1, G.ppm0, G.ppm1⟩)).1
/-- The ways of days and days more. -/
theorem days_ways {l : Ln} {x y : Int} (x0 : 0 ≤ x) (x1 : x ≤ 65535) (y0 : 0 ≤ y) (y1 : y ≤ 19999) :
    (∃ e, e ≠ 0 ∧ (accR l (x + y)).2 = e ∧ (accR l x).2 = e) ∨ ((accR l x).2 = 0 ∧ (accR l (x + y)).2 = 14) ∨
    ((accR l x).2 = 0 ∧ (accR l (x + y)).2 = 0 ∧ accR (accR l x).1 y = accR l (x + y) ∧ (accR l (x + y)).1.prin = l.prin ∧ l.intr ≤ (accR l (x + y)).1.intr ∧ l.subs ≤ (accR l (x + y)).1.subs ∧ (l.closed ≠ 0 → (accR l (x + y)).1 = l)) := by
  cases hg : goodL l with
  | false => exact Or.inl ⟨1, by decide, by rw [acc_bad hg], by rw [acc_bad hg]⟩
  | true =>
    have dx : dayB x = true := wB_iff.2 ⟨x0, by omega⟩
    have dy : dayB y = true := wB_iff.2 ⟨y0, by omega⟩
    have dz : dayB (x + y) = true := wB_iff.2 ⟨by omega, by omega⟩
    have hc : openB l = true → l.closed = 0 := fun h => by unfold openB at h; simpa using h
    cases ho : openB l with
    | false =>
      rw [acc_shut hg dx ho, acc_shut hg dz ho]
      exact Or.inr (Or.inr ⟨rfl, rfl, acc_shut hg dy ho, rfl, Int.le_refl _, Int.le_refl _, fun _ => rfl⟩)
    | true =>
      have hd := dayI_nn hg
      have m1 := Int.mul_nonneg hd x0
      have m2 := Int.mul_nonneg hd y0
      have m3 : dayI l.prin l.ppm * (x + y) = dayI l.prin l.ppm * x + dayI l.prin l.ppm * y := Int.mul_add _ _ _
      have G := goodL_iff.1 hg
      cases hs : sparedB l with
      | true =>
        obtain ⟨p1, p2⟩ := acc_sub hg dx ho hs
        obtain ⟨q1, q2⟩ := acc_sub hg dz ho hs
        by_cases h1 : l.subs + dayI l.prin l.ppm * x ≤ 1000000000000000000
        · by_cases h2 : l.subs + dayI l.prin l.ppm * (x + y) ≤ 1000000000000000000
          · rw [p1 h1, q1 h2]
            refine Or.inr (Or.inr ⟨rfl, rfl, ?_, rfl, ?_, ?_, fun h => absurd (hc ho) h⟩)
            · have hg2 : goodL ({ l with subs := l.subs + dayI l.prin l.ppm * x } : Ln) = true := goodL_iff.2 { G with subs0 := by have := G.subs0; show 0 ≤ l.subs + dayI l.prin l.ppm * x; omega, subs1 := h1, empty := Or.inl (hc ho) }
              have h3 := (acc_sub (l := ({ l with subs := l.subs + dayI l.prin l.ppm * x } : Ln)) hg2 dy ho hs).1 (by show l.subs + dayI l.prin l.ppm * x + dayI l.prin l.ppm * y ≤ 1000000000000000000; omega)
              rw [h3]
              show (({ l with subs := l.subs + dayI l.prin l.ppm * x + dayI l.prin l.ppm * y } : Ln), (0 : Int)) = _
              rw [m3, Int.add_assoc]
            · show l.intr ≤ l.intr
              omega
            · show l.subs ≤ l.subs + dayI l.prin l.ppm * (x + y)
              omega
          · rw [p1 h1, q2 h2]
            exact Or.inr (Or.inl ⟨rfl, rfl⟩)
        · rw [p2 h1, q2 (by omega)]
          exact Or.inl ⟨14, by decide, rfl, rfl⟩
      | false =>
        obtain ⟨p1, p2⟩ := acc_int hg dx ho hs
        obtain ⟨q1, q2⟩ := acc_int hg dz ho hs
        by_cases h1 : l.intr + dayI l.prin l.ppm * x ≤ 1000000000000000000
        · by_cases h2 : l.intr + dayI l.prin l.ppm * (x + y) ≤ 1000000000000000000
          · rw [p1 h1, q1 h2]
            refine Or.inr (Or.inr ⟨rfl, rfl, ?_, rfl, ?_, ?_, fun h => absurd (hc ho) h⟩)
            · have hg2 : goodL ({ l with intr := l.intr + dayI l.prin l.ppm * x } : Ln) = true := goodL_iff.2 { G with intr0 := by have := G.intr0; show 0 ≤ l.intr + dayI l.prin l.ppm * x; omega, intr1 := h1, empty := Or.inl (hc ho) }
              have h3 := (acc_int (l := ({ l with intr := l.intr + dayI l.prin l.ppm * x } : Ln)) hg2 dy ho hs).1 (by show l.intr + dayI l.prin l.ppm * x + dayI l.prin l.ppm * y ≤ 1000000000000000000; omega)
              rw [h3]
              show (({ l with intr := l.intr + dayI l.prin l.ppm * x + dayI l.prin l.ppm * y } : Ln), (0 : Int)) = _
              rw [m3, Int.add_assoc]
            · show l.intr ≤ l.intr + dayI l.prin l.ppm * (x + y)
              omega
            · show l.subs ≤ l.subs
              omega
          · rw [p1 h1, q2 h2]
            exact Or.inr (Or.inl ⟨rfl, rfl⟩)
        · rw [p2 h1, q2 (by omega)]
          exact Or.inl ⟨14, by decide, rfl, rfl⟩
end Go.Proofs.YtkddiaiohnbjpaaGreatDoor.Loan
namespace Go.Proofs.YtkddiaiohnbjpaaGreatDoor.Loan
open Go.ChangeShapes Go.WideShapes Go.ChangeAt Go.RowKit

theorem one_i : Tryz.prog.cellsOf 3 = 1 := by kernel_rfl
theorem one_l : Tryz.prog.cellsOf 2 = 1 := by kernel_rfl
theorem one_b : Tryz.prog.cellsOf 4 = 1 := by kernel_rfl
theorem ln_many : Tryz.prog.cellsOf 23 = 13 := by kernel_rfl
theorem wf_i64 {z : Int} (h : (Lit.int .i64 z).wf = true) : -9223372036854775808 ≤ z ∧ z ≤ 9223372036854775807 := by simpa [Lit.wf, IntKind.min, IntKind.max, IntKind.bits, IntKind.signed] using h
/-- What its fields may be. -/
structure Ln.Fit (l : Ln) : Prop where
  id : -9223372036854775808 ≤ l.id ∧ l.id ≤ 9223372036854775807
  prin : -9223372036854775808 ≤ l.prin ∧ l.prin ≤ 9223372036854775807
  intr : -9223372036854775808 ≤ l.intr ∧ l.intr ≤ 9223372036854775807
  subs : -9223372036854775808 ≤ l.subs ∧ l.subs ≤ 9223372036854775807
  fees : -9223372036854775808 ≤ l.fees ∧ l.fees ≤ 9223372036854775807
  ppm : -9223372036854775808 ≤ l.ppm ∧ l.ppm ≤ 9223372036854775807
  status : -9223372036854775808 ≤ l.status ∧ l.status ≤ 9223372036854775807
  closed : -9223372036854775808 ≤ l.closed ∧ l.closed ≤ 9223372036854775807
  entered : -9223372036854775808 ≤ l.entered ∧ l.entered ≤ 9223372036854775807
  level : -9223372036854775808 ≤ l.level ∧ l.level ≤ 9223372036854775807
  far : -9223372036854775808 ≤ l.far ∧ l.far ≤ 9223372036854775807
  count : -9223372036854775808 ≤ l.count ∧ l.count ≤ 9223372036854775807
section
variable {H : Type} {enc : TypeId × Value → H} {w : World} {base : Nat} {spare : Nat → Bool} {held : Bool} {fuel : Nat} {x : DataW H × List MemPlace} {cs : List Value}
set_option maxRecDepth 20000 in
theorem ln_cells (h : DataW.trod enc Tryz.prog w base spare held fuel 23 cs = some x) : ∃ l : Ln, cs = l.cells.toList ∧ l.Fit := by
  obtain ⟨xs, q, -, -, hlen, hxl, hall⟩ := DataW.trod_struct Tryz.underlying23 h
  rw [ln_many] at hlen
  match xs, hxl, cs, hlen with
  | [y0, y1, y2, y3, y4, y5, y6, y7, y8, y9, y10, y11, y12], _, [v0, v1, v2, v3, v4, v5, v6, v7, v8, v9, v10, v11, v12], _ =>
    have k0 := hall 0 _ rfl
    simp [one_i] at k0
    obtain ⟨z0, q0, -, w0⟩ := DataW.trod_int Tryz.underlying3 k0
    have w0 := wf_i64 w0
    have k1 := hall 1 _ rfl
    simp [one_l] at k1
    obtain ⟨z1, q1, -, w1⟩ := DataW.trod_int Tryz.underlying2 k1
    have w1 := wf_i64 w1
    have k2 := hall 2 _ rfl
    simp [one_l] at k2
    obtain ⟨z2, q2, -, w2⟩ := DataW.trod_int Tryz.underlying2 k2
    have w2 := wf_i64 w2
    have k3 := hall 3 _ rfl
    simp [one_l] at k3
    obtain ⟨z3, q3, -, w3⟩ := DataW.trod_int Tryz.underlying2 k3
    have w3 := wf_i64 w3
    have k4 := hall 4 _ rfl
    simp [one_l] at k4
    obtain ⟨z4, q4, -, w4⟩ := DataW.trod_int Tryz.underlying2 k4
    have w4 := wf_i64 w4
    have k5 := hall 5 _ rfl
    simp [one_i] at k5
    obtain ⟨z5, q5, -, w5⟩ := DataW.trod_int Tryz.underlying3 k5
    have w5 := wf_i64 w5
    have k6 := hall 6 _ rfl
    simp [one_b] at k6
    obtain ⟨z6, q6, -⟩ := DataW.trod_bool Tryz.underlying4 k6
    have k7 := hall 7 _ rfl
    simp [one_i] at k7
    obtain ⟨z7, q7, -, w7⟩ := DataW.trod_int Tryz.underlying3 k7
    have w7 := wf_i64 w7
    have k8 := hall 8 _ rfl
    simp [one_i] at k8
    obtain ⟨z8, q8, -, w8⟩ := DataW.trod_int Tryz.underlying3 k8
    have w8 := wf_i64 w8
    have k9 := hall 9 _ rfl
    simp [one_i] at k9
    obtain ⟨z9, q9, -, w9⟩ := DataW.trod_int Tryz.underlying3 k9
    have w9 := wf_i64 w9
    have k10 := hall 10 _ rfl
    simp [one_l] at k10
    obtain ⟨z10, q10, -, w10⟩ := DataW.trod_int Tryz.underlying2 k10
    have w10 := wf_i64 w10
    have k11 := hall 11 _ rfl
    simp [one_l] at k11
    obtain ⟨z11, q11, -, w11⟩ := DataW.trod_int Tryz.underlying2 k11
    have w11 := wf_i64 w11
    have k12 := hall 12 _ rfl
    simp [one_i] at k12
    obtain ⟨z12, q12, -, w12⟩ := DataW.trod_int Tryz.underlying3 k12
    have w12 := wf_i64 w12
    simp only [List.cons.injEq, and_true] at q0 q1 q2 q3 q4 q5 q6 q7 q8 q9 q10 q11 q12
    subst q0 q1 q2 q3 q4 q5 q6 q7 q8 q9 q10 q11 q12
    exact ⟨⟨z0, z1, z2, z3, z4, z5, z6, z7, z8, z9, z10, z11, z12⟩, rfl, ⟨w0, w1, w2, w3, w4, w5, w7, w8, w9, w10, w11, w12⟩⟩
end
section
variable {H : Type} {enc : TypeId × Value → H} {w : World} {base b0 : Nat} {spare : Nat → Bool} {held : Bool} {r : Reach} {v : Value} {d : DataW H} {ps : List MemPlace}
set_option maxRecDepth 20000 in
theorem open_ln (hval : Value.okWide Tryz.prog w r b0 23 v) (hd : DataW.Trod enc Tryz.prog w base spare held 23 v d ps) : ∃ l : Ln, v = .agg l.cells ∧ l.Fit := by
  obtain ⟨l, rfl, -, -⟩ : ∃ l, v = .agg l ∧ l.size = Tryz.prog.cellsOf 23 ∧ Row.okWide Tryz.prog w r b0 23 l := by
    simpa [Value.okWide, Tryz.underlying23] using hval
  obtain ⟨fuel, hf⟩ := hd
  obtain ⟨e, he, hF⟩ := ln_cells hf
  exact ⟨e, by rw [show l = e.cells from Array.toList_inj.1 (by simpa [Value.cells] using he)], hF⟩
end
end Go.Proofs.YtkddiaiohnbjpaaGreatDoor.Loan
namespace Go.Proofs.YtkddiaiohnbjpaaGreatDoor.Loan
open Go.ChangeShapes Go.WideShapes Go.ChangeAt Go.RowKit Accr Box

theorem within_i (n a b : Int) (w : World) : Calls Tryz.prog 55 #[.int .i64 n, .int .i64 a, .int .i64 b] w fun e w' => e = .returned (.bool (wB n a b)) ∧ w = w' := by
  obtain ⟨B, hB⟩ : ∃ B : Bool, B = wB n a b := ⟨_, rfl⟩
  rw [← hB]
  by_cases h1 : a ≤ n
  · by_cases h2 : n ≤ b
    · have H : Hid (B = true) := hB.trans (wB_iff.2 ⟨h1, h2⟩)
      clear hB
      go_enter Tryz.func55, Tryz.ntmps55
      go_wp2
      go_ret
      exact ⟨ret_b H.out.symm, rfl⟩
    · have H : Hid (B = false) := hB.trans (wB_not.2 fun h => h2 h.2)
      clear hB
      go_enter Tryz.func55, Tryz.ntmps55
      go_wp2
      go_ret
      exact ⟨ret_b H.out.symm, rfl⟩
  · have H : Hid (B = false) := hB.trans (wB_not.2 fun h => h1 h.1)
    clear hB
    go_enter Tryz.func55, Tryz.ntmps55
    go_wp2
    go_ret
    exact ⟨ret_b H.out.symm, rfl⟩
theorem within_l (n a b : Int) (w : World) : Calls Tryz.prog 127 #[.int .i64 n, .int .i64 a, .int .i64 b] w fun e w' => e = .returned (.bool (wB n a b)) ∧ w = w' := by
  obtain ⟨B, hB⟩ : ∃ B : Bool, B = wB n a b := ⟨_, rfl⟩
  rw [← hB]
  by_cases h1 : a ≤ n
  · by_cases h2 : n ≤ b
    · have H : Hid (B = true) := hB.trans (wB_iff.2 ⟨h1, h2⟩)
      clear hB
      go_enter Tryz.func127, Tryz.ntmps127
      go_wp2
      go_ret
      exact ⟨ret_b H.out.symm, rfl⟩
    · have H : Hid (B = false) := hB.trans (wB_not.2 fun h => h2 h.2)
      clear hB
      go_enter Tryz.func127, Tryz.ntmps127
      go_wp2
      go_ret
      exact ⟨ret_b H.out.symm, rfl⟩
  · have H : Hid (B = false) := hB.trans (wB_not.2 fun h => h1 h.1)
    clear hB
    go_enter Tryz.func127, Tryz.ntmps127
    go_wp2
    go_ret
    exact ⟨ret_b H.out.symm, rfl⟩
theorem micro_c (n : Int) (w : World) : Calls Tryz.prog 100 #[.int .i64 n] w fun e w' => e = .returned (.bool (wB n 0 1000000000000000000)) ∧ w = w' := by
  have K := Lib.hid (fun W => within_l n 0 1000000000000000000 W)
  generalize wB n 0 1000000000000000000 = B at *
  go_enter Tryz.func100, Tryz.ntmps100
  go_wp2_with fail
  refine (K.out _).mono ?_
  rintro e w' ⟨rfl, rfl⟩
  go_wp2_with fail
  go_ret
  exact ⟨rfl, rfl⟩
theorem status_c (n : Int) (w : World) : Calls Tryz.prog 101 #[.int .i64 n] w fun e w' => e = .returned (.bool (wB n 1 5)) ∧ w = w' := by
  have K := Lib.hid (fun W => within_i n 1 5 W)
  generalize wB n 1 5 = B at *
  go_enter Tryz.func101, Tryz.ntmps101
  go_wp2_with fail
  refine (K.out _).mono ?_
  rintro e w' ⟨rfl, rfl⟩
  go_wp2_with fail
  go_ret
  exact ⟨rfl, rfl⟩
theorem money_c (n : Int) (w : World) : Calls Tryz.prog 99 #[.int .i64 n] w fun e w' => e = .returned (.bool (wB n 0 10000000000000)) ∧ w = w' := by
  by_cases h0 : 0 ≤ n
  · have hq : Money.goodB n = wB n 0 10000000000000 := by
      rw [Bool.eq_iff_iff, Money.goodB_iff, wB_iff]; omega
    have K := Lib.hid (fun W => Money.good_any n W)
    rw [hq] at K
    clear hq
    generalize wB n 0 10000000000000 = B at *
    go_enter Tryz.func99, Tryz.ntmps99
    go_wp2_with fail
    refine (K.out _).mono ?_
    rintro e w' ⟨rfl, rfl⟩
    go_wp2_with fail
    go_ret
    exact ⟨rfl, rfl⟩
  · rw [show wB n 0 10000000000000 = false from wB_not.2 fun h => h0 h.1]
    go_enter Tryz.func99, Tryz.ntmps99
    go_wp2
    go_ret
    exact ⟨rfl, rfl⟩
theorem bal_c (l : Ln) (w : World) : Calls Tryz.prog 56 #[.agg l.cells] w fun e w' => e = .returned (.bool (balB l)) ∧ Below w.heap.size w w' := by
  unfold balB
  obtain ⟨g, wb, e1, e2, hB, hb⟩ := boxd_new w l.cells 23
  have c1 : wb.cell? ⟨g, 1, none⟩ = some (.int .i64 l.prin) := hB.cell
  have c4 : wb.cell? ⟨g, 4, none⟩ = some (.int .i64 l.fees) := hB.cell
  have c2 : wb.cell? ⟨g, 2, none⟩ = some (.int .i64 l.intr) := hB.cell
  have c3 : wb.cell? ⟨g, 3, none⟩ = some (.int .i64 l.subs) := hB.cell
  have HW := Lib.hid hb
  clear hB hb
  have K0 := Lib.hid (fun W => money_c l.prin W)
  have K1 := Lib.hid (fun W => money_c l.fees W)
  have K2 := Lib.hid (fun W => micro_c l.intr W)
  have K3 := Lib.hid (fun W => micro_c l.subs W)
  generalize wB l.prin 0 10000000000000 = b0 at *
  generalize wB l.fees 0 10000000000000 = b1 at *
  generalize wB l.intr 0 1000000000000000000 = b2 at *
  generalize wB l.subs 0 1000000000000000000 = b3 at *
  generalize l.prin = x1 at *
  generalize l.fees = x4 at *
  generalize l.intr = x2 at *
  generalize l.subs = x3 at *
  generalize l.cells = C at *
  go_enter Tryz.func56, Tryz.ntmps56
  go_upto_region 1 with fail
  rw [← e2, ← e1]
  clear e1 e2
  cases b0 with
  | false =>
    go_wp2_with fail
    refine (K0.out _).mono ?_
    rintro e w' ⟨rfl, rfl⟩
    go_wp2_with fail
    go_ret
    exact ⟨rfl, HW.out⟩
  | true =>
    cases b1 with
    | false =>
      go_wp2_with fail
      refine (K0.out _).mono ?_
      rintro e w' ⟨rfl, rfl⟩
      go_wp2_with fail
      refine (K1.out _).mono ?_
      rintro e w' ⟨rfl, rfl⟩
      go_wp2_with fail
      go_ret
      exact ⟨rfl, HW.out⟩
    | true =>
      cases b2 with
      | false =>
        go_wp2_with fail
        refine (K0.out _).mono ?_
        rintro e w' ⟨rfl, rfl⟩
        go_wp2_with fail
        refine (K1.out _).mono ?_
        rintro e w' ⟨rfl, rfl⟩
        go_wp2_with fail
        refine (K2.out _).mono ?_
        rintro e w' ⟨rfl, rfl⟩
        go_wp2_with fail
        go_ret
        exact ⟨rfl, HW.out⟩
      | true =>
        go_wp2_with fail
        refine (K0.out _).mono ?_
        rintro e w' ⟨rfl, rfl⟩
        go_wp2_with fail
        refine (K1.out _).mono ?_
        rintro e w' ⟨rfl, rfl⟩
        go_wp2_with fail
        refine (K2.out _).mono ?_
        rintro e w' ⟨rfl, rfl⟩
        go_wp2_with fail
        refine (K3.out _).mono ?_
        rintro e w' ⟨rfl, rfl⟩
        go_wp2_with fail
        go_ret
        exact ⟨rfl, HW.out⟩
theorem term_c (l : Ln) (w : World) : Calls Tryz.prog 57 #[.agg l.cells] w fun e w' => e = .returned (.bool (termB l)) ∧ Below w.heap.size w w' := by
  unfold termB
  obtain ⟨g, wb, e1, e2, hB, hb⟩ := boxd_new w l.cells 23
  have c5 : wb.cell? ⟨g, 5, none⟩ = some (.int .i64 l.ppm) := hB.cell
  have c7 : wb.cell? ⟨g, 7, none⟩ = some (.int .i64 l.status) := hB.cell
  have c8 : wb.cell? ⟨g, 8, none⟩ = some (.int .i64 l.closed) := hB.cell
  have c9 : wb.cell? ⟨g, 9, none⟩ = some (.int .i64 l.entered) := hB.cell
  have c10 : wb.cell? ⟨g, 10, none⟩ = some (.int .i64 l.level) := hB.cell
  have c11 : wb.cell? ⟨g, 11, none⟩ = some (.int .i64 l.far) := hB.cell
  have c12 : wb.cell? ⟨g, 12, none⟩ = some (.int .i64 l.count) := hB.cell
  have HW := Lib.hid hb
  clear hB hb
  have K0 := Lib.hid (fun W => within_i l.ppm 0 1000000 W)
  have K1 := Lib.hid (fun W => status_c l.status W)
  have K2 := Lib.hid (fun W => within_i l.closed 0 4 W)
  have K3 := Lib.hid (fun W => within_i l.entered (-1) 87658 W)
  have K4 := Lib.hid (fun W => money_c l.level W)
  have K5 := Lib.hid (fun W => money_c l.far W)
  generalize wB l.ppm 0 1000000 = b0 at *
  generalize wB l.status 1 5 = b1 at *
  generalize wB l.closed 0 4 = b2 at *
  generalize wB l.entered (-1) 87658 = b3 at *
  generalize wB l.level 0 10000000000000 = b4 at *
  generalize wB l.far 0 10000000000000 = b5 at *
  obtain ⟨b6, t6⟩ : ∃ b6 : Bool, decide (0 ≤ l.count) = b6 := ⟨_, rfl⟩
  rw [t6]
  generalize l.ppm = x5 at *
  generalize l.status = x7 at *
  generalize l.closed = x8 at *
  generalize l.entered = x9 at *
  generalize l.level = x10 at *
  generalize l.far = x11 at *
  generalize l.count = x12 at *
  generalize l.cells = C at *
  go_enter Tryz.func57, Tryz.ntmps57
  go_upto_region 1 with fail
  rw [← e2, ← e1]
  clear e1 e2
  cases b0 with
  | false =>
    go_wp2_with fail
    refine (K0.out _).mono ?_
    rintro e w' ⟨rfl, rfl⟩
    go_wp2_with fail
    go_ret
    exact ⟨rfl, HW.out⟩
  | true =>
    cases b1 with
    | false =>
      go_wp2_with fail
      refine (K0.out _).mono ?_
      rintro e w' ⟨rfl, rfl⟩
      go_wp2_with fail
      refine (K1.out _).mono ?_
      rintro e w' ⟨rfl, rfl⟩
      go_wp2_with fail
      go_ret
      exact ⟨rfl, HW.out⟩
    | true =>
      cases b2 with
      | false =>
        go_wp2_with fail
        refine (K0.out _).mono ?_
        rintro e w' ⟨rfl, rfl⟩
        go_wp2_with fail
        refine (K1.out _).mono ?_
        rintro e w' ⟨rfl, rfl⟩
        go_wp2_with fail
        refine (K2.out _).mono ?_
        rintro e w' ⟨rfl, rfl⟩
        go_wp2_with fail
        go_ret
        exact ⟨rfl, HW.out⟩
      | true =>
        cases b3 with
        | false =>
          go_wp2_with fail
          refine (K0.out _).mono ?_
          rintro e w' ⟨rfl, rfl⟩
          go_wp2_with fail
          refine (K1.out _).mono ?_
          rintro e w' ⟨rfl, rfl⟩
          go_wp2_with fail
          refine (K2.out _).mono ?_
          rintro e w' ⟨rfl, rfl⟩
          go_wp2_with fail
          refine (K3.out _).mono ?_
          rintro e w' ⟨rfl, rfl⟩
          go_wp2_with fail
          go_ret
          exact ⟨rfl, HW.out⟩
        | true =>
          cases b4 with
          | false =>
            go_wp2_with fail
            refine (K0.out _).mono ?_
            rintro e w' ⟨rfl, rfl⟩
            go_wp2_with fail
            refine (K1.out _).mono ?_
            rintro e w' ⟨rfl, rfl⟩
            go_wp2_with fail
            refine (K2.out _).mono ?_
            rintro e w' ⟨rfl, rfl⟩
            go_wp2_with fail
            refine (K3.out _).mono ?_
            rintro e w' ⟨rfl, rfl⟩
            go_wp2_with fail
            refine (K4.out _).mono ?_
            rintro e w' ⟨rfl, rfl⟩
            go_wp2_with fail
            go_ret
            exact ⟨rfl, HW.out⟩
          | true =>
            cases b5 with
            | false =>
              go_wp2_with fail
              refine (K0.out _).mono ?_
              rintro e w' ⟨rfl, rfl⟩
              go_wp2_with fail
              refine (K1.out _).mono ?_
              rintro e w' ⟨rfl, rfl⟩
              go_wp2_with fail
              refine (K2.out _).mono ?_
              rintro e w' ⟨rfl, rfl⟩
              go_wp2_with fail
              refine (K3.out _).mono ?_
              rintro e w' ⟨rfl, rfl⟩
              go_wp2_with fail
              refine (K4.out _).mono ?_
              rintro e w' ⟨rfl, rfl⟩
              go_wp2_with fail
              refine (K5.out _).mono ?_
              rintro e w' ⟨rfl, rfl⟩
              go_wp2_with fail
              go_ret
              exact ⟨rfl, HW.out⟩
            | true =>
              go_wp2_with fail
              refine (K0.out _).mono ?_
              rintro e w' ⟨rfl, rfl⟩
              go_wp2_with fail
              refine (K1.out _).mono ?_
              rintro e w' ⟨rfl, rfl⟩
              go_wp2_with fail
              refine (K2.out _).mono ?_
              rintro e w' ⟨rfl, rfl⟩
              go_wp2_with fail
              refine (K3.out _).mono ?_
              rintro e w' ⟨rfl, rfl⟩
              go_wp2_with fail
              refine (K4.out _).mono ?_
              rintro e w' ⟨rfl, rfl⟩
              go_wp2_with fail
              refine (K5.out _).mono ?_
              rintro e w' ⟨rfl, rfl⟩
              go_wp2_with fail
              go_ret
              exact ⟨rfl, HW.out⟩
theorem open_c (l : Ln) (w : World) : Calls Tryz.prog 58 #[.agg l.cells] w fun e w' => e = .returned (.bool (openB l)) ∧ Below w.heap.size w w' := by
  unfold openB
  obtain ⟨g, wb, e1, e2, hB, hb⟩ := boxd_new w l.cells 23
  have c8 : wb.cell? ⟨g, 8, none⟩ = some (.int .i64 l.closed) := hB.cell
  have HW := Lib.hid hb
  clear hB hb
  generalize l.closed = x8 at *
  generalize l.cells = C at *
  go_enter Tryz.func58, Tryz.ntmps58
  go_upto_region 1 with fail
  rw [← e2, ← e1]
  clear e1 e2
  go_wp2
  go_ret
  exact ⟨rfl, HW.out⟩
theorem empty_c (l : Ln) (w : World) : Calls Tryz.prog 59 #[.agg l.cells] w fun e w' => e = .returned (.bool (emptyB l)) ∧ Below w.heap.size w w' := by
  unfold emptyB
  obtain ⟨g, wb, e1, e2, hB, hb⟩ := boxd_new w l.cells 23
  have c1 : wb.cell? ⟨g, 1, none⟩ = some (.int .i64 l.prin) := hB.cell
  have c2 : wb.cell? ⟨g, 2, none⟩ = some (.int .i64 l.intr) := hB.cell
  have c4 : wb.cell? ⟨g, 4, none⟩ = some (.int .i64 l.fees) := hB.cell
  have HW := Lib.hid hb
  clear hB hb
  generalize l.prin = x1 at *
  generalize l.intr = x2 at *
  generalize l.fees = x4 at *
  generalize l.cells = C at *
  obtain ⟨b0, t0⟩ : ∃ b0 : Bool, (x1 == 0) = b0 := ⟨_, rfl⟩
  obtain ⟨b1, t1⟩ : ∃ b1 : Bool, (x2 == 0) = b1 := ⟨_, rfl⟩
  obtain ⟨b2, t2⟩ : ∃ b2 : Bool, (x4 == 0) = b2 := ⟨_, rfl⟩
  rw [t0, t1, t2]
  go_enter Tryz.func59, Tryz.ntmps59
  go_upto_region 1 with fail
  rw [← e2, ← e1]
  clear e1 e2
  cases b0 with
  | false =>
    go_wp2_with fail
    go_ret
    exact ⟨rfl, HW.out⟩
  | true =>
    cases b1 with
    | false =>
      go_wp2_with fail
      go_ret
      exact ⟨rfl, HW.out⟩
    | true =>
      cases b2 with
      | false =>
        go_wp2_with fail
        go_ret
        exact ⟨rfl, HW.out⟩
      | true =>
        go_wp2_with fail
        go_ret
        exact ⟨rfl, HW.out⟩
theorem cents_c (l : Ln) (w : World) (h : l.intr ≤ 9223372036854775807) : Calls Tryz.prog 145 #[.agg l.cells] w fun e w' => e = .returned (.int .i64 (centsL l)) ∧ Below w.heap.size w w' := by
  obtain ⟨g, wb, e1, e2, hB, hb⟩ := boxd_new w l.cells 23
  have c2 : wb.cell? ⟨g, 2, none⟩ = some (.int .i64 l.intr) := hB.cell
  have HW := Lib.hid hb
  clear hB hb
  have K0 := Lib.hid (fun W => whole_any l.intr W h)
  clear h
  unfold centsL
  generalize wholeI l.intr = v at *
  generalize l.intr = x at *
  generalize l.cells = C at *
  go_enter Tryz.func145, Tryz.ntmps145
  go_upto_region 1 with fail
  rw [← e2, ← e1]
  clear e1 e2
  go_wp2_with fail
  refine (K0.out _).mono ?_
  rintro e w' ⟨rfl, rfl⟩
  go_wp2_with fail
  go_ret
  exact ⟨rfl, HW.out⟩
theorem good_c (l : Ln) (w : World) : Calls Tryz.prog 24 #[.agg l.cells] w fun e w' => e = .returned (.bool (goodL l)) ∧ Below w.heap.size w w' := by
  unfold goodL
  obtain ⟨g, wb, e1, e2, hB, hb⟩ := boxd_new w l.cells 23
  have c0 : wb.cell? ⟨g, 0, none⟩ = some (.int .i64 l.id) := hB.cell
  have HB := Lib.hid hB
  have HW := Lib.hid hb
  clear hB hb
  have K0 := Lib.hid (fun W => within_i l.id 1 1000 W)
  have K1 := Lib.hid (fun W => bal_c l W)
  have K2 := Lib.hid (fun W => term_c l W)
  have K3 := Lib.hid (fun W => open_c l W)
  have K4 := Lib.hid (fun W => empty_c l W)
  have HS := Lib.hid (ln_info l)
  generalize wB l.id 1 1000 = b0 at *
  generalize balB l = b1 at *
  generalize termB l = b2 at *
  generalize openB l = b3 at *
  generalize emptyB l = b4 at *
  generalize l.id = x at *
  generalize l.cells = C at *
  go_enter Tryz.func24, Tryz.ntmps24
  go_upto_region 1 with fail
  rw [← e2, ← e1]
  clear e1 e2
  cases b0 with
  | false =>
    go_wp2_with (first
      | (refine o_load rfl 23 _ rfl _ rfl _ _ _ HB.out Tryz.underlying23 rfl HS.out ?_)
      | (go_at_call 55; refine (K0.out _).mono ?_; rintro e y ⟨rfl, rfl⟩)
      | (go_at_call 56; refine (K1.out _).mono ?_; rintro e y ⟨rfl, hb⟩; replace HB := Lib.hid (HB.out.below hb); replace HW := Lib.hid (below_to HW.out hb); clear hb)
      | (go_at_call 57; refine (K2.out _).mono ?_; rintro e y ⟨rfl, hb⟩; replace HB := Lib.hid (HB.out.below hb); replace HW := Lib.hid (below_to HW.out hb); clear hb)
      | (go_at_call 58; refine (K3.out _).mono ?_; rintro e y ⟨rfl, hb⟩; replace HB := Lib.hid (HB.out.below hb); replace HW := Lib.hid (below_to HW.out hb); clear hb)
      | (go_at_call 59; refine (K4.out _).mono ?_; rintro e y ⟨rfl, hb⟩; replace HB := Lib.hid (HB.out.below hb); replace HW := Lib.hid (below_to HW.out hb); clear hb))
    go_ret
    exact ⟨rfl, HW.out⟩
  | true =>
    cases b1 with
    | false =>
      go_wp2_with (first
        | (refine o_load rfl 23 _ rfl _ rfl _ _ _ HB.out Tryz.underlying23 rfl HS.out ?_)
        | (go_at_call 55; refine (K0.out _).mono ?_; rintro e y ⟨rfl, rfl⟩)
        | (go_at_call 56; refine (K1.out _).mono ?_; rintro e y ⟨rfl, hb⟩; replace HB := Lib.hid (HB.out.below hb); replace HW := Lib.hid (below_to HW.out hb); clear hb)
        | (go_at_call 57; refine (K2.out _).mono ?_; rintro e y ⟨rfl, hb⟩; replace HB := Lib.hid (HB.out.below hb); replace HW := Lib.hid (below_to HW.out hb); clear hb)
        | (go_at_call 58; refine (K3.out _).mono ?_; rintro e y ⟨rfl, hb⟩; replace HB := Lib.hid (HB.out.below hb); replace HW := Lib.hid (below_to HW.out hb); clear hb)
        | (go_at_call 59; refine (K4.out _).mono ?_; rintro e y ⟨rfl, hb⟩; replace HB := Lib.hid (HB.out.below hb); replace HW := Lib.hid (below_to HW.out hb); clear hb))
      go_ret
      exact ⟨rfl, HW.out⟩
    | true =>
      cases b2 with
      | false =>
        go_wp2_with (first
          | (refine o_load rfl 23 _ rfl _ rfl _ _ _ HB.out Tryz.underlying23 rfl HS.out ?_)
          | (go_at_call 55; refine (K0.out _).mono ?_; rintro e y ⟨rfl, rfl⟩)
          | (go_at_call 56; refine (K1.out _).mono ?_; rintro e y ⟨rfl, hb⟩; replace HB := Lib.hid (HB.out.below hb); replace HW := Lib.hid (below_to HW.out hb); clear hb)
          | (go_at_call 57; refine (K2.out _).mono ?_; rintro e y ⟨rfl, hb⟩; replace HB := Lib.hid (HB.out.below hb); replace HW := Lib.hid (below_to HW.out hb); clear hb)
          | (go_at_call 58; refine (K3.out _).mono ?_; rintro e y ⟨rfl, hb⟩; replace HB := Lib.hid (HB.out.below hb); replace HW := Lib.hid (below_to HW.out hb); clear hb)
          | (go_at_call 59; refine (K4.out _).mono ?_; rintro e y ⟨rfl, hb⟩; replace HB := Lib.hid (HB.out.below hb); replace HW := Lib.hid (below_to HW.out hb); clear hb))
        go_ret
        exact ⟨rfl, HW.out⟩
      | true =>
        cases b3 with
        | true =>
          go_wp2_with (first
            | (refine o_load rfl 23 _ rfl _ rfl _ _ _ HB.out Tryz.underlying23 rfl HS.out ?_)
            | (go_at_call 55; refine (K0.out _).mono ?_; rintro e y ⟨rfl, rfl⟩)
            | (go_at_call 56; refine (K1.out _).mono ?_; rintro e y ⟨rfl, hb⟩; replace HB := Lib.hid (HB.out.below hb); replace HW := Lib.hid (below_to HW.out hb); clear hb)
            | (go_at_call 57; refine (K2.out _).mono ?_; rintro e y ⟨rfl, hb⟩; replace HB := Lib.hid (HB.out.below hb); replace HW := Lib.hid (below_to HW.out hb); clear hb)
            | (go_at_call 58; refine (K3.out _).mono ?_; rintro e y ⟨rfl, hb⟩; replace HB := Lib.hid (HB.out.below hb); replace HW := Lib.hid (below_to HW.out hb); clear hb)
            | (go_at_call 59; refine (K4.out _).mono ?_; rintro e y ⟨rfl, hb⟩; replace HB := Lib.hid (HB.out.below hb); replace HW := Lib.hid (below_to HW.out hb); clear hb))
          go_ret
          exact ⟨rfl, HW.out⟩
        | false =>
          go_wp2_with (first
            | (refine o_load rfl 23 _ rfl _ rfl _ _ _ HB.out Tryz.underlying23 rfl HS.out ?_)
            | (go_at_call 55; refine (K0.out _).mono ?_; rintro e y ⟨rfl, rfl⟩)
            | (go_at_call 56; refine (K1.out _).mono ?_; rintro e y ⟨rfl, hb⟩; replace HB := Lib.hid (HB.out.below hb); replace HW := Lib.hid (below_to HW.out hb); clear hb)
            | (go_at_call 57; refine (K2.out _).mono ?_; rintro e y ⟨rfl, hb⟩; replace HB := Lib.hid (HB.out.below hb); replace HW := Lib.hid (below_to HW.out hb); clear hb)
            | (go_at_call 58; refine (K3.out _).mono ?_; rintro e y ⟨rfl, hb⟩; replace HB := Lib.hid (HB.out.below hb); replace HW := Lib.hid (below_to HW.out hb); clear hb)
            | (go_at_call 59; refine (K4.out _).mono ?_; rintro e y ⟨rfl, hb⟩; replace HB := Lib.hid (HB.out.below hb); replace HW := Lib.hid (below_to HW.out hb); clear hb))
          go_ret
          exact ⟨rfl, HW.out⟩
end Go.Proofs.YtkddiaiohnbjpaaGreatDoor.Loan
namespace Go.Proofs.YtkddiaiohnbjpaaGreatDoor.Loan
open Go.ChangeShapes Go.WideShapes Go.ChangeAt Go.RowKit Accr Box

/-- The panic that tells an error. -/
def errL (x : Int) : List PanicEntry := [{ v := .iface 24 (.int .i64 x), recovered := false }]
theorem need_ok (x : Int) (w : World) : Calls Tryz.prog 118 #[.bool true, .int .i64 x] w fun e w' => e = .returned (.tuple #[]) ∧ w = w' := by
  go_enter Tryz.func118, Tryz.ntmps118
  go_wp2
  simp [bodyPost, results, Tryz.results118]
theorem need_bad (x : Int) (w : World) : Calls Tryz.prog 118 #[.bool false, .int .i64 x] w fun e w' => e = .panicked (errL x) ∧ w = w' := by
  go_enter Tryz.func118, Tryz.ntmps118
  go_wp2
  exact ⟨rfl, rfl, rfl⟩
theorem must_ok (n : Int) (w : World) : Calls Tryz.prog 144 #[.int .i64 n, .int .i64 0] w fun e w' => e = .returned (.int .i64 n) ∧ w = w' := by
  go_enter Tryz.func144, Tryz.ntmps144
  go_wp2_with fail
  refine (need_ok _ _).mono ?_
  rintro e w' ⟨rfl, rfl⟩
  go_wp2_with fail
  go_ret
  exact ⟨rfl, rfl⟩
theorem must_bad (n x : Int) (w : World) (h : (x == 0) = false) : Calls Tryz.prog 144 #[.int .i64 n, .int .i64 x] w fun e w' => e = .panicked (errL x) ∧ w = w' := by
  go_enter Tryz.func144, Tryz.ntmps144
  go_wp2_with fail
  refine (need_bad _ _).mono ?_
  rintro e w' ⟨rfl, rfl⟩
  go_wp2_with fail
  exact ⟨rfl, rfl, rfl⟩
end Go.Proofs.YtkddiaiohnbjpaaGreatDoor.Loan
