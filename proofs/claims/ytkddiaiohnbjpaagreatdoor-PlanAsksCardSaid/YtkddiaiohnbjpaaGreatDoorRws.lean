/- Of no one law: a slice of structs that reads as a list, nil among them; how it is carried from world to world; its element's load; one struct appended to a row of the call's own. -/
import Derived.Test.YtkddiaiohnbjpaaGreatDoorGLo
import Derived.Test.YtkddiaiohnbjpaaGreatDoorGA
import Derived.Deep.MidRow
namespace Go.Proofs.YtkddiaiohnbjpaaGreatDoor.Rws
open Go.ChangeShapes Go.WideShapes Go.ChangeAt Go.RowKit Slice Box

/-- The value v is a slice of the elements l, each of them the c cells that f has, below block B. -/
def Rws {α : Type} (f : α → Array Value) (c : Nat) (w : World) (B : Nat) (v : Value) (l : List α) : Prop :=
  ∃ (A : Option Addr) (k : Nat), v = .slice A l.length k ∧ l.length ≤ 9223372036854775807 ∧ ((A = none → k = 0) ∧ l.length ≤ k) ∧
    (0 < l.length → ∃ b off, A = some ⟨b, off, none⟩ ∧ b < B ∧ ∀ i x, l[i]? = some x → w.rangeAt b (off + i * c) (f x).toList)
section
variable {α : Type} {f : α → Array Value} {c : Nat} {w w' : World} {B B' : Nat} {v : Value} {l : List α}
theorem Rws.keep (h : Rws f c w B v l) (hk : ∀ b o, b < B → w'.cell? ⟨b, o, none⟩ = w.cell? ⟨b, o, none⟩) : Rws f c w' B v l := by
  obtain ⟨A, k, rfl, hl, hn, hc⟩ := h
  refine ⟨A, k, rfl, hl, hn, fun h0 => ?_⟩
  obtain ⟨b, off, rfl, hb, hcell⟩ := hc h0
  exact ⟨b, off, rfl, hb, fun i x hi j y hj => (hk _ _ hb).trans (hcell i x hi j y hj)⟩
theorem Rws.below (h : Rws f c w B v l) (hb : Below B w w') : Rws f c w' B v l := h.keep fun b o hlt => hb.cell (p := ⟨b, o, none⟩) hlt
theorem Rws.more (h : Rws f c w B v l) (hB : B ≤ B') : Rws f c w B' v l := by
  obtain ⟨A, k, rfl, hl, hn, hc⟩ := h
  refine ⟨A, k, rfl, hl, hn, fun h0 => ?_⟩
  obtain ⟨b, off, rfl, hb, hcell⟩ := hc h0
  exact ⟨b, off, rfl, by omega, hcell⟩
theorem Rws.drewN (h : Rws f c w B v l) (n : Nat) : Rws f c (w.drewN n) B v l := h
theorem Rws.alloc (h : Rws f c w B v l) (hB : B ≤ w.heap.size) (o : Obj) : Rws f c (w.alloc o) B v l := h.keep fun b p hb => World.cell?_alloc_lt (w := w) (o := o) (a := ⟨b, p, none⟩) (by show b < _; omega)
theorem Rws.shape (h : Rws f c w B v l) : ∃ A k, v = .slice A l.length k := by
  obtain ⟨A, k, rfl, -⟩ := h
  exact ⟨A, k, rfl⟩
theorem Rws.nil_ (w : World) (B : Nat) : Rws f c w B (.slice none 0 0) ([] : List α) := ⟨none, 0, rfl, by simp, ⟨fun _ => rfl, Nat.le_refl _⟩, fun h => absurd h (by simp)⟩
theorem Rws.len (h : Rws f c w B v l) : l.length ≤ 9223372036854775807 := by
  obtain ⟨A, k, -, hl, -⟩ := h
  exact hl
theorem flat_at {g : α → List Value} (hg : ∀ x, (g x).length = c) : ∀ (l : List α) (i j : Nat) (x : α) (y : Value), l[i]? = some x → (g x)[j]? = some y → (l.flatMap g)[i * c + j]? = some y
  | [], i, j, x, y, h, _ => by simp at h
  | a :: r, 0, j, x, y, h, hy => by
    have e : a = x := by simpa using h
    subst e
    have hj : j < (g a).length := (List.getElem?_eq_some_iff.1 hy).1
    rw [Nat.zero_mul, Nat.zero_add, List.flatMap_cons, List.getElem?_append_left hj]
    exact hy
  | a :: r, i + 1, j, x, y, h, hy => by
    have h' : r[i]? = some x := by simpa using h
    have ih := flat_at hg r i j x y h' hy
    rw [List.flatMap_cons, List.getElem?_append_right (by rw [hg, Nat.add_mul]; omega), hg, show (i + 1) * c + j - c = i * c + j by rw [Nat.add_mul]; omega]
    exact ih
theorem flat_len {g : α → List Value} (hg : ∀ x, (g x).length = c) : ∀ l : List α, (l.flatMap g).length = l.length * c
  | [] => by simp
  | a :: r => by rw [List.flatMap_cons, List.length_append, hg, flat_len hg r, List.length_cons, Nat.add_mul]; omega
theorem Rws.of_own {base : Nat} {e : TypeId} {n : Nat} (hf : ∀ x, (f x).toList.length = c) (hn : n = l.length) (h : w.ownsRow base e c v n (l.flatMap fun x => (f x).toList)) : Rws f c w w.heap.size v l := by
  subst hn
  obtain ⟨hlen, ⟨rfl, h0⟩ | ⟨g, cap, cur, rfl, hg, hh, hnc, hm, hs, ht⟩⟩ := h
  · have : l = [] := List.eq_nil_of_length_eq_zero h0
    subst this
    exact Rws.nil_ _ _
  · unfold maxLen at hm
    refine ⟨_, cap, rfl, by omega, ⟨fun h => (by cases h), hnc⟩, fun h0 => ⟨g, 0, rfl, ?_, fun i x hi j y hy => ?_⟩⟩
    · rcases Nat.lt_or_ge g w.heap.size with hlt | hge
      · exact hlt
      · rw [Array.getElem?_eq_none hge] at hh; cases hh
    · have hlt : i < l.length := (List.getElem?_eq_some_iff.1 hi).1
      have hj : j < c := by rw [← hf x]; exact (List.getElem?_eq_some_iff.1 hy).1
      have e0 := flat_at (g := fun x => (f x).toList) hf l i j x y hi hy
      have e1 : cur.toList[i * c + j]? = some y := by
        rw [← ht] at e0
        rwa [List.getElem?_take_of_lt (by
          calc i * c + j < i * c + c := by omega
            _ = (i + 1) * c := by rw [Nat.add_mul]; omega
            _ ≤ l.length * c := Nat.mul_le_mul_right _ hlt)] at e0
      rw [Nat.zero_add]
      simp only [World.cell?, hh]
      simpa using e1
/-- What lies at place i, once the slice's place is known. -/
theorem Rws.at_ {b off k : Nat} (h : Rws f c w B (.slice (some ⟨b, off, none⟩) l.length k) l) {i : Nat} {x : α} (hi : l[i]? = some x) : w.rangeAt b (off + i * c) (f x).toList := by
  obtain ⟨A, k', e, -, -, hc⟩ := h
  injection e with e1 e2 e3
  obtain ⟨b', off', e', -, hcell⟩ := hc (by have := (List.getElem?_eq_some_iff.1 hi).1; omega)
  rw [e'] at e1
  injection e1 with e1
  injection e1 with e1 e2
  subst e1
  subst e2
  exact hcell i x hi
theorem Rws.open (h : Rws f c w B v l) (h0 : 0 < l.length) : ∃ b off k, v = .slice (some ⟨b, off, none⟩) l.length k ∧ b < B ∧ l.length ≤ k := by
  obtain ⟨A, k, rfl, -, hn, hc⟩ := h
  obtain ⟨b, off, rfl, hb, -⟩ := hc h0
  exact ⟨b, off, k, rfl, hb, hn.2⟩
end
theorem load_mid_want {P : Program} {ops : Array Oper} {rest : List Oper} {op : Oper} {a : Act} {w : World} {Q : Exit → Act → World → Prop} (hw : Region.wanted op (yielded ops a.tmps) = true) (ty : TypeId) (x : Operand) (ho : op.op = .load ty x)
    (b o : Nat) (hx : a.eval x = .pointer (some ⟨b, o, none⟩)) (cs : Array Value) (d : TypeDesc) (hc : w.rangeAt b o cs.toList)
    (hu : P.underlying ty = some d) (hd : d.isRow = true) (hi : (P.info? ty).map (·.size) = some cs.toList.length)
    (h : wpList P ops Q rest (a.put op.dst (.agg cs)) w) : wpList P ops Q (op :: rest) a w :=
  BigFrame.wpList_want hw fun _ hK => wp_load_mid ty x ho b o hx cs.toList d hc hu hd hi (hK _ _ (by simpa using h))
theorem range_box {w : World} {g : Nat} {C : Array Value} {T : TypeId} (h : Boxd w g C T) : w.rangeAt g 0 C.toList := fun j v hj => by
  rw [Nat.zero_add, h.cell]
  simpa using hj
theorem range_keep {w w' : World} {b o B : Nat} {cs : List Value} (h : w.rangeAt b o cs) (hb : Below B w w') (hlt : b < B) : w'.rangeAt b o cs := fun j v hj => (hb.cell (p := ⟨b, o + j, none⟩) hlt).trans (h j v hj)
theorem wpList_slice {P : Program} {ops : Array Oper} {rest : List Oper} {o : Oper} {a : Act} {w w' : World} {Q : Exit → Act → World → Prop} (hw : Region.wanted o (yielded ops a.tmps) = true) (t : TypeId) (n : Nat) (ps : Array (Nat × Operand)) (ho : o.op = .buildSlice t n ps) (v : Value) (qs : Array (Nat × Value)) (hq : (ps.map fun p => (p.1, a.eval p.2)) = qs)
    (hr : (Instr.buildSlice t n qs).run P w = .ok v w') (h : wpList P ops Q rest (a.put o.dst v) w') : wpList P ops Q (o :: rest) a w :=
  BigFrame.wpList_want hw fun _ hK => by
    have := hK _ _ h
    unfold Oper.wp execOp
    simp only [ho, hq, Sem.run_bind, Sem.run_pure, hr, Result.andThen_ok]
    exact this
/-- One struct, laid in a block of its own just now, appended to a row of the call's own. -/
theorem wpList_append_row {P : Program} {ops : Array Oper} {rest : List Oper} {o : Oper} {a : Act} {Q : Exit → Act → World → Prop} (hgd : o.guard = none) (s x : Operand) (t : TypeId)
    (ho : o.op = .call { callee := .builtin .append, args := #[s, x], argTypes := #[t, t] })
    (base : Nat) (e : TypeId) (i : TypeInfo) (z : Value) (size bytes : Nat) (ht : P.underlying t = some (.slice e)) (hi : P.info? e = some i) (hz : i.zero = some z)
    (hsize : i.size = size) (hby : i.bytes = bytes) (hzs : z.cells.size = size) (hsz : 0 < size)
    (w : World) (T : TypeId) (C : Array Value) (hC : C.toList.length = size) (h1 : C.all (·.oneCell') = true) (v : Value) (n : Nat) (xs : List Value) (hs : a.eval s = v) (hown : w.ownsRow base e size v n xs) (g : Nat) (hx : a.eval x = .slice (some ⟨g, 0, none⟩) 1 1) (hgw : g = w.heap.size)
    (h63 : n + 1 ≤ maxLen) (hbytes : (n + 1) * bytes ≤ 140737488355328) (hbase : base ≤ w.heap.size)
    (h : ∀ v' w', w'.ownsRow base e size v' (n + 1) (xs ++ C.toList) → w.grownBy w' v.ownBlock → wpList P ops Q rest (a.put o.dst v') w') : wpList P ops Q (o :: rest) a (w.alloc (.cells C T)) := by
  subst hgw
  refine wpList_append_own _ hgd s x t ho base e i z size bytes ht hi hz hsize hby hzs hsz v n xs hs (hown.alloc _) ⟨w.heap.size, 0, none⟩ 1 1 C.toList hx (by rw [hC, Nat.one_mul]) ?_ ?_ h63 hbytes (by simp; omega) (fun v' w' h2 h3 _ => h v' w' h2 (grown_new h3))
  · intro j y hj
    rw [Go.WideShapes.add_plain, World.cell?_alloc_new]
    simpa using hj
  · intro y hy
    exact (Array.all_eq_true_iff_forall_mem.1 h1) y (by simpa using hy)
/-- append of a slice of structs that came in to a row of the call's own. -/
theorem wpList_append_rws {α : Type} {f : α → Array Value} {c : Nat} {P : Program} {w : World} {ops : Array Oper} {rest : List Oper} {o : Oper} {a : Act} {Q : Exit → Act → World → Prop} (hgd : o.guard = none) (s x : Operand) (t : TypeId)
    (ho : o.op = .call { callee := .builtin .append, args := #[s, x], argTypes := #[t, t] })
    (base : Nat) (e : TypeId) (i : TypeInfo) (z : Value) (bytes : Nat) (ht : P.underlying t = some (.slice e)) (hi : P.info? e = some i) (hz : i.zero = some z)
    (hsize : i.size = c) (hby : i.bytes = bytes) (hzs : z.cells.size = c) (hsz : 0 < c) (hf : ∀ x, (f x).toList.length = c) (h1 : ∀ x, (f x).all (·.oneCell') = true)
    (v : Value) (n : Nat) (xs : List Value) (hs : a.eval s = v) (hown : w.ownsRow base e c v n xs)
    (B : Nat) (u : Value) (l : List α) (hx : a.eval x = u) (hu : Rws f c w B u l)
    (h63 : n + l.length ≤ maxLen) (hbytes : (n + l.length) * bytes ≤ 140737488355328) (hbase : base ≤ w.heap.size)
    (h : ∀ v' w', w'.ownsRow base e c v' (n + l.length) (xs ++ l.flatMap fun x => (f x).toList) → w.grownBy w' v.ownBlock → wpList P ops Q rest (a.put o.dst v') w') : wpList P ops Q (o :: rest) a w := by
  obtain ⟨A, k, rfl, hl, hn, hc⟩ := hu
  cases A with
  | none =>
    have h0 : l = [] := by
      rcases Nat.eq_zero_or_pos l.length with h0 | h0
      · exact List.eq_nil_of_length_eq_zero h0
      · obtain ⟨b, off, hb, -⟩ := hc h0; cases hb
    subst h0
    obtain rfl := hn.1 rfl
    exact wpList_append_own_none hgd s x t ho base e i c ht hi v n xs hs hown hx (h v w (by simpa using hown) (World.grownBy.refl _ _))
  | some ad =>
    refine wpList_append_own _ hgd s x t ho base e i z c bytes ht hi hz hsize hby hzs hsz v n xs hs hown ad l.length k (l.flatMap fun x => (f x).toList) hx (flat_len hf l) ?_ ?_ h63 hbytes hbase (fun v' w' h1 h2 _ => h v' w' h1 h2)
    · intro j y hj
      have hlt : j < l.length * c := by rw [← flat_len (g := fun x => (f x).toList) hf l]; exact (List.getElem?_eq_some_iff.1 hj).1
      have hq : j / c < l.length := (Nat.div_lt_iff_lt_mul hsz).2 hlt
      obtain ⟨b, off, hb, -, hcell⟩ := hc (Nat.lt_of_le_of_lt (Nat.zero_le _) hq)
      injection hb with hb
      subst hb
      have e0 := Nat.div_add_mod j c
      have hx' : l[j / c]? = some l[j / c] := List.getElem?_eq_getElem hq
      have hm : j % c < (f l[j / c]).toList.length := by rw [hf]; exact Nat.mod_lt _ hsz
      have e1 := flat_at (g := fun x => (f x).toList) hf l (j / c) (j % c) _ _ hx' (List.getElem?_eq_getElem hm)
      rw [Nat.mul_comm, e0] at e1
      rw [hj] at e1
      injection e1 with e1
      rw [Go.WideShapes.add_plain, e1]
      have := hcell (j / c) _ hx' (j % c) _ (List.getElem?_eq_getElem hm)
      rw [← this]
      congr 2
      rw [Nat.add_assoc, Nat.mul_comm (j / c) c, e0]
    · intro y hy
      obtain ⟨x, -, hx⟩ := List.mem_flatMap.1 hy
      exact (Array.all_eq_true_iff_forall_mem.1 (h1 x)) y (by simpa using hx)
theorem lt_of {w : World} {b o : Nat} {v : Value} (h : w.cell? ⟨b, o, none⟩ = some v) : b < w.heap.size := lt_of_cell h
/-- A struct's load out of the midst of a block, taken first in a region whose order is drawn. -/
theorem take_mid {P : Program} {ops : Array Oper} {Q : Exit → Act → World → Prop} {md : Region.Mode} {S : World → Prop} {oi : Oper} {fuel : Nat} {listed : Array Bool} {a : Act} {w : World}
    (i k : Nat) (hi : ops[i]? = some oi) (hd : oi.dst = some k) (hs : Region.noSelect ops = true) (hf : Region.free md ops listed i = true) (hr : (Region.ready md ops listed).contains i = true)
    (T : TypeId) (x : Operand) (ho : oi.op = .load T x) (b o : Nat) (hx : a.eval x = .pointer (some ⟨b, o, none⟩)) (C : Array Value) (d : TypeDesc) (hu : P.underlying T = some d) (ht : d.isRow = true) (hz : (P.info? T).map (·.size) = some C.toList.length)
    (hB : ∀ w, S w → w.rangeAt b o C.toList)
    (hQ : ∀ c a w, Q (.panic c) (a.put oi.dst (.agg C)) w → Q (.panic c) a w) (hw : Region.wanted oi (yielded ops a.tmps) = true) (hS : S w)
    (h : wpAnyH P md ops Q S fuel (listed.setIfInBounds i true) (a.put (some k) (.agg C)) w) : wpAnyH P md ops Q S (fuel + 1) listed a w :=
  ByHand.take_yes (v := .agg C) i k hi hd hs hf hr hQ hw (fun W hW => by
    unfold execOp
    simp only [ho, hx, Instr.loadAt, Instr.sureAddr, Sem.run_bind, Sem.run_pure, Result.andThen_ok, run_loadVar_mid W b o T C.toList d (hB W hW) hu ht hz, Array.toArray_toList]) hS h
end Go.Proofs.YtkddiaiohnbjpaaGreatDoor.Rws
