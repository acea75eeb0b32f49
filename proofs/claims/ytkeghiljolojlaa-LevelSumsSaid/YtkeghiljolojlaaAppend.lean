/- Of no one law: append of one element to a row of the call's own. -/
import Derived.Test.YtkeghiljolojlaaSlice
namespace Go.Proofs.Ytkeghiljolojlaa.Slice
open Go.ChangeShapes Go.WideShapes Go.ChangeAt Go.RowKit

theorem one_elem (w : World) (u : Value) (T : TypeId) : ∀ k y, [u][k]? = some y → (w.alloc (.cells #[u] T)).cell? ((⟨w.heap.size, 0, none⟩ : Addr).add k) = some y := by
  intro k y h
  match k, h with
  | 0, h =>
    injection h with h
    subst h
    simp [Addr.add]
theorem own_slice {w : World} {base n : Nat} {e : TypeId} {v : Value} {xs : List Value} (h : w.ownsRow base e 1 v n xs) : ∃ A c, v = .slice A n c := by
  rcases h.2 with ⟨rfl, rfl⟩ | ⟨g, cap, cur, rfl, -⟩
  · exact ⟨none, 0, rfl⟩
  · exact ⟨_, _, rfl⟩
theorem grown_new {w w' : World} {o : Obj} {r : Option Nat} (h : (w.alloc o).grownBy w' r) : w.grownBy w' r :=
  ⟨h.os, h.tape, h.output, Nat.le_trans (by simp) h.size, fun i hi hr => (h.block i (by simp; omega) hr).trans (Below.heap_alloc w o i hi)⟩
theorem grown_below {w w' : World} (h : Below w.heap.size w w') (r : Option Nat) : w.grownBy w' r := ⟨h.os, h.tape, h.output, h.size, fun i hi _ => h.block i hi⟩
theorem own_apart {w : World} {base base' n n' : Nat} {e e' : TypeId} {v v' : Value} {xs xs' : List Value} (h : w.ownsRow base e 1 v n xs) (h' : w.ownsRow base' e' 1 v' n' xs') (hne : e ≠ e') : v.ownBlock = none ∨ v.ownBlock ≠ v'.ownBlock := by
  rcases h.2 with ⟨rfl, rfl⟩ | ⟨g, cap, cur, rfl, -, hh, -⟩
  · exact Or.inl rfl
  · right
    rcases h'.2 with ⟨rfl, rfl⟩ | ⟨g', cap', cur', rfl, -, hh', -⟩
    · intro e; simp [Value.ownBlock] at e
    · intro e
      have eg : g = g' := by simpa [Value.ownBlock] using e
      subst eg
      rw [hh] at hh'
      injection hh' with hh'
      injection hh' with _ ht
      exact hne ht
theorem wpList_append_one {P : Program} {ops : Array Oper} {rest : List Oper} {o : Oper} {a : Act} {Q : Exit → Act → World → Prop} (hgd : o.guard = none) (s x : Operand) (t : TypeId)
    (ho : o.op = .call { callee := .builtin .append, args := #[s, x], argTypes := #[t, t] })
    (base : Nat) (e : TypeId) (i : TypeInfo) (z : Value) (bytes : Nat) (ht : P.underlying t = some (.slice e)) (hi : P.info? e = some i) (hz : i.zero = some z)
    (hsize : i.size = 1) (hby : i.bytes = bytes) (hzs : z.cells.size = 1)
    (w : World) (T : TypeId) (u : Value) (h1 : u.oneCell' = true) (v : Value) (n : Nat) (xs : List Value) (hs : a.eval s = v) (hown : w.ownsRow base e 1 v n xs) (g : Nat) (hx : a.eval x = .slice (some ⟨g, 0, none⟩) 1 1) (hgw : g = w.heap.size)
    (h63 : n + 1 ≤ maxLen) (hbytes : (n + 1) * bytes ≤ 140737488355328) (hbase : base ≤ w.heap.size)
    (h : ∀ v' w', w'.ownsRow base e 1 v' (n + 1) (xs ++ [u]) → w.grownBy w' v.ownBlock → wpList P ops Q rest (a.put o.dst v') w') : wpList P ops Q (o :: rest) a (w.alloc (.cells #[u] T)) :=
  wpList_append_own _ hgd s x t ho base e i z 1 bytes ht hi hz hsize hby hzs (by omega) v n xs hs (hown.alloc _) ⟨w.heap.size, 0, none⟩ 1 1 [u] (by rw [hx, hgw]) rfl (one_elem w u T)
    (fun y hy => by rw [List.mem_singleton] at hy; rw [hy]; exact h1) h63 hbytes (by simp; omega) (fun v' w' h2 h3 _ => h v' w' h2 (grown_new h3))
/-- append of a slice of integers to a row of the call's own, as one step of a region that draws. -/
theorem step_ints {P : Program} {W : World} {ops : Array Oper} {o : Oper} {act : Act} {K : Act → World → Prop} {Q : Exit → Act → World → Prop} {E : Prop} (hgd : o.guard = none) (s x : Operand) (t : TypeId)
    (ho : o.op = .call { callee := .builtin .append, args := #[s, x], argTypes := #[t, t] })
    (base : Nat) (e : TypeId) (i : TypeInfo) (z : Value) (bytes : Nat) (ht : P.underlying t = some (.slice e)) (hi : P.info? e = some i) (hz : i.zero = some z)
    (hsize : i.size = 1) (hby : i.bytes = bytes) (hzs : z.cells.size = 1)
    (v : Value) (n : Nat) (xs : List Value) (hs : act.eval s = v) (hown : W.ownsRow base e 1 v n xs)
    (B : Nat) (k : IntKind) (u : Value) (zs : List Int) (hx : act.eval x = u) (hu : Ints W B k u zs)
    (h63 : n + zs.length ≤ maxLen) (hbytes : (n + zs.length) * bytes ≤ 140737488355328) (hbase : base ≤ W.heap.size)
    (h : ∀ v' w', w'.ownsRow base e 1 v' (n + zs.length) (xs ++ zs.map (Value.int k)) → W.grownBy w' v.ownBlock → K (act.put o.dst v') w') :
    if Region.wanted o (yielded ops act.tmps) = true then Oper.wp P o act W K Q else E := by
  have hw : Region.wanted o (yielded ops act.tmps) = true := by simp [Region.wanted, hgd]
  rw [if_pos hw]
  obtain ⟨A, c, rfl, hl, hn, hc⟩ := hu
  cases A with
  | none =>
    have h0 : zs = [] := by
      rcases Nat.eq_zero_or_pos zs.length with h0 | h0
      · exact List.eq_nil_of_length_eq_zero h0
      · obtain ⟨b, off, hb, -⟩ := hc h0; cases hb
    subst h0
    obtain rfl := hn rfl
    have hrun := run_append_owned_none (P := P) (w := W) base t o.type e i 1 ht hi v n xs hown
    unfold Oper.wp
    simp [execOp, ho, resolve, invoke, builtin, hs, hx, hrun, Result.andThen]
    exact h v W (by simpa using hown) (World.grownBy.refl _ _)
  | some ad =>
    refine wp_append_own W s x t ho base e i z 1 bytes ht hi hz hsize hby hzs (by omega) v n xs hs hown ad zs.length c (zs.map (Value.int k)) hx (by simp) ?_ ?_ h63 hbytes hbase (fun v' w' h1 h2 _ => h v' w' h1 h2)
    · intro j y hj
      have hlt : j < zs.length := by
        rcases Nat.lt_or_ge j zs.length with h | h
        · exact h
        · rw [List.getElem?_eq_none (by simpa using h)] at hj; cases hj
      obtain ⟨b, off, hb, -, hcell⟩ := hc (by omega)
      injection hb with hb
      subst hb
      rw [List.getElem?_map, List.getElem?_eq_getElem hlt] at hj
      injection hj with hj
      subst hj
      rw [Go.WideShapes.add_plain, hcell j hlt, List.getD_eq_getElem?_getD, List.getElem?_eq_getElem hlt]
      rfl
    · intro y hy
      obtain ⟨z', -, rfl⟩ := List.mem_map.1 hy
      rfl
theorem one_of_cell {w : World} {g : Nat} {k : IntKind} {z : Int} (h : w.cell? ⟨g, 0, none⟩ = some (.int k z)) : Ints w w.heap.size k (.slice (some ⟨g, 0, none⟩) 1 1) [z] :=
  ⟨some ⟨g, 0, none⟩, 1, rfl, by simp, fun h => (by cases h), fun _ => ⟨g, 0, rfl, lt_of_cell h, fun i hi => by
    match i, hi with
    | 0, _ => exact h⟩⟩
theorem one_lit {w : World} {g : Nat} {T : TypeId} {k : IntKind} {z : Int} (hg : g = w.heap.size) : Ints (w.alloc (.cells #[.int k z] T)) (w.alloc (.cells #[.int k z] T)).heap.size k (.slice (some ⟨g, 0, none⟩) 1 1) [z] := by
  subst hg
  refine one_of_cell ?_
  rw [World.cell?_alloc_new]; rfl
/-- A block of one integer, laid ahead of an empty row, or behind it, when that row has grown. -/
theorem one_first {D w' : World} {g : Nat} {T T' : TypeId} {k : IntKind} {z : Int} {r : Option Nat} (hg : g = D.heap.size) (h : ((D.alloc (.cells #[.int k z] T)).alloc (.cells #[] T')).grownBy w' r) (hr : r ≠ some D.heap.size) :
    Ints w' w'.heap.size k (.slice (some ⟨g, 0, none⟩) 1 1) [z] := by
  subst hg
  refine one_of_cell (h.cell (a := ⟨D.heap.size, 0, none⟩) ?_ (Ne.symm hr))
  refine (World.cell?_alloc_lt (w := D.alloc (.cells #[.int k z] T)) (o := .cells #[] T') (a := ⟨D.heap.size, 0, none⟩) (by simp)).trans ?_
  rw [World.cell?_alloc_new]; rfl
theorem one_second {D w' : World} {g : Nat} {T T' : TypeId} {k : IntKind} {z : Int} {r : Option Nat} (hg : g = D.heap.size + 1) (h : ((D.alloc (.cells #[] T')).alloc (.cells #[.int k z] T)).grownBy w' r) (hr : r ≠ some (D.heap.size + 1)) :
    Ints w' w'.heap.size k (.slice (some ⟨g, 0, none⟩) 1 1) [z] := by
  subst hg
  refine one_of_cell (h.cell (a := ⟨D.heap.size + 1, 0, none⟩) ?_ (Ne.symm hr))
  have := World.cell?_alloc_new (D.alloc (.cells #[] T')) #[.int k z] T 0
  rw [show (D.alloc (.cells #[] T')).heap.size = D.heap.size + 1 by simp] at this
  rw [this]; rfl
theorem below_of {a W w' : World} {r : Option Nat} (hg : W.grownBy w' r) (h : Below a.heap.size a W) (hr : ∀ g, r = some g → a.heap.size ≤ g) : Below a.heap.size a w' := h.grown hg h.size hr
theorem ints_take {w : World} {B q c0 : Nat} {k : IntKind} {A : Option Addr} {c : List Int} (h : Ints w B k (.slice A c.length c0) c) (hq : q ≤ c.length) : Ints w B k (.slice A q c0) (c.take q) := by
  obtain ⟨A', c', e, hl, hn, hc⟩ := h
  injection e with e1 e2 e3
  subst e1
  subst e3
  have hlen : (c.take q).length = q := by rw [List.length_take]; omega
  refine ⟨A, c0, by rw [hlen], by omega, hn, fun h0 => ?_⟩
  obtain ⟨b, off, rfl, hb, hcell⟩ := hc (by omega)
  refine ⟨b, off, rfl, hb, fun i hi => ?_⟩
  rw [hcell i (by omega)]
  congr 2
  rw [hlen] at hi
  simp only [List.getD_eq_getElem?_getD, List.getElem?_take, hi, if_true]
theorem ints_drop {w : World} {B q c0 : Nat} {k : IntKind} {ad : Addr} {c : List Int} (h : Ints w B k (.slice (some ad) c.length c0) c) (hq : q ≤ c.length) (hc0 : c.length ≤ c0) :
    Ints w B k (.slice (some (if c0 = q then ad else ad.add (q * 1))) (c.length - q) (c0 - q)) (c.drop q) := by
  obtain ⟨A', c', e, hl, hn, hc⟩ := h
  injection e with e1 e2 e3
  subst e1
  subst e3
  have hlen : (c.drop q).length = c.length - q := List.length_drop
  refine ⟨_, _, by rw [hlen], by omega, fun h => (by cases h), fun h0 => ?_⟩
  rw [hlen] at h0
  obtain ⟨b, off, e, hb, hcell⟩ := hc (by omega)
  injection e with e
  subst e
  rw [if_neg (by omega), Go.WideShapes.add_plain, Nat.mul_one]
  refine ⟨b, off + q, rfl, hb, fun i hi => ?_⟩
  rw [hlen] at hi
  rw [Nat.add_assoc, hcell (q + i) (by omega)]
  congr 2
  simp only [List.getD_eq_getElem?_getD, List.getElem?_drop]
end Go.Proofs.Ytkeghiljolojlaa.Slice
