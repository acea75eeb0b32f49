/- Of no one law: two rows of the call's own, of one type, each grown by one element in a region whose order is open. -/
import Derived.Test.YtbdcinecdigjgaaAppend
import Derived.Deep.AppendLies
namespace Go.Proofs.Ytbdcinecdigjgaa.Slice
open Go.ChangeShapes Go.WideShapes Go.ChangeAt Go.RowKit

/-- Two rows, apart. -/
structure Two (w : World) (base : Nat) (e : TypeId) (va vb : Value) (j k : Nat) (X Y : Nat → Value) : Prop where
  a : w.ownsRow base e 1 va j ((List.range j).map X)
  b : w.ownsRow base e 1 vb k ((List.range k).map Y)
  ne : va.ownBlock = none ∨ va.ownBlock ≠ vb.ownBlock
section
variable {w w' : World} {base j k : Nat} {e : TypeId} {va vb : Value} {X Y : Nat → Value}
theorem Two.swap (h : Two w base e va vb j k X Y) : Two w base e vb va k j Y X := by
  refine ⟨h.b, h.a, ?_⟩
  rcases h.ne with h1 | h1
  · cases hb : vb.ownBlock with
    | none => exact Or.inl rfl
    | some g => exact Or.inr (by rw [h1]; intro e; cases e)
  · exact Or.inr fun e => h1 e.symm
theorem Two.alloc (h : Two w base e va vb j k X Y) (o : Obj) : Two (w.alloc o) base e va vb j k X Y := ⟨h.a.alloc o, h.b.alloc o, h.ne⟩
theorem Two.drew (h : Two w base e va vb j k X Y) : Two w.drew base e va vb j k X Y := ⟨h.a.drew, h.b.drew, h.ne⟩
theorem Two.drewN (h : Two w base e va vb j k X Y) (n : Nat) : Two (w.drewN n) base e va vb j k X Y := ⟨h.a, h.b, h.ne⟩
theorem Two.below (h : Two w base e va vb j k X Y) (hb : Below w.heap.size w w') : Two w' base e va vb j k X Y :=
  ⟨h.a.kept (grown_below hb none) (by cases hu : va.ownBlock <;> simp), h.b.kept (grown_below hb none) (by cases hu : vb.ownBlock <;> simp), h.ne⟩
theorem Two.start (w : World) (base : Nat) (e : TypeId) (X Y : Nat → Value) : Two w base e (.slice none 0 0) (.slice none 0 0) 0 0 X Y := ⟨World.ownsRow_nil _ _ _ _, World.ownsRow_nil _ _ _ _, Or.inl rfl⟩
theorem Two.next {g cap : Nat} (h : Two w base e va vb j k X Y) (ho : w'.ownsRow base e 1 (.slice (some ⟨g, 0, none⟩) (j + 1) cap) (j + 1) ((List.range j).map X ++ [X j])) (hg : w.grownBy w' va.ownBlock) (hat : va.ownBlock = some g ∨ g = w.heap.size) :
    Two w' base e (.slice (some ⟨g, 0, none⟩) (j + 1) cap) vb (j + 1) k X Y := by
  refine ⟨by rw [List.range_succ, List.map_append]; exact ho, h.b.kept hg h.swap.ne, Or.inr fun e => ?_⟩
  have e' : some g = vb.ownBlock := by simpa [Value.ownBlock] using e
  rcases hat with h1 | h1
  · rcases h.ne with h2 | h2
    · rw [h2] at h1; cases h1
    · exact h2 (by rw [h1, e'])
  · have := (h.b.lt g e'.symm).2
    omega
end
theorem step_two {P : Program} {W : World} {ops : Array Oper} {o : Oper} {act : Act} {K : Act → World → Prop} {Q : Exit → Act → World → Prop} {E : Prop} (hgd : o.guard = none) (s x : Operand) (t : TypeId)
    (ho : o.op = .call { callee := .builtin .append, args := #[s, x], argTypes := #[t, t] })
    (base : Nat) (e : TypeId) (i : TypeInfo) (z : Value) (bytes : Nat) (ht : P.underlying t = some (.slice e)) (hi : P.info? e = some i) (hz : i.zero = some z)
    (hsize : i.size = 1) (hby : i.bytes = bytes) (hzs : z.cells.size = 1)
    (va vb : Value) (j k : Nat) (X Y : Nat → Value) (hT : Two W base e va vb j k X Y) (hs : act.eval s = va)
    (g : Nat) (hx : act.eval x = .slice (some ⟨g, 0, none⟩) 1 1) (hc : W.cell? ⟨g, 0, none⟩ = some (X j)) (h1 : (X j).oneCell' = true)
    (h63 : j + 1 ≤ maxLen) (hbytes : (j + 1) * bytes ≤ 140737488355328) (hbase : base ≤ W.heap.size)
    (h : ∀ gg cap w', Two w' base e (.slice (some ⟨gg, 0, none⟩) (j + 1) cap) vb (j + 1) k X Y → W.grownBy w' va.ownBlock → K (act.put o.dst (.slice (some ⟨gg, 0, none⟩) (j + 1) cap)) w') :
    if Region.wanted o (yielded ops act.tmps) = true then Oper.wp P o act W K Q else E :=
  step_append_lies W hgd s x t ho base e i z 1 bytes ht hi hz hsize hby hzs (by omega) va j _ hs hT.a ⟨g, 0, none⟩ 1 1 [X j] hx rfl
    (fun m u hu => by
      match m, hu with
      | 0, hu =>
        injection hu with hu
        subst hu
        simpa [Addr.add] using hc)
    (fun u hu => by rw [List.mem_singleton] at hu; rw [hu]; exact h1) (by omega) h63 hbytes hbase W.heap.size rfl (fun gg cap w' h2 h3 h4 _ => h gg cap w' (hT.next h2 h3 h4) h3)

/-! the same behind a guard that holds -/
theorem wpList_wanted {P : Program} {w : World} {ops : Array Oper} {rest : List Oper} {o : Oper} {a : Act} {Q : Exit → Act → World → Prop} (hw : Region.wanted o (yielded ops a.tmps) = true)
    (h : ∀ K : Act → World → Prop, (∀ a w, wpList P ops Q rest a w → K a w) → o.wp P a w K Q) : wpList P ops Q (o :: rest) a w :=
  wpList_step fun K hK => by rw [if_pos hw]; exact h K hK
theorem wpList_append_wanted {P : Program} {w : World} {ops : Array Oper} {rest : List Oper} {o : Oper} {a : Act} {Q : Exit → Act → World → Prop} (hw : Region.wanted o (yielded ops a.tmps) = true) (s x : Operand) (t : TypeId)
    (ho : o.op = .call { callee := .builtin .append, args := #[s, x], argTypes := #[t, t] })
    (base : Nat) (e : TypeId) (i : TypeInfo) (z : Value) (bytes : Nat) (ht : P.underlying t = some (.slice e)) (hi : P.info? e = some i) (hz : i.zero = some z)
    (hsize : i.size = 1) (hby : i.bytes = bytes) (hzs : z.cells.size = 1)
    (v : Value) (n : Nat) (xs : List Value) (hs : a.eval s = v) (hown : w.ownsRow base e 1 v n xs)
    (B : Nat) (k : IntKind) (u : Value) (zs : List Int) (hx : a.eval x = u) (hu : Ints w B k u zs) (h0 : 0 < zs.length)
    (h63 : n + zs.length ≤ maxLen) (hbytes : (n + zs.length) * bytes ≤ 140737488355328) (hbase : base ≤ w.heap.size)
    (h : ∀ v' w', w'.ownsRow base e 1 v' (n + zs.length) (xs ++ zs.map (Value.int k)) → w.grownBy w' v.ownBlock → wpList P ops Q rest (a.put o.dst v') w') : wpList P ops Q (o :: rest) a w := by
  obtain ⟨A, c, rfl, hl, hn, hc⟩ := hu
  obtain ⟨b, off, rfl, -, hcell⟩ := hc h0
  refine wpList_wanted hw fun K hK => wp_append_own w s x t ho base e i z 1 bytes ht hi hz hsize hby hzs (by omega) v n xs hs hown ⟨b, off, none⟩ zs.length c (zs.map (Value.int k)) hx (by simp) ?_ ?_ h63 hbytes hbase (fun v' w' h1 h2 _ => hK _ _ (h v' w' h1 h2))
  · intro j y hj
    have hlt : j < zs.length := by
      rcases Nat.lt_or_ge j zs.length with h | h
      · exact h
      · rw [List.getElem?_eq_none (by simpa using h)] at hj; cases hj
    rw [List.getElem?_map, List.getElem?_eq_getElem hlt] at hj
    injection hj with hj
    subst hj
    rw [Go.WideShapes.add_plain, hcell j hlt, List.getD_eq_getElem?_getD, List.getElem?_eq_getElem hlt]
    rfl
  · intro y hy
    obtain ⟨z', -, rfl⟩ := List.mem_map.1 hy
    rfl
end Go.Proofs.Ytbdcinecdigjgaa.Slice
