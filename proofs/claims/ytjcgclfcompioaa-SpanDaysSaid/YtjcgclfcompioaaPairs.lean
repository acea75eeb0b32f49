/- Of no one law: a slice of structs of two integers that reads as a list of pairs, nil among them; how it is carried from world to world. -/
import Derived.WalkKit
import Derived.ProofKit
import Derived.OpenShut
import Derived.Deep.Draws
import Derived.Deep.SlicePairs
import Derived.Laws.AppendOwnNone
import Derived.Laws.OwnMore
import Derived.OwnWalk
import Derived.Deep.AppendLies
namespace Go.Proofs.Ytjcgclfcompioaa.Pairs
open Go.ChangeShapes Go.WideShapes Go.ChangeAt Go.RowKit

/-- The list's cells, one behind the other. -/
def flat (zs : List (Int × Int)) : List Value := zs.flatMap fun p => [.int .i64 p.1, .int .i64 p.2]
theorem flat_nil : flat [] = [] := rfl
theorem flat_cons (p : Int × Int) (r : List (Int × Int)) : flat (p :: r) = .int .i64 p.1 :: .int .i64 p.2 :: flat r := rfl
theorem flat_append (a b : List (Int × Int)) : flat (a ++ b) = flat a ++ flat b := by unfold flat; rw [List.flatMap_append]
theorem flat_one (p : Int × Int) : flat [p] = [.int .i64 p.1, .int .i64 p.2] := rfl
theorem flat_length : ∀ zs : List (Int × Int), (flat zs).length = zs.length * 2
  | [] => rfl
  | p :: r => by rw [flat_cons, List.length_cons, List.length_cons, flat_length r, List.length_cons]; omega
theorem flat_get0 : ∀ (zs : List (Int × Int)) (i : Nat), i < zs.length → (flat zs)[i * 2]? = some (.int .i64 (zs.getD i (0, 0)).1)
  | p :: r, 0, _ => rfl
  | p :: r, i + 1, h => by
    rw [flat_cons, show (i + 1) * 2 = i * 2 + 1 + 1 by omega, List.getElem?_cons_succ, List.getElem?_cons_succ, flat_get0 r i (by simpa using h)]
    rfl
theorem flat_get1 : ∀ (zs : List (Int × Int)) (i : Nat), i < zs.length → (flat zs)[i * 2 + 1]? = some (.int .i64 (zs.getD i (0, 0)).2)
  | p :: r, 0, _ => rfl
  | p :: r, i + 1, h => by
    rw [flat_cons, show (i + 1) * 2 + 1 = i * 2 + 1 + 1 + 1 by omega, List.getElem?_cons_succ, List.getElem?_cons_succ, flat_get1 r i (by simpa using h)]
    rfl
theorem flat_cells {zs : List (Int × Int)} : ∀ u ∈ flat zs, u.oneCell' = true := by
  intro u hu
  obtain ⟨p, -, hp⟩ := List.mem_flatMap.1 hu
  simp at hp
  rcases hp with rfl | rfl <;> rfl

/-- The value v is a slice of the pairs zs, below block B. -/
def Prs (w : World) (B : Nat) (v : Value) (zs : List (Int × Int)) : Prop :=
  ∃ (A : Option Addr) (c : Nat), v = .slice A zs.length c ∧ zs.length ≤ 9223372036854775807 ∧ ((A = none → c = 0) ∧ zs.length ≤ c) ∧
    (0 < zs.length → ∃ b off, A = some ⟨b, off, none⟩ ∧ b < B ∧ ∀ i, i < zs.length → w.cell? ⟨b, off + i * 2, none⟩ = some (.int .i64 (zs.getD i (0, 0)).1) ∧ w.cell? ⟨b, off + i * 2 + 1, none⟩ = some (.int .i64 (zs.getD i (0, 0)).2))

section
variable {w w' : World} {B B' : Nat} {v : Value} {zs : List (Int × Int)}
theorem Prs.keep (h : Prs w B v zs) (hk : ∀ b o, b < B → w'.cell? ⟨b, o, none⟩ = w.cell? ⟨b, o, none⟩) : Prs w' B v zs := by
  obtain ⟨A, c, rfl, hl, hn, hc⟩ := h
  refine ⟨A, c, rfl, hl, hn, fun h0 => ?_⟩
  obtain ⟨b, off, rfl, hb, hcell⟩ := hc h0
  exact ⟨b, off, rfl, hb, fun i hi => ⟨(hk _ _ hb).trans (hcell i hi).1, (hk _ _ hb).trans (hcell i hi).2⟩⟩
theorem Prs.below (h : Prs w B v zs) (hb : Below B w w') : Prs w' B v zs := h.keep fun b o hlt => hb.cell (p := ⟨b, o, none⟩) hlt
theorem Prs.more (h : Prs w B v zs) (hB : B ≤ B') : Prs w B' v zs := by
  obtain ⟨A, c, rfl, hl, hn, hc⟩ := h
  refine ⟨A, c, rfl, hl, hn, fun h0 => ?_⟩
  obtain ⟨b, off, rfl, hb, hcell⟩ := hc h0
  exact ⟨b, off, rfl, by omega, hcell⟩
theorem Prs.drewN (h : Prs w B v zs) (n : Nat) : Prs (w.drewN n) B v zs := h
theorem Prs.alloc (h : Prs w B v zs) (hB : B ≤ w.heap.size) (o : Obj) : Prs (w.alloc o) B v zs := h.keep fun b p hb => World.cell?_alloc_lt (w := w) (o := o) (a := ⟨b, p, none⟩) (by show b < _; omega)
theorem Prs.nil_ (w : World) (B : Nat) : Prs w B (.slice none 0 0) [] := ⟨none, 0, rfl, by simp, ⟨fun _ => rfl, Nat.le_refl _⟩, fun h => absurd h (by simp)⟩
theorem Prs.shape (h : Prs w B v zs) : ∃ A c, v = .slice A zs.length c := by
  obtain ⟨A, c, rfl, -⟩ := h
  exact ⟨A, c, rfl⟩
end
theorem block_lt {w : World} {b o : Nat} {v : Value} (h : w.cell? ⟨b, o, none⟩ = some v) : b < w.heap.size := World.block_lt_of_cell? w ⟨b, o, none⟩ h

section
variable {H : Type} {enc : TypeId × Value → H} {P : Program}
/-- An argument: a slice of pairs of integers that came in. -/
theorem open_pairs {w : World} {b0 : Nat} {r : Reach} {t e ti : TypeId} {f0 f1 : Field} {v : Value} {d : DataW H} {ps : List MemPlace}
    (ht : P.underlying t = some (.slice e)) (he : P.underlying e = some (.struct #[f0, f1])) (ce : P.cellsOf e = 2) (o0 : f0.offset = 0) (o1 : f1.offset = 1)
    (t0 : f0.type = ti) (t1 : f1.type = ti) (hti : P.underlying ti = some (.int .i64)) (ci : P.cellsOf ti = 1)
    (hval : Value.okWide P w r b0 t v) (hd : DataW.Trod enc P w 0 (fun _ => true) true t v d ps) :
    ∃ zs : List (Int × Int), Prs w w.heap.size v zs ∧ ∀ z ∈ zs, (Lit.int .i64 z.1).wf = true ∧ (Lit.int .i64 z.2).wf = true := by
  obtain ⟨a0, len0, cap0, rfl⟩ := okWide_slice ht hval
  obtain ⟨fuel, hf⟩ := hd
  rcases Go.Deep.open_slice_pairs ht he ce o0 o1 (by rw [t0]; exact ci) (by rw [t1]; exact ci) hf with ⟨h1, -⟩ | ⟨a, len, cap, m, n, V0, V1, D0, D1, P0, P1, h1, -, hlc, hm, hmm, -, hx⟩
  · simp [Value.cells] at h1
    obtain ⟨rfl, rfl, rfl⟩ := h1
    exact ⟨[], Prs.nil_ _ _, by simp⟩
  · simp [Value.cells] at h1
    obtain ⟨rfl, rfl, rfl⟩ := h1
    have hlm : len0 ≤ m := by rw [hmm]; split <;> omega
    have each : ∀ i, i < len0 → ∃ z : Int × Int, V0 i = .int .i64 z.1 ∧ V1 i = .int .i64 z.2 ∧ (Lit.int .i64 z.1).wf = true ∧ (Lit.int .i64 z.2).wf = true := by
      intro i hi
      obtain ⟨-, -, g0, g1⟩ := hx i (by omega)
      rw [t0] at g0
      rw [t1] at g1
      obtain ⟨z0, e0, -, w0⟩ := DataW.trod_int hti g0
      obtain ⟨z1, e1, -, w1⟩ := DataW.trod_int hti g1
      simp only [List.cons.injEq, and_true] at e0 e1
      exact ⟨(z0, z1), e0, e1, w0, w1⟩
    obtain ⟨Z, hZ⟩ : ∃ Z : Nat → Int × Int, ∀ i, i < len0 → V0 i = .int .i64 (Z i).1 ∧ V1 i = .int .i64 (Z i).2 ∧ (Lit.int .i64 (Z i).1).wf = true ∧ (Lit.int .i64 (Z i).2).wf = true :=
      ⟨fun i => if h : i < len0 then (each i h).choose else (0, 0), fun i hi => by simp only [dif_pos hi]; exact (each i hi).choose_spec⟩
    have hl : ((List.range len0).map Z).length = len0 := by simp
    refine ⟨(List.range len0).map Z, ⟨some a, cap0, by rw [hl], by rw [hl]; unfold maxLen at hm; omega, ⟨fun h => (by cases h), by rw [hl]; omega⟩, fun h0 => ?_⟩, fun z hz => ?_⟩
    · rw [hl] at h0 ⊢
      obtain ⟨b, off, spot⟩ := a
      have hspot : spot = none := by simpa [Addr.add] using World.cell?_spot (hx 0 (by omega)).1
      subst hspot
      have cells : ∀ i, i < len0 → w.cell? ⟨b, off + i * 2, none⟩ = some (V0 i) ∧ w.cell? ⟨b, off + i * 2 + 1, none⟩ = some (V1 i) := by
        intro i hi
        have := hx i (by omega)
        rw [Go.WideShapes.add_plain, Go.WideShapes.add_plain] at this
        exact ⟨this.1, by rw [Nat.add_assoc]; exact this.2.1⟩
      refine ⟨b, off, rfl, block_lt (cells 0 h0).1, fun i hi => ?_⟩
      obtain ⟨c0, c1⟩ := cells i hi
      obtain ⟨z0, z1, -⟩ := hZ i hi
      have e : ((List.range len0).map Z).getD i (0, 0) = Z i := by simp [List.getD_eq_getElem?_getD, hi]
      rw [e, c0, c1, z0, z1]
      exact ⟨rfl, rfl⟩
    · obtain ⟨i, hi, rfl⟩ := List.mem_map.1 hz
      exact (hZ i (List.mem_range.1 hi)).2.2
end

section
variable {P : Program} {w : World}
theorem Prs.of_own {base : Nat} {e : TypeId} {v : Value} {n : Nat} {zs : List (Int × Int)} (hn : n = zs.length) (h : w.ownsRow base e 2 v n (flat zs)) : Prs w w.heap.size v zs := by
  subst hn
  obtain ⟨hlen, ⟨rfl, h0⟩ | ⟨g, cap, cur, rfl, hg, hh, hnc, hm, hs, ht⟩⟩ := h
  · have : zs = [] := List.eq_nil_of_length_eq_zero h0
    subst this
    exact Prs.nil_ _ _
  · unfold maxLen at hm
    refine ⟨_, cap, rfl, by omega, ⟨fun h => (by cases h), hnc⟩, fun h0 => ⟨g, 0, rfl, ?_, fun i hi => ?_⟩⟩
    · rcases Nat.lt_or_ge g w.heap.size with hlt | hge
      · exact hlt
      · rw [Array.getElem?_eq_none hge] at hh; cases hh
    · have e1 : ∀ j, j < zs.length * 2 → cur.toList[j]? = (flat zs)[j]? := fun j hj => by rw [← ht, List.getElem?_take_of_lt hj]
      have c0 := e1 (i * 2) (by omega)
      have c1 := e1 (i * 2 + 1) (by omega)
      rw [flat_get0 zs i hi] at c0
      rw [flat_get1 zs i hi] at c1
      rw [Nat.zero_add]
      simp only [World.cell?, hh]
      exact ⟨by simpa using c0, by simpa using c1⟩

/-- append of a slice of pairs that came in to a row of the call's own. -/
theorem wpList_append_pairs {ops : Array Oper} {rest : List Oper} {o : Oper} {a : Act} {Q : Exit → Act → World → Prop} (hgd : o.guard = none) (s x : Operand) (t : TypeId)
    (ho : o.op = .call { callee := .builtin .append, args := #[s, x], argTypes := #[t, t] })
    (base : Nat) (e : TypeId) (i : TypeInfo) (z : Value) (ht : P.underlying t = some (.slice e)) (hi : P.info? e = some i) (hz : i.zero = some z)
    (hsize : i.size = 2) (hby : i.bytes = 16) (hzs : z.cells.size = 2)
    (v : Value) (n : Nat) (xs : List Value) (hs : a.eval s = v) (hown : w.ownsRow base e 2 v n xs)
    (B : Nat) (u : Value) (zs : List (Int × Int)) (hx : a.eval x = u) (hu : Prs w B u zs)
    (h63 : n + zs.length ≤ maxLen) (hbytes : (n + zs.length) * 16 ≤ 140737488355328) (hbase : base ≤ w.heap.size)
    (h : ∀ v' w', w'.ownsRow base e 2 v' (n + zs.length) (xs ++ flat zs) → w.grownBy w' v.ownBlock → wpList P ops Q rest (a.put o.dst v') w') : wpList P ops Q (o :: rest) a w := by
  obtain ⟨A, c, rfl, hl, hn, hc⟩ := hu
  cases A with
  | none =>
    have h0 : zs = [] := by
      rcases Nat.eq_zero_or_pos zs.length with h0 | h0
      · exact List.eq_nil_of_length_eq_zero h0
      · obtain ⟨b, off, hb, -⟩ := hc h0; cases hb
    subst h0
    obtain rfl := hn.1 rfl
    exact wpList_append_own_none hgd s x t ho base e i 2 ht hi v n xs hs hown hx (h v w (by simpa [flat_nil] using hown) (World.grownBy.refl _ _))
  | some ad =>
    refine wpList_append_own _ hgd s x t ho base e i z 2 16 ht hi hz hsize hby hzs (by omega) v n xs hs hown ad zs.length c (flat zs) hx (flat_length zs) ?_ flat_cells h63 hbytes hbase (fun v' w' h1 h2 _ => h v' w' h1 h2)
    intro j y hj
    have hlt : j < zs.length * 2 := by
      rcases Nat.lt_or_ge j (flat zs).length with h | h
      · rwa [flat_length] at h
      · rw [List.getElem?_eq_none h] at hj; cases hj
    obtain ⟨b, off, hb, -, hcell⟩ := hc (by omega)
    injection hb with hb
    subst hb
    obtain ⟨c0, c1⟩ := hcell (j / 2) (by omega)
    rw [Go.WideShapes.add_plain]
    rcases Nat.mod_two_eq_zero_or_one j with hm | hm
    · rw [show j = j / 2 * 2 by omega, flat_get0 zs (j / 2) (by omega)] at hj
      rw [show off + j = off + j / 2 * 2 by omega, c0]; exact hj
    · rw [show j = j / 2 * 2 + 1 by omega, flat_get1 zs (j / 2) (by omega)] at hj
      rw [show off + j = off + j / 2 * 2 + 1 by omega, c1]; exact hj
end
theorem own_shape {w : World} {base n size : Nat} {e : TypeId} {v : Value} {xs : List Value} (h : w.ownsRow base e size v n xs) : ∃ A c, v = .slice A n c := by
  rcases h.2 with ⟨rfl, rfl⟩ | ⟨g, cap, cur, rfl, -⟩
  · exact ⟨none, 0, rfl⟩
  · exact ⟨_, _, rfl⟩
theorem grown_new {w w' : World} {o : Obj} {r : Option Nat} (h : (w.alloc o).grownBy w' r) : w.grownBy w' r :=
  ⟨h.os, h.tape, h.output, Nat.le_trans (by simp) h.size, fun i hi hr => (h.block i (by simp; omega) hr).trans (Below.heap_alloc w o i hi)⟩
theorem grown_below {w w' : World} (h : Below w.heap.size w w') (r : Option Nat) : w.grownBy w' r := ⟨h.os, h.tape, h.output, h.size, fun i hi _ => h.block i hi⟩
theorem below_append {a w w' : World} {v : Value} {base n size : Nat} {e : TypeId} {xs : List Value} (h : Below a.heap.size a w) (hb : a.heap.size ≤ base) (ho : w.ownsRow base e size v n xs) (hg : w.grownBy w' v.ownBlock) : Below a.heap.size a w' :=
  h.grown hg h.size (fun g hg => Nat.le_trans hb (ho.lt g hg).1)
theorem two_cells (w : World) (x y : Value) (T : TypeId) : ∀ k u, [x, y][k]? = some u → (w.alloc (.cells #[x, y] T)).cell? ((⟨w.heap.size, 0, none⟩ : Addr).add k) = some u := by
  intro k u h
  rw [Go.WideShapes.add_plain, World.cell?_alloc_new, Nat.zero_add]
  match k, h with
  | 0, h => exact h
  | 1, h => exact h
/-- append of one pair to a row of the call's own. -/
theorem wpList_append_pair {P : Program} {ops : Array Oper} {rest : List Oper} {o : Oper} {a : Act} {Q : Exit → Act → World → Prop} (hgd : o.guard = none) (s x : Operand) (t : TypeId)
    (ho : o.op = .call { callee := .builtin .append, args := #[s, x], argTypes := #[t, t] })
    (base : Nat) (e : TypeId) (i : TypeInfo) (z : Value) (ht : P.underlying t = some (.slice e)) (hi : P.info? e = some i) (hz : i.zero = some z)
    (hsize : i.size = 2) (hby : i.bytes = 16) (hzs : z.cells.size = 2)
    (w : World) (T : TypeId) (p : Int × Int) (v : Value) (n : Nat) (xs : List Value) (hs : a.eval s = v) (hown : w.ownsRow base e 2 v n xs) (g : Nat) (hx : a.eval x = .slice (some ⟨g, 0, none⟩) 1 1) (hgw : g = w.heap.size)
    (h63 : n + 1 ≤ maxLen) (hbytes : (n + 1) * 16 ≤ 140737488355328) (hbase : base ≤ w.heap.size)
    (h : ∀ v' w', w'.ownsRow base e 2 v' (n + 1) (xs ++ flat [p]) → w.grownBy w' v.ownBlock → wpList P ops Q rest (a.put o.dst v') w') : wpList P ops Q (o :: rest) a (w.alloc (.cells #[.int .i64 p.1, .int .i64 p.2] T)) :=
  wpList_append_own _ hgd s x t ho base e i z 2 16 ht hi hz hsize hby hzs (by omega) v n xs hs (hown.alloc _) ⟨w.heap.size, 0, none⟩ 1 1 (flat [p]) (by rw [hx, hgw]) rfl (two_cells w _ _ T)
    flat_cells h63 hbytes (by simp; omega) (fun v' w' h2 h3 _ => h v' w' h2 (grown_new h3))
theorem pair_news {W : World} {g : Nat} {p : Int × Int} (h0 : W.cell? ⟨g, 0, none⟩ = some (.int .i64 p.1)) (h1 : W.cell? ⟨g, 1, none⟩ = some (.int .i64 p.2)) : ∀ k u, (flat [p])[k]? = some u → W.cell? ((⟨g, 0, none⟩ : Addr).add k) = some u := by
  intro k u h
  rw [Go.WideShapes.add_plain, Nat.zero_add]
  match k, h with
  | 0, h => rw [h0]; exact h
  | 1, h => rw [h1]; exact h
/-- append of one pair to a row of the call's own, as one step of a region that draws. -/
theorem step_pair {P : Program} {W : World} {ops : Array Oper} {o : Oper} {act : Act} {K : Act → World → Prop} {Q : Exit → Act → World → Prop} {E : Prop} (hgd : o.guard = none) (s x : Operand) (t : TypeId)
    (ho : o.op = .call { callee := .builtin .append, args := #[s, x], argTypes := #[t, t] })
    (base : Nat) (e : TypeId) (i : TypeInfo) (z : Value) (ht : P.underlying t = some (.slice e)) (hi : P.info? e = some i) (hz : i.zero = some z)
    (hsize : i.size = 2) (hby : i.bytes = 16) (hzs : z.cells.size = 2)
    (p : Int × Int) (v : Value) (n : Nat) (xs : List Value) (hs : act.eval s = v) (hown : W.ownsRow base e 2 v n xs) (g : Nat) (hx : act.eval x = .slice (some ⟨g, 0, none⟩) 1 1)
    (h0 : W.cell? ⟨g, 0, none⟩ = some (.int .i64 p.1)) (h1 : W.cell? ⟨g, 1, none⟩ = some (.int .i64 p.2))
    (h63 : n + 1 ≤ maxLen) (hbytes : (n + 1) * 16 ≤ 140737488355328) (hbase : base ≤ W.heap.size)
    (h : ∀ gg cap w', w'.ownsRow base e 2 (.slice (some ⟨gg, 0, none⟩) (n + 1) cap) (n + 1) (xs ++ flat [p]) → W.grownBy w' v.ownBlock → K (act.put o.dst (.slice (some ⟨gg, 0, none⟩) (n + 1) cap)) w') :
    if Region.wanted o (yielded ops act.tmps) = true then Oper.wp P o act W K Q else E :=
  step_append_lies W hgd s x t ho base e i z 2 16 ht hi hz hsize hby hzs (by omega) v n xs hs hown ⟨g, 0, none⟩ 1 1 (flat [p]) hx rfl (pair_news h0 h1) flat_cells (by omega) h63 hbytes hbase W.heap.size rfl
    (fun gg cap w' h2 h3 _ _ => h gg cap w' h2 h3)
end Go.Proofs.Ytjcgclfcompioaa.Pairs
