/- Of no one law: a slice of arrays of two integers that came in, read as a list of pairs. -/
import Derived.Test.YtjcgclfcompioaaPairs
namespace Go.Proofs.Ytjcgclfcompioaa.Pairs
open Go.ChangeShapes Go.WideShapes Go.ChangeAt Go.RowKit

/-- The list's cells, one behind the other. -/
def flatK (k : IntKind) (zs : List (Int × Int)) : List Value := zs.flatMap fun p => [.int k p.1, .int k p.2]
theorem flatK_nil (k : IntKind) : flatK k [] = [] := rfl
theorem flatK_cons (k : IntKind) (p : Int × Int) (r : List (Int × Int)) : flatK k (p :: r) = .int k p.1 :: .int k p.2 :: flatK k r := rfl
theorem flatK_length (k : IntKind) : ∀ zs : List (Int × Int), (flatK k zs).length = zs.length * 2
  | [] => rfl
  | p :: r => by rw [flatK_cons, List.length_cons, List.length_cons, flatK_length k r, List.length_cons]; omega
theorem flatK_get0 (k : IntKind) : ∀ (zs : List (Int × Int)) (i : Nat), i < zs.length → (flatK k zs)[i * 2]? = some (.int k (zs.getD i (0, 0)).1)
  | p :: r, 0, _ => rfl
  | p :: r, i + 1, h => by
    rw [flatK_cons, show (i + 1) * 2 = i * 2 + 1 + 1 by omega, List.getElem?_cons_succ, List.getElem?_cons_succ, flatK_get0 k r i (by simpa using h)]
    rfl
theorem flatK_get1 (k : IntKind) : ∀ (zs : List (Int × Int)) (i : Nat), i < zs.length → (flatK k zs)[i * 2 + 1]? = some (.int k (zs.getD i (0, 0)).2)
  | p :: r, 0, _ => rfl
  | p :: r, i + 1, h => by
    rw [flatK_cons, show (i + 1) * 2 + 1 = i * 2 + 1 + 1 + 1 by omega, List.getElem?_cons_succ, List.getElem?_cons_succ, flatK_get1 k r i (by simpa using h)]
    rfl
theorem flatK_cells {k : IntKind} {zs : List (Int × Int)} : ∀ u ∈ flatK k zs, u.oneCell' = true := by
  intro u hu
  obtain ⟨p, -, hp⟩ := List.mem_flatMap.1 hu
  simp at hp
  rcases hp with rfl | rfl <;> rfl
/-- One pair in another's place. -/
theorem flatK_set (k : IntKind) (p : Int × Int) : ∀ (zs : List (Int × Int)) (i : Nat), ((flatK k zs).set (i * 2) (.int k p.1)).set (i * 2 + 1) (.int k p.2) = flatK k (zs.set i p)
  | [], _ => by simp [flatK]
  | q :: r, 0 => rfl
  | q :: r, i + 1 => by
    rw [flatK_cons, show (i + 1) * 2 = i * 2 + 1 + 1 by omega, List.set_cons_succ, List.set_cons_succ, List.set_cons_succ, List.set_cons_succ, flatK_set k p r i, List.set_cons_succ]
    rfl

/-- The value v is a slice of the pairs zs of integers of kind k, below block B. -/
def PrsK (k : IntKind) (w : World) (B : Nat) (v : Value) (zs : List (Int × Int)) : Prop :=
  ∃ (A : Option Addr) (c : Nat), v = .slice A zs.length c ∧ zs.length ≤ 9223372036854775807 ∧ ((A = none → c = 0) ∧ zs.length ≤ c) ∧
    (0 < zs.length → ∃ b off, A = some ⟨b, off, none⟩ ∧ b < B ∧ ∀ i, i < zs.length → w.cell? ⟨b, off + i * 2, none⟩ = some (.int k (zs.getD i (0, 0)).1) ∧ w.cell? ⟨b, off + i * 2 + 1, none⟩ = some (.int k (zs.getD i (0, 0)).2))
section
variable {k : IntKind} {w w' : World} {B B' : Nat} {v : Value} {zs : List (Int × Int)}
theorem PrsK.keep (h : PrsK k w B v zs) (hk : ∀ b o, b < B → w'.cell? ⟨b, o, none⟩ = w.cell? ⟨b, o, none⟩) : PrsK k w' B v zs := by
  obtain ⟨A, c, rfl, hl, hn, hc⟩ := h
  refine ⟨A, c, rfl, hl, hn, fun h0 => ?_⟩
  obtain ⟨b, off, rfl, hb, hcell⟩ := hc h0
  exact ⟨b, off, rfl, hb, fun i hi => ⟨(hk _ _ hb).trans (hcell i hi).1, (hk _ _ hb).trans (hcell i hi).2⟩⟩
theorem PrsK.below (h : PrsK k w B v zs) (hb : Below B w w') : PrsK k w' B v zs := h.keep fun b o hlt => hb.cell (p := ⟨b, o, none⟩) hlt
theorem PrsK.more (h : PrsK k w B v zs) (hB : B ≤ B') : PrsK k w B' v zs := by
  obtain ⟨A, c, rfl, hl, hn, hc⟩ := h
  refine ⟨A, c, rfl, hl, hn, fun h0 => ?_⟩
  obtain ⟨b, off, rfl, hb, hcell⟩ := hc h0
  exact ⟨b, off, rfl, by omega, hcell⟩
theorem PrsK.alloc (h : PrsK k w B v zs) (hB : B ≤ w.heap.size) (o : Obj) : PrsK k (w.alloc o) B v zs := h.keep fun b p hb => World.cell?_alloc_lt (w := w) (o := o) (a := ⟨b, p, none⟩) (by show b < _; omega)
theorem PrsK.shape (h : PrsK k w B v zs) : ∃ A c, v = .slice A zs.length c := by
  obtain ⟨A, c, rfl, -⟩ := h
  exact ⟨A, c, rfl⟩
theorem prsK_cells {n c : Nat} {ad : Addr} (h : PrsK k w B (.slice (some ad) n c) zs) : ∀ j u, (flatK k zs)[j]? = some u → w.cell? (ad.add j) = some u := by
  obtain ⟨A', c', e, hl, hn, hc⟩ := h
  injection e with e1 e2 e3
  subst e1
  intro j y hj
  have hlt : j < zs.length * 2 := by
    rcases Nat.lt_or_ge j (flatK k zs).length with h | h
    · rwa [flatK_length] at h
    · rw [List.getElem?_eq_none h] at hj; cases hj
  obtain ⟨b, off, hb, -, hcell⟩ := hc (by omega)
  injection hb with hb
  subst hb
  obtain ⟨c0, c1⟩ := hcell (j / 2) (by omega)
  rw [Go.WideShapes.add_plain]
  rcases Nat.mod_two_eq_zero_or_one j with hm | hm
  · rw [show j = j / 2 * 2 by omega, flatK_get0 k zs (j / 2) (by omega)] at hj
    rw [show off + j = off + j / 2 * 2 by omega, c0]; exact hj
  · rw [show j = j / 2 * 2 + 1 by omega, flatK_get1 k zs (j / 2) (by omega)] at hj
    rw [show off + j = off + j / 2 * 2 + 1 by omega, c1]; exact hj
end
section
variable {H : Type} {enc : TypeId × Value → H} {P : Program}
/-- An argument: a slice of arrays of two integers that came in. -/
theorem open_words {k : IntKind} {w : World} {b0 : Nat} {r : Reach} {t e ti : TypeId} {v : Value} {d : DataW H} {ps : List MemPlace}
    (ht : P.underlying t = some (.slice e)) (he : P.underlying e = some (.array 2 ti)) (ce : P.cellsOf e = 2) (hti : P.underlying ti = some (.int k)) (ci : P.cellsOf ti = 1)
    (hval : Value.okWide P w r b0 t v) (hd : DataW.Trod enc P w 0 (fun _ => true) true t v d ps) :
    ∃ zs : List (Int × Int), PrsK k w w.heap.size v zs ∧ ∀ z ∈ zs, (Lit.int k z.1).wf = true ∧ (Lit.int k z.2).wf = true := by
  obtain ⟨a0, len0, cap0, rfl⟩ := okWide_slice ht hval
  obtain ⟨fuel, hf⟩ := hd
  rcases Go.Deep.open_slice ht hf with ⟨h1, -⟩ | ⟨a, len, cap, m, n, D, Pl, h1, -, hlc, hm, hmm, -, hx⟩
  · simp [Value.cells] at h1
    obtain ⟨rfl, rfl, rfl⟩ := h1
    exact ⟨[], ⟨none, 0, rfl, by simp, ⟨fun _ => rfl, Nat.le_refl _⟩, fun h => absurd h (by simp)⟩, by simp⟩
  · simp [Value.cells] at h1
    obtain ⟨rfl, rfl, rfl⟩ := h1
    have hlm : len0 ≤ m := by rw [hmm]; split <;> omega
    have each : ∀ i, i < len0 → ∃ z : Int × Int, w.cell? (a.add (i * 2)) = some (.int k z.1) ∧ w.cell? (a.add (i * 2 + 1)) = some (.int k z.2) ∧ (Lit.int k z.1).wf = true ∧ (Lit.int k z.2).wf = true := by
      intro i hi
      obtain ⟨cs', g1, g2⟩ := hx i (by omega)
      rw [ce] at g1
      obtain ⟨_, hlen, hcell⟩ := World.cells?_some g1
      obtain ⟨xs, q, -, -, hxl, hxs, hall⟩ := DataW.trod_array he g2
      match xs, hxl, cs', hlen with
      | [y0, y1], _, [v0, v1], _ =>
        have f0 := hall 0 (by omega)
        have f1 := hall 1 (by omega)
        simp [ci] at f0 f1
        have e0 := hcell 0 (by omega)
        have e1 := hcell 1 (by omega)
        rw [Go.Deep.add_add] at e0 e1
        obtain ⟨z0, q0, -, w0⟩ := DataW.trod_int hti f0
        obtain ⟨z1, q1, -, w1⟩ := DataW.trod_int hti f1
        simp only [List.cons.injEq, and_true] at q0 q1
        exact ⟨(z0, z1), by rw [← q0]; simpa using e0, by rw [← q1]; simpa using e1, w0, w1⟩
    obtain ⟨Z, hZ⟩ : ∃ Z : Nat → Int × Int, ∀ i, i < len0 → w.cell? (a.add (i * 2)) = some (.int k (Z i).1) ∧ w.cell? (a.add (i * 2 + 1)) = some (.int k (Z i).2) ∧ (Lit.int k (Z i).1).wf = true ∧ (Lit.int k (Z i).2).wf = true :=
      ⟨fun i => if h : i < len0 then (each i h).choose else (0, 0), fun i hi => by simp only [dif_pos hi]; exact (each i hi).choose_spec⟩
    have hl : ((List.range len0).map Z).length = len0 := by simp
    refine ⟨(List.range len0).map Z, ⟨some a, cap0, by rw [hl], by rw [hl]; unfold maxLen at hm; omega, ⟨fun h => (by cases h), by rw [hl]; omega⟩, fun h0 => ?_⟩, fun z hz => ?_⟩
    · rw [hl] at h0 ⊢
      obtain ⟨b, off, spot⟩ := a
      have hspot : spot = none := by simpa [Addr.add] using World.cell?_spot (hZ 0 (by omega)).1
      subst hspot
      have cells : ∀ i, i < len0 → w.cell? ⟨b, off + i * 2, none⟩ = some (.int k (Z i).1) ∧ w.cell? ⟨b, off + i * 2 + 1, none⟩ = some (.int k (Z i).2) := by
        intro i hi
        have := hZ i hi
        rw [Go.WideShapes.add_plain, Go.WideShapes.add_plain] at this
        exact ⟨this.1, by rw [Nat.add_assoc]; exact this.2.1⟩
      refine ⟨b, off, rfl, block_lt (cells 0 h0).1, fun i hi => ?_⟩
      have e : ((List.range len0).map Z).getD i (0, 0) = Z i := by simp [List.getD_eq_getElem?_getD, hi]
      rw [e]
      exact cells i hi
    · obtain ⟨i, hi, rfl⟩ := List.mem_map.1 hz
      exact (hZ i (List.mem_range.1 hi)).2.2
end
section
variable {P : Program} {w : World} {k : IntKind}
theorem PrsK.of_own {base : Nat} {e : TypeId} {v : Value} {n : Nat} {zs : List (Int × Int)} (hn : n = zs.length) (h : w.ownsRow base e 2 v n (flatK k zs)) : PrsK k w w.heap.size v zs := by
  subst hn
  obtain ⟨hlen, ⟨rfl, h0⟩ | ⟨g, cap, cur, rfl, hg, hh, hnc, hm, hs, ht⟩⟩ := h
  · have : zs = [] := List.eq_nil_of_length_eq_zero h0
    subst this
    exact ⟨none, 0, rfl, by simp, ⟨fun _ => rfl, Nat.le_refl _⟩, fun h => absurd h (by simp)⟩
  · unfold maxLen at hm
    refine ⟨_, cap, rfl, by omega, ⟨fun h => (by cases h), hnc⟩, fun h0 => ⟨g, 0, rfl, ?_, fun i hi => ?_⟩⟩
    · rcases Nat.lt_or_ge g w.heap.size with hlt | hge
      · exact hlt
      · rw [Array.getElem?_eq_none hge] at hh; cases hh
    · have e1 : ∀ j, j < zs.length * 2 → cur.toList[j]? = (flatK k zs)[j]? := fun j hj => by rw [← ht, List.getElem?_take_of_lt hj]
      have c0 := e1 (i * 2) (by omega)
      have c1 := e1 (i * 2 + 1) (by omega)
      rw [flatK_get0 k zs i hi] at c0
      rw [flatK_get1 k zs i hi] at c1
      rw [Nat.zero_add]
      simp only [World.cell?, hh]
      exact ⟨by simpa using c0, by simpa using c1⟩
end
section
variable {P : Program} {w : World}
/-- append of a slice of pairs of integers of kind k to a row of the call's own. -/
theorem wpList_append_words {ops : Array Oper} {rest : List Oper} {o : Oper} {a : Act} {Q : Exit → Act → World → Prop} (hgd : o.guard = none) (s x : Operand) (t : TypeId)
    (ho : o.op = .call { callee := .builtin .append, args := #[s, x], argTypes := #[t, t] })
    (base : Nat) (e : TypeId) (i : TypeInfo) (z : Value) (bytes : Nat) (ht : P.underlying t = some (.slice e)) (hi : P.info? e = some i) (hz : i.zero = some z)
    (hsize : i.size = 2) (hby : i.bytes = bytes) (hzs : z.cells.size = 2)
    (v : Value) (n : Nat) (xs : List Value) (hs : a.eval s = v) (hown : w.ownsRow base e 2 v n xs)
    (k : IntKind) (B : Nat) (u : Value) (zs : List (Int × Int)) (hx : a.eval x = u) (hu : PrsK k w B u zs)
    (h63 : n + zs.length ≤ maxLen) (hbytes : (n + zs.length) * bytes ≤ 140737488355328) (hbase : base ≤ w.heap.size)
    (h : ∀ v' w', w'.ownsRow base e 2 v' (n + zs.length) (xs ++ flatK k zs) → w.grownBy w' v.ownBlock → wpList P ops Q rest (a.put o.dst v') w') : wpList P ops Q (o :: rest) a w := by
  obtain ⟨A, c, rfl⟩ := hu.shape
  cases A with
  | none =>
    have h0 : zs = [] ∧ c = 0 := by
      obtain ⟨A', c', e, -, hn, -⟩ := hu
      injection e with e1 e2 e3
      have h1 := hn.1 e1.symm
      exact ⟨List.eq_nil_of_length_eq_zero (by omega), by omega⟩
    obtain ⟨rfl, rfl⟩ := h0
    exact wpList_append_own_none hgd s x t ho base e i 2 ht hi v n xs hs hown hx (h v w (by simpa [flatK_nil] using hown) (World.grownBy.refl _ _))
  | some ad =>
    exact wpList_append_own _ hgd s x t ho base e i z 2 bytes ht hi hz hsize hby hzs (by omega) v n xs hs hown ad zs.length c (flatK k zs) hx (flatK_length k zs) (prsK_cells hu) flatK_cells h63 hbytes hbase (fun v' w' h1 h2 _ => h v' w' h1 h2)
/-- Two places of a row of the call's own exchanged. -/
theorem own_swap {k : IntKind} {base g n cap x y : Nat} {e : TypeId} {ks : List (Int × Int)} {p q : Int × Int} (h : w.ownsRow base e 2 (.slice (some ⟨g, 0, none⟩) n cap) n (flatK k ks)) :
    ((((w.setCell ⟨g, x * 2, none⟩ (.int k q.1)).setCell ⟨g, x * 2 + 1, none⟩ (.int k q.2)).setCell ⟨g, y * 2, none⟩ (.int k p.1)).setCell ⟨g, y * 2 + 1, none⟩ (.int k p.2)).ownsRow base e 2 (.slice (some ⟨g, 0, none⟩) n cap) n (flatK k ((ks.set x q).set y p)) ∧
      w.grownBy ((((w.setCell ⟨g, x * 2, none⟩ (.int k q.1)).setCell ⟨g, x * 2 + 1, none⟩ (.int k q.2)).setCell ⟨g, y * 2, none⟩ (.int k p.1)).setCell ⟨g, y * 2 + 1, none⟩ (.int k p.2)) (some g) := by
  obtain ⟨h1, g1⟩ := h.stored (x * 2) (.int k q.1)
  obtain ⟨h2, g2⟩ := h1.stored (x * 2 + 1) (.int k q.2)
  rw [flatK_set] at h2
  obtain ⟨h3, g3⟩ := h2.stored (y * 2) (.int k p.1)
  obtain ⟨h4, g4⟩ := h3.stored (y * 2 + 1) (.int k p.2)
  rw [flatK_set] at h4
  have tr : ∀ {a b c : World}, a.grownBy b (some g) → b.grownBy c (some g) → a.grownBy c (some g) := fun h k =>
    ⟨k.os.trans h.os, k.tape.trans h.tape, k.output.trans h.output, Nat.le_trans h.size k.size, fun i hi hr => (k.block i (Nat.lt_of_lt_of_le hi h.size) hr).trans (h.block i hi hr)⟩
  exact ⟨h4, tr (tr (tr g1 g2) g3) g4⟩
theorem own_words {k : IntKind} {base g n cap : Nat} {e : TypeId} {ks : List (Int × Int)} (h : w.ownsRow base e 2 (.slice (some ⟨g, 0, none⟩) n cap) n (flatK k ks)) (hn : ks.length = n) {i : Nat} (hi : i < n) :
    w.cell? ⟨g, i * 2, none⟩ = some (.int k (ks.getD i (0, 0)).1) ∧ w.cell? ⟨g, i * 2 + 1, none⟩ = some (.int k (ks.getD i (0, 0)).2) := by
  refine ⟨?_, ?_⟩
  · rw [h.cellAt (i * 2) (by omega), flatK_get0 k ks i (by omega)]
  · rw [h.cellAt (i * 2 + 1) (by omega), flatK_get1 k ks i (by omega)]
end
/-- Two places of a list exchanged: a rearrangement. -/
theorem swap_perm {ks : List (Int × Int)} {x y : Nat} (hx : x < ks.length) (hy : y < ks.length) : ((ks.set x (ks.getD y (0, 0))).set y (ks.getD x (0, 0))).Perm ks := by
  have e : ∀ i (h : i < ks.length), ks.getD i (0, 0) = ks[i] := fun i h => by rw [List.getD_eq_getElem?_getD, List.getElem?_eq_getElem h]; rfl
  rw [e x hx, e y hy]
  exact List.set_set_perm hx hy
end Go.Proofs.Ytjcgclfcompioaa.Pairs
