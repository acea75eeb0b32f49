/- Of no one law: a slice of structs of a number, an unsigned one and a text that came in, read as a list. -/
import Derived.WalkKit
import Derived.ProofKit
import Derived.OpenShut
import Derived.Deep.SlicePairs
namespace Go.Proofs.Ytndmimmkjccgmaa.Items
open Go.ChangeShapes Go.WideShapes Go.ChangeAt Go.RowKit

/-- An item: its size, its number, its text. -/
structure It where
  size : Int
  v : Nat
  s : ByteArray
def it0 : It := ⟨0, 0, ⟨#[]⟩⟩
/-- The cells of item z, from place o of block b on. -/
def ItAt (w : World) (b o : Nat) (z : It) : Prop :=
  w.cell? ⟨b, o, none⟩ = some (.int .i64 z.size) ∧ w.cell? ⟨b, o + 1, none⟩ = some (.int .u64 (z.v : Int)) ∧ w.cell? ⟨b, o + 2, none⟩ = some (.string z.s)
/-- What a number, an unsigned one, a text may be. -/
def It.Fit (z : It) : Prop := (-9223372036854775808 ≤ z.size ∧ z.size ≤ 9223372036854775807) ∧ z.v < 18446744073709551616 ∧ z.s.size ≤ maxLen
/-- The value v is a slice of the items l, below block B. -/
def Its (w : World) (B : Nat) (v : Value) (l : List It) : Prop :=
  ∃ (A : Option Addr) (c : Nat), v = .slice A l.length c ∧ l.length ≤ 9223372036854775807 ∧ ((A = none → c = 0) ∧ l.length ≤ c) ∧
    (0 < l.length → ∃ b off, A = some ⟨b, off, none⟩ ∧ b < B ∧ ∀ i, i < l.length → ItAt w b (off + i * 3) (l.getD i it0))
section
variable {w w' : World} {B B' : Nat} {v : Value} {l : List It}
theorem Its.keep (h : Its w B v l) (hk : ∀ b o, b < B → w'.cell? ⟨b, o, none⟩ = w.cell? ⟨b, o, none⟩) : Its w' B v l := by
  obtain ⟨A, c, rfl, hl, hn, hc⟩ := h
  refine ⟨A, c, rfl, hl, hn, fun h0 => ?_⟩
  obtain ⟨b, off, rfl, hb, hcell⟩ := hc h0
  exact ⟨b, off, rfl, hb, fun i hi => ⟨(hk _ _ hb).trans (hcell i hi).1, (hk _ _ hb).trans (hcell i hi).2.1, (hk _ _ hb).trans (hcell i hi).2.2⟩⟩
theorem Its.below (h : Its w B v l) (hb : Below B w w') : Its w' B v l := h.keep fun b o hlt => hb.cell (p := ⟨b, o, none⟩) hlt
theorem Its.shape (h : Its w B v l) : ∃ A c, v = .slice A l.length c := by
  obtain ⟨A, c, rfl, -⟩ := h
  exact ⟨A, c, rfl⟩
end
section
variable {H : Type} {enc : TypeId × Value → H} {P : Program}
theorem block_lt {w : World} {b o : Nat} {v : Value} (h : w.cell? ⟨b, o, none⟩ = some v) : b < w.heap.size := World.block_lt_of_cell? w ⟨b, o, none⟩ h
theorem open_items {w : World} {b0 : Nat} {r : Reach} {t e ti tu ts : TypeId} {f0 f1 f2 : Field} {v : Value} {d : DataW H} {ps : List MemPlace}
    (ht : P.underlying t = some (.slice e)) (he : P.underlying e = some (.struct #[f0, f1, f2])) (ce : P.cellsOf e = 3) (o0 : f0.offset = 0) (o1 : f1.offset = 1) (o2 : f2.offset = 2)
    (t0 : f0.type = ti) (t1 : f1.type = tu) (t2 : f2.type = ts) (hti : P.underlying ti = some (.int .i64)) (htu : P.underlying tu = some (.int .u64)) (hts : P.underlying ts = some .string)
    (ci : P.cellsOf ti = 1) (cu : P.cellsOf tu = 1) (cs : P.cellsOf ts = 1)
    (hval : Value.okWide P w r b0 t v) (hd : DataW.Trod enc P w 0 (fun _ => true) true t v d ps) :
    ∃ l : List It, Its w w.heap.size v l ∧ ∀ z ∈ l, z.Fit := by
  obtain ⟨a0, len0, cap0, rfl⟩ := okWide_slice ht hval
  obtain ⟨fuel, hf⟩ := hd
  rcases Go.Deep.open_slice ht hf with ⟨h1, -⟩ | ⟨a, len, cap, m, n, D, Pl, h1, -, hlc, hm, hmm, -, hx⟩
  · simp [Value.cells] at h1
    obtain ⟨rfl, rfl, rfl⟩ := h1
    exact ⟨[], ⟨none, 0, rfl, by simp, ⟨fun _ => rfl, Nat.le_refl _⟩, fun h => absurd h (by simp)⟩, by simp⟩
  · simp [Value.cells] at h1
    obtain ⟨rfl, rfl, rfl⟩ := h1
    have hlm : len0 ≤ m := by rw [hmm]; split <;> omega
    have each : ∀ i, i < len0 → ∃ z : It, (w.cell? (a.add (i * 3)) = some (.int .i64 z.size) ∧ w.cell? (a.add (i * 3 + 1)) = some (.int .u64 (z.v : Int)) ∧ w.cell? (a.add (i * 3 + 2)) = some (.string z.s)) ∧ z.Fit := by
      intro i hi
      obtain ⟨cs', g1, g2⟩ := hx i (by omega)
      rw [ce] at g1
      obtain ⟨_, hlen, hcell⟩ := World.cells?_some g1
      obtain ⟨xs, q, -, -, -, hxl, hall⟩ := DataW.trod_struct he g2
      match xs, hxl, cs', hlen with
      | [y0, y1, y2], _, [v0, v1, v2], _ =>
        have k0 := hall 0 f0 rfl
        have k1 := hall 1 f1 rfl
        have k2 := hall 2 f2 rfl
        rw [t0] at k0
        rw [t1] at k1
        rw [t2] at k2
        simp [o0, ci] at k0
        simp [o1, cu] at k1
        simp [o2, cs] at k2
        have e0 := hcell 0 (by omega)
        have e1 := hcell 1 (by omega)
        have e2 := hcell 2 (by omega)
        rw [Go.Deep.add_add] at e0 e1 e2
        obtain ⟨z0, q0, -, w0⟩ := DataW.trod_int hti k0
        obtain ⟨z1, q1, -, w1⟩ := DataW.trod_int htu k1
        obtain ⟨s2, q2, -, w2⟩ := DataW.trod_string hts k2
        simp only [List.cons.injEq, and_true] at q0 q1 q2
        have h0 : -9223372036854775808 ≤ z0 ∧ z0 ≤ 9223372036854775807 := by simpa [Lit.wf, IntKind.min, IntKind.max, IntKind.bits, IntKind.signed] using w0
        have h1 : 0 ≤ z1 ∧ z1 ≤ 18446744073709551615 := by simpa [Lit.wf, IntKind.min, IntKind.max, IntKind.bits, IntKind.signed] using w1
        refine ⟨⟨z0, z1.toNat, s2⟩, ⟨by rw [← q0]; simpa using e0, ?_, by rw [← q2]; simpa using e2⟩, h0, by show z1.toNat < _; omega, w2⟩
        show _ = some (Value.int .u64 ((z1.toNat : Nat) : Int))
        rw [Int.toNat_of_nonneg h1.1, ← q1]; simpa using e1
    obtain ⟨Z, hZ⟩ : ∃ Z : Nat → It, ∀ i, i < len0 → (w.cell? (a.add (i * 3)) = some (.int .i64 (Z i).size) ∧ w.cell? (a.add (i * 3 + 1)) = some (.int .u64 ((Z i).v : Int)) ∧ w.cell? (a.add (i * 3 + 2)) = some (.string (Z i).s)) ∧ (Z i).Fit :=
      ⟨fun i => if h : i < len0 then (each i h).choose else it0, fun i hi => by simp only [dif_pos hi]; exact (each i hi).choose_spec⟩
    have hl : ((List.range len0).map Z).length = len0 := by simp
    refine ⟨(List.range len0).map Z, ⟨some a, cap0, by rw [hl], by rw [hl]; unfold maxLen at hm; omega, ⟨fun h => (by cases h), by rw [hl]; omega⟩, fun h0 => ?_⟩, fun z hz => ?_⟩
    · rw [hl] at h0 ⊢
      obtain ⟨b, off, spot⟩ := a
      have hspot : spot = none := by simpa [Addr.add] using World.cell?_spot (hZ 0 (by omega)).1.1
      subst hspot
      have cells : ∀ i, i < len0 → ItAt w b (off + i * 3) (Z i) := by
        intro i hi
        have := (hZ i hi).1
        rw [Go.WideShapes.add_plain, Go.WideShapes.add_plain, Go.WideShapes.add_plain] at this
        exact ⟨this.1, by rw [Nat.add_assoc]; exact this.2.1, by rw [Nat.add_assoc]; exact this.2.2⟩
      refine ⟨b, off, rfl, block_lt (cells 0 h0).1, fun i hi => ?_⟩
      have e : ((List.range len0).map Z).getD i it0 = Z i := by simp [List.getD_eq_getElem?_getD, hi]
      rw [e]
      exact cells i hi
    · obtain ⟨i, hi, rfl⟩ := List.mem_map.1 hz
      exact (hZ i (List.mem_range.1 hi)).2
/-- An item by value. -/
theorem open_item {w : World} {base b0 : Nat} {spare : Nat → Bool} {held : Bool} {r : Reach} {t ti tu ts : TypeId} {f0 f1 f2 : Field} {v : Value} {d : DataW H} {ps : List MemPlace}
    (he : P.underlying t = some (.struct #[f0, f1, f2])) (ce : P.cellsOf t = 3) (o0 : f0.offset = 0) (o1 : f1.offset = 1) (o2 : f2.offset = 2)
    (t0 : f0.type = ti) (t1 : f1.type = tu) (t2 : f2.type = ts) (hti : P.underlying ti = some (.int .i64)) (htu : P.underlying tu = some (.int .u64)) (hts : P.underlying ts = some .string)
    (ci : P.cellsOf ti = 1) (cu : P.cellsOf tu = 1) (cs : P.cellsOf ts = 1)
    (hval : Value.okWide P w r b0 t v) (hd : DataW.Trod enc P w base spare held t v d ps) :
    ∃ z : It, v = .agg #[.int .i64 z.size, .int .u64 (z.v : Int), .string z.s] ∧ z.Fit := by
  obtain ⟨l, rfl, hsz, -⟩ : ∃ l, v = .agg l ∧ l.size = P.cellsOf t ∧ Row.okWide P w r b0 t l := by
    simpa [Value.okWide, he] using hval
  obtain ⟨fuel, hf⟩ := hd
  obtain ⟨xs, q, -, -, -, hxl, hall⟩ := DataW.trod_struct he hf
  obtain ⟨l⟩ := l
  have hl : l.length = 3 := by rw [← ce]; simpa using hsz
  match xs, hxl, l, hl with
  | [y0, y1, y2], _, [v0, v1, v2], _ =>
    have k0 := hall 0 f0 rfl
    have k1 := hall 1 f1 rfl
    have k2 := hall 2 f2 rfl
    rw [t0] at k0
    rw [t1] at k1
    rw [t2] at k2
    simp [Value.cells, o0, ci] at k0
    simp [Value.cells, o1, cu] at k1
    simp [Value.cells, o2, cs] at k2
    obtain ⟨z0, q0, -, w0⟩ := DataW.trod_int hti k0
    obtain ⟨z1, q1, -, w1⟩ := DataW.trod_int htu k1
    obtain ⟨s2, q2, -, w2⟩ := DataW.trod_string hts k2
    simp only [List.cons.injEq, and_true] at q0 q1 q2
    have h0 : -9223372036854775808 ≤ z0 ∧ z0 ≤ 9223372036854775807 := by simpa [Lit.wf, IntKind.min, IntKind.max, IntKind.bits, IntKind.signed] using w0
    have h1 : 0 ≤ z1 ∧ z1 ≤ 18446744073709551615 := by simpa [Lit.wf, IntKind.min, IntKind.max, IntKind.bits, IntKind.signed] using w1
    subst q0 q1 q2
    refine ⟨⟨z0, z1.toNat, s2⟩, ?_, h0, by show z1.toNat < _; omega, w2⟩
    show Value.agg _ = Value.agg #[.int .i64 z0, .int .u64 ((z1.toNat : Nat) : Int), .string s2]
    rw [Int.toNat_of_nonneg h1.1]
end
end Go.Proofs.Ytndmimmkjccgmaa.Items
