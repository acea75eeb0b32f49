/- Of layer 18: a state that came in by value: its loans and its bills, read as lists. -/
import Derived.Test.YtkddiaiohnbjpaaGreatDoorPlanC2
import Derived.Test.YtkddiaiohnbjpaaGreatDoorGLo
import Derived.Deep.SlicePairs
namespace Go.Proofs.YtkddiaiohnbjpaaGreatDoor.Plan
open Go.ChangeShapes Go.WideShapes Go.ChangeAt Go.RowKit Loan Box Rws Slice

/-- A bill: its loans' ids are a slice of their own. -/
structure Bl where
  month : Int
  amount : Int
  left : Int
  covered : Int
  how : Int
  v : Value
  ids : List Int
def bl0 : Bl := ⟨0, 0, 0, 0, 0, .slice none 0 0, []⟩
def Bl.cells (b : Bl) : Array Value := #[.int .i64 b.month, .int .i64 b.amount, .int .i64 b.left, .int .i64 b.covered, .int .i64 b.how, b.v]
theorem bl_len (b : Bl) : b.cells.toList.length = 6 := rfl
/-- The value v is a slice of the bills l, below block B, and so are their ids. -/
def Bls (w : World) (B : Nat) (v : Value) (l : List Bl) : Prop := Rws Bl.cells 6 w B v l ∧ ∀ b ∈ l, Ints w B .i64 b.v b.ids
theorem Bls.below {w w' : World} {B : Nat} {v : Value} {l : List Bl} (h : Bls w B v l) (hb : Below B w w') : Bls w' B v l := ⟨h.1.below hb, fun b hm => (h.2 b hm).below hb⟩
theorem bl_many : Tryz.prog.cellsOf 66 = 6 := by kernel_rfl
theorem st_many : Tryz.prog.cellsOf 38 = 13 := by kernel_rfl
theorem pt_many : Tryz.prog.cellsOf 36 = 4 := by kernel_rfl
theorem sl_i : Tryz.prog.cellsOf 41 = 1 := by kernel_rfl
theorem sl_n : Tryz.prog.cellsOf 33 = 1 := by kernel_rfl
theorem sl_b : Tryz.prog.cellsOf 34 = 1 := by kernel_rfl
section
variable {H : Type} {enc : TypeId × Value → H} {w : World}
theorem open_intsT {fuel : Nat} {v : Value} {x : DataW H × List MemPlace} (h : DataW.trod enc Tryz.prog w 0 (fun _ => true) true fuel 41 [v] = some x) : ∃ zs : List Int, Ints w w.heap.size .i64 v zs := by
  rcases open_ints Tryz.underlying41 Tryz.underlying3 one_i h with ⟨h1, -⟩ | ⟨a, len, cap, zs, h1, -, hlc, hm, hlen, -, hcell, -⟩
  · injection h1 with h1
    subst h1
    exact ⟨[], Ints.nil_ _ _ _⟩
  · injection h1 with h1
    subst h1
    simp only [if_true] at hlen
    have hl : (zs.take len).length = len := by rw [List.length_take]; omega
    refine ⟨zs.take len, some a, cap, by rw [hl], by rw [hl]; unfold maxLen at hm; omega, fun h => (by cases h), fun h0 => ?_⟩
    rw [hl] at h0 ⊢
    obtain ⟨b, off, rfl, hc⟩ := ints_at hcell (by omega)
    refine ⟨b, off, rfl, lt_of_cell (hc 0 (by omega)), fun i hi => ?_⟩
    rw [hc i (by omega)]
    congr 2
    simp only [List.getD_eq_getElem?_getD, List.getElem?_take, hi, if_true]
set_option maxRecDepth 20000 in
theorem bl_cells {fuel : Nat} {x : DataW H × List MemPlace} {cs : List Value} (h : DataW.trod enc Tryz.prog w 0 (fun _ => true) true fuel 66 cs = some x) : ∃ b : Bl, cs = b.cells.toList ∧ Ints w w.heap.size .i64 b.v b.ids := by
  obtain ⟨xs, q, -, -, hlen, hxl, hall⟩ := DataW.trod_struct Tryz.underlying66 h
  rw [bl_many] at hlen
  match xs, hxl, cs, hlen with
  | [y0, y1, y2, y3, y4, y5], _, [v0, v1, v2, v3, v4, v5], _ =>
    have k0 := hall 0 _ rfl
    simp [one_i] at k0
    obtain ⟨z0, q0, -, -⟩ := DataW.trod_int Tryz.underlying3 k0
    have k1 := hall 1 _ rfl
    simp [one_l] at k1
    obtain ⟨z1, q1, -, -⟩ := DataW.trod_int Tryz.underlying2 k1
    have k2 := hall 2 _ rfl
    simp [one_l] at k2
    obtain ⟨z2, q2, -, -⟩ := DataW.trod_int Tryz.underlying2 k2
    have k3 := hall 3 _ rfl
    simp [one_i] at k3
    obtain ⟨z3, q3, -, -⟩ := DataW.trod_int Tryz.underlying3 k3
    have k4 := hall 4 _ rfl
    simp [one_i] at k4
    obtain ⟨z4, q4, -, -⟩ := DataW.trod_int Tryz.underlying3 k4
    have k5 := hall 5 _ rfl
    simp [sl_i] at k5
    obtain ⟨zs, hz⟩ := open_intsT k5
    simp only [List.cons.injEq, and_true] at q0 q1 q2 q3 q4
    subst q0 q1 q2 q3 q4
    exact ⟨⟨z0, z1, z2, z3, z4, v5, zs⟩, rfl, hz⟩
set_option maxRecDepth 20000 in
theorem open_rws {α : Type} {f : α → Array Value} {c : Nat} {t e : TypeId} {R : α → Prop} {fuel : Nat} {v : Value} {x : DataW H × List MemPlace} (d0 : α) (ht : Tryz.prog.underlying t = some (.slice e)) (ce : Tryz.prog.cellsOf e = c) (hc : 0 < c)
    (each : ∀ (n : Nat) (cs : List Value) (y : DataW H × List MemPlace), DataW.trod enc Tryz.prog w 0 (fun _ => true) true n e cs = some y → ∃ b : α, cs = (f b).toList ∧ R b) (hf : ∀ b, (f b).toList.length = c)
    (h : DataW.trod enc Tryz.prog w 0 (fun _ => true) true fuel t [v] = some x) : ∃ l : List α, Rws f c w w.heap.size v l ∧ ∀ b ∈ l, R b := by
  rcases Go.Deep.open_slice ht h with ⟨h1, -⟩ | ⟨a, len, cap, m, n, D, Pl, h1, -, hlc, hm, hmm, -, hx⟩
  · injection h1 with h1
    subst h1
    exact ⟨[], Rws.nil_ _ _, by simp⟩
  · injection h1 with h1
    subst h1
    have hlm : len ≤ m := by rw [hmm]; split <;> omega
    have each' : ∀ i, i < len → ∃ b : α, (∀ j y, (f b).toList[j]? = some y → w.cell? (a.add (i * c + j)) = some y) ∧ R b := by
      intro i hi
      obtain ⟨cs', g1, g2⟩ := hx i (by omega)
      rw [ce] at g1
      obtain ⟨_, hlen, hcell⟩ := World.cells?_some g1
      obtain ⟨b, rfl, hR⟩ := each _ _ _ g2
      refine ⟨b, fun j y hj => ?_, hR⟩
      have hj' : j < (f b).toList.length := (List.getElem?_eq_some_iff.1 hj).1
      have := hcell j (by rw [← hf b]; exact hj')
      rw [Go.Deep.add_add] at this
      rw [this]
      exact hj
    obtain ⟨Z, hZ⟩ : ∃ Z : Nat → α, ∀ i, i < len → (∀ j y, (f (Z i)).toList[j]? = some y → w.cell? (a.add (i * c + j)) = some y) ∧ R (Z i) :=
      ⟨fun i => if h : i < len then (each' i h).choose else d0, fun i hi => by simp only [dif_pos hi]; exact (each' i hi).choose_spec⟩
    have hl : ((List.range len).map Z).length = len := by simp
    refine ⟨(List.range len).map Z, ⟨some a, cap, by rw [hl], by rw [hl]; unfold maxLen at hm; omega, ⟨fun h => (by cases h), by rw [hl]; omega⟩, fun h0 => ?_⟩, fun b hb => ?_⟩
    · rw [hl] at h0
      obtain ⟨y0, hy0⟩ : ∃ y, (f (Z 0)).toList[0]? = some y := ⟨_, List.getElem?_eq_getElem (by rw [hf]; exact hc)⟩
      have c0 := (hZ 0 h0).1 0 y0 hy0
      obtain ⟨b, off, spot⟩ := a
      have hspot : spot = none := by simpa [Addr.add] using World.cell?_spot c0
      subst hspot
      refine ⟨b, off, rfl, ?_, fun i x hi j y hj => ?_⟩
      · rw [Go.WideShapes.add_plain] at c0
        exact World.block_lt_of_cell? w _ c0
      · have hlt : i < len := by have := (List.getElem?_eq_some_iff.1 hi).1; rwa [hl] at this
        rw [List.getElem?_map, List.getElem?_range hlt] at hi
        injection hi with hi
        subst hi
        have := (hZ i hlt).1 j y hj
        rwa [Go.WideShapes.add_plain, ← Nat.add_assoc] at this
    · obtain ⟨i, hi, rfl⟩ := List.mem_map.1 hb
      exact (hZ i (List.mem_range.1 hi)).2
set_option maxRecDepth 20000 in
theorem pt_cells {fuel : Nat} {x : DataW H × List MemPlace} {cs : List Value} (h : DataW.trod enc Tryz.prog w 0 (fun _ => true) true fuel 36 cs = some x) : ∃ a b c d : Int, cs = [.int .i64 a, .int .i64 b, .int .i64 c, .int .i64 d] := by
  obtain ⟨xs, q, -, -, hlen, hxl, hall⟩ := DataW.trod_struct Tryz.underlying36 h
  rw [pt_many] at hlen
  match xs, hxl, cs, hlen with
  | [y0, y1, y2, y3], _, [v0, v1, v2, v3], _ =>
    have k0 := hall 0 _ rfl
    simp [one_l] at k0
    obtain ⟨z0, q0, -, -⟩ := DataW.trod_int Tryz.underlying2 k0
    have k1 := hall 1 _ rfl
    simp [one_l] at k1
    obtain ⟨z1, q1, -, -⟩ := DataW.trod_int Tryz.underlying2 k1
    have k2 := hall 2 _ rfl
    simp [one_l] at k2
    obtain ⟨z2, q2, -, -⟩ := DataW.trod_int Tryz.underlying2 k2
    have k3 := hall 3 _ rfl
    simp [one_l] at k3
    obtain ⟨z3, q3, -, -⟩ := DataW.trod_int Tryz.underlying2 k3
    simp only [List.cons.injEq, and_true] at q0 q1 q2 q3
    subst q0 q1 q2 q3
    exact ⟨z0, z1, z2, z3, rfl⟩
/-- What a state's numbers may be. -/
structure Sc.Fit (s : Sc) : Prop where
  plan : -9223372036854775808 ≤ s.plan ∧ s.plan ≤ 9223372036854775807
  since : -9223372036854775808 ≤ s.since ∧ s.since ≤ 9223372036854775807
  inc : -9223372036854775808 ≤ s.inc ∧ s.inc ≤ 9223372036854775807
  fam : -9223372036854775808 ≤ s.fam ∧ s.fam ≤ 9223372036854775807
variable {b0 : Nat} {r : Reach} {v : Value} {d : DataW H} {ps : List MemPlace}
set_option maxRecDepth 20000 in
set_option maxHeartbeats 1000000 in
theorem open_state (hval : Value.okWide Tryz.prog w r b0 38 v) (hd : DataW.Trod enc Tryz.prog w 0 (fun _ => true) true 38 v d ps) :
    ∃ (s : Sc) (lv bv : Value) (L : List Ln) (M : List Bl), v = .agg (s.cells lv bv) ∧ s.Fit ∧ Lns w w.heap.size lv L ∧ Bls w w.heap.size bv M := by
  obtain ⟨l, rfl, -, -⟩ : ∃ l, v = .agg l ∧ l.size = Tryz.prog.cellsOf 38 ∧ Row.okWide Tryz.prog w r b0 38 l := by
    simpa [Value.okWide, Tryz.underlying38] using hval
  obtain ⟨fuel, hf⟩ := hd
  obtain ⟨xs, q, -, -, hlen, hxl, hall⟩ := DataW.trod_struct Tryz.underlying38 hf
  rw [st_many] at hlen
  obtain ⟨l⟩ := l
  have hlen' : l.length = 13 := hlen
  match xs, hxl, l, hlen' with
  | [y0, y1, y2, y3, y4, y5, y6, y7, y8, y9], _, [v0, v1, v2, v3, v4, v5, v6, v7, v8, v9, v10, v11, v12], _ =>
    have k0 := hall 0 _ rfl
    simp [Value.cells, one_i] at k0
    obtain ⟨z0, q0, -, w0⟩ := DataW.trod_int Tryz.underlying3 k0
    have w0 := wf_i64 w0
    have k1 := hall 1 _ rfl
    simp [Value.cells, sl_n] at k1
    obtain ⟨L, hL, -⟩ := open_rws (f := Ln.cells) (R := fun _ => True) ln0 Tryz.underlying33 ln_many (by decide) (fun n cs y h => by obtain ⟨b, e, -⟩ := ln_cells h; exact ⟨b, e, trivial⟩) ln_len k1
    have k2 := hall 2 _ rfl
    simp [Value.cells, one_i] at k2
    obtain ⟨z2, q2, -, w2⟩ := DataW.trod_int Tryz.underlying3 k2
    have w2 := wf_i64 w2
    have k3 := hall 3 _ rfl
    simp [Value.cells, one_i] at k3
    obtain ⟨z3, q3, -, w3⟩ := DataW.trod_int Tryz.underlying3 k3
    have w3 := wf_i64 w3
    have k4 := hall 4 _ rfl
    simp [Value.cells, one_l] at k4
    obtain ⟨z4, q4, -, w4⟩ := DataW.trod_int Tryz.underlying2 k4
    have w4 := wf_i64 w4
    have k5 := hall 5 _ rfl
    simp [Value.cells, one_i] at k5
    obtain ⟨z5, q5, -, w5⟩ := DataW.trod_int Tryz.underlying3 k5
    have w5 := wf_i64 w5
    have k6 := hall 6 _ rfl
    simp [Value.cells, sl_b] at k6
    obtain ⟨M, hM, hI⟩ := open_rws (f := Bl.cells) (R := fun b => Ints w w.heap.size .i64 b.v b.ids) bl0 Tryz.underlying34 bl_many (by decide) (fun n cs y h => bl_cells h) bl_len k6
    have k7 := hall 7 _ rfl
    simp [Value.cells, one_l] at k7
    obtain ⟨z7, q7, -, w7⟩ := DataW.trod_int Tryz.underlying2 k7
    have w7 := wf_i64 w7
    have k8 := hall 8 _ rfl
    simp [Value.cells, pt_many] at k8
    obtain ⟨p0, p1, p2, p3, qp⟩ := pt_cells k8
    have k9 := hall 9 _ rfl
    simp [Value.cells, one_l] at k9
    obtain ⟨z9, q9, -, w9⟩ := DataW.trod_int Tryz.underlying2 k9
    have w9 := wf_i64 w9
    simp only [List.cons.injEq, and_true] at q0 q2 q3 q4 q5 q7 q9 qp
    obtain ⟨r0, r1, r2, r3⟩ := qp
    subst q0 q2 q3 q4 q5 q7 q9 r0 r1 r2 r3
    exact ⟨⟨z0, z2, z3, z4, z5, z7, p0, p1, p2, p3, z9⟩, v1, v6, L, M, rfl, ⟨w2, w3, w4, w5⟩, hL, hM, hI⟩
end
end Go.Proofs.YtkddiaiohnbjpaaGreatDoor.Plan
