/- Of no one law: bills in a slice, read as lists; two lists of bills that are alike; a copy in new memory. -/
import Derived.Test.YtjjbdemhccpllaaDoorGA
import Derived.Test.YtjjbdemhccpllaaDoorGDue
import Derived.Test.YtjjbdemhccpllaaDoorGNum
import Derived.Deep.SlicePairs
import Derived.Deep.Onto
namespace Go.Proofs.YtjjbdemhccpllaaDoor.Plan
open Go.ChangeShapes Go.WideShapes Go.ChangeAt Go.RowKit Loan Money Box Rws Slice
set_option linter.unusedSimpArgs false

theorem info_parts {P : Program} {t : TypeId} {z : Value} {s b : Nat} (h : (P.info? t).map (fun i => (i.zero, i.size, i.bytes)) = some (some z, s, b)) : ∃ i, P.info? t = some i ∧ i.zero = some z ∧ i.size = s ∧ i.bytes = b := by
  cases e : P.info? t with
  | none => rw [e] at h; cases h
  | some i => rw [e] at h; injection h with h; injection h with h1 h2; injection h2 with h2 h3; exact ⟨i, rfl, h1, h2, h3⟩
theorem own_slice' {w : World} {base n s : Nat} {e : TypeId} {v : Value} {xs : List Value} (h : w.ownsRow base e s v n xs) : ∃ A c, v = .slice A n c := by
  rcases h.2 with ⟨rfl, rfl⟩ | ⟨g, cap, cur, rfl, -⟩
  · exact ⟨none, 0, rfl⟩
  · exact ⟨_, _, rfl⟩
theorem below_row {a w w' : World} {v : Value} {base n size : Nat} {e : TypeId} {xs : List Value} (h : Below a.heap.size a w) (hb : a.heap.size ≤ base) (ho : w.ownsRow base e size v n xs) (hg : w.grownBy w' v.ownBlock) : Below a.heap.size a w' :=
  ⟨hg.os.trans h.os, hg.tape.trans h.tape, hg.output.trans h.output, Nat.le_trans h.size hg.size, fun k hk => (hg.block k (Nat.lt_of_lt_of_le hk h.size) (fun e => by
    have := (ho.lt k e.symm).1
    omega)).trans (h.block k hk)⟩
theorem own_below {w w' : World} {base n size : Nat} {e : TypeId} {v : Value} {xs : List Value} (h : w.ownsRow base e size v n xs) (hb : Below w.heap.size w w') : w'.ownsRow base e size v n xs :=
  h.kept (grown_below hb none) (by cases v.ownBlock with
    | none => exact Or.inl rfl
    | some k => exact Or.inr (by simp))
theorem int_zero : (Tryd.prog.info? 3).map (fun i => (i.zero, i.size, i.bytes)) = some (some (.int .i64 0), 1, 8) := by kernel_rfl
theorem one_grown {g : Nat} {w w' : World} (h : One g w w') : w.grownBy w' (some g) := ⟨h.os, h.tape, h.output, h.size, fun k hk hn => h.block k hk (fun e => hn (by rw [e]))⟩
theorem ints_one : (Tryd.prog.info? 26).map (·.size) = some 1 := by kernel_rfl
/-- A bill: its loans' ids are a slice of their own. -/
structure Bl where
  month : Int
  amount : Int
  left : Int
  covered : Int
  how : Int
  v : Value
  ids : List Int
def bl0 : Bl := ⟨0, 0, 0, 0, 0, .slice none 0 0, []⟩
def Bl.cells (b : Bl) : Array Value := #[.int .i64 b.month, .int .i64 b.amount, .int .i64 b.left, .int .i64 b.covered, .int .i64 b.how, b.v]
theorem bl_len (b : Bl) : b.cells.toList.length = 6 := rfl
/-- The value v is a slice of the bills l, below block B, and so are their ids. -/
def Bls (w : World) (B : Nat) (v : Value) (l : List Bl) : Prop := Rws Bl.cells 6 w B v l ∧ ∀ b ∈ l, Ints w B .i64 b.v b.ids
theorem Bls.below {w w' : World} {B : Nat} {v : Value} {l : List Bl} (h : Bls w B v l) (hb : Below B w w') : Bls w' B v l := ⟨h.1.below hb, fun b hm => (h.2 b hm).below hb⟩
theorem bl_many : Tryd.prog.cellsOf 28 = 6 := by kernel_rfl
theorem sl_i : Tryd.prog.cellsOf 26 = 1 := by kernel_rfl
theorem sl_b : Tryd.prog.cellsOf 22 = 1 := by kernel_rfl
section
variable {H : Type} {enc : TypeId × Value → H} {w : World}
theorem open_intsT {fuel : Nat} {v : Value} {x : DataW H × List MemPlace} (h : DataW.trod enc Tryd.prog w 0 (fun _ => true) true fuel 26 [v] = some x) : ∃ zs : List Int, Ints w w.heap.size .i64 v zs := by
  rcases open_ints Tryd.underlying26 Tryd.underlying3 one_i h with ⟨h1, -⟩ | ⟨a, len, cap, zs, h1, -, hlc, hm, hlen, -, hcell, -⟩
  · injection h1 with h1
    subst h1
    exact ⟨[], Ints.nil_ _ _ _⟩
  · injection h1 with h1
    subst h1
    simp only [if_true] at hlen
    have hl : (zs.take len).length = len := by rw [List.length_take]; omega
    refine ⟨zs.take len, some a, cap, by rw [hl], by rw [hl]; unfold maxLen at hm; omega, fun h => (by cases h), fun h0 => ?_⟩
    rw [hl] at h0 ⊢
    obtain ⟨b, off, rfl, hc⟩ := ints_at hcell (by omega)
    refine ⟨b, off, rfl, lt_of_cell (hc 0 (by omega)), fun i hi => ?_⟩
    rw [hc i (by omega)]
    congr 2
    simp only [List.getD_eq_getElem?_getD, List.getElem?_take, hi, if_true]
set_option maxRecDepth 20000 in
theorem bl_cells {fuel : Nat} {x : DataW H × List MemPlace} {cs : List Value} (h : DataW.trod enc Tryd.prog w 0 (fun _ => true) true fuel 28 cs = some x) : ∃ b : Bl, cs = b.cells.toList ∧ Ints w w.heap.size .i64 b.v b.ids := by
  obtain ⟨xs, q, -, -, hlen, hxl, hall⟩ := DataW.trod_struct Tryd.underlying28 h
  rw [bl_many] at hlen
  match xs, hxl, cs, hlen with
  | [y0, y1, y2, y3, y4, y5], _, [v0, v1, v2, v3, v4, v5], _ =>
    have k0 := hall 0 _ rfl
    simp [one_i] at k0
    obtain ⟨z0, q0, -, -⟩ := DataW.trod_int Tryd.underlying3 k0
    have k1 := hall 1 _ rfl
    simp [one_l] at k1
    obtain ⟨z1, q1, -, -⟩ := DataW.trod_int Tryd.underlying2 k1
    have k2 := hall 2 _ rfl
    simp [one_l] at k2
    obtain ⟨z2, q2, -, -⟩ := DataW.trod_int Tryd.underlying2 k2
    have k3 := hall 3 _ rfl
    simp [one_i] at k3
    obtain ⟨z3, q3, -, -⟩ := DataW.trod_int Tryd.underlying3 k3
    have k4 := hall 4 _ rfl
    simp [one_i] at k4
    obtain ⟨z4, q4, -, -⟩ := DataW.trod_int Tryd.underlying3 k4
    have k5 := hall 5 _ rfl
    simp [sl_i] at k5
    obtain ⟨zs, hz⟩ := open_intsT k5
    simp only [List.cons.injEq, and_true] at q0 q1 q2 q3 q4
    subst q0 q1 q2 q3 q4
    exact ⟨⟨z0, z1, z2, z3, z4, v5, zs⟩, rfl, hz⟩
set_option maxRecDepth 20000 in
theorem open_rws {α : Type} {f : α → Array Value} {c : Nat} {t e : TypeId} {R : α → Prop} {fuel : Nat} {v : Value} {x : DataW H × List MemPlace} (d0 : α) (ht : Tryd.prog.underlying t = some (.slice e)) (ce : Tryd.prog.cellsOf e = c) (hc : 0 < c)
    (each : ∀ (n : Nat) (cs : List Value) (y : DataW H × List MemPlace), DataW.trod enc Tryd.prog w 0 (fun _ => true) true n e cs = some y → ∃ b : α, cs = (f b).toList ∧ R b) (hf : ∀ b, (f b).toList.length = c)
    (h : DataW.trod enc Tryd.prog w 0 (fun _ => true) true fuel t [v] = some x) : ∃ l : List α, Rws f c w w.heap.size v l ∧ ∀ b ∈ l, R b := by
  rcases Go.Deep.open_slice ht h with ⟨h1, -⟩ | ⟨a, len, cap, m, n, D, Pl, h1, -, hlc, hm, hmm, -, hx⟩
  · injection h1 with h1
    subst h1
    exact ⟨[], Rws.nil_ _ _, by simp⟩
  · injection h1 with h1
    subst h1
    have hlm : len ≤ m := by rw [hmm]; split <;> omega
    have each' : ∀ i, i < len → ∃ b : α, (∀ j y, (f b).toList[j]? = some y → w.cell? (a.add (i * c + j)) = some y) ∧ R b := by
      intro i hi
      obtain ⟨cs', g1, g2⟩ := hx i (by omega)
      rw [ce] at g1
      obtain ⟨_, hlen, hcell⟩ := World.cells?_some g1
      obtain ⟨b, rfl, hR⟩ := each _ _ _ g2
      refine ⟨b, fun j y hj => ?_, hR⟩
      have hj' : j < (f b).toList.length := (List.getElem?_eq_some_iff.1 hj).1
      have := hcell j (by rw [← hf b]; exact hj')
      rw [Go.Deep.add_add] at this
      rw [this]
      exact hj
    obtain ⟨Z, hZ⟩ : ∃ Z : Nat → α, ∀ i, i < len → (∀ j y, (f (Z i)).toList[j]? = some y → w.cell? (a.add (i * c + j)) = some y) ∧ R (Z i) :=
      ⟨fun i => if h : i < len then (each' i h).choose else d0, fun i hi => by simp only [dif_pos hi]; exact (each' i hi).choose_spec⟩
    have hl : ((List.range len).map Z).length = len := by simp
    refine ⟨(List.range len).map Z, ⟨some a, cap, by rw [hl], by rw [hl]; unfold maxLen at hm; omega, ⟨fun h => (by cases h), by rw [hl]; omega⟩, fun h0 => ?_⟩, fun b hb => ?_⟩
    · rw [hl] at h0
      obtain ⟨y0, hy0⟩ : ∃ y, (f (Z 0)).toList[0]? = some y := ⟨_, List.getElem?_eq_getElem (by rw [hf]; exact hc)⟩
      have c0 := (hZ 0 h0).1 0 y0 hy0
      obtain ⟨b, off, spot⟩ := a
      have hspot : spot = none := by simpa [Addr.add] using World.cell?_spot c0
      subst hspot
      refine ⟨b, off, rfl, ?_, fun i x hi j y hj => ?_⟩
      · rw [Go.WideShapes.add_plain] at c0
        exact World.block_lt_of_cell? w _ c0
      · have hlt : i < len := by have := (List.getElem?_eq_some_iff.1 hi).1; rwa [hl] at this
        rw [List.getElem?_map, List.getElem?_range hlt] at hi
        injection hi with hi
        subst hi
        have := (hZ i hlt).1 j y hj
        rwa [Go.WideShapes.add_plain, ← Nat.add_assoc] at this
    · obtain ⟨i, hi, rfl⟩ := List.mem_map.1 hb
      exact (hZ i (List.mem_range.1 hi)).2
end
set_option linter.unusedSimpArgs false

/-- The second list of bills is the first one, its ids in slices of their own. -/
def AlikeB (M M' : List Bl) : Prop := M'.length = M.length ∧ ∀ (i : Nat) (x : Bl), M[i]? = some x → ∃ v, M'[i]? = some { x with v := v }
theorem AlikeB.refl (M : List Bl) : AlikeB M M := ⟨rfl, fun (_ : Nat) (x : Bl) h => ⟨x.v, h⟩⟩
theorem bl_info (b : Bl) : (Tryd.prog.info? 28).map (·.size) = some b.cells.size := by
  show _ = some 6
  kernel_rfl
theorem bl_info' (b : Bl) : (Tryd.prog.info? 28).map (·.size) = some b.cells.toList.length := by
  show _ = some 6
  kernel_rfl
set_option maxRecDepth 20000 in
set_option maxHeartbeats 4000000 in
theorem same_bill (m a l c h : Int) (ids : List Int) (v1 v2 : Value) (B : Nat) (w : World) (hB0 : B ≤ w.heap.size) (h1 : Ints w B .i64 v1 ids) (h2 : Ints w B .i64 v2 ids) : Calls Tryd.prog 19 #[.agg #[.int .i64 m, .int .i64 a, .int .i64 l, .int .i64 c, .int .i64 h, v1], .agg #[.int .i64 m, .int .i64 a, .int .i64 l, .int .i64 c, .int .i64 h, v2]] w fun e w' => e = .returned (.bool true) ∧ Below w.heap.size w w' := by
  obtain ⟨A1, k1, rfl, -⟩ := id h1
  obtain ⟨A2, k2, rfl, -⟩ := id h2
  have H1 := Lib.hid h1
  have H2 := Lib.hid h2
  have HB := Lib.hid hB0
  clear h1 h2 hB0
  obtain ⟨g, w0, e0, f0, hB, hb⟩ := boxd_new w (#[.int .i64 m, .int .i64 a, .int .i64 l, .int .i64 c, .int .i64 h, (.slice A1 ids.length k1)] : Array Value) 28
  obtain ⟨k, w1, e1, f1, hK, hb2⟩ := boxd_new w0 #[.int .i64 m, .int .i64 a, .int .i64 l, .int .i64 c, .int .i64 h, (.slice A2 ids.length k2)] 28
  have b1 : k = g + 1 := by rw [e1, f0, Deep.nblk_alloc, ← e0]
  have HW := Lib.hid (below_to hb hb2)
  replace hB := hB.below hb2
  have c0 : w1.cell? ⟨g, 0, none⟩ = some (.int .i64 m) := hB.cell
  have d0 : w1.cell? ⟨k, 0, none⟩ = some (.int .i64 m) := hK.cell
  have t0 : (m == m) = true := by simp
  have c1 : w1.cell? ⟨g, 1, none⟩ = some (.int .i64 a) := hB.cell
  have d1 : w1.cell? ⟨k, 1, none⟩ = some (.int .i64 a) := hK.cell
  have t1 : (a == a) = true := by simp
  have c2 : w1.cell? ⟨g, 2, none⟩ = some (.int .i64 l) := hB.cell
  have d2 : w1.cell? ⟨k, 2, none⟩ = some (.int .i64 l) := hK.cell
  have t2 : (l == l) = true := by simp
  have c3 : w1.cell? ⟨g, 3, none⟩ = some (.int .i64 c) := hB.cell
  have d3 : w1.cell? ⟨k, 3, none⟩ = some (.int .i64 c) := hK.cell
  have t3 : (c == c) = true := by simp
  have c4 : w1.cell? ⟨g, 4, none⟩ = some (.int .i64 h) := hB.cell
  have d4 : w1.cell? ⟨k, 4, none⟩ = some (.int .i64 h) := hK.cell
  have t4 : (h == h) = true := by simp
  have c5 : w1.cell? ⟨g, 5, none⟩ = some (.slice A1 ids.length k1) := hB.cell
  have d5 : w1.cell? ⟨k, 5, none⟩ = some (.slice A2 ids.length k2) := hK.cell
  have KI := Lib.hid (fun W g1 g2 => Due.ints_same ids (.slice A1 ids.length k1) (.slice A2 ids.length k2) B W g1 g2)
  clear hB hK hb hb2
  go_enter Tryd.func19, Tryd.ntmps19
  go_upto_region 1 with fail
  rw [← f0, ← e0, ← b1, ← f1]
  clear e0 f0 e1 f1 b1
  go_wp2_with (first
    | (go_at_call 26; (refine (KI.out _ (H1.out.below (HW.out.mono HB.out)) (H2.out.below (HW.out.mono HB.out))).mono ?_); rintro e y ⟨rfl, n, hw⟩; have HY : Hid (Below w.heap.size w y) := (show Below _ _ _ by rw [hw]; exact below_drewN HW.out _); clear hw))
  go_ret
  exact ⟨rfl, HY.out⟩
set_option maxRecDepth 20000 in
set_option maxHeartbeats 4000000 in
theorem same_bills (L L' : List Bl) (ha : AlikeB L L') (v1 v2 : Value) (B : Nat) (w : World) (hB0 : B ≤ w.heap.size) (h1 : Bls w B v1 L) (h2 : Bls w B v2 L') : Calls Tryd.prog 20 #[v1, v2] w fun e w' => e = .returned (.bool true) ∧ Below w.heap.size w w' := by
  obtain ⟨A1, k1, rfl⟩ := h1.1.shape
  obtain ⟨A2, k2, rfl⟩ := h2.1.shape
  have e2 := ha.1
  have lL := h1.1.len
  rw [e2]
  have H1 := Lib.hid h1
  have H2 := Lib.hid h2
  have HA := Lib.hid ha
  have HB := Lib.hid hB0
  clear h1 h2 hB0 ha
  go_enter Tryd.func20, Tryd.ntmps20
  go_wp2_with fail
  go_loopw [5] (fun t wr => ∃ j : Nat, j ≤ L.length ∧ t = .int .i64 j ∧ Hid (Below w.heap.size w wr)) (fun t _ => L.length - (intOf t).toNat)
  case atStart => exact ⟨0, Nat.zero_le _, rfl, Below.refl _ _⟩
  case round =>
    obtain ⟨j, hj, rfl, HX⟩ := hrel

    by_cases hlt : j < L.length
    · obtain ⟨b1, o1, k', e0, hb1, -⟩ := H1.out.1.open (by omega)
      injection e0 with e0 _ e3
      subst e0 e3
      obtain ⟨b2, o2, k', e0, hb2, -⟩ := H2.out.1.open (by omega)
      injection e0 with e0 _ e3
      subst e0 e3
      obtain ⟨x, hx⟩ : ∃ x, L[j]? = some x := ⟨_, List.getElem?_eq_getElem hlt⟩
      obtain ⟨vy, hy⟩ := HA.out.2 j x hx
      have HB1 := Lib.hid hb1
      have HB2 := Lib.hid hb2
      have hr1 := H1.out.1.at_ hx
      have hr2 := H2.out.1.at_ hy
      have HR1 : Hid (wr.rangeAt b1 (o1 + j * 6) x.cells.toList) := range_keep hr1 (HX.out.mono HB.out) hb1
      have HR2 : Hid (wr.rangeAt b2 (o2 + j * 6) ({ x with v := vy } : Bl).cells.toList) := range_keep hr2 (HX.out.mono HB.out) hb2
      have HS1 := Lib.hid (bl_info' x)
      have HS2 := Lib.hid (bl_info' { x with v := vy })
      have hi1 := H1.out.2 x (List.mem_of_getElem? hx)
      have hi2 : Ints w B .i64 vy x.ids := H2.out.2 _ (List.mem_of_getElem? hy)
      have KL : Hid (∀ W, Below w.heap.size w W → Calls Tryd.prog 19 #[.agg x.cells, .agg ({ x with v := vy } : Bl).cells] W fun e w' => e = .returned (.bool true) ∧ Below W.heap.size W w') := fun W hb => same_bill x.month x.amount x.left x.covered x.how x.ids x.v vy B W (Nat.le_trans HB.out hb.size) (hi1.below (hb.mono HB.out)) (hi2.below (hb.mono HB.out))
      clear hx hy hb1 hb2 hr1 hr2 hi1 hi2
      generalize ({ x with v := vy } : Bl).cells = D at *
      generalize x.cells = C at *
      go_upto_region 6 with fail
      have hS0 : wr.drew.rangeAt b1 (o1 + j * 6) C.toList ∧ wr.drew.rangeAt b2 (o2 + j * 6) D.toList := ⟨HR1.out, HR2.out⟩
      refine wp_region_held_drew (S := (fun W => W.rangeAt b1 (o1 + j * 6) C.toList ∧ W.rangeAt b2 (o2 + j * 6) D.toList)) (by kernel_rfl) hS0 (fun hHeld => ?_)
      refine ByHand.take_yes (v := ?_) 0 17 rfl rfl (by kernel_rfl) (by kernel_rfl) (by kernel_rfl) (fun _ _ _ h => h) (by rfl) ?_ (by assumption) ?_
      rotate_left
      · intro w' hSw
        (try dsimp only at hSw)
        go_simp
        all_goals with_reducible rfl
      (try simp only [Act.put, List.setIfInBounds_toArray, List.set_cons_zero, List.set_cons_succ])
      refine ByHand.take_yes (v := ?_) 1 18 rfl rfl (by kernel_rfl) (by kernel_rfl) (by kernel_rfl) (fun _ _ _ h => h) (by rfl) ?_ (by assumption) ?_
      rotate_left
      · intro w' hSw
        (try dsimp only at hSw)
        go_simp
        all_goals with_reducible rfl
      (try simp only [Act.put, List.setIfInBounds_toArray, List.set_cons_zero, List.set_cons_succ])
      refine ByHand.take_yes (v := ?_) 2 19 rfl rfl (by kernel_rfl) (by kernel_rfl) (by kernel_rfl) (fun _ _ _ h => h) (by rfl) ?_ (by assumption) ?_
      rotate_left
      · intro w' hSw
        (try dsimp only at hSw)
        go_simp
        all_goals with_reducible rfl
      (try simp only [Act.put, List.setIfInBounds_toArray, List.set_cons_zero, List.set_cons_succ])
      refine take_mid 3 20 rfl rfl (by kernel_rfl) (by kernel_rfl) (by kernel_rfl) 28 _ rfl b1 (o1 + j * 6) rfl C _ Tryd.underlying28 rfl HS1.out (fun _ h => h.1) (fun _ _ _ h => h) (by rfl) (by assumption) ?_
      (try simp only [Act.put, List.setIfInBounds_toArray, List.set_cons_zero, List.set_cons_succ])
      refine ByHand.take_yes (v := ?_) 4 21 rfl rfl (by kernel_rfl) (by kernel_rfl) (by kernel_rfl) (fun _ _ _ h => h) (by rfl) ?_ (by assumption) ?_
      rotate_left
      · intro w' hSw
        (try dsimp only at hSw)
        go_simp
        all_goals with_reducible rfl
      (try simp only [Act.put, List.setIfInBounds_toArray, List.set_cons_zero, List.set_cons_succ])
      refine ByHand.take_yes (v := ?_) 5 22 rfl rfl (by kernel_rfl) (by kernel_rfl) (by kernel_rfl) (fun _ _ _ h => h) (by rfl) ?_ (by assumption) ?_
      rotate_left
      · intro w' hSw
        (try dsimp only at hSw)
        go_simp
        all_goals with_reducible rfl
      (try simp only [Act.put, List.setIfInBounds_toArray, List.set_cons_zero, List.set_cons_succ])
      refine ByHand.take_yes (v := ?_) 6 23 rfl rfl (by kernel_rfl) (by kernel_rfl) (by kernel_rfl) (fun _ _ _ h => h) (by rfl) ?_ (by assumption) ?_
      rotate_left
      · intro w' hSw
        (try dsimp only at hSw)
        go_simp
        all_goals with_reducible rfl
      (try simp only [Act.put, List.setIfInBounds_toArray, List.set_cons_zero, List.set_cons_succ])
      refine take_mid 7 24 rfl rfl (by kernel_rfl) (by kernel_rfl) (by kernel_rfl) 28 _ rfl b2 (o2 + j * 6) rfl D _ Tryd.underlying28 rfl HS2.out (fun _ h => h.2) (fun _ _ _ h => h) (by rfl) (by assumption) ?_
      (try simp only [Act.put, List.setIfInBounds_toArray, List.set_cons_zero, List.set_cons_succ])
      refine wpAnyH_ready (rs := [8]) (by kernel_rfl) (by simp) (AllReadyH.cons rfl (fun K hK => ?_) AllReadyH.nil)
      go_simp
      refine (KL.out _ (below_drawn HX.out)).mono ?_
      rintro e y ⟨rfl, hb⟩
      replace hb := drawn_below hb
      have hS1 : y.rangeAt b1 (o1 + j * 6) C.toList ∧ y.rangeAt b2 (o2 + j * 6) D.toList := ⟨range_keep (w := wr) hS0.1 hb (Nat.lt_of_lt_of_le HB1.out (Nat.le_trans HB.out HX.out.size)), range_keep (w := wr) hS0.2 hb (Nat.lt_of_lt_of_le HB2.out (Nat.le_trans HB.out HX.out.size))⟩
      have HY : Hid (Below w.heap.size w y) := below_to HX.out hb
      clear hb
      go_wp2_with fail
      refine hK.out _ _ ?_ (fun hHeld => ?_)
      · exact hS1
      clear hK K
      (try simp only [Act.put, List.setIfInBounds_toArray, List.set_cons_zero, List.set_cons_succ])
      refine ByHand.take_yes (v := ?_) 9 26 rfl rfl (by kernel_rfl) (by kernel_rfl) (by kernel_rfl) (fun _ _ _ h => h) (by rfl) ?_ (by assumption) ?_
      rotate_left
      · intro w' hSw
        (try dsimp only at hSw)
        go_simp
        all_goals with_reducible rfl
      (try simp only [Act.put, List.setIfInBounds_toArray, List.set_cons_zero, List.set_cons_succ])
      refine wpAnyH_done (by kernel_rfl) ?_ _
      go_wp2_with fail
      go_roundw
      case rel => exact ⟨j + 1, by omega, rfl, HY.out⟩
      case measure => simp [intOf]; omega
    · obtain rfl : j = L.length := by omega
      go_wp2_with fail
      go_ret
      exact ⟨rfl, HX.out⟩
set_option linter.unusedSimpArgs false

theorem own_one {w w' : World} {g base n size : Nat} {e : TypeId} {v : Value} {xs : List Value} (h : w.ownsRow base e size v n xs) (ho : One g w w') (hg : g < base) : w'.ownsRow base e size v n xs :=
  h.kept ⟨ho.os, ho.tape, ho.output, ho.size, fun k hk hn => ho.block k hk (fun e => hn (by rw [e]))⟩ (by
    cases q : v.ownBlock with
    | none => exact Or.inl rfl
    | some k => exact Or.inr fun q' => by injection q' with q'; have := (h.lt k q).1; omega)
theorem own_far {w : World} {base base' n n' s s' : Nat} {e e' : TypeId} {v v' : Value} {xs xs' : List Value} (h : w.ownsRow base e s v n xs) (h' : w.ownsRow base' e' s' v' n' xs') (hne : e ≠ e') : v.ownBlock = none ∨ v.ownBlock ≠ v'.ownBlock := by
  rcases h.2 with ⟨rfl, -⟩ | ⟨g, cap, cur, rfl, -, hh, -⟩
  · exact Or.inl rfl
  · refine Or.inr fun q => ?_
    rcases h'.2 with ⟨rfl, -⟩ | ⟨g', cap', cur', rfl, -, hh', -⟩
    · cases q
    · injection q with q
      have q : g = g' := q
      subst q
      rw [hh] at hh'
      injection hh' with hh'
      injection hh' with _ hh'
      exact hne hh'
def flatB (M : List Bl) : List Value := M.flatMap fun x => x.cells.toList
/-- A row of bills, and their ids' rows, all of them made behind block B. -/
structure Cop (B : Nat) (W : World) (u : Value) (M : List Bl) : Prop where
  row : W.ownsRow B 28 6 u M.length (flatB M)
  ids : ∀ b ∈ M, W.ownsRow B 3 1 b.v b.ids.length (b.ids.map (Value.int .i64))
section
variable {B : Nat} {W W' : World} {u : Value} {M : List Bl}
theorem Cop.nil_ (B : Nat) (W : World) : Cop B W (.slice none 0 0) [] := ⟨World.ownsRow_nil _ _ _ _, fun b h => by cases h⟩
theorem Cop.below (h : Cop B W u M) (hb : Below W.heap.size W W') : Cop B W' u M := ⟨own_below h.row hb, fun b hm => own_below (h.ids b hm) hb⟩
theorem Cop.one {g : Nat} (h : Cop B W u M) (ho : One g W W') (hg : g < B) : Cop B W' u M := ⟨own_one h.row ho hg, fun b hm => own_one (h.ids b hm) ho hg⟩
theorem Cop.bls (h : Cop B W u M) : Bls W W.heap.size u M := ⟨Rws.of_own bl_len rfl h.row, fun b hm => Ints.of_own (n := b.ids.length) rfl (h.ids b hm)⟩
theorem bill_ne : (3 : TypeId) ≠ 28 := by decide
theorem Cop.more (h : Cop B W u M) {x : Bl} {v u' : Value} (hi : W.ownsRow B 3 1 v x.ids.length (x.ids.map (Value.int .i64))) (ho : W'.ownsRow B 28 6 u' (M.length + 1) (flatB M ++ ({ x with v := v } : Bl).cells.toList)) (hg : W.grownBy W' u.ownBlock) : Cop B W' u' (M ++ [{ x with v := v }]) := by
  refine ⟨?_, fun b hm => ?_⟩
  · unfold flatB at ho ⊢
    rw [List.length_append, List.flatMap_append]
    simpa using ho
  · rcases List.mem_append.1 hm with hm | hm
    · exact (h.ids b hm).kept hg (own_far (h.ids b hm) h.row bill_ne)
    · obtain rfl := List.mem_singleton.1 hm
      exact hi.kept hg (own_far hi h.row bill_ne)
end
theorem AlikeB.snoc {M M' : List Bl} {j : Nat} {x : Bl} (v : Value) (h : AlikeB (M.take j) M') (hx : M[j]? = some x) : AlikeB (M.take (j + 1)) (M' ++ [{ x with v := v }]) := by
  have hj : j < M.length := (List.getElem?_eq_some_iff.1 hx).1
  have hl : M'.length = j := by rw [h.1, List.length_take]; omega
  refine ⟨by rw [List.length_append, hl, List.length_take]; simp; omega, fun i y hy => ?_⟩
  have hij : i < j + 1 := by
    have := (List.getElem?_eq_some_iff.1 hy).1
    rw [List.length_take] at this
    omega
  rw [List.getElem?_take_of_lt hij] at hy
  by_cases e : i = j
  · subst e
    rw [hx] at hy
    obtain rfl := Option.some.inj hy
    exact ⟨v, by rw [List.getElem?_append_right (by omega), hl, Nat.sub_self]; rfl⟩
  · obtain ⟨v', hv⟩ := h.2 i y (by rw [List.getElem?_take_of_lt (by omega)]; exact hy)
    exact ⟨v', by rw [List.getElem?_append_left (by omega)]; exact hv⟩
theorem bill_zero : (Tryd.prog.info? 28).map (fun i => (i.zero, i.size, i.bytes)) = some (some (.agg bl0.cells), 6, 64) := by kernel_rfl
theorem run_bill (x : Bl) (w : World) : (Instr.buildSlice 22 1 #[(0, .agg x.cells)]).run Tryd.prog w = .ok (.slice (some ⟨w.heap.size, 0, none⟩) 1 1) (w.alloc (.cells x.cells 28)) := by kernel_rfl
theorem bl_one (b : Bl) {A : Option Addr} {n c : Nat} (h : b.v = .slice A n c) : b.cells.all (·.oneCell') = true := by
  unfold Bl.cells
  rw [h]
  simp [Value.oneCell']
theorem slots_one {t : TypeId} (h : (Tryd.prog.info? t).map (·.size) = some 1) : (Tryd.prog.info? t).map (·.size) = some 1 := h
theorem new_own (w : World) {c : Nat} : ∀ g, (Value.slice (some ⟨w.heap.size, 0, none⟩) 0 c).ownBlock = some g → w.heap.size ≤ g := fun g hg => by
  have e : w.heap.size = g := by simpa [Value.ownBlock] using hg
  omega
set_option maxRecDepth 20000 in
set_option maxHeartbeats 4000000 in
theorem c_cbills (M : List Bl) (v : Value) (B : Nat) (w : World) (hB : B ≤ w.heap.size) (hv : Bls w B v M) (hN : M.length ≤ 1000) (hI : ∀ b ∈ M, b.ids.length ≤ 1000) : Calls Tryd.prog 10 #[v] w fun e w' => ∃ u M', e = .returned u ∧ AlikeB M M' ∧ Cop w.heap.size w' u M' ∧ Below w.heap.size w w' := by
  obtain ⟨A, k, rfl⟩ := hv.1.shape
  have HV := Lib.hid hv
  have HB := Lib.hid hB
  have HNI := Lib.hid hI
  obtain ⟨iB, hi0, hz0, hz1, hz2⟩ := info_parts bill_zero
  have HIB := Lib.hid (And.intro hi0 (And.intro hz0 (And.intro hz1 hz2)))
  clear hi0 hz0 hz1 hz2
  obtain ⟨iI, hi0, hz0, hz1, hz2⟩ := info_parts int_zero
  have HII := Lib.hid (And.intro hi0 (And.intro hz0 (And.intro hz1 hz2)))
  clear hi0 hz0 hz1 hz2 hv hB hI
  go_enter Tryd.func10, Tryd.ntmps10
  go_wp2_with fail
  go_loopw [3, 4] (fun u t wr => ∃ (j : Nat) (M' : List Bl), j ≤ M.length ∧ t = .int .i64 j ∧ Hid (AlikeB (M.take j) M' ∧ Cop w.heap.size wr u M' ∧ Below w.heap.size w wr)) (fun _ t _ => M.length - (intOf t).toNat)
  case atStart => exact ⟨0, [], Nat.zero_le _, rfl, ⟨by simp, fun i x h => by simp at h⟩, Cop.nil_ _ _, Below.refl _ _⟩
  case round =>
    obtain ⟨j, M', hj, rfl, HX⟩ := hrel

    obtain ⟨A5, c5, rfl⟩ := own_slice' HX.out.2.1.row
    have hM' : M'.length ≤ 1000 := by rw [HX.out.1.1, List.length_take]; omega
    by_cases hlt : j < M.length
    · obtain ⟨b, off, k', e0, hb, -⟩ := HV.out.1.open (by omega)
      injection e0 with e0 _ e2
      subst e0 e2
      obtain ⟨x, hx⟩ : ∃ x, M[j]? = some x := ⟨_, List.getElem?_eq_getElem hlt⟩
      have hmem := List.mem_of_getElem? hx
      have hix := HV.out.2 x hmem
      have hn : x.ids.length ≤ 1000 := HNI.out x hmem
      obtain ⟨Ax, cx, hxv, -⟩ := id hix
      have HR : Hid (wr.rangeAt b (off + j * 6) x.cells.toList) := range_keep (HV.out.1.at_ hx) (HX.out.2.2.mono HB.out) hb
      have HS := Lib.hid (bl_info' x)
      have HSA := Lib.hid (bl_info x)
      have HZA : Hid (6 = x.cells.size) := show _ = _ from rfl
      have HOA := Lib.hid (bl_one x hxv)
      have X5 : Hid (x.cells[5]? = some (.slice Ax x.ids.length cx)) := (show _ = _ by rw [← hxv]; rfl)
      have HIX : Hid (∀ W, Below wr.heap.size wr W → Ints W B .i64 (.slice Ax x.ids.length cx) x.ids) := fun W h => by
        rw [← hxv]
        exact hix.below ((below_to HX.out.2.2 h).mono HB.out)
      have KS : Hid (∀ (v : Value) (W : World), (Instr.buildSlice 22 1 #[(0, .agg (x.cells.setIfInBounds 5 v))]).run Tryd.prog W = .ok (.slice (some ⟨W.heap.size, 0, none⟩) 1 1) (W.alloc (.cells (x.cells.setIfInBounds 5 v) 28))) := fun v W => run_bill { x with v := v } W
      have HSD : Hid (∀ v : Value, (Tryd.prog.info? 28).map (·.size) = some (x.cells.setIfInBounds 5 v).size) := fun v => bl_info { x with v := v }
      have HLD : Hid (∀ v : Value, (x.cells.setIfInBounds 5 v).toList.length = 6) := fun v => bl_len { x with v := v }
      have HOD : Hid (∀ (A : Option Addr) (n c : Nat), (x.cells.setIfInBounds 5 (.slice A n c)).all (·.oneCell') = true) := fun A n c => bl_one { x with v := .slice A n c } rfl
      obtain ⟨N, hNN⟩ : ∃ N : Value → Bl, N = fun v => { x with v := v } := ⟨_, rfl⟩
      have HSN : Hid (∀ v, AlikeB (M.take (j + 1)) (M' ++ [N v])) := fun v => by rw [hNN]; exact HX.out.1.snoc v hx
      have KM : Hid (∀ (A : Option Addr) (c : Nat) {W W' : World} {u u' : Value}, Cop w.heap.size W u M' → W.ownsRow w.heap.size 3 1 (.slice A x.ids.length c) x.ids.length (x.ids.map (Value.int .i64)) → W'.ownsRow w.heap.size 28 6 u' (M'.length + 1) (flatB M' ++ (x.cells.setIfInBounds 5 (.slice A x.ids.length c)).toList) → W.grownBy W' u.ownBlock → Cop w.heap.size W' u' (M' ++ [N (.slice A x.ids.length c)])) := fun A c {_ _ _ _} h1 h2 h3 h4 => by rw [hNN]; exact h1.more h2 h3 h4
      clear hx hmem hix hxv hNN
      generalize x.cells = C at *
      generalize x.ids = ids at *
      go_upto_region 5 with fail
      go_upto_region 6 with (first
        | (refine load_mid_want (by rfl) 28 _ rfl _ _ rfl C _ HR.out Tryd.underlying28 rfl HS.out ?_)
        | (refine o_store rfl 28 _ _ rfl rfl wr.heap.size C rfl rfl _ _ (heap_alloc_last _ _) HSA.out HZA.out HOA.out ?_; intro z1 hr ho; have HC := Lib.hid hr; have HZ1 : Hid (Below wr.heap.size wr z1) := (show Below _ _ _ from below_one_of (below_one _ _) ho (Nat.le_refl _) (below_one wr _).size); clear hr ho))
      have c5' := HC.out.cell (i := 5)
      rw [X5.out] at c5'
      have hlz := HC.out.lt
      have c6' : (z1.alloc (.cells #[] 3)).cell? ⟨wr.heap.size, 5, none⟩ = some (.slice Ax ids.length cx) := (World.cell?_alloc_lt (a := ⟨wr.heap.size, 5, none⟩) _ _ hlz).trans c5'
      go_upto_region 7 with (first
        | (at_builtin; refine Slice.wpList_append_ints rfl (.tmp 16) (.tmp 18) _ rfl z1.heap.size 3 iI (.int .i64 0) 8 Tryd.underlying26 HII.out.1 HII.out.2.1 HII.out.2.2.1 HII.out.2.2.2 rfl (.slice (some ⟨z1.heap.size, 0, none⟩) 0 0) 0 [] rfl (World.ownsRow_made z1 #[] 0 (Nat.le_refl _) (by simp) (by simp)) B .i64 (.slice Ax ids.length cx) ids rfl (HIX.out _ (below_to HZ1.out (below_one _ _))) (by unfold maxLen; omega) (by omega) (by simp) ?_; intro v3 w3 hown hgrow; rw [Nat.zero_add, List.nil_append] at hown; have HI3 : Hid (w3.ownsRow z1.heap.size 3 1 v3 ids.length (ids.map (Value.int .i64))) := hown; have HB3 : Hid (Below z1.heap.size z1 w3) := (show Below _ _ _ from (below_one _ _).grown hgrow (below_one _ _).size (new_own z1)); obtain ⟨A6, c6, rfl⟩ := own_slice' hown; clear hown hgrow)
        | (refine o_put rfl 26 _ _ rfl rfl wr.heap.size 5 (.slice A6 ids.length c6) rfl rfl rfl 28 C (HC.out.below HB3.out) (by rw [← HZA.out]; decide) ints_one ?_; intro z4 hr ho; obtain ⟨D, hD⟩ : ∃ D, D = C.setIfInBounds 5 (.slice A6 ids.length c6) := ⟨_, rfl⟩; rw [← hD] at hr; have HD := Lib.hid hD; clear hD; have KS1 := Lib.hid (fun W => KS.out (.slice A6 ids.length c6) W); have HSD1 := Lib.hid (HSD.out (.slice A6 ids.length c6)); have HLD1 := Lib.hid (HLD.out (.slice A6 ids.length c6)); have HOD1 := Lib.hid (HOD.out A6 ids.length c6); rw [← HD.out] at KS1 HSD1 HLD1 HOD1; have HB4 := Lib.hid hr; have HI4 : Hid (z4.ownsRow w.heap.size 3 1 (.slice A6 ids.length c6) ids.length (ids.map (Value.int .i64))) := (show World.ownsRow _ _ _ _ _ _ _ from (own_one HI3.out ho HC.out.lt).mono (Nat.le_trans HX.out.2.2.size HZ1.out.size)); have HZ4 : Hid (Below wr.heap.size wr z4) := (show Below _ _ _ from below_one_of (below_to HZ1.out HB3.out) ho (Nat.le_refl _) (below_to HZ1.out HB3.out).size); clear hr ho))
      clear c5' c6' hlz
      go_wp2_with (first
        | (refine o_load (by rfl) 28 _ rfl wr.heap.size rfl _ _ _ HB4.out Tryd.underlying28 rfl HSD1.out ?_)
        | (refine wpList_slice (by rfl) _ _ _ rfl _ _ (by simp [Act.eval, Act.put]) (KS1.out _) ?_)
        | (at_builtin; refine wpList_append_row (by rfl) _ _ _ rfl w.heap.size 28 iB _ 6 64 Tryd.underlying22 HIB.out.1 HIB.out.2.1 HIB.out.2.2.1 HIB.out.2.2.2 rfl (by omega) _ _ D HLD1.out HOD1.out (.slice A5 M'.length c5) M'.length (flatB M') (by rfl) (HX.out.2.1.below HZ4.out).row z4.heap.size (by rfl) rfl (by unfold maxLen; omega) (by omega) (Nat.le_trans HX.out.2.2.size HZ4.out.size) ?_; intro v5 w5 hown hgrow; rw [HD.out] at hown; have HZ5 : Hid (Cop w.heap.size w5 v5 (M' ++ [N (.slice A6 ids.length c6)]) ∧ Below w.heap.size w w5) := (show _ ∧ _ from ⟨KM.out _ _ (HX.out.2.1.below HZ4.out) HI4.out hown hgrow, below_row (below_to HX.out.2.2 HZ4.out) (Nat.le_refl _) (HX.out.2.1.below HZ4.out).row hgrow⟩); obtain ⟨A7, c7, rfl⟩ := own_slice' hown; clear hown hgrow))
      go_roundw
      case rel => exact ⟨j + 1, _, by omega, rfl, HSN.out _, HZ5.out.1, HZ5.out.2⟩
      case measure => simp [intOf]; omega
    · obtain rfl : j = M.length := by omega
      have HA := Lib.hid HX.out.1
      rw [List.take_length] at HA
      go_wp2_with fail
      go_ret
      exact ⟨_, M', rfl, HA.out, HX.out.2.1, HX.out.2.2⟩
end Go.Proofs.YtjjbdemhccpllaaDoor.Plan
