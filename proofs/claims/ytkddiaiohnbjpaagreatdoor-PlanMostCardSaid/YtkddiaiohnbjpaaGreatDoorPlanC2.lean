/- Of layer 18: loans in a slice: are all good, those that take part, their numbers, the greatest of some numbers. -/
import Derived.Test.YtkddiaiohnbjpaaGreatDoorPlanC1
import Derived.Test.YtkddiaiohnbjpaaGreatDoorRws
import Derived.Test.YtkddiaiohnbjpaaGreatDoorGA
namespace Go.Proofs.YtkddiaiohnbjpaaGreatDoor.Plan
open Go.ChangeShapes Go.WideShapes Go.ChangeAt Go.RowKit Loan Money Box Rws Slice

abbrev Lns := Rws Ln.cells 13
theorem ln_len (l : Ln) : l.cells.toList.length = 13 := rfl
theorem lns_none {L : List Ln} {j : Nat} (h : ¬ j < L.length) : L[j]? = none := List.getElem?_eq_none (by omega)
def rowP (l : List Int) (i : Nat) : Value := .int .i64 (l.getD i 0)
/-- A row of numbers that lies in a block of the call's own, and may be written. -/
def Owned (B : Nat) (w : World) (T : TypeId) (v : Value) (l : List Int) : Prop := ∃ g, v = .slice (some ⟨g, 0, none⟩) l.length l.length ∧ B ≤ g ∧ w.rowIs g T l.length (rowP l)
theorem Owned.ints {B : Nat} {w : World} {T : TypeId} {v : Value} {l : List Int} (h : Owned B w T v l) (hl : l.length ≤ 9223372036854775807) : Ints w w.heap.size .i64 v l := by
  obtain ⟨g, rfl, -, hr⟩ := h
  exact ⟨some ⟨g, 0, none⟩, l.length, rfl, hl, fun h => (by cases h), fun h0 => ⟨g, 0, rfl, hr.lt, fun i hi => by rw [Nat.zero_add]; exact hr.cell hi⟩⟩
theorem Owned.below {B : Nat} {w w' : World} {T : TypeId} {v : Value} {l : List Int} (h : Owned B w T v l) (hb : Below w.heap.size w w') : Owned B w' T v l := by
  obtain ⟨g, rfl, hg, hr⟩ := h
  exact ⟨g, rfl, hg, hr.of_block (hb.block _ hr.lt)⟩
theorem Owned.less {B B' : Nat} {w : World} {T : TypeId} {v : Value} {l : List Int} (h : Owned B w T v l) (hB : B' ≤ B) : Owned B' w T v l := by
  obtain ⟨g, rfl, hg, hr⟩ := h
  exact ⟨g, rfl, by omega, hr⟩
/-- Numbers of the first j loans, behind them 0. -/
def upTo (f : Ln → Int) (L : List Ln) (j i : Nat) : Value := if i < j then .int .i64 (f (L.getD i ln0)) else .int .i64 0
theorem upTo_step {f : Ln → Int} {L : List Ln} {j : Nat} {x : Ln} (hx : L[j]? = some x) (i : Nat) : upTo f L (j + 1) i = if i = j then .int .i64 (f x) else upTo f L j i := by
  unfold upTo
  by_cases h : i = j
  · subst h
    rw [if_pos (by omega), if_pos rfl, List.getD_eq_getElem?_getD, hx]; rfl
  · by_cases k : i < j
    · rw [if_pos (by omega), if_neg h, if_pos k]
    · rw [if_neg (by omega), if_neg h, if_neg k]
theorem upTo_end {f : Ln → Int} {L : List Ln} {i : Nat} (hi : i < L.length) : upTo f L L.length i = rowP (L.map f) i := by
  unfold upTo rowP
  rw [if_pos hi]
  simp [List.getD_eq_getElem?_getD, hi]

set_option maxRecDepth 20000 in
theorem c_index (L : List Ln) (v : Value) (B : Nat) (w : World) (hB : B ≤ w.heap.size) (hv : Lns w B v L) :
    Calls Tryz.prog 71 #[v, .func (.func 35) #[] #[]] w fun e w' => ∃ n : Int, e = .returned (.int .i64 n) ∧ decide (0 ≤ n) = !(L.all goodL) ∧ Below w.heap.size w w' := by
  obtain ⟨A, k, rfl⟩ := hv.shape
  have HV : Hid (Lns w B (.slice A L.length k) L) := hv
  have HB := Lib.hid hB
  have hl := hv.len
  clear hv hB
  go_enter Tryz.func71, Tryz.ntmps71
  go_wp2_with fail
  go_loopw [8] (fun t wr => ∃ j : Nat, j ≤ L.length ∧ t = .int .i64 j ∧ Hid ((∀ i, i < j → ∀ y, L[i]? = some y → goodL y = true) ∧ Below w.heap.size w wr)) (fun t _ => L.length - (intOf t).toNat)
  case atStart => exact ⟨0, Nat.zero_le _, rfl, fun i hi => absurd hi (Nat.not_lt_zero _), Below.refl _ _⟩
  case round =>
    obtain ⟨j, hj, rfl, HX⟩ := hrel
    by_cases hlt : j < L.length
    · obtain ⟨b, off, k', e0, hb, -⟩ := HV.out.open (by omega)
      injection e0 with e0 _ e2
      subst e0 e2
      obtain ⟨x, hx⟩ : ∃ x, L[j]? = some x := ⟨_, List.getElem?_eq_getElem hlt⟩
      have HM : Hid (wr.rangeAt b (off + j * 13) x.cells.toList) := range_keep (HV.out.at_ hx) (HX.out.2.mono HB.out) hb
      have HS := Lib.hid (ln_info' x)
      have KB := Lib.hid (fun W => c_bad x W)
      have HG : Hid (goodL x = false → L.all goodL = false) := fun h => by
        rw [List.all_eq_false]
        exact ⟨x, List.mem_of_getElem? hx, by rw [h]; exact Bool.false_ne_true⟩
      have HN : Hid (goodL x = true → ∀ i, i < j + 1 → ∀ y, L[i]? = some y → goodL y = true) := fun h i hi y hy => by
        by_cases hij : i = j
        · subst hij
          rw [hx] at hy
          injection hy with hy
          rw [← hy]; exact h
        · exact HX.out.1 i (by omega) y hy
      clear hx
      generalize goodL x = c at *
      generalize x.cells = C at *
      cases c with
      | false =>
        go_wp2_with (first
          | (refine load_mid_want (by rfl) 23 _ rfl _ _ rfl C _ HM.out Tryz.underlying23 rfl HS.out ?_)
          | (go_at_call 35; (with_reducible refine (KB.out _).mono ?_); rintro e y ⟨rfl, hb⟩; have HY := Lib.hid (below_to HX.out.2 hb); clear hb))
        go_ret
        exact ⟨_, rfl, by rw [HG.out (by simp)]; exact decide_eq_true (by omega), HY.out⟩
      | true =>
        go_wp2_with (first
          | (refine load_mid_want (by rfl) 23 _ rfl _ _ rfl C _ HM.out Tryz.underlying23 rfl HS.out ?_)
          | (go_at_call 35; (with_reducible refine (KB.out _).mono ?_); rintro e y ⟨rfl, hb⟩; have HY := Lib.hid (below_to HX.out.2 hb); clear hb))
        go_roundw
        case rel => exact ⟨j + 1, by omega, rfl, HN.out (by simp), HY.out⟩
        case measure => simp [intOf]; omega
    · obtain rfl : j = L.length := by omega
      go_wp2_with fail
      go_ret
      refine ⟨_, rfl, ?_, HX.out.2⟩
      rw [show L.all goodL = true from List.all_eq_true.2 fun y hy => by
        obtain ⟨i, hi, rfl⟩ := List.getElem_of_mem hy
        exact HX.out.1 i hi _ (List.getElem?_eq_getElem hi)]
      rfl
theorem c_contains (L : List Ln) (v : Value) (B : Nat) (w : World) (hB : B ≤ w.heap.size) (hv : Lns w B v L) :
    Calls Tryz.prog 34 #[v, .func (.func 35) #[] #[]] w fun e w' => e = .returned (.bool (!(L.all goodL))) ∧ Below w.heap.size w w' := by
  have KI := Lib.hid (fun (_ : Unit) => c_index L v B w hB hv)
  obtain ⟨A, k, rfl⟩ := hv.shape
  clear hv hB
  generalize L.all goodL = b at *
  go_enter Tryz.func34, Tryz.ntmps34
  go_wp2_with fail
  refine (KI.out ()).mono ?_
  rintro e y ⟨n, rfl, hn, hb⟩
  have HB := Lib.hid hb
  clear hb
  go_wp2_with fail
  go_ret
  exact ⟨by rw [← hn]; rfl, HB.out⟩

theorem info_parts {P : Program} {t : TypeId} {z : Value} {s b : Nat} (h : (P.info? t).map (fun i => (i.zero, i.size, i.bytes)) = some (some z, s, b)) : ∃ i, P.info? t = some i ∧ i.zero = some z ∧ i.size = s ∧ i.bytes = b := by
  cases e : P.info? t with
  | none => rw [e] at h; cases h
  | some i => rw [e] at h; injection h with h; injection h with h1 h2; injection h2 with h2 h3; exact ⟨i, rfl, h1, h2, h3⟩
theorem ln_zero : (Tryz.prog.info? 23).map (fun i => (i.zero, i.size, i.bytes)) = some (some (.agg ln0.cells), 13, 104) := by kernel_rfl
theorem run_one (x : Ln) (w : World) : (Instr.buildSlice 33 1 #[(0, .agg x.cells)]).run Tryz.prog w = .ok (.slice (some ⟨w.heap.size, 0, none⟩) 1 1) (w.alloc (.cells x.cells 23)) := by kernel_rfl
theorem own_slice' {w : World} {base n s : Nat} {e : TypeId} {v : Value} {xs : List Value} (h : w.ownsRow base e s v n xs) : ∃ A c, v = .slice A n c := by
  rcases h.2 with ⟨rfl, rfl⟩ | ⟨g, cap, cur, rfl, -⟩
  · exact ⟨none, 0, rfl⟩
  · exact ⟨_, _, rfl⟩
theorem below_row {a w w' : World} {v : Value} {base n size : Nat} {e : TypeId} {xs : List Value} (h : Below a.heap.size a w) (hb : a.heap.size ≤ base) (ho : w.ownsRow base e size v n xs) (hg : w.grownBy w' v.ownBlock) : Below a.heap.size a w' :=
  ⟨hg.os.trans h.os, hg.tape.trans h.tape, hg.output.trans h.output, Nat.le_trans h.size hg.size, fun k hk => (hg.block k (Nat.lt_of_lt_of_le hk h.size) (fun e => by
    have := (ho.lt k e.symm).1
    omega)).trans (h.block k hk)⟩
theorem own_below {w w' : World} {base n size : Nat} {e : TypeId} {v : Value} {xs : List Value} (h : w.ownsRow base e size v n xs) (hb : Below w.heap.size w w') : w'.ownsRow base e size v n xs :=
  h.kept (grown_below hb none) (by cases v.ownBlock with
    | none => exact Or.inl rfl
    | some k => exact Or.inr (by simp))
def flat (L : List Ln) : List Value := L.flatMap fun x => x.cells.toList
/-- A row of loans of the call's own. -/
def Took (B : Nat) (w : World) (v : Value) (L : List Ln) : Prop := w.ownsRow B 23 13 v L.length (flat L)
theorem Took.lns {B : Nat} {w : World} {v : Value} {L : List Ln} (h : Took B w v L) : Lns w w.heap.size v L := Rws.of_own ln_len rfl h
theorem take_part {L : List Ln} {j : Nat} {x : Ln} (hx : L[j]? = some x) : (L.take (j + 1)).filter partB = (L.take j).filter partB ++ (if partB x = true then [x] else []) := by
  rw [List.take_add_one, hx, List.filter_append]
  congr 1
  by_cases h : partB x = true
  · rw [if_pos h]; simp [h]
  · rw [if_neg h]; simp [h]
theorem part_len (L : List Ln) (j : Nat) : ((L.take j).filter partB).length ≤ L.length := Nat.le_trans (List.length_filter_le _ _) (by rw [List.length_take]; omega)
theorem took_more {B : Nat} {w : World} {v : Value} {L M : List Ln} {x : Ln} (hM : M = L ++ [x]) (h : w.ownsRow B 23 13 v (L.length + 1) (flat L ++ x.cells.toList)) : Took B w v M := by
  subst hM
  unfold Took flat
  rw [List.length_append, List.flatMap_append]
  simpa [flat] using h

set_option maxRecDepth 20000 in
theorem c_taking (L : List Ln) (v : Value) (B : Nat) (w : World) (hB : B ≤ w.heap.size) (hv : Lns w B v L) (hN : L.length ≤ 1000) :
    Calls Tryz.prog 36 #[v] w fun e w' => ∃ u, e = .returned u ∧ Took w.heap.size w' u (L.filter partB) ∧ Below w.heap.size w w' := by
  obtain ⟨A, k, rfl⟩ := hv.shape
  have HV : Hid (Lns w B (.slice A L.length k) L) := hv
  have HB := Lib.hid hB
  obtain ⟨i0, hi0, hz0, hz1, hz2⟩ := info_parts ln_zero
  have HI := Lib.hid hi0
  have HZ0 := Lib.hid hz0
  have HZ1 := Lib.hid hz1
  have HZ2 := Lib.hid hz2
  clear hv hB hi0 hz0 hz1 hz2
  go_enter Tryz.func36, Tryz.ntmps36
  go_wp2_with fail
  go_loopw [3, 7] (fun u t wr => ∃ j : Nat, j ≤ L.length ∧ t = .int .i64 j ∧ Hid (Took w.heap.size wr u ((L.take j).filter partB) ∧ Below w.heap.size w wr)) (fun _ t _ => L.length - (intOf t).toNat)
  case atStart => exact ⟨0, Nat.zero_le _, rfl, World.ownsRow_nil _ _ _ _, Below.refl _ _⟩
  case round =>
    obtain ⟨j, hj, rfl, HX⟩ := hrel
    rename_i u wr
    by_cases hlt : j < L.length
    · obtain ⟨b, off, k', e0, hb, -⟩ := HV.out.open (by omega)
      injection e0 with e0 _ e2
      subst e0 e2
      obtain ⟨x, hx⟩ : ∃ x, L[j]? = some x := ⟨_, List.getElem?_eq_getElem hlt⟩
      have HM : Hid (wr.rangeAt b (off + j * 13) x.cells.toList) := range_keep (HV.out.at_ hx) (HX.out.2.mono HB.out) hb
      have HS := Lib.hid (ln_info' x)
      have HO := Lib.hid (ln_one x)
      have HL : Hid (x.cells.toList.length = 13) := show _ = _ from rfl
      have KP := Lib.hid (fun W => c_part x W)
      have KS := Lib.hid (fun W => run_one x W)
      have HP := Lib.hid (take_part hx)
      have HT : Hid (∀ (w' : World) (v : Value), w'.ownsRow w.heap.size 23 13 v (((L.take j).filter partB).length + 1) (flat ((L.take j).filter partB) ++ x.cells.toList) → partB x = true → Took w.heap.size w' v ((L.take (j + 1)).filter partB)) := fun w' v h hp => took_more (by rw [HP.out, if_pos hp]) h
      have HT0 : Hid (partB x = false → (L.take (j + 1)).filter partB = (L.take j).filter partB) := fun h => by rw [HP.out, if_neg (by rw [h]; exact Bool.false_ne_true), List.append_nil]
      have hq := part_len L j
      clear hx HP
      generalize partB x = c at *
      generalize x.cells = C at *
      obtain ⟨A2, c2, rfl⟩ := own_slice' HX.out.1
      generalize (L.take j).filter partB = M at *
      generalize hMM : (L.take (j + 1)).filter partB = M' at *
      have HMM := Lib.hid hMM
      clear hMM
      cases c with
      | false =>
        go_wp2_with (first
          | (refine load_mid_want (by rfl) 23 _ rfl _ _ rfl C _ HM.out Tryz.underlying23 rfl HS.out ?_)
          | (go_at_call 69; (with_reducible refine (KP.out _).mono ?_); rintro e y ⟨rfl, hb⟩; have HY : Hid (Took w.heap.size y (.slice A2 M.length c2) M ∧ Below w.heap.size w y) := ⟨own_below HX.out.1 hb, below_to HX.out.2 hb⟩; clear hb))
        go_roundw
        case rel => exact ⟨j + 1, by omega, rfl, by rw [HMM.out, HT0.out (by simp)]; exact HY.out.1, HY.out.2⟩
        case measure => simp [intOf]; omega
      | true =>
        go_wp2_with (first
          | (refine load_mid_want (by rfl) 23 _ rfl _ _ rfl C _ HM.out Tryz.underlying23 rfl HS.out ?_)
          | (go_at_call 69; (with_reducible refine (KP.out _).mono ?_); rintro e y ⟨rfl, hh⟩; have HY : Hid (Took w.heap.size y (.slice A2 M.length c2) M ∧ Below w.heap.size w y) := ⟨own_below HX.out.1 hh, below_to HX.out.2 hh⟩; replace HM := Lib.hid (range_keep HM.out (hh.mono HX.out.2.size) (Nat.lt_of_lt_of_le hb HB.out)); clear hh)
          | (refine wpList_slice (by rfl) _ _ _ rfl _ _ (by simp [Act.eval, Act.put]) (KS.out _) ?_)
          | (at_builtin
             refine wpList_append_row (by rfl) _ _ _ rfl w.heap.size 23 i0 _ 13 104 Tryz.underlying33 HI.out HZ0.out HZ1.out HZ2.out rfl (by omega) _ _ C HL.out HO.out (.slice A2 M.length c2) M.length (flat M) (by rfl) HY.out.1 y.heap.size (by rfl) rfl (by unfold maxLen; omega) (by omega) HY.out.2.size ?_
             intro v3 w3 hown hgrow
             have HZ : Hid (Took w.heap.size w3 v3 M' ∧ Below w.heap.size w w3) := ⟨HT.out _ _ hown (by simp), below_row HY.out.2 (Nat.le_refl _) HY.out.1 hgrow⟩
             obtain ⟨A3, c3, rfl⟩ := own_slice' hown
             clear hown hgrow))
        go_roundw
        case rel => exact ⟨j + 1, by omega, rfl, by rw [HMM.out]; exact HZ.out⟩
        case measure => simp [intOf]; omega
    · obtain rfl : j = L.length := by omega
      obtain ⟨A2, c2, rfl⟩ := own_slice' HX.out.1
      go_wp2_with fail
      go_ret
      refine ⟨_, rfl, ?_, HX.out.2⟩
      have h := HX.out.1
      rw [List.take_length] at h
      simpa using h
end Go.Proofs.YtkddiaiohnbjpaaGreatDoor.Plan
