/- Of layer 18: two states are alike. -/
import Derived.Test.YtkddiaiohnbjpaaGreatDoorOpenState
import Derived.Test.YtkddiaiohnbjpaaGreatDoorGRLo
import Derived.Test.YtkddiaiohnbjpaaGreatDoorGRDue
namespace Go.Proofs.YtkddiaiohnbjpaaGreatDoor.Plan
open Go.ChangeShapes Go.WideShapes Go.ChangeAt Go.RowKit Loan Money Box Rws Slice
set_option linter.unusedSimpArgs false

/-- The second list of bills is the first one, its ids in slices of their own. -/
def AlikeB (M M' : List Bl) : Prop := M'.length = M.length ∧ ∀ (i : Nat) (x : Bl), M[i]? = some x → ∃ v, M'[i]? = some { x with v := v }
theorem AlikeB.refl (M : List Bl) : AlikeB M M := ⟨rfl, fun (_ : Nat) (x : Bl) h => ⟨x.v, h⟩⟩
theorem bl_info (b : Bl) : (Tryz.prog.info? 66).map (·.size) = some b.cells.size := by
  show _ = some 6
  kernel_rfl
theorem pt_info (C : Array Value) (h : C.toList.length = 4) : (Tryz.prog.info? 36).map (·.size) = some C.toList.length := by
  rw [h]
  kernel_rfl
theorem bl_info' (b : Bl) : (Tryz.prog.info? 66).map (·.size) = some b.cells.toList.length := by
  show _ = some 6
  kernel_rfl
set_option maxRecDepth 20000 in
set_option maxHeartbeats 4000000 in
theorem same_parts (a0 a1 a2 a3 : Int) (w : World) : Calls Tryz.prog 48 #[.agg #[.int .i64 a0, .int .i64 a1, .int .i64 a2, .int .i64 a3], .agg #[.int .i64 a0, .int .i64 a1, .int .i64 a2, .int .i64 a3]] w fun e w' => e = .returned (.bool true) ∧ Below w.heap.size w w' := by
  obtain ⟨g, w0, e0, f0, hB, hb⟩ := boxd_new w (#[.int .i64 a0, .int .i64 a1, .int .i64 a2, .int .i64 a3] : Array Value) 36
  obtain ⟨k, w1, e1, f1, hK, hb2⟩ := boxd_new w0 #[.int .i64 a0, .int .i64 a1, .int .i64 a2, .int .i64 a3] 36
  have b1 : k = g + 1 := by rw [e1, f0, Deep.nblk_alloc, ← e0]
  have HW := Lib.hid (below_to hb hb2)
  replace hB := hB.below hb2
  have c0 : w1.cell? ⟨g, 0, none⟩ = some (.int .i64 a0) := hB.cell
  have d0 : w1.cell? ⟨k, 0, none⟩ = some (.int .i64 a0) := hK.cell
  have t0 : (a0 == a0) = true := by simp
  have c1 : w1.cell? ⟨g, 1, none⟩ = some (.int .i64 a1) := hB.cell
  have d1 : w1.cell? ⟨k, 1, none⟩ = some (.int .i64 a1) := hK.cell
  have t1 : (a1 == a1) = true := by simp
  have c2 : w1.cell? ⟨g, 2, none⟩ = some (.int .i64 a2) := hB.cell
  have d2 : w1.cell? ⟨k, 2, none⟩ = some (.int .i64 a2) := hK.cell
  have t2 : (a2 == a2) = true := by simp
  have c3 : w1.cell? ⟨g, 3, none⟩ = some (.int .i64 a3) := hB.cell
  have d3 : w1.cell? ⟨k, 3, none⟩ = some (.int .i64 a3) := hK.cell
  have t3 : (a3 == a3) = true := by simp
  clear hB hK hb hb2
  go_enter Tryz.func48, Tryz.ntmps48
  go_upto_region 1 with fail
  rw [← f0, ← e0, ← b1, ← f1]
  clear e0 f0 e1 f1 b1
  go_wp2_with fail
  go_ret
  exact ⟨rfl, HW.out⟩
set_option maxRecDepth 20000 in
set_option maxHeartbeats 4000000 in
theorem same_bill (m a l c h : Int) (ids : List Int) (v1 v2 : Value) (B : Nat) (w : World) (hB0 : B ≤ w.heap.size) (h1 : Ints w B .i64 v1 ids) (h2 : Ints w B .i64 v2 ids) : Calls Tryz.prog 86 #[.agg #[.int .i64 m, .int .i64 a, .int .i64 l, .int .i64 c, .int .i64 h, v1], .agg #[.int .i64 m, .int .i64 a, .int .i64 l, .int .i64 c, .int .i64 h, v2]] w fun e w' => e = .returned (.bool true) ∧ Below w.heap.size w w' := by
  obtain ⟨A1, k1, rfl, -⟩ := id h1
  obtain ⟨A2, k2, rfl, -⟩ := id h2
  have H1 := Lib.hid h1
  have H2 := Lib.hid h2
  have HB := Lib.hid hB0
  clear h1 h2 hB0
  obtain ⟨g, w0, e0, f0, hB, hb⟩ := boxd_new w (#[.int .i64 m, .int .i64 a, .int .i64 l, .int .i64 c, .int .i64 h, (.slice A1 ids.length k1)] : Array Value) 66
  obtain ⟨k, w1, e1, f1, hK, hb2⟩ := boxd_new w0 #[.int .i64 m, .int .i64 a, .int .i64 l, .int .i64 c, .int .i64 h, (.slice A2 ids.length k2)] 66
  have b1 : k = g + 1 := by rw [e1, f0, Deep.nblk_alloc, ← e0]
  have HW := Lib.hid (below_to hb hb2)
  replace hB := hB.below hb2
  have c0 : w1.cell? ⟨g, 0, none⟩ = some (.int .i64 m) := hB.cell
  have d0 : w1.cell? ⟨k, 0, none⟩ = some (.int .i64 m) := hK.cell
  have t0 : (m == m) = true := by simp
  have c1 : w1.cell? ⟨g, 1, none⟩ = some (.int .i64 a) := hB.cell
  have d1 : w1.cell? ⟨k, 1, none⟩ = some (.int .i64 a) := hK.cell
  have t1 : (a == a) = true := by simp
  have c2 : w1.cell? ⟨g, 2, none⟩ = some (.int .i64 l) := hB.cell
  have d2 : w1.cell? ⟨k, 2, none⟩ = some (.int .i64 l) := hK.cell
  have t2 : (l == l) = true := by simp
  have c3 : w1.cell? ⟨g, 3, none⟩ = some (.int .i64 c) := hB.cell
  have d3 : w1.cell? ⟨k, 3, none⟩ = some (.int .i64 c) := hK.cell
  have t3 : (c == c) = true := by simp
  have c4 : w1.cell? ⟨g, 4, none⟩ = some (.int .i64 h) := hB.cell
  have d4 : w1.cell? ⟨k, 4, none⟩ = some (.int .i64 h) := hK.cell
  have t4 : (h == h) = true := by simp
  have c5 : w1.cell? ⟨g, 5, none⟩ = some (.slice A1 ids.length k1) := hB.cell
  have d5 : w1.cell? ⟨k, 5, none⟩ = some (.slice A2 ids.length k2) := hK.cell
  have KI := Lib.hid (fun W g1 g2 => Due.ints_same ids (.slice A1 ids.length k1) (.slice A2 ids.length k2) B W g1 g2)
  clear hB hK hb hb2
  go_enter Tryz.func86, Tryz.ntmps86
  go_upto_region 1 with fail
  rw [← f0, ← e0, ← b1, ← f1]
  clear e0 f0 e1 f1 b1
  go_wp2_with (first
    | (go_at_call 15; (refine (KI.out _ (H1.out.below (HW.out.mono HB.out)) (H2.out.below (HW.out.mono HB.out))).mono ?_); rintro e y ⟨rfl, n, hw⟩; have HY : Hid (Below w.heap.size w y) := (show Below _ _ _ by rw [hw]; exact below_drewN HW.out _); clear hw))
  go_ret
  exact ⟨rfl, HY.out⟩
set_option maxRecDepth 20000 in
set_option maxHeartbeats 4000000 in
theorem same_loans (L : List Ln) (v1 v2 : Value) (B : Nat) (w : World) (hB0 : B ≤ w.heap.size) (h1 : Lns w B v1 L) (h2 : Lns w B v2 L) : Calls Tryz.prog 46 #[v1, v2] w fun e w' => e = .returned (.bool true) ∧ Below w.heap.size w w' := by
  obtain ⟨A1, k1, rfl⟩ := h1.shape
  obtain ⟨A2, k2, rfl⟩ := h2.shape
  have lL := h1.len
  have H1 := Lib.hid h1
  have H2 := Lib.hid h2
  have HB := Lib.hid hB0
  clear h1 h2 hB0
  go_enter Tryz.func46, Tryz.ntmps46
  go_wp2_with fail
  go_loopw [5] (fun t wr => ∃ j : Nat, j ≤ L.length ∧ t = .int .i64 j ∧ Hid (Below w.heap.size w wr)) (fun t _ => L.length - (intOf t).toNat)
  case atStart => exact ⟨0, Nat.zero_le _, rfl, Below.refl _ _⟩
  case round =>
    obtain ⟨j, hj, rfl, HX⟩ := hrel

    by_cases hlt : j < L.length
    · obtain ⟨b1, o1, k', e0, hb1, -⟩ := H1.out.open (by omega)
      injection e0 with e0 _ e2
      subst e0 e2
      obtain ⟨b2, o2, k', e0, hb2, -⟩ := H2.out.open (by omega)
      injection e0 with e0 _ e2
      subst e0 e2
      obtain ⟨x, hx⟩ : ∃ x, L[j]? = some x := ⟨_, List.getElem?_eq_getElem hlt⟩
      have HB1 := Lib.hid hb1
      have HB2 := Lib.hid hb2
      have HR1 : Hid (wr.rangeAt b1 (o1 + j * 13) x.cells.toList) := range_keep (H1.out.at_ hx) (HX.out.mono HB.out) hb1
      have HR2 : Hid (wr.rangeAt b2 (o2 + j * 13) x.cells.toList) := range_keep (H2.out.at_ hx) (HX.out.mono HB.out) hb2
      have HS1 := Lib.hid (ln_info' x)
      have HS2 := HS1
      have KL := Lib.hid (fun W => RLoan.alike x W)
      clear hx hb1 hb2
      generalize x.cells = C at *
      go_upto_region 6 with fail
      have hS0 : wr.drew.rangeAt b1 (o1 + j * 13) C.toList ∧ wr.drew.rangeAt b2 (o2 + j * 13) C.toList := ⟨HR1.out, HR2.out⟩
      refine wp_region_held_drew (S := (fun W => W.rangeAt b1 (o1 + j * 13) C.toList ∧ W.rangeAt b2 (o2 + j * 13) C.toList)) (by kernel_rfl) hS0 (fun hHeld => ?_)
      refine ByHand.take_yes (v := ?_) 0 17 rfl rfl (by kernel_rfl) (by kernel_rfl) (by kernel_rfl) (fun _ _ _ h => h) (by rfl) ?_ (by assumption) ?_
      rotate_left
      · intro w' hSw
        (try dsimp only at hSw)
        go_simp
        all_goals with_reducible rfl
      (try simp only [Act.put, List.setIfInBounds_toArray, List.set_cons_zero, List.set_cons_succ])
      refine ByHand.take_yes (v := ?_) 1 18 rfl rfl (by kernel_rfl) (by kernel_rfl) (by kernel_rfl) (fun _ _ _ h => h) (by rfl) ?_ (by assumption) ?_
      rotate_left
      · intro w' hSw
        (try dsimp only at hSw)
        go_simp
        all_goals with_reducible rfl
      (try simp only [Act.put, List.setIfInBounds_toArray, List.set_cons_zero, List.set_cons_succ])
      refine ByHand.take_yes (v := ?_) 2 19 rfl rfl (by kernel_rfl) (by kernel_rfl) (by kernel_rfl) (fun _ _ _ h => h) (by rfl) ?_ (by assumption) ?_
      rotate_left
      · intro w' hSw
        (try dsimp only at hSw)
        go_simp
        all_goals with_reducible rfl
      (try simp only [Act.put, List.setIfInBounds_toArray, List.set_cons_zero, List.set_cons_succ])
      refine take_mid 3 20 rfl rfl (by kernel_rfl) (by kernel_rfl) (by kernel_rfl) 23 _ rfl b1 (o1 + j * 13) rfl C _ Tryz.underlying23 rfl HS1.out (fun _ h => h.1) (fun _ _ _ h => h) (by rfl) (by assumption) ?_
      (try simp only [Act.put, List.setIfInBounds_toArray, List.set_cons_zero, List.set_cons_succ])
      refine ByHand.take_yes (v := ?_) 4 21 rfl rfl (by kernel_rfl) (by kernel_rfl) (by kernel_rfl) (fun _ _ _ h => h) (by rfl) ?_ (by assumption) ?_
      rotate_left
      · intro w' hSw
        (try dsimp only at hSw)
        go_simp
        all_goals with_reducible rfl
      (try simp only [Act.put, List.setIfInBounds_toArray, List.set_cons_zero, List.set_cons_succ])
      refine ByHand.take_yes (v := ?_) 5 22 rfl rfl (by kernel_rfl) (by kernel_rfl) (by kernel_rfl) (fun _ _ _ h => h) (by rfl) ?_ (by assumption) ?_
      rotate_left
      · intro w' hSw
        (try dsimp only at hSw)
        go_simp
        all_goals with_reducible rfl
      (try simp only [Act.put, List.setIfInBounds_toArray, List.set_cons_zero, List.set_cons_succ])
      refine ByHand.take_yes (v := ?_) 6 23 rfl rfl (by kernel_rfl) (by kernel_rfl) (by kernel_rfl) (fun _ _ _ h => h) (by rfl) ?_ (by assumption) ?_
      rotate_left
      · intro w' hSw
        (try dsimp only at hSw)
        go_simp
        all_goals with_reducible rfl
      (try simp only [Act.put, List.setIfInBounds_toArray, List.set_cons_zero, List.set_cons_succ])
      refine take_mid 7 24 rfl rfl (by kernel_rfl) (by kernel_rfl) (by kernel_rfl) 23 _ rfl b2 (o2 + j * 13) rfl C _ Tryz.underlying23 rfl HS2.out (fun _ h => h.2) (fun _ _ _ h => h) (by rfl) (by assumption) ?_
      (try simp only [Act.put, List.setIfInBounds_toArray, List.set_cons_zero, List.set_cons_succ])
      refine wpAnyH_ready (rs := [8]) (by kernel_rfl) (by simp) (AllReadyH.cons rfl (fun K hK => ?_) AllReadyH.nil)
      go_simp
      refine (KL.out _).mono ?_
      rintro e y ⟨rfl, hb⟩
      replace hb := drawn_below hb
      have hS1 : y.rangeAt b1 (o1 + j * 13) C.toList ∧ y.rangeAt b2 (o2 + j * 13) C.toList := ⟨range_keep (w := wr) hS0.1 hb (Nat.lt_of_lt_of_le HB1.out (Nat.le_trans HB.out HX.out.size)), range_keep (w := wr) hS0.2 hb (Nat.lt_of_lt_of_le HB2.out (Nat.le_trans HB.out HX.out.size))⟩
      have HY : Hid (Below w.heap.size w y) := below_to HX.out hb
      clear hb
      go_wp2_with fail
      refine hK.out _ _ ?_ (fun hHeld => ?_)
      · exact hS1
      clear hK K
      (try simp only [Act.put, List.setIfInBounds_toArray, List.set_cons_zero, List.set_cons_succ])
      refine ByHand.take_yes (v := ?_) 9 26 rfl rfl (by kernel_rfl) (by kernel_rfl) (by kernel_rfl) (fun _ _ _ h => h) (by rfl) ?_ (by assumption) ?_
      rotate_left
      · intro w' hSw
        (try dsimp only at hSw)
        go_simp
        all_goals with_reducible rfl
      (try simp only [Act.put, List.setIfInBounds_toArray, List.set_cons_zero, List.set_cons_succ])
      refine wpAnyH_done (by kernel_rfl) ?_ _
      go_wp2_with fail
      go_roundw
      case rel => exact ⟨j + 1, by omega, rfl, HY.out⟩
      case measure => simp [intOf]; omega
    · obtain rfl : j = L.length := by omega
      go_wp2_with fail
      go_ret
      exact ⟨rfl, HX.out⟩
set_option maxRecDepth 20000 in
set_option maxHeartbeats 4000000 in
theorem same_bills (L L' : List Bl) (ha : AlikeB L L') (v1 v2 : Value) (B : Nat) (w : World) (hB0 : B ≤ w.heap.size) (h1 : Bls w B v1 L) (h2 : Bls w B v2 L') : Calls Tryz.prog 47 #[v1, v2] w fun e w' => e = .returned (.bool true) ∧ Below w.heap.size w w' := by
  obtain ⟨A1, k1, rfl⟩ := h1.1.shape
  obtain ⟨A2, k2, rfl⟩ := h2.1.shape
  have e2 := ha.1
  have lL := h1.1.len
  rw [e2]
  have H1 := Lib.hid h1
  have H2 := Lib.hid h2
  have HA := Lib.hid ha
  have HB := Lib.hid hB0
  clear h1 h2 hB0 ha
  go_enter Tryz.func47, Tryz.ntmps47
  go_wp2_with fail
  go_loopw [5] (fun t wr => ∃ j : Nat, j ≤ L.length ∧ t = .int .i64 j ∧ Hid (Below w.heap.size w wr)) (fun t _ => L.length - (intOf t).toNat)
  case atStart => exact ⟨0, Nat.zero_le _, rfl, Below.refl _ _⟩
  case round =>
    obtain ⟨j, hj, rfl, HX⟩ := hrel

    by_cases hlt : j < L.length
    · obtain ⟨b1, o1, k', e0, hb1, -⟩ := H1.out.1.open (by omega)
      injection e0 with e0 _ e3
      subst e0 e3
      obtain ⟨b2, o2, k', e0, hb2, -⟩ := H2.out.1.open (by omega)
      injection e0 with e0 _ e3
      subst e0 e3
      obtain ⟨x, hx⟩ : ∃ x, L[j]? = some x := ⟨_, List.getElem?_eq_getElem hlt⟩
      obtain ⟨vy, hy⟩ := HA.out.2 j x hx
      have HB1 := Lib.hid hb1
      have HB2 := Lib.hid hb2
      have hr1 := H1.out.1.at_ hx
      have hr2 := H2.out.1.at_ hy
      have HR1 : Hid (wr.rangeAt b1 (o1 + j * 6) x.cells.toList) := range_keep hr1 (HX.out.mono HB.out) hb1
      have HR2 : Hid (wr.rangeAt b2 (o2 + j * 6) ({ x with v := vy } : Bl).cells.toList) := range_keep hr2 (HX.out.mono HB.out) hb2
      have HS1 := Lib.hid (bl_info' x)
      have HS2 := Lib.hid (bl_info' { x with v := vy })
      have hi1 := H1.out.2 x (List.mem_of_getElem? hx)
      have hi2 : Ints w B .i64 vy x.ids := H2.out.2 _ (List.mem_of_getElem? hy)
      have KL : Hid (∀ W, Below w.heap.size w W → Calls Tryz.prog 86 #[.agg x.cells, .agg ({ x with v := vy } : Bl).cells] W fun e w' => e = .returned (.bool true) ∧ Below W.heap.size W w') := fun W hb => same_bill x.month x.amount x.left x.covered x.how x.ids x.v vy B W (Nat.le_trans HB.out hb.size) (hi1.below (hb.mono HB.out)) (hi2.below (hb.mono HB.out))
      clear hx hy hb1 hb2 hr1 hr2 hi1 hi2
      generalize ({ x with v := vy } : Bl).cells = D at *
      generalize x.cells = C at *
      go_upto_region 6 with fail
      have hS0 : wr.drew.rangeAt b1 (o1 + j * 6) C.toList ∧ wr.drew.rangeAt b2 (o2 + j * 6) D.toList := ⟨HR1.out, HR2.out⟩
      refine wp_region_held_drew (S := (fun W => W.rangeAt b1 (o1 + j * 6) C.toList ∧ W.rangeAt b2 (o2 + j * 6) D.toList)) (by kernel_rfl) hS0 (fun hHeld => ?_)
      refine ByHand.take_yes (v := ?_) 0 17 rfl rfl (by kernel_rfl) (by kernel_rfl) (by kernel_rfl) (fun _ _ _ h => h) (by rfl) ?_ (by assumption) ?_
      rotate_left
      · intro w' hSw
        (try dsimp only at hSw)
        go_simp
        all_goals with_reducible rfl
      (try simp only [Act.put, List.setIfInBounds_toArray, List.set_cons_zero, List.set_cons_succ])
      refine ByHand.take_yes (v := ?_) 1 18 rfl rfl (by kernel_rfl) (by kernel_rfl) (by kernel_rfl) (fun _ _ _ h => h) (by rfl) ?_ (by assumption) ?_
      rotate_left
      · intro w' hSw
        (try dsimp only at hSw)
        go_simp
        all_goals with_reducible rfl
      (try simp only [Act.put, List.setIfInBounds_toArray, List.set_cons_zero, List.set_cons_succ])
      refine ByHand.take_yes (v := ?_) 2 19 rfl rfl (by kernel_rfl) (by kernel_rfl) (by kernel_rfl) (fun _ _ _ h => h) (by rfl) ?_ (by assumption) ?_
      rotate_left
      · intro w' hSw
        (try dsimp only at hSw)
        go_simp
        all_goals with_reducible rfl
      (try simp only [Act.put, List.setIfInBounds_toArray, List.set_cons_zero, List.set_cons_succ])
      refine take_mid 3 20 rfl rfl (by kernel_rfl) (by kernel_rfl) (by kernel_rfl) 66 _ rfl b1 (o1 + j * 6) rfl C _ Tryz.underlying66 rfl HS1.out (fun _ h => h.1) (fun _ _ _ h => h) (by rfl) (by assumption) ?_
      (try simp only [Act.put, List.setIfInBounds_toArray, List.set_cons_zero, List.set_cons_succ])
      refine ByHand.take_yes (v := ?_) 4 21 rfl rfl (by kernel_rfl) (by kernel_rfl) (by kernel_rfl) (fun _ _ _ h => h) (by rfl) ?_ (by assumption) ?_
      rotate_left
      · intro w' hSw
        (try dsimp only at hSw)
        go_simp
        all_goals with_reducible rfl
      (try simp only [Act.put, List.setIfInBounds_toArray, List.set_cons_zero, List.set_cons_succ])
      refine ByHand.take_yes (v := ?_) 5 22 rfl rfl (by kernel_rfl) (by kernel_rfl) (by kernel_rfl) (fun _ _ _ h => h) (by rfl) ?_ (by assumption) ?_
      rotate_left
      · intro w' hSw
        (try dsimp only at hSw)
        go_simp
        all_goals with_reducible rfl
      (try simp only [Act.put, List.setIfInBounds_toArray, List.set_cons_zero, List.set_cons_succ])
      refine ByHand.take_yes (v := ?_) 6 23 rfl rfl (by kernel_rfl) (by kernel_rfl) (by kernel_rfl) (fun _ _ _ h => h) (by rfl) ?_ (by assumption) ?_
      rotate_left
      · intro w' hSw
        (try dsimp only at hSw)
        go_simp
        all_goals with_reducible rfl
      (try simp only [Act.put, List.setIfInBounds_toArray, List.set_cons_zero, List.set_cons_succ])
      refine take_mid 7 24 rfl rfl (by kernel_rfl) (by kernel_rfl) (by kernel_rfl) 66 _ rfl b2 (o2 + j * 6) rfl D _ Tryz.underlying66 rfl HS2.out (fun _ h => h.2) (fun _ _ _ h => h) (by rfl) (by assumption) ?_
      (try simp only [Act.put, List.setIfInBounds_toArray, List.set_cons_zero, List.set_cons_succ])
      refine wpAnyH_ready (rs := [8]) (by kernel_rfl) (by simp) (AllReadyH.cons rfl (fun K hK => ?_) AllReadyH.nil)
      go_simp
      refine (KL.out _ (below_drawn HX.out)).mono ?_
      rintro e y ⟨rfl, hb⟩
      replace hb := drawn_below hb
      have hS1 : y.rangeAt b1 (o1 + j * 6) C.toList ∧ y.rangeAt b2 (o2 + j * 6) D.toList := ⟨range_keep (w := wr) hS0.1 hb (Nat.lt_of_lt_of_le HB1.out (Nat.le_trans HB.out HX.out.size)), range_keep (w := wr) hS0.2 hb (Nat.lt_of_lt_of_le HB2.out (Nat.le_trans HB.out HX.out.size))⟩
      have HY : Hid (Below w.heap.size w y) := below_to HX.out hb
      clear hb
      go_wp2_with fail
      refine hK.out _ _ ?_ (fun hHeld => ?_)
      · exact hS1
      clear hK K
      (try simp only [Act.put, List.setIfInBounds_toArray, List.set_cons_zero, List.set_cons_succ])
      refine ByHand.take_yes (v := ?_) 9 26 rfl rfl (by kernel_rfl) (by kernel_rfl) (by kernel_rfl) (fun _ _ _ h => h) (by rfl) ?_ (by assumption) ?_
      rotate_left
      · intro w' hSw
        (try dsimp only at hSw)
        go_simp
        all_goals with_reducible rfl
      (try simp only [Act.put, List.setIfInBounds_toArray, List.set_cons_zero, List.set_cons_succ])
      refine wpAnyH_done (by kernel_rfl) ?_ _
      go_wp2_with fail
      go_roundw
      case rel => exact ⟨j + 1, by omega, rfl, HY.out⟩
      case measure => simp [intOf]; omega
    · obtain rfl : j = L.length := by omega
      go_wp2_with fail
      go_ret
      exact ⟨rfl, HX.out⟩
set_option maxRecDepth 20000 in
set_option maxHeartbeats 4000000 in
theorem same_state (s : Sc) (L : List Ln) (M M' : List Bl) (ha : AlikeB M M') (lv1 lv2 bv1 bv2 : Value) (B : Nat) (w : World) (hB0 : B ≤ w.heap.size) (h1 : Lns w B lv1 L) (h2 : Lns w B lv2 L) (h3 : Bls w B bv1 M) (h4 : Bls w B bv2 M') : Calls Tryz.prog 17 #[.agg (s.cells lv1 bv1), .agg (s.cells lv2 bv2)] w fun e w' => e = .returned (.bool true) ∧ Below w.heap.size w w' := by
  have KL := Lib.hid (fun W g1 g2 g3 => same_loans L lv1 lv2 B W g1 g2 g3)
  have KB := Lib.hid (fun W g1 g2 g3 => same_bills M M' ha bv1 bv2 B W g1 g2 g3)
  have KP := Lib.hid (fun W => same_parts s.p0 s.p1 s.p2 s.p3 W)
  obtain ⟨A1, k1, rfl⟩ := h1.shape
  obtain ⟨A2, k2, rfl⟩ := h2.shape
  obtain ⟨A3, k3, rfl⟩ := h3.1.shape
  obtain ⟨A4, k4, rfl⟩ := h4.1.shape
  have HB := Lib.hid hB0
  have H1 := Lib.hid h1
  have H2 := Lib.hid h2
  have H3 := Lib.hid h3
  have H4 := Lib.hid h4
  clear h1 h2 h3 h4 ha hB0
  obtain ⟨g, w0, e0, f0, hB, hb⟩ := boxd_new w (s.cells (.slice A1 L.length k1) (.slice A3 M.length k3)) 38
  obtain ⟨k, w1, e1, f1, hK, hb2⟩ := boxd_new w0 (s.cells (.slice A2 L.length k2) (.slice A4 M'.length k4)) 38
  have b1 : k = g + 1 := by rw [e1, f0, Deep.nblk_alloc, ← e0]
  have HG : Hid (Boxd w1 g (s.cells (.slice A1 L.length k1) (.slice A3 M.length k3)) 38 ∧ Boxd w1 k (s.cells (.slice A2 L.length k2) (.slice A4 M'.length k4)) 38 ∧ Below w.heap.size w w1) := ⟨hB.below hb2, hK, below_to hb hb2⟩
  clear hB hK hb hb2
  have X0 : Hid ((s.cells (.slice A1 L.length k1) (.slice A3 M.length k3))[0]? = some (.int .i64 s.day)) := show _ = _ from rfl
  have Y0 : Hid ((s.cells (.slice A2 L.length k2) (.slice A4 M'.length k4))[0]? = some (.int .i64 s.day)) := show _ = _ from rfl
  have t0 : (s.day == s.day) = true := by simp
  have X2 : Hid ((s.cells (.slice A1 L.length k1) (.slice A3 M.length k3))[2]? = some (.int .i64 s.plan)) := show _ = _ from rfl
  have Y2 : Hid ((s.cells (.slice A2 L.length k2) (.slice A4 M'.length k4))[2]? = some (.int .i64 s.plan)) := show _ = _ from rfl
  have t2 : (s.plan == s.plan) = true := by simp
  have X3 : Hid ((s.cells (.slice A1 L.length k1) (.slice A3 M.length k3))[3]? = some (.int .i64 s.since)) := show _ = _ from rfl
  have Y3 : Hid ((s.cells (.slice A2 L.length k2) (.slice A4 M'.length k4))[3]? = some (.int .i64 s.since)) := show _ = _ from rfl
  have t3 : (s.since == s.since) = true := by simp
  have X4 : Hid ((s.cells (.slice A1 L.length k1) (.slice A3 M.length k3))[4]? = some (.int .i64 s.inc)) := show _ = _ from rfl
  have Y4 : Hid ((s.cells (.slice A2 L.length k2) (.slice A4 M'.length k4))[4]? = some (.int .i64 s.inc)) := show _ = _ from rfl
  have t4 : (s.inc == s.inc) = true := by simp
  have X5 : Hid ((s.cells (.slice A1 L.length k1) (.slice A3 M.length k3))[5]? = some (.int .i64 s.fam)) := show _ = _ from rfl
  have Y5 : Hid ((s.cells (.slice A2 L.length k2) (.slice A4 M'.length k4))[5]? = some (.int .i64 s.fam)) := show _ = _ from rfl
  have t5 : (s.fam == s.fam) = true := by simp
  have X7 : Hid ((s.cells (.slice A1 L.length k1) (.slice A3 M.length k3))[7]? = some (.int .i64 s.ahead)) := show _ = _ from rfl
  have Y7 : Hid ((s.cells (.slice A2 L.length k2) (.slice A4 M'.length k4))[7]? = some (.int .i64 s.ahead)) := show _ = _ from rfl
  have t7 : (s.ahead == s.ahead) = true := by simp
  have X12 : Hid ((s.cells (.slice A1 L.length k1) (.slice A3 M.length k3))[12]? = some (.int .i64 s.written)) := show _ = _ from rfl
  have Y12 : Hid ((s.cells (.slice A2 L.length k2) (.slice A4 M'.length k4))[12]? = some (.int .i64 s.written)) := show _ = _ from rfl
  have t12 : (s.written == s.written) = true := by simp
  have X1 : Hid ((s.cells (.slice A1 L.length k1) (.slice A3 M.length k3))[1]? = some (.slice A1 L.length k1)) := show _ = _ from rfl
  have Y1 : Hid ((s.cells (.slice A2 L.length k2) (.slice A4 M'.length k4))[1]? = some (.slice A2 L.length k2)) := show _ = _ from rfl
  have X6 : Hid ((s.cells (.slice A1 L.length k1) (.slice A3 M.length k3))[6]? = some (.slice A3 M.length k3)) := show _ = _ from rfl
  have Y6 : Hid ((s.cells (.slice A2 L.length k2) (.slice A4 M'.length k4))[6]? = some (.slice A4 M'.length k4)) := show _ = _ from rfl
  have XR : Hid (∀ (j : Nat) (v : Value), (#[.int .i64 s.p0, .int .i64 s.p1, .int .i64 s.p2, .int .i64 s.p3] : Array Value).toList[j]? = some v → (s.cells (.slice A1 L.length k1) (.slice A3 M.length k3))[8 + j]? = some v) := fun j v h => by
    match j with
    | 0 => exact h
    | 1 => exact h
    | 2 => exact h
    | 3 => exact h
    | n + 4 => simp at h
  have YR : Hid (∀ (j : Nat) (v : Value), (#[.int .i64 s.p0, .int .i64 s.p1, .int .i64 s.p2, .int .i64 s.p3] : Array Value).toList[j]? = some v → (s.cells (.slice A2 L.length k2) (.slice A4 M'.length k4))[8 + j]? = some v) := fun j v h => by
    match j with
    | 0 => exact h
    | 1 => exact h
    | 2 => exact h
    | 3 => exact h
    | n + 4 => simp at h
  have HSP : Hid ((Tryz.prog.info? 36).map (·.size) = some (#[.int .i64 s.p0, .int .i64 s.p1, .int .i64 s.p2, .int .i64 s.p3] : Array Value).toList.length) := pt_info _ rfl
  generalize hPC : (#[.int .i64 s.p0, .int .i64 s.p1, .int .i64 s.p2, .int .i64 s.p3] : Array Value) = PC at *
  clear hPC
  generalize s.cells (.slice A1 L.length k1) (.slice A3 M.length k3) = C1 at *
  generalize s.cells (.slice A2 L.length k2) (.slice A4 M'.length k4) = C2 at *
  generalize s.day = zday at *
  generalize s.plan = zplan at *
  generalize s.since = zsince at *
  generalize s.inc = zinc at *
  generalize s.fam = zfam at *
  generalize s.ahead = zahead at *
  generalize s.written = zwritten at *
  have c0 := (HG.out.1.cell (i := 0)).trans X0.out
  have d0 := (HG.out.2.1.cell (i := 0)).trans Y0.out
  have c1 := (HG.out.1.cell (i := 1)).trans X1.out
  have d1 := (HG.out.2.1.cell (i := 1)).trans Y1.out
  clear e1
  subst b1 e0 f0 f1
  go_enter Tryz.func17, Tryz.ntmps17
  go_wp2_with (first
    | (refine load_mid_want (by rfl) 36 _ rfl w.heap.size 8 rfl PC _ (fun j v h => (HG.out.1.cell).trans (XR.out j v h)) Tryz.underlying36 rfl HSP.out ?_)
    | (refine load_mid_want (by rfl) 36 _ rfl (w.heap.size + 1) 8 rfl PC _ (fun j v h => (HG.out.2.1.cell).trans (YR.out j v h)) Tryz.underlying36 rfl HSP.out ?_)
    | (go_at_call 46; (refine (KL.out _ (Nat.le_trans HB.out HG.out.2.2.size) (H1.out.below (HG.out.2.2.mono HB.out)) (H2.out.below (HG.out.2.2.mono HB.out))).mono ?_); rintro e y1 ⟨rfl, hb⟩; replace HG : Hid (Boxd y1 w.heap.size C1 38 ∧ Boxd y1 (w.heap.size + 1) C2 38 ∧ Below w.heap.size w y1) := (show _ ∧ _ ∧ _ from ⟨HG.out.1.below hb, HG.out.2.1.below hb, below_to HG.out.2.2 hb⟩); clear hb; have c2 := (HG.out.1.cell (i := 2)).trans X2.out; have d2 := (HG.out.2.1.cell (i := 2)).trans Y2.out; have c3 := (HG.out.1.cell (i := 3)).trans X3.out; have d3 := (HG.out.2.1.cell (i := 3)).trans Y3.out; have c4 := (HG.out.1.cell (i := 4)).trans X4.out; have d4 := (HG.out.2.1.cell (i := 4)).trans Y4.out; have c5 := (HG.out.1.cell (i := 5)).trans X5.out; have d5 := (HG.out.2.1.cell (i := 5)).trans Y5.out; have c6 := (HG.out.1.cell (i := 6)).trans X6.out; have d6 := (HG.out.2.1.cell (i := 6)).trans Y6.out)
    | (go_at_call 47; (refine (KB.out _ (Nat.le_trans HB.out HG.out.2.2.size) (H3.out.below (HG.out.2.2.mono HB.out)) (H4.out.below (HG.out.2.2.mono HB.out))).mono ?_); rintro e y2 ⟨rfl, hb⟩; replace HG : Hid (Boxd y2 w.heap.size C1 38 ∧ Boxd y2 (w.heap.size + 1) C2 38 ∧ Below w.heap.size w y2) := (show _ ∧ _ ∧ _ from ⟨HG.out.1.below hb, HG.out.2.1.below hb, below_to HG.out.2.2 hb⟩); clear hb; have c7 := (HG.out.1.cell (i := 7)).trans X7.out; have d7 := (HG.out.2.1.cell (i := 7)).trans Y7.out)
    | (go_at_call 48; (with_reducible refine (KP.out _).mono ?_); rintro e y3 ⟨rfl, hb⟩; replace HG : Hid (Boxd y3 w.heap.size C1 38 ∧ Boxd y3 (w.heap.size + 1) C2 38 ∧ Below w.heap.size w y3) := (show _ ∧ _ ∧ _ from ⟨HG.out.1.below hb, HG.out.2.1.below hb, below_to HG.out.2.2 hb⟩); clear hb; have c12 := (HG.out.1.cell (i := 12)).trans X12.out; have d12 := (HG.out.2.1.cell (i := 12)).trans Y12.out))
  go_ret
  exact ⟨rfl, HG.out.2.2⟩
end Go.Proofs.YtkddiaiohnbjpaaGreatDoor.Plan
