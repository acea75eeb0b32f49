/- Of layer 18: what each plan asks of loans, whatever they owe. -/
import Derived.Test.YtkddiaiohnbjpaaGreatDoorPlanC3
import Derived.Test.YtkddiaiohnbjpaaGreatDoorGDue
import Derived.Test.YtkddiaiohnbjpaaGreatDoorGStep
import Derived.Test.YtkddiaiohnbjpaaGreatDoorGA
import Derived.BigFrame
namespace Go.Proofs.YtkddiaiohnbjpaaGreatDoor.Plan
open Go.ChangeShapes Go.WideShapes Go.ChangeAt Go.RowKit Loan Money Box Rws Slice

set_option maxRecDepth 20000 in
set_option maxHeartbeats 1000000 in
theorem c_three (l : Ln) (day : Int) (gd : Nat) (w : World) (L : Date.Laid w) (L2 : Step.Laid w) (hd : w.cell? ⟨gd, 0, none⟩ = some (.int .i64 day)) : Calls Tryz.prog 75 #[.agg l.cells, .pointer (some ⟨gd, 0, none⟩)] w fun e w' => e = .returned (.tuple #[.int .i64 (Step.oV l.level (Due.whoV l.entered day)), .int .i64 (Step.oE l.level (Due.whoV l.entered day))]) ∧ Below w.heap.size w w' := by
  obtain ⟨g, wb, e1, e2, hB, hb⟩ := boxd_new w l.cells 23
  have hs : gd < w.heap.size := Rws.lt_of hd
  have HL : Hid (Date.Laid wb ∧ Step.Laid wb) := ⟨L.of hb, L2.of hb⟩
  have hS0 : wb.drew.cell? ⟨g, 10, none⟩ = some (.int .i64 l.level) ∧ wb.drew.cell? ⟨g, 9, none⟩ = some (.int .i64 l.entered) ∧ wb.drew.cell? ⟨gd, 0, none⟩ = some (.int .i64 day) := ⟨hB.cell, hB.cell, (hb.cell (p := ⟨gd, 0, none⟩) hs).trans hd⟩
  have HW := Lib.hid hb
  clear hB hb hd L L2
  have hw1 := who_in l.entered day
  have KW := Lib.hid (fun W hL => Due.u_whole l.entered day W hL)
  have KS := Lib.hid (fun W hL => Step.p_of l.level (Due.whoV l.entered day) W (by omega) hL)
  generalize Due.whoV l.entered day = m at *
  generalize l.level = lv at *
  generalize l.entered = en at *
  generalize Step.oV lv m = rv at *
  generalize Step.oE lv m = re at *
  generalize l.cells = C at *
  have HSize : Hid (g < wb.heap.size ∧ gd < wb.heap.size) := ⟨by rw [e2, e1]; simp, Nat.lt_of_lt_of_le hs HW.out.size⟩
  clear hw1 hs
  go_enter Tryz.func75, Tryz.ntmps75
  go_upto_region 1 with fail
  rw [← e2, ← e1]
  clear e1 e2
  refine wp_region_held_drew (S := (fun W => W.cell? ⟨g, 10, none⟩ = some (.int .i64 lv) ∧ W.cell? ⟨g, 9, none⟩ = some (.int .i64 en) ∧ W.cell? ⟨gd, 0, none⟩ = some (.int .i64 day))) (by kernel_rfl) hS0 (fun hHeld => ?_)
  refine ByHand.take_yes (v := ?_) 0 5 rfl rfl (by kernel_rfl) (by kernel_rfl) (by kernel_rfl) (fun _ _ _ h => h) (by rfl) ?_ (by assumption) ?_
  rotate_left
  · intro w' hSw
    (try dsimp only at hSw)
    go_simp
    all_goals with_reducible rfl
  (try simp only [Act.put, List.setIfInBounds_toArray, List.set_cons_zero, List.set_cons_succ])
  refine ByHand.take_yes (v := ?_) 1 6 rfl rfl (by kernel_rfl) (by kernel_rfl) (by kernel_rfl) (fun _ _ _ h => h) (by rfl) ?_ (by assumption) ?_
  rotate_left
  · intro w' hSw
    (try dsimp only at hSw)
    go_simp
    all_goals with_reducible rfl
  (try simp only [Act.put, List.setIfInBounds_toArray, List.set_cons_zero, List.set_cons_succ])
  refine ByHand.take_yes (v := ?_) 2 7 rfl rfl (by kernel_rfl) (by kernel_rfl) (by kernel_rfl) (fun _ _ _ h => h) (by rfl) ?_ (by assumption) ?_
  rotate_left
  · intro w' hSw
    (try dsimp only at hSw)
    go_simp
    all_goals with_reducible rfl
  (try simp only [Act.put, List.setIfInBounds_toArray, List.set_cons_zero, List.set_cons_succ])
  refine ByHand.take_yes (v := ?_) 3 8 rfl rfl (by kernel_rfl) (by kernel_rfl) (by kernel_rfl) (fun _ _ _ h => h) (by rfl) ?_ (by assumption) ?_
  rotate_left
  · intro w' hSw
    (try dsimp only at hSw)
    go_simp
    all_goals with_reducible rfl
  (try simp only [Act.put, List.setIfInBounds_toArray, List.set_cons_zero, List.set_cons_succ])
  refine ByHand.take_yes (v := ?_) 4 9 rfl rfl (by kernel_rfl) (by kernel_rfl) (by kernel_rfl) (fun _ _ _ h => h) (by rfl) ?_ (by assumption) ?_
  rotate_left
  · intro w' hSw
    (try dsimp only at hSw)
    go_simp
    all_goals with_reducible rfl
  (try simp only [Act.put, List.setIfInBounds_toArray, List.set_cons_zero, List.set_cons_succ])
  refine wpAnyH_ready (rs := [5]) (by kernel_rfl) (by simp) (AllReadyH.cons rfl (fun K hK => ?_) AllReadyH.nil)
  go_simp
  refine (KW.out _ (HL.out.1.of (below_drawn (Below.refl _ _)))).mono ?_
  rintro e y ⟨rfl, hb⟩
  replace hb := drawn_below hb
  have hS1 : y.cell? ⟨g, 10, none⟩ = some (.int .i64 lv) ∧ y.cell? ⟨g, 9, none⟩ = some (.int .i64 en) ∧ y.cell? ⟨gd, 0, none⟩ = some (.int .i64 day) := ⟨(hb.cell (p := ⟨g, 10, none⟩) HSize.out.1).trans hS0.1, (hb.cell (p := ⟨g, 9, none⟩) HSize.out.1).trans hS0.2.1, (hb.cell (p := ⟨gd, 0, none⟩) HSize.out.2).trans hS0.2.2⟩
  have HL2 : Hid (Step.Laid y) := HL.out.2.of hb
  replace HW := Lib.hid (below_to HW.out hb)
  clear hb
  go_wp2_with fail
  refine hK.out _ _ ?_ (fun hHeld => ?_)
  · exact hS1
  clear hK K
  (try simp only [Act.put, List.setIfInBounds_toArray, List.set_cons_zero, List.set_cons_succ])
  refine wpAnyH_ready (rs := [6]) (by kernel_rfl) (by simp) (AllReadyH.cons rfl (fun K hK => ?_) AllReadyH.nil)
  go_simp
  refine (KS.out _ HL2.out).mono ?_
  rintro e y2 ⟨rfl, nn, hw⟩
  have hS2 : y2.cell? ⟨g, 10, none⟩ = some (.int .i64 lv) ∧ y2.cell? ⟨g, 9, none⟩ = some (.int .i64 en) ∧ y2.cell? ⟨gd, 0, none⟩ = some (.int .i64 day) := by rw [hw]; exact hS1
  replace HW : Hid (Below w.heap.size w y2) := show Below _ _ _ by rw [hw]; exact below_drewN HW.out _
  clear hw
  go_wp2_with fail
  refine hK.out _ _ ?_ (fun hHeld => ?_)
  · exact hS2
  clear hK K
  (try simp only [Act.put, List.setIfInBounds_toArray, List.set_cons_zero, List.set_cons_succ])
  refine ByHand.take_yes (v := ?_) 7 12 rfl rfl (by kernel_rfl) (by kernel_rfl) (by kernel_rfl) (fun _ _ _ h => h) (by rfl) ?_ (by assumption) ?_
  rotate_left
  · intro w' hSw
    (try dsimp only at hSw)
    go_simp
    all_goals with_reducible rfl
  (try simp only [Act.put, List.setIfInBounds_toArray, List.set_cons_zero, List.set_cons_succ])
  refine ByHand.take_yes (v := ?_) 8 13 rfl rfl (by kernel_rfl) (by kernel_rfl) (by kernel_rfl) (fun _ _ _ h => h) (by rfl) ?_ (by assumption) ?_
  rotate_left
  · intro w' hSw
    (try dsimp only at hSw)
    go_simp
    all_goals with_reducible rfl
  (try simp only [Act.put, List.setIfInBounds_toArray, List.set_cons_zero, List.set_cons_succ])
  refine ByHand.take_yes (v := ?_) 9 3 rfl rfl (by kernel_rfl) (by kernel_rfl) (by kernel_rfl) (fun _ _ _ h => h) (by rfl) ?_ (by assumption) ?_
  rotate_left
  · intro w' hSw
    (try dsimp only at hSw)
    go_simp
    all_goals with_reducible rfl
  (try simp only [Act.put, List.setIfInBounds_toArray, List.set_cons_zero, List.set_cons_succ])
  refine ByHand.take_yes (v := ?_) 10 4 rfl rfl (by kernel_rfl) (by kernel_rfl) (by kernel_rfl) (fun _ _ _ h => h) (by rfl) ?_ (by assumption) ?_
  rotate_left
  · intro w' hSw
    (try dsimp only at hSw)
    go_simp
    all_goals with_reducible rfl
  (try simp only [Act.put, List.setIfInBounds_toArray, List.set_cons_zero, List.set_cons_succ])
  refine wpAnyH_done (by kernel_rfl) ?_ _
  go_wp2_with fail
  go_ret2
  exact ⟨rfl, HW.out⟩
set_option maxRecDepth 20000 in
set_option maxHeartbeats 2000000 in
theorem each_1 (L : List Ln) (day : Int) (v : Value) (B gb : Nat) (w : World) (hB : B ≤ w.heap.size) (hv : Lns w B v L) (hN : L.length ≤ 1000) (hg : w.cell? ⟨gb, 0, none⟩ = some (.func (.func 73) #[] #[])) :
    Calls Tryz.prog 108 #[v, .pointer (some ⟨gb, 0, none⟩)] w fun e w' => ∃ u E, e = .returned (.tuple #[u, .int .i64 E]) ∧ E = (eachR (askR 1 day) L).2 ∧ (E = 0 → Owned w.heap.size w' 2 u (eachR (askR 1 day) L).1) ∧ (E ≠ 0 → u = .slice none 0 0) ∧ Below w.heap.size w w' := by
  obtain ⟨A, k, rfl⟩ := hv.shape
  have HV : Hid (Lns w B (.slice A L.length k) L) := hv
  have HB := Lib.hid hB
  have HGB : Hid (gb < w.heap.size) := Rws.lt_of hg
  have HGC := Lib.hid hg
  have hmk := fun W : World => run_make_row' (P := Tryz.prog) 32 2 (.int .i64 0) 8 Tryz.underlying32 i64_zero rfl .i64 .i64 L.length (by omega) (by omega) W
  clear hv hB hg
  go_enter Tryz.func108, Tryz.ntmps108
  go_wp2_with fail
  go_loopw [14] (fun t wr => ∃ j : Nat, j ≤ L.length ∧ t = .int .i64 j ∧ Hid ((∀ i, i < j → ∀ y, L[i]? = some y → (askR 1 day y).2 = 0) ∧ wr.rowIs w.heap.size 2 L.length (upTo (fun l => (askR 1 day l).1) L j) ∧ Below w.heap.size w wr)) (fun t _ => L.length - (intOf t).toNat)
  case atStart => exact ⟨0, Nat.zero_le _, rfl, fun i hi => absurd hi (Nat.not_lt_zero _), (World.rowIs_made w (.int .i64 0) L.length 2).congr fun i _ => by unfold upTo; rw [if_neg (Nat.not_lt_zero _)], (Below.refl _ _).alloc (Nat.le_refl _) _⟩
  case round =>
    obtain ⟨j, hj, rfl, HX⟩ := hrel
    rename_i wr
    clear hmk
    by_cases hlt : j < L.length
    · obtain ⟨b, off, k', e0, hb, -⟩ := HV.out.open (by omega)
      injection e0 with e0 _ e2
      subst e0 e2
      obtain ⟨x, hx⟩ : ∃ x, L[j]? = some x := ⟨_, List.getElem?_eq_getElem hlt⟩
      have KA := Lib.hid (fun W (_ : Below w.heap.size w W) => c_one x W)
      have hS0 : wr.drew.cell? ⟨gb, 0, none⟩ = some (.func (.func 73) #[] #[]) ∧ wr.drew.rangeAt b (off + j * 13) x.cells.toList := ⟨(HX.out.2.2.cell (p := ⟨gb, 0, none⟩) HGB.out).trans HGC.out, range_keep (HV.out.at_ hx) (below_drawn (HX.out.2.2.mono HB.out)) hb⟩
      have HS := Lib.hid (ln_info' x)
      have HU := Lib.hid (upTo_step (f := fun l => (askR 1 day l).1) hx)
      have ea : askR 1 day x = (x.level, (0 : Int)) := by unfold askR; rw [if_pos rfl]
      by_cases he : (askR 1 day x).2 = 0
      · have HE : Hid (∀ i, i < j + 1 → ∀ y, L[i]? = some y → (askR 1 day y).2 = 0) := fun i hi y hy => by
          by_cases hij : i = j
          · subst hij
            rw [hx] at hy
            exact (Option.some.inj hy) ▸ he
          · exact HX.out.1 i (by omega) y hy
        rw [ea] at he HU
        dsimp only at he HU
        clear hx ea
        have t0 : ((0 : Int) != 0) = false := by first | (rw [he]; rfl) | rfl
        clear he
        generalize x.cells = C at *
        generalize x.level = rv at *

        go_upto_region 5 with fail
        refine wp_region_held_drew (S := (fun W => W.cell? ⟨gb, 0, none⟩ = some (.func (.func 73) #[] #[]) ∧ W.rangeAt b (off + j * 13) C.toList)) (by kernel_rfl) hS0 (fun hHeld => ?_)
        refine ByHand.take_yes (v := ?_) 0 18 rfl rfl (by kernel_rfl) (by kernel_rfl) (by kernel_rfl) (fun _ _ _ h => h) (by rfl) ?_ (by assumption) ?_
        rotate_left
        · intro w' hSw
          (try dsimp only at hSw)
          go_simp
          all_goals with_reducible rfl
        (try simp only [Act.put, List.setIfInBounds_toArray, List.set_cons_zero, List.set_cons_succ])
        refine ByHand.take_yes (v := ?_) 1 19 rfl rfl (by kernel_rfl) (by kernel_rfl) (by kernel_rfl) (fun _ _ _ h => h) (by rfl) ?_ (by assumption) ?_
        rotate_left
        · intro w' hSw
          (try dsimp only at hSw)
          go_simp
          all_goals with_reducible rfl
        (try simp only [Act.put, List.setIfInBounds_toArray, List.set_cons_zero, List.set_cons_succ])
        refine ByHand.take_yes (v := ?_) 2 20 rfl rfl (by kernel_rfl) (by kernel_rfl) (by kernel_rfl) (fun _ _ _ h => h) (by rfl) ?_ (by assumption) ?_
        rotate_left
        · intro w' hSw
          (try dsimp only at hSw)
          go_simp
          all_goals with_reducible rfl
        (try simp only [Act.put, List.setIfInBounds_toArray, List.set_cons_zero, List.set_cons_succ])
        refine ByHand.take_yes (v := ?_) 3 21 rfl rfl (by kernel_rfl) (by kernel_rfl) (by kernel_rfl) (fun _ _ _ h => h) (by rfl) ?_ (by assumption) ?_
        rotate_left
        · intro w' hSw
          (try dsimp only at hSw)
          go_simp
          all_goals with_reducible rfl
        (try simp only [Act.put, List.setIfInBounds_toArray, List.set_cons_zero, List.set_cons_succ])
        refine take_mid 4 22 rfl rfl (by kernel_rfl) (by kernel_rfl) (by kernel_rfl) 23 _ rfl b (off + j * 13) rfl C _ Tryz.underlying23 rfl HS.out (fun _ h => h.2) (fun _ _ _ h => h) (by rfl) (by assumption) ?_
        (try simp only [Act.put, List.setIfInBounds_toArray, List.set_cons_zero, List.set_cons_succ])
        refine wpAnyH_ready (rs := [5]) (by kernel_rfl) (by simp) (AllReadyH.cons rfl (fun K hK => ?_) AllReadyH.nil)
        go_simp
        refine (KA.out _ (below_drawn HX.out.2.2)).mono ?_
        rintro e y ⟨rfl, hc⟩
        replace hc := drawn_below hc
        have hS1 : y.cell? ⟨gb, 0, none⟩ = some (.func (.func 73) #[] #[]) ∧ y.rangeAt b (off + j * 13) C.toList := ⟨(hc.cell (p := ⟨gb, 0, none⟩) (Nat.lt_of_lt_of_le HGB.out HX.out.2.2.size)).trans hS0.1, range_keep (w := wr) (show wr.rangeAt b (off + j * 13) C.toList from hS0.2) (hc.mono HX.out.2.2.size) (Nat.lt_of_lt_of_le hb HB.out)⟩
        have HY : Hid (y.rowIs w.heap.size 2 L.length (upTo (fun l => (askR 1 day l).1) L j) ∧ Below w.heap.size w y) := ⟨HX.out.2.1.of_block (hc.block _ HX.out.2.1.lt), below_to HX.out.2.2 hc⟩
        clear hc
        go_wp2_with fail
        refine hK.out _ _ ?_ (fun hHeld => ?_)
        · exact hS1
        clear hK K
        (try simp only [Act.put, List.setIfInBounds_toArray, List.set_cons_zero, List.set_cons_succ])
        refine ByHand.take_yes (v := ?_) 6 17 rfl rfl (by kernel_rfl) (by kernel_rfl) (by kernel_rfl) (fun _ _ _ h => h) (by rfl) ?_ (by assumption) ?_
        rotate_left
        · intro w' hSw
          (try dsimp only at hSw)
          go_simp
          all_goals with_reducible rfl
        (try simp only [Act.put, List.setIfInBounds_toArray, List.set_cons_zero, List.set_cons_succ])
        refine ByHand.take_yes (v := ?_) 7 24 rfl rfl (by kernel_rfl) (by kernel_rfl) (by kernel_rfl) (fun _ _ _ h => h) (by rfl) ?_ (by assumption) ?_
        rotate_left
        · intro w' hSw
          (try dsimp only at hSw)
          go_simp
          all_goals with_reducible rfl
        (try simp only [Act.put, List.setIfInBounds_toArray, List.set_cons_zero, List.set_cons_succ])
        refine ByHand.take_yes (v := ?_) 8 25 rfl rfl (by kernel_rfl) (by kernel_rfl) (by kernel_rfl) (fun _ _ _ h => h) (by rfl) ?_ (by assumption) ?_
        rotate_left
        · intro w' hSw
          (try dsimp only at hSw)
          go_simp
          all_goals with_reducible rfl
        (try simp only [Act.put, List.setIfInBounds_toArray, List.set_cons_zero, List.set_cons_succ])
        refine ByHand.take_yes (v := ?_) 9 7 rfl rfl (by kernel_rfl) (by kernel_rfl) (by kernel_rfl) (fun _ _ _ h => h) (by rfl) ?_ (by assumption) ?_
        rotate_left
        · intro w' hSw
          (try dsimp only at hSw)
          go_simp
          all_goals with_reducible rfl
        (try simp only [Act.put, List.setIfInBounds_toArray, List.set_cons_zero, List.set_cons_succ])
        refine ByHand.take_yes (v := ?_) 10 8 rfl rfl (by kernel_rfl) (by kernel_rfl) (by kernel_rfl) (fun _ _ _ h => h) (by rfl) ?_ (by assumption) ?_
        rotate_left
        · intro w' hSw
          (try dsimp only at hSw)
          go_simp
          all_goals with_reducible rfl
        (try simp only [Act.put, List.setIfInBounds_toArray, List.set_cons_zero, List.set_cons_succ])
        refine wpAnyH_done (by kernel_rfl) ?_ _
        have hp := HY.out.1.cell hlt
        have hf := HY.out.1.frozen j
        clear hS0 hS1
        go_wp2_with fail
        go_roundw
        case rel => exact ⟨j + 1, by omega, rfl, HE.out, (HY.out.1.set j _).congr fun i _ => (HU.out i).symm, HY.out.2.setCell (Nat.le_refl _) _⟩
        case measure => simp [intOf]; omega
      · have HE : Hid ((askR 1 day x).2 = (eachR (askR 1 day) L).2) := by
          have hz := errs_at hx (fun i hi y hy => HX.out.1 i hi y hy) he
          show _ = _
          unfold eachR
          rw [if_neg (by rw [hz]; exact he), hz]
        have HN := Lib.hid he
        have t0 : ((askR 1 day x).2 != 0) = true := by rw [bne_iff_ne]; exact he
        rw [ea] at he HE HN t0
        dsimp only at he HE HN t0
        clear hx ea he HU
        exact absurd rfl HN.out
    · obtain rfl : j = L.length := by omega
      have HE : Hid (eachR (askR 1 day) L = (L.map fun l => (askR 1 day l).1, 0)) := by
        show _ = _
        unfold eachR
        rw [if_pos (errs_all HX.out.1)]
      go_wp2_with fail
      go_ret2
      exact ⟨_, 0, rfl, by rw [HE.out], fun _ => by rw [HE.out]; exact owned_end rfl (Nat.le_refl _) HX.out.2.1, fun h => absurd rfl h, HX.out.2.2⟩
set_option maxRecDepth 20000 in
set_option maxHeartbeats 2000000 in
theorem each_2 (L : List Ln) (day : Int) (v : Value) (B gb : Nat) (w : World) (hB : B ≤ w.heap.size) (hv : Lns w B v L) (hN : L.length ≤ 1000) (hg : w.cell? ⟨gb, 0, none⟩ = some (.func (.func 74) #[] #[])) :
    Calls Tryz.prog 108 #[v, .pointer (some ⟨gb, 0, none⟩)] w fun e w' => ∃ u E, e = .returned (.tuple #[u, .int .i64 E]) ∧ E = (eachR (askR 2 day) L).2 ∧ (E = 0 → Owned w.heap.size w' 2 u (eachR (askR 2 day) L).1) ∧ (E ≠ 0 → u = .slice none 0 0) ∧ Below w.heap.size w w' := by
  obtain ⟨A, k, rfl⟩ := hv.shape
  have HV : Hid (Lns w B (.slice A L.length k) L) := hv
  have HB := Lib.hid hB
  have HGB : Hid (gb < w.heap.size) := Rws.lt_of hg
  have HGC := Lib.hid hg
  have hmk := fun W : World => run_make_row' (P := Tryz.prog) 32 2 (.int .i64 0) 8 Tryz.underlying32 i64_zero rfl .i64 .i64 L.length (by omega) (by omega) W
  clear hv hB hg
  go_enter Tryz.func108, Tryz.ntmps108
  go_wp2_with fail
  go_loopw [14] (fun t wr => ∃ j : Nat, j ≤ L.length ∧ t = .int .i64 j ∧ Hid ((∀ i, i < j → ∀ y, L[i]? = some y → (askR 2 day y).2 = 0) ∧ wr.rowIs w.heap.size 2 L.length (upTo (fun l => (askR 2 day l).1) L j) ∧ Below w.heap.size w wr)) (fun t _ => L.length - (intOf t).toNat)
  case atStart => exact ⟨0, Nat.zero_le _, rfl, fun i hi => absurd hi (Nat.not_lt_zero _), (World.rowIs_made w (.int .i64 0) L.length 2).congr fun i _ => by unfold upTo; rw [if_neg (Nat.not_lt_zero _)], (Below.refl _ _).alloc (Nat.le_refl _) _⟩
  case round =>
    obtain ⟨j, hj, rfl, HX⟩ := hrel
    rename_i wr
    clear hmk
    by_cases hlt : j < L.length
    · obtain ⟨b, off, k', e0, hb, -⟩ := HV.out.open (by omega)
      injection e0 with e0 _ e2
      subst e0 e2
      obtain ⟨x, hx⟩ : ∃ x, L[j]? = some x := ⟨_, List.getElem?_eq_getElem hlt⟩
      have KA := Lib.hid (fun W (_ : Below w.heap.size w W) => c_two x W)
      have hS0 : wr.drew.cell? ⟨gb, 0, none⟩ = some (.func (.func 74) #[] #[]) ∧ wr.drew.rangeAt b (off + j * 13) x.cells.toList := ⟨(HX.out.2.2.cell (p := ⟨gb, 0, none⟩) HGB.out).trans HGC.out, range_keep (HV.out.at_ hx) (below_drawn (HX.out.2.2.mono HB.out)) hb⟩
      have HS := Lib.hid (ln_info' x)
      have HU := Lib.hid (upTo_step (f := fun l => (askR 2 day l).1) hx)
      have ea : askR 2 day x = (x.far, (0 : Int)) := by unfold askR; rw [if_neg (by decide), if_pos rfl]
      by_cases he : (askR 2 day x).2 = 0
      · have HE : Hid (∀ i, i < j + 1 → ∀ y, L[i]? = some y → (askR 2 day y).2 = 0) := fun i hi y hy => by
          by_cases hij : i = j
          · subst hij
            rw [hx] at hy
            exact (Option.some.inj hy) ▸ he
          · exact HX.out.1 i (by omega) y hy
        rw [ea] at he HU
        dsimp only at he HU
        clear hx ea
        have t0 : ((0 : Int) != 0) = false := by first | (rw [he]; rfl) | rfl
        clear he
        generalize x.cells = C at *
        generalize x.far = rv at *

        go_upto_region 5 with fail
        refine wp_region_held_drew (S := (fun W => W.cell? ⟨gb, 0, none⟩ = some (.func (.func 74) #[] #[]) ∧ W.rangeAt b (off + j * 13) C.toList)) (by kernel_rfl) hS0 (fun hHeld => ?_)
        refine ByHand.take_yes (v := ?_) 0 18 rfl rfl (by kernel_rfl) (by kernel_rfl) (by kernel_rfl) (fun _ _ _ h => h) (by rfl) ?_ (by assumption) ?_
        rotate_left
        · intro w' hSw
          (try dsimp only at hSw)
          go_simp
          all_goals with_reducible rfl
        (try simp only [Act.put, List.setIfInBounds_toArray, List.set_cons_zero, List.set_cons_succ])
        refine ByHand.take_yes (v := ?_) 1 19 rfl rfl (by kernel_rfl) (by kernel_rfl) (by kernel_rfl) (fun _ _ _ h => h) (by rfl) ?_ (by assumption) ?_
        rotate_left
        · intro w' hSw
          (try dsimp only at hSw)
          go_simp
          all_goals with_reducible rfl
        (try simp only [Act.put, List.setIfInBounds_toArray, List.set_cons_zero, List.set_cons_succ])
        refine ByHand.take_yes (v := ?_) 2 20 rfl rfl (by kernel_rfl) (by kernel_rfl) (by kernel_rfl) (fun _ _ _ h => h) (by rfl) ?_ (by assumption) ?_
        rotate_left
        · intro w' hSw
          (try dsimp only at hSw)
          go_simp
          all_goals with_reducible rfl
        (try simp only [Act.put, List.setIfInBounds_toArray, List.set_cons_zero, List.set_cons_succ])
        refine ByHand.take_yes (v := ?_) 3 21 rfl rfl (by kernel_rfl) (by kernel_rfl) (by kernel_rfl) (fun _ _ _ h => h) (by rfl) ?_ (by assumption) ?_
        rotate_left
        · intro w' hSw
          (try dsimp only at hSw)
          go_simp
          all_goals with_reducible rfl
        (try simp only [Act.put, List.setIfInBounds_toArray, List.set_cons_zero, List.set_cons_succ])
        refine take_mid 4 22 rfl rfl (by kernel_rfl) (by kernel_rfl) (by kernel_rfl) 23 _ rfl b (off + j * 13) rfl C _ Tryz.underlying23 rfl HS.out (fun _ h => h.2) (fun _ _ _ h => h) (by rfl) (by assumption) ?_
        (try simp only [Act.put, List.setIfInBounds_toArray, List.set_cons_zero, List.set_cons_succ])
        refine wpAnyH_ready (rs := [5]) (by kernel_rfl) (by simp) (AllReadyH.cons rfl (fun K hK => ?_) AllReadyH.nil)
        go_simp
        refine (KA.out _ (below_drawn HX.out.2.2)).mono ?_
        rintro e y ⟨rfl, hc⟩
        replace hc := drawn_below hc
        have hS1 : y.cell? ⟨gb, 0, none⟩ = some (.func (.func 74) #[] #[]) ∧ y.rangeAt b (off + j * 13) C.toList := ⟨(hc.cell (p := ⟨gb, 0, none⟩) (Nat.lt_of_lt_of_le HGB.out HX.out.2.2.size)).trans hS0.1, range_keep (w := wr) (show wr.rangeAt b (off + j * 13) C.toList from hS0.2) (hc.mono HX.out.2.2.size) (Nat.lt_of_lt_of_le hb HB.out)⟩
        have HY : Hid (y.rowIs w.heap.size 2 L.length (upTo (fun l => (askR 2 day l).1) L j) ∧ Below w.heap.size w y) := ⟨HX.out.2.1.of_block (hc.block _ HX.out.2.1.lt), below_to HX.out.2.2 hc⟩
        clear hc
        go_wp2_with fail
        refine hK.out _ _ ?_ (fun hHeld => ?_)
        · exact hS1
        clear hK K
        (try simp only [Act.put, List.setIfInBounds_toArray, List.set_cons_zero, List.set_cons_succ])
        refine ByHand.take_yes (v := ?_) 6 17 rfl rfl (by kernel_rfl) (by kernel_rfl) (by kernel_rfl) (fun _ _ _ h => h) (by rfl) ?_ (by assumption) ?_
        rotate_left
        · intro w' hSw
          (try dsimp only at hSw)
          go_simp
          all_goals with_reducible rfl
        (try simp only [Act.put, List.setIfInBounds_toArray, List.set_cons_zero, List.set_cons_succ])
        refine ByHand.take_yes (v := ?_) 7 24 rfl rfl (by kernel_rfl) (by kernel_rfl) (by kernel_rfl) (fun _ _ _ h => h) (by rfl) ?_ (by assumption) ?_
        rotate_left
        · intro w' hSw
          (try dsimp only at hSw)
          go_simp
          all_goals with_reducible rfl
        (try simp only [Act.put, List.setIfInBounds_toArray, List.set_cons_zero, List.set_cons_succ])
        refine ByHand.take_yes (v := ?_) 8 25 rfl rfl (by kernel_rfl) (by kernel_rfl) (by kernel_rfl) (fun _ _ _ h => h) (by rfl) ?_ (by assumption) ?_
        rotate_left
        · intro w' hSw
          (try dsimp only at hSw)
          go_simp
          all_goals with_reducible rfl
        (try simp only [Act.put, List.setIfInBounds_toArray, List.set_cons_zero, List.set_cons_succ])
        refine ByHand.take_yes (v := ?_) 9 7 rfl rfl (by kernel_rfl) (by kernel_rfl) (by kernel_rfl) (fun _ _ _ h => h) (by rfl) ?_ (by assumption) ?_
        rotate_left
        · intro w' hSw
          (try dsimp only at hSw)
          go_simp
          all_goals with_reducible rfl
        (try simp only [Act.put, List.setIfInBounds_toArray, List.set_cons_zero, List.set_cons_succ])
        refine ByHand.take_yes (v := ?_) 10 8 rfl rfl (by kernel_rfl) (by kernel_rfl) (by kernel_rfl) (fun _ _ _ h => h) (by rfl) ?_ (by assumption) ?_
        rotate_left
        · intro w' hSw
          (try dsimp only at hSw)
          go_simp
          all_goals with_reducible rfl
        (try simp only [Act.put, List.setIfInBounds_toArray, List.set_cons_zero, List.set_cons_succ])
        refine wpAnyH_done (by kernel_rfl) ?_ _
        have hp := HY.out.1.cell hlt
        have hf := HY.out.1.frozen j
        clear hS0 hS1
        go_wp2_with fail
        go_roundw
        case rel => exact ⟨j + 1, by omega, rfl, HE.out, (HY.out.1.set j _).congr fun i _ => (HU.out i).symm, HY.out.2.setCell (Nat.le_refl _) _⟩
        case measure => simp [intOf]; omega
      · have HE : Hid ((askR 2 day x).2 = (eachR (askR 2 day) L).2) := by
          have hz := errs_at hx (fun i hi y hy => HX.out.1 i hi y hy) he
          show _ = _
          unfold eachR
          rw [if_neg (by rw [hz]; exact he), hz]
        have HN := Lib.hid he
        have t0 : ((askR 2 day x).2 != 0) = true := by rw [bne_iff_ne]; exact he
        rw [ea] at he HE HN t0
        dsimp only at he HE HN t0
        clear hx ea he HU
        exact absurd rfl HN.out
    · obtain rfl : j = L.length := by omega
      have HE : Hid (eachR (askR 2 day) L = (L.map fun l => (askR 2 day l).1, 0)) := by
        show _ = _
        unfold eachR
        rw [if_pos (errs_all HX.out.1)]
      go_wp2_with fail
      go_ret2
      exact ⟨_, 0, rfl, by rw [HE.out], fun _ => by rw [HE.out]; exact owned_end rfl (Nat.le_refl _) HX.out.2.1, fun h => absurd rfl h, HX.out.2.2⟩
set_option maxRecDepth 20000 in
set_option maxHeartbeats 2000000 in
theorem each_3 (L : List Ln) (day : Int) (v : Value) (B gb gd : Nat) (w : World) (hB : B ≤ w.heap.size) (hv : Lns w B v L) (hN : L.length ≤ 1000) (hg : w.cell? ⟨gb, 0, none⟩ = some (.func (.func 75) #[] #[.pointer (some ⟨gd, 0, none⟩)])) (L1 : Date.Laid w) (L2 : Step.Laid w) (hd : w.cell? ⟨gd, 0, none⟩ = some (.int .i64 day)) :
    Calls Tryz.prog 108 #[v, .pointer (some ⟨gb, 0, none⟩)] w fun e w' => ∃ u E, e = .returned (.tuple #[u, .int .i64 E]) ∧ E = (eachR (askR 3 day) L).2 ∧ (E = 0 → Owned w.heap.size w' 2 u (eachR (askR 3 day) L).1) ∧ (E ≠ 0 → u = .slice none 0 0) ∧ Below w.heap.size w w' := by
  obtain ⟨A, k, rfl⟩ := hv.shape
  have HV : Hid (Lns w B (.slice A L.length k) L) := hv
  have HB := Lib.hid hB
  have HGB : Hid (gb < w.heap.size) := Rws.lt_of hg
  have HGC := Lib.hid hg
  have HD := Lib.hid (And.intro L1 (And.intro L2 hd))
  clear L1 L2 hd
  have hmk := fun W : World => run_make_row' (P := Tryz.prog) 32 2 (.int .i64 0) 8 Tryz.underlying32 i64_zero rfl .i64 .i64 L.length (by omega) (by omega) W
  clear hv hB hg
  go_enter Tryz.func108, Tryz.ntmps108
  go_wp2_with fail
  go_loopw [14] (fun t wr => ∃ j : Nat, j ≤ L.length ∧ t = .int .i64 j ∧ Hid ((∀ i, i < j → ∀ y, L[i]? = some y → (askR 3 day y).2 = 0) ∧ wr.rowIs w.heap.size 2 L.length (upTo (fun l => (askR 3 day l).1) L j) ∧ Below w.heap.size w wr)) (fun t _ => L.length - (intOf t).toNat)
  case atStart => exact ⟨0, Nat.zero_le _, rfl, fun i hi => absurd hi (Nat.not_lt_zero _), (World.rowIs_made w (.int .i64 0) L.length 2).congr fun i _ => by unfold upTo; rw [if_neg (Nat.not_lt_zero _)], (Below.refl _ _).alloc (Nat.le_refl _) _⟩
  case round =>
    obtain ⟨j, hj, rfl, HX⟩ := hrel
    rename_i wr
    clear hmk
    by_cases hlt : j < L.length
    · obtain ⟨b, off, k', e0, hb, -⟩ := HV.out.open (by omega)
      injection e0 with e0 _ e2
      subst e0 e2
      obtain ⟨x, hx⟩ : ∃ x, L[j]? = some x := ⟨_, List.getElem?_eq_getElem hlt⟩
      have KA := Lib.hid (fun W (hb : Below w.heap.size w W) => c_three x day gd W (HD.out.1.of hb) (HD.out.2.1.of hb) ((hb.cell (p := ⟨gd, 0, none⟩) (Rws.lt_of HD.out.2.2)).trans HD.out.2.2))
      have hS0 : wr.drew.cell? ⟨gb, 0, none⟩ = some (.func (.func 75) #[] #[.pointer (some ⟨gd, 0, none⟩)]) ∧ wr.drew.rangeAt b (off + j * 13) x.cells.toList := ⟨(HX.out.2.2.cell (p := ⟨gb, 0, none⟩) HGB.out).trans HGC.out, range_keep (HV.out.at_ hx) (below_drawn (HX.out.2.2.mono HB.out)) hb⟩
      have HS := Lib.hid (ln_info' x)
      have HU := Lib.hid (upTo_step (f := fun l => (askR 3 day l).1) hx)
      have ea : askR 3 day x = ((Step.oV x.level (Due.whoV x.entered day)), (Step.oE x.level (Due.whoV x.entered day))) := by unfold askR; rw [if_neg (by decide), if_neg (by decide)]
      by_cases he : (askR 3 day x).2 = 0
      · have HE : Hid (∀ i, i < j + 1 → ∀ y, L[i]? = some y → (askR 3 day y).2 = 0) := fun i hi y hy => by
          by_cases hij : i = j
          · subst hij
            rw [hx] at hy
            exact (Option.some.inj hy) ▸ he
          · exact HX.out.1 i (by omega) y hy
        rw [ea] at he HU
        dsimp only at he HU
        clear hx ea
        have t0 : ((Step.oE x.level (Due.whoV x.entered day)) != 0) = false := by first | (rw [he]; rfl) | rfl
        clear he
        generalize x.cells = C at *
        generalize Step.oV x.level (Due.whoV x.entered day) = rv at *
        generalize Step.oE x.level (Due.whoV x.entered day) = re at *

        go_upto_region 5 with fail
        refine wp_region_held_drew (S := (fun W => W.cell? ⟨gb, 0, none⟩ = some (.func (.func 75) #[] #[.pointer (some ⟨gd, 0, none⟩)]) ∧ W.rangeAt b (off + j * 13) C.toList)) (by kernel_rfl) hS0 (fun hHeld => ?_)
        refine ByHand.take_yes (v := ?_) 0 18 rfl rfl (by kernel_rfl) (by kernel_rfl) (by kernel_rfl) (fun _ _ _ h => h) (by rfl) ?_ (by assumption) ?_
        rotate_left
        · intro w' hSw
          (try dsimp only at hSw)
          go_simp
          all_goals with_reducible rfl
        (try simp only [Act.put, List.setIfInBounds_toArray, List.set_cons_zero, List.set_cons_succ])
        refine ByHand.take_yes (v := ?_) 1 19 rfl rfl (by kernel_rfl) (by kernel_rfl) (by kernel_rfl) (fun _ _ _ h => h) (by rfl) ?_ (by assumption) ?_
        rotate_left
        · intro w' hSw
          (try dsimp only at hSw)
          go_simp
          all_goals with_reducible rfl
        (try simp only [Act.put, List.setIfInBounds_toArray, List.set_cons_zero, List.set_cons_succ])
        refine ByHand.take_yes (v := ?_) 2 20 rfl rfl (by kernel_rfl) (by kernel_rfl) (by kernel_rfl) (fun _ _ _ h => h) (by rfl) ?_ (by assumption) ?_
        rotate_left
        · intro w' hSw
          (try dsimp only at hSw)
          go_simp
          all_goals with_reducible rfl
        (try simp only [Act.put, List.setIfInBounds_toArray, List.set_cons_zero, List.set_cons_succ])
        refine ByHand.take_yes (v := ?_) 3 21 rfl rfl (by kernel_rfl) (by kernel_rfl) (by kernel_rfl) (fun _ _ _ h => h) (by rfl) ?_ (by assumption) ?_
        rotate_left
        · intro w' hSw
          (try dsimp only at hSw)
          go_simp
          all_goals with_reducible rfl
        (try simp only [Act.put, List.setIfInBounds_toArray, List.set_cons_zero, List.set_cons_succ])
        refine take_mid 4 22 rfl rfl (by kernel_rfl) (by kernel_rfl) (by kernel_rfl) 23 _ rfl b (off + j * 13) rfl C _ Tryz.underlying23 rfl HS.out (fun _ h => h.2) (fun _ _ _ h => h) (by rfl) (by assumption) ?_
        (try simp only [Act.put, List.setIfInBounds_toArray, List.set_cons_zero, List.set_cons_succ])
        refine wpAnyH_ready (rs := [5]) (by kernel_rfl) (by simp) (AllReadyH.cons rfl (fun K hK => ?_) AllReadyH.nil)
        go_simp
        refine (KA.out _ (below_drawn HX.out.2.2)).mono ?_
        rintro e y ⟨rfl, hc⟩
        replace hc := drawn_below hc
        have hS1 : y.cell? ⟨gb, 0, none⟩ = some (.func (.func 75) #[] #[.pointer (some ⟨gd, 0, none⟩)]) ∧ y.rangeAt b (off + j * 13) C.toList := ⟨(hc.cell (p := ⟨gb, 0, none⟩) (Nat.lt_of_lt_of_le HGB.out HX.out.2.2.size)).trans hS0.1, range_keep (w := wr) (show wr.rangeAt b (off + j * 13) C.toList from hS0.2) (hc.mono HX.out.2.2.size) (Nat.lt_of_lt_of_le hb HB.out)⟩
        have HY : Hid (y.rowIs w.heap.size 2 L.length (upTo (fun l => (askR 3 day l).1) L j) ∧ Below w.heap.size w y) := ⟨HX.out.2.1.of_block (hc.block _ HX.out.2.1.lt), below_to HX.out.2.2 hc⟩
        clear hc
        go_wp2_with fail
        refine hK.out _ _ ?_ (fun hHeld => ?_)
        · exact hS1
        clear hK K
        (try simp only [Act.put, List.setIfInBounds_toArray, List.set_cons_zero, List.set_cons_succ])
        refine ByHand.take_yes (v := ?_) 6 17 rfl rfl (by kernel_rfl) (by kernel_rfl) (by kernel_rfl) (fun _ _ _ h => h) (by rfl) ?_ (by assumption) ?_
        rotate_left
        · intro w' hSw
          (try dsimp only at hSw)
          go_simp
          all_goals with_reducible rfl
        (try simp only [Act.put, List.setIfInBounds_toArray, List.set_cons_zero, List.set_cons_succ])
        refine ByHand.take_yes (v := ?_) 7 24 rfl rfl (by kernel_rfl) (by kernel_rfl) (by kernel_rfl) (fun _ _ _ h => h) (by rfl) ?_ (by assumption) ?_
        rotate_left
        · intro w' hSw
          (try dsimp only at hSw)
          go_simp
          all_goals with_reducible rfl
        (try simp only [Act.put, List.setIfInBounds_toArray, List.set_cons_zero, List.set_cons_succ])
        refine ByHand.take_yes (v := ?_) 8 25 rfl rfl (by kernel_rfl) (by kernel_rfl) (by kernel_rfl) (fun _ _ _ h => h) (by rfl) ?_ (by assumption) ?_
        rotate_left
        · intro w' hSw
          (try dsimp only at hSw)
          go_simp
          all_goals with_reducible rfl
        (try simp only [Act.put, List.setIfInBounds_toArray, List.set_cons_zero, List.set_cons_succ])
        refine ByHand.take_yes (v := ?_) 9 7 rfl rfl (by kernel_rfl) (by kernel_rfl) (by kernel_rfl) (fun _ _ _ h => h) (by rfl) ?_ (by assumption) ?_
        rotate_left
        · intro w' hSw
          (try dsimp only at hSw)
          go_simp
          all_goals with_reducible rfl
        (try simp only [Act.put, List.setIfInBounds_toArray, List.set_cons_zero, List.set_cons_succ])
        refine ByHand.take_yes (v := ?_) 10 8 rfl rfl (by kernel_rfl) (by kernel_rfl) (by kernel_rfl) (fun _ _ _ h => h) (by rfl) ?_ (by assumption) ?_
        rotate_left
        · intro w' hSw
          (try dsimp only at hSw)
          go_simp
          all_goals with_reducible rfl
        (try simp only [Act.put, List.setIfInBounds_toArray, List.set_cons_zero, List.set_cons_succ])
        refine wpAnyH_done (by kernel_rfl) ?_ _
        have hp := HY.out.1.cell hlt
        have hf := HY.out.1.frozen j
        clear hS0 hS1
        go_wp2_with fail
        go_roundw
        case rel => exact ⟨j + 1, by omega, rfl, HE.out, (HY.out.1.set j _).congr fun i _ => (HU.out i).symm, HY.out.2.setCell (Nat.le_refl _) _⟩
        case measure => simp [intOf]; omega
      · have HE : Hid ((askR 3 day x).2 = (eachR (askR 3 day) L).2) := by
          have hz := errs_at hx (fun i hi y hy => HX.out.1 i hi y hy) he
          show _ = _
          unfold eachR
          rw [if_neg (by rw [hz]; exact he), hz]
        have HN := Lib.hid he
        have t0 : ((askR 3 day x).2 != 0) = true := by rw [bne_iff_ne]; exact he
        rw [ea] at he HE HN t0
        dsimp only at he HE HN t0
        clear hx ea he HU
        generalize Step.oV x.level (Due.whoV x.entered day) = rv at *
        generalize Step.oE x.level (Due.whoV x.entered day) = re at *
        generalize x.cells = C at *
        go_upto_region 5 with fail
        refine wp_region_held_drew (S := (fun W => W.cell? ⟨gb, 0, none⟩ = some (.func (.func 75) #[] #[.pointer (some ⟨gd, 0, none⟩)]) ∧ W.rangeAt b (off + j * 13) C.toList)) (by kernel_rfl) hS0 (fun hHeld => ?_)
        refine ByHand.take_yes (v := ?_) 0 18 rfl rfl (by kernel_rfl) (by kernel_rfl) (by kernel_rfl) (fun _ _ _ h => h) (by rfl) ?_ (by assumption) ?_
        rotate_left
        · intro w' hSw
          (try dsimp only at hSw)
          go_simp
          all_goals with_reducible rfl
        (try simp only [Act.put, List.setIfInBounds_toArray, List.set_cons_zero, List.set_cons_succ])
        refine ByHand.take_yes (v := ?_) 1 19 rfl rfl (by kernel_rfl) (by kernel_rfl) (by kernel_rfl) (fun _ _ _ h => h) (by rfl) ?_ (by assumption) ?_
        rotate_left
        · intro w' hSw
          (try dsimp only at hSw)
          go_simp
          all_goals with_reducible rfl
        (try simp only [Act.put, List.setIfInBounds_toArray, List.set_cons_zero, List.set_cons_succ])
        refine ByHand.take_yes (v := ?_) 2 20 rfl rfl (by kernel_rfl) (by kernel_rfl) (by kernel_rfl) (fun _ _ _ h => h) (by rfl) ?_ (by assumption) ?_
        rotate_left
        · intro w' hSw
          (try dsimp only at hSw)
          go_simp
          all_goals with_reducible rfl
        (try simp only [Act.put, List.setIfInBounds_toArray, List.set_cons_zero, List.set_cons_succ])
        refine ByHand.take_yes (v := ?_) 3 21 rfl rfl (by kernel_rfl) (by kernel_rfl) (by kernel_rfl) (fun _ _ _ h => h) (by rfl) ?_ (by assumption) ?_
        rotate_left
        · intro w' hSw
          (try dsimp only at hSw)
          go_simp
          all_goals with_reducible rfl
        (try simp only [Act.put, List.setIfInBounds_toArray, List.set_cons_zero, List.set_cons_succ])
        refine take_mid 4 22 rfl rfl (by kernel_rfl) (by kernel_rfl) (by kernel_rfl) 23 _ rfl b (off + j * 13) rfl C _ Tryz.underlying23 rfl HS.out (fun _ h => h.2) (fun _ _ _ h => h) (by rfl) (by assumption) ?_
        (try simp only [Act.put, List.setIfInBounds_toArray, List.set_cons_zero, List.set_cons_succ])
        refine wpAnyH_ready (rs := [5]) (by kernel_rfl) (by simp) (AllReadyH.cons rfl (fun K hK => ?_) AllReadyH.nil)
        go_simp
        refine (KA.out _ (below_drawn HX.out.2.2)).mono ?_
        rintro e y ⟨rfl, hc⟩
        replace hc := drawn_below hc
        have hS1 : y.cell? ⟨gb, 0, none⟩ = some (.func (.func 75) #[] #[.pointer (some ⟨gd, 0, none⟩)]) ∧ y.rangeAt b (off + j * 13) C.toList := ⟨(hc.cell (p := ⟨gb, 0, none⟩) (Nat.lt_of_lt_of_le HGB.out HX.out.2.2.size)).trans hS0.1, range_keep (w := wr) (show wr.rangeAt b (off + j * 13) C.toList from hS0.2) (hc.mono HX.out.2.2.size) (Nat.lt_of_lt_of_le hb HB.out)⟩
        have HY : Hid (y.rowIs w.heap.size 2 L.length (upTo (fun l => (askR 3 day l).1) L j) ∧ Below w.heap.size w y) := ⟨HX.out.2.1.of_block (hc.block _ HX.out.2.1.lt), below_to HX.out.2.2 hc⟩
        clear hc
        go_wp2_with fail
        refine hK.out _ _ ?_ (fun hHeld => ?_)
        · exact hS1
        clear hK K
        (try simp only [Act.put, List.setIfInBounds_toArray, List.set_cons_zero, List.set_cons_succ])
        refine ByHand.take_yes (v := ?_) 6 17 rfl rfl (by kernel_rfl) (by kernel_rfl) (by kernel_rfl) (fun _ _ _ h => h) (by rfl) ?_ (by assumption) ?_
        rotate_left
        · intro w' hSw
          (try dsimp only at hSw)
          go_simp
          all_goals with_reducible rfl
        (try simp only [Act.put, List.setIfInBounds_toArray, List.set_cons_zero, List.set_cons_succ])
        refine ByHand.take_yes (v := ?_) 7 24 rfl rfl (by kernel_rfl) (by kernel_rfl) (by kernel_rfl) (fun _ _ _ h => h) (by rfl) ?_ (by assumption) ?_
        rotate_left
        · intro w' hSw
          (try dsimp only at hSw)
          go_simp
          all_goals with_reducible rfl
        (try simp only [Act.put, List.setIfInBounds_toArray, List.set_cons_zero, List.set_cons_succ])
        refine ByHand.take_yes (v := ?_) 8 25 rfl rfl (by kernel_rfl) (by kernel_rfl) (by kernel_rfl) (fun _ _ _ h => h) (by rfl) ?_ (by assumption) ?_
        rotate_left
        · intro w' hSw
          (try dsimp only at hSw)
          go_simp
          all_goals with_reducible rfl
        (try simp only [Act.put, List.setIfInBounds_toArray, List.set_cons_zero, List.set_cons_succ])
        refine ByHand.take_yes (v := ?_) 9 7 rfl rfl (by kernel_rfl) (by kernel_rfl) (by kernel_rfl) (fun _ _ _ h => h) (by rfl) ?_ (by assumption) ?_
        rotate_left
        · intro w' hSw
          (try dsimp only at hSw)
          go_simp
          all_goals with_reducible rfl
        (try simp only [Act.put, List.setIfInBounds_toArray, List.set_cons_zero, List.set_cons_succ])
        refine ByHand.take_yes (v := ?_) 10 8 rfl rfl (by kernel_rfl) (by kernel_rfl) (by kernel_rfl) (fun _ _ _ h => h) (by rfl) ?_ (by assumption) ?_
        rotate_left
        · intro w' hSw
          (try dsimp only at hSw)
          go_simp
          all_goals with_reducible rfl
        (try simp only [Act.put, List.setIfInBounds_toArray, List.set_cons_zero, List.set_cons_succ])
        refine wpAnyH_done (by kernel_rfl) ?_ _
        clear hS0 hS1
        go_wp2_with fail
        go_ret2
        exact ⟨_, _, rfl, HE.out, fun h => absurd h HN.out, fun _ => rfl, HY.out.2⟩
    · obtain rfl : j = L.length := by omega
      have HE : Hid (eachR (askR 3 day) L = (L.map fun l => (askR 3 day l).1, 0)) := by
        show _ = _
        unfold eachR
        rw [if_pos (errs_all HX.out.1)]
      go_wp2_with fail
      go_ret2
      exact ⟨_, 0, rfl, by rw [HE.out], fun _ => by rw [HE.out]; exact owned_end rfl (Nat.le_refl _) HX.out.2.1, fun h => absurd rfl h, HX.out.2.2⟩
end Go.Proofs.YtkddiaiohnbjpaaGreatDoor.Plan
