/- The program's own package loan: what it owes, capitalizing. -/
import Derived.Test.YtkegmgjagcefhaaLoanC2
import Derived.Test.YtkegmgjagcefhaaLoanPlain
import Derived.Test.YtkegmgjagcefhaaAccrue2
namespace Go.Proofs.Ytkegmgjagcefhaa.Loan
open Go.ChangeShapes Go.WideShapes Go.ChangeAt Go.RowKit Accr Box Slice Money

theorem ints3 (w : World) (a b c : Int) : Ints (w.alloc (.cells #[.int .i64 a, .int .i64 b, .int .i64 c] 2)) (w.alloc (.cells #[.int .i64 a, .int .i64 b, .int .i64 c] 2)).heap.size .i64 (.slice (some ⟨w.heap.size, 0, none⟩) 3 3) [a, b, c] :=
  ⟨some ⟨w.heap.size, 0, none⟩, 3, rfl, by simp, fun h => (by cases h), fun _ => ⟨w.heap.size, 0, rfl, by simp, fun i hi => by
    match i, hi with
    | 0, _ | 1, _ | 2, _ => exact World.cell?_alloc_new ..⟩⟩
theorem psum3 {p f c : Int} (p0 : 0 ≤ p) (p1 : p ≤ 10000000000000) (f0 : 0 ≤ f) (f1 : f ≤ 10000000000000) (c0 : 0 ≤ c) (c1 : c ≤ 10000000000000) :
    psum [p, f, c] = if p + f + c ≤ 10000000000000 then some (p + f + c) else none := by
  have h1 : plusO 0 p = some p := by
    rw [plusO_some (by simp only [goodB_iff]; omega), Int.zero_add]
  show (((plusO 0 p).bind fun n => plusO n f).bind fun n => plusO n c) = _
  rw [h1]
  show ((plusO p f).bind fun n => plusO n c) = _
  by_cases h2 : p + f ≤ 10000000000000
  · rw [plusO_some (by simp only [goodB_iff]; omega)]
    show plusO (p + f) c = _
    by_cases h3 : p + f + c ≤ 10000000000000
    · rw [if_pos h3, plusO_some (by simp only [goodB_iff]; omega)]
    · rw [if_neg h3, plusO_none (by simp only [goodB_iff]; omega)]
  · rw [if_neg (by omega), plusO_none (by simp only [goodB_iff]; omega)]
    rfl
theorem add3 (a b : Int) (w : World) (a0 : 0 ≤ a) (a1 : a ≤ 10000000000000) (b0 : 0 ≤ b) (b1 : b ≤ 10000000000000) :
    Calls Try.prog 55 #[.int .i64 a, .int .i64 b] w fun e w' => e = .returned (.tuple #[.int .i64 (if a + b ≤ 10000000000000 then a + b else 0), .int .i64 (if a + b ≤ 10000000000000 then 0 else 14)]) ∧ Below w.heap.size w w' := by
  have h := add_tells a b w
  by_cases hq : a + b ≤ 10000000000000
  · rw [plusO_some (by simp only [goodB_iff]; omega)] at h
    rw [if_pos hq, if_pos hq]
    exact h
  · rw [plusO_none (by simp only [goodB_iff]; omega)] at h
    rw [if_neg hq, if_neg hq]
    exact h
theorem owes_ok (l : Ln) (w : World) (hg : Good l) (hl : sumL l ≤ 10000000000000) : Calls Try.prog 31 #[.agg l.cells] w fun e w' => e = .returned (.int .i64 (sumL l)) ∧ Below w.heap.size w w' := by
  obtain ⟨q0, q1, q2⟩ := cents_le hg
  have hs := psum3 hg.prin0 hg.prin1 hg.fees0 hg.fees1 q0 (by omega)
  unfold sumL at *
  rw [if_pos hl] at hs
  clear hl
  obtain ⟨g, wb, e1, e2, hB, hb⟩ := boxd_new w l.cells 23
  have HS := Lib.hid (ln_info l)
  have KC := Lib.hid (fun W => cents_c l W (by have := hg.intr1; omega))
  have KS : Hid (∀ W u, Ints W W.heap.size .i64 u [l.prin, l.fees, centsL l] → Calls Try.prog 66 #[u] W fun e w' => e = .returned (.tuple #[.int .i64 (valO (psum [l.prin, l.fees, centsL l])), .int .i64 (errO (psum [l.prin, l.fees, centsL l]))]) ∧ Below W.heap.size W w') := fun W u hu => sum_tells _ u W hu
  rw [hs] at KS
  have c1 : l.cells[1]? = some (.int .i64 l.prin) := rfl
  have c4 : l.cells[4]? = some (.int .i64 l.fees) := rfl
  have hS0 : wb.drew.cell? ⟨g, 1, none⟩ = some (.int .i64 l.prin) ∧ wb.drew.cell? ⟨g, 4, none⟩ = some (.int .i64 l.fees) ∧ Boxd wb.drew g l.cells 23 ∧ Below w.heap.size w wb.drew := ⟨hB.cell, hB.cell, hB, below_drawn hb⟩
  have HN : Hid (∀ W W', (W.cell? ⟨g, 1, none⟩ = some (.int .i64 l.prin) ∧ W.cell? ⟨g, 4, none⟩ = some (.int .i64 l.fees) ∧ Boxd W g l.cells 23 ∧ Below w.heap.size w W) → Below W.heap.size W W' → (W'.cell? ⟨g, 1, none⟩ = some (.int .i64 l.prin) ∧ W'.cell? ⟨g, 4, none⟩ = some (.int .i64 l.fees) ∧ Boxd W' g l.cells 23 ∧ Below w.heap.size w W')) :=
    fun W W' h k => ⟨(h.2.2.1.below k).cell, (h.2.2.1.below k).cell, h.2.2.1.below k, below_to h.2.2.2 k⟩
  clear hs q0 q1 q2 hg hB hb c1 c4
  generalize centsL l = c at *
  generalize l.prin = p at *
  generalize l.fees = f at *
  generalize l.cells = C at *
  go_enter Try.func31, Try.ntmps31
  go_upto_region 1 with fail
  rw [← e2, ← e1]
  clear e1 e2
  refine wp_region_held_drew (S := (fun w' => w'.cell? ⟨g, 1, none⟩ = some (.int .i64 p) ∧ w'.cell? ⟨g, 4, none⟩ = some (.int .i64 f) ∧ Boxd w' g C 23 ∧ Below w.heap.size w w')) (by kernel_rfl) hS0 (fun hHeld => ?_)
  refine ByHand.take_yes (v := ?_) 0 3 rfl rfl (by kernel_rfl) (by kernel_rfl) (by kernel_rfl) (fun _ _ _ h => h) (by rfl) ?_ (by assumption) ?_
  rotate_left
  · intro w' hSw
    (try dsimp only at hSw)
    go_simp
    all_goals with_reducible rfl
  (try simp only [Act.put, List.setIfInBounds_toArray, List.set_cons_zero, List.set_cons_succ])
  refine ByHand.take_yes (v := ?_) 1 4 rfl rfl (by kernel_rfl) (by kernel_rfl) (by kernel_rfl) (fun _ _ _ h => h) (by rfl) ?_ (by assumption) ?_
  rotate_left
  · intro w' hSw
    (try dsimp only at hSw)
    go_simp
    all_goals with_reducible rfl
  (try simp only [Act.put, List.setIfInBounds_toArray, List.set_cons_zero, List.set_cons_succ])
  refine ByHand.take_yes (v := ?_) 2 5 rfl rfl (by kernel_rfl) (by kernel_rfl) (by kernel_rfl) (fun _ _ _ h => h) (by rfl) ?_ (by assumption) ?_
  rotate_left
  · intro w' hSw
    (try dsimp only at hSw)
    go_simp
    all_goals with_reducible rfl
  (try simp only [Act.put, List.setIfInBounds_toArray, List.set_cons_zero, List.set_cons_succ])
  refine ByHand.take_yes (v := ?_) 3 6 rfl rfl (by kernel_rfl) (by kernel_rfl) (by kernel_rfl) (fun _ _ _ h => h) (by rfl) ?_ (by assumption) ?_
  rotate_left
  · intro w' hSw
    (try dsimp only at hSw)
    go_simp
    all_goals with_reducible rfl
  (try simp only [Act.put, List.setIfInBounds_toArray, List.set_cons_zero, List.set_cons_succ])
  refine take_row 4 7 rfl rfl (by kernel_rfl) (by kernel_rfl) (by kernel_rfl) 23 _ rfl _ rfl _ _ Try.underlying23 rfl HS.out (fun _ h => h.2.2.1) (fun _ _ _ h => h) (by rfl) (by assumption) ?_
  (try simp only [Act.put, List.setIfInBounds_toArray, List.set_cons_zero, List.set_cons_succ])
  refine wpAnyH_ready (rs := [5]) (by kernel_rfl) (by simp) (AllReadyH.cons rfl (fun K hK => ?_) AllReadyH.nil)
  go_simp
  refine (KC.out _).mono ?_
  rintro e y ⟨rfl, hb⟩
  go_wp2_with fail
  have hS1 := HN.out _ _ hS0 hb
  clear hb
  refine hK.out _ _ ?_ (fun hHeld => ?_)
  · exact hS1
  clear hK K
  (try simp only [Act.put, List.setIfInBounds_toArray, List.set_cons_zero, List.set_cons_succ])
  refine wpAnyH_ready (rs := [6]) (by kernel_rfl) (by simp) (AllReadyH.cons rfl (fun K hK => ?_) AllReadyH.nil)
  go_simp
  refine hK.out _ _ ?_ (fun hHeld => ?_)
  · exact HN.out _ _ hS1 (below_one _ _)
  clear hK K
  (try simp only [Act.put, List.setIfInBounds_toArray, List.set_cons_zero, List.set_cons_succ])
  refine wpAnyH_ready (rs := [7]) (by kernel_rfl) (by simp) (AllReadyH.cons rfl (fun K hK => ?_) AllReadyH.nil)
  go_simp
  refine (KS.out _ _ (ints3 _ _ _ _)).mono ?_
  rintro e y2 ⟨rfl, hb⟩
  go_wp2_with fail
  have hS2 := HN.out _ _ (HN.out _ _ hS1 (below_one _ _)) hb
  clear hb
  refine hK.out _ _ ?_ (fun hHeld => ?_)
  · exact hS2
  clear hK K
  (try simp only [Act.put, List.setIfInBounds_toArray, List.set_cons_zero, List.set_cons_succ])
  refine ByHand.take_yes (v := ?_) 8 11 rfl rfl (by kernel_rfl) (by kernel_rfl) (by kernel_rfl) (fun _ _ _ h => h) (by rfl) ?_ (by assumption) ?_
  rotate_left
  · intro w' hSw
    (try dsimp only at hSw)
    go_simp
    all_goals with_reducible rfl
  (try simp only [Act.put, List.setIfInBounds_toArray, List.set_cons_zero, List.set_cons_succ])
  refine ByHand.take_yes (v := ?_) 9 12 rfl rfl (by kernel_rfl) (by kernel_rfl) (by kernel_rfl) (fun _ _ _ h => h) (by rfl) ?_ (by assumption) ?_
  rotate_left
  · intro w' hSw
    (try dsimp only at hSw)
    go_simp
    all_goals with_reducible rfl
  (try simp only [Act.put, List.setIfInBounds_toArray, List.set_cons_zero, List.set_cons_succ])
  refine wpAnyH_ready (rs := [10]) (by kernel_rfl) (by simp) (AllReadyH.cons rfl (fun K hK => ?_) AllReadyH.nil)
  go_simp
  refine (must_ok _ _).mono ?_
  rintro e y3 ⟨rfl, rfl⟩
  go_wp2_with fail
  refine hK.out _ _ ?_ (fun hHeld => ?_)
  · exact hS2
  clear hK K
  (try simp only [Act.put, List.setIfInBounds_toArray, List.set_cons_zero, List.set_cons_succ])
  refine ByHand.take_yes (v := ?_) 11 2 rfl rfl (by kernel_rfl) (by kernel_rfl) (by kernel_rfl) (fun _ _ _ h => h) (by rfl) ?_ (by assumption) ?_
  rotate_left
  · intro w' hSw
    (try dsimp only at hSw)
    go_simp
    all_goals with_reducible rfl
  (try simp only [Act.put, List.setIfInBounds_toArray, List.set_cons_zero, List.set_cons_succ])
  refine wpAnyH_done (by kernel_rfl) ?_ _

  go_wp2_with fail
  go_ret
  exact ⟨rfl, hS2.2.2.2⟩
theorem owes_bad (l : Ln) (w : World) (hg : Good l) (hl : ¬ sumL l ≤ 10000000000000) : Calls Try.prog 31 #[.agg l.cells] w fun e w' => e = .panicked (errL 14) ∧ Below w.heap.size w w' := by
  obtain ⟨q0, q1, q2⟩ := cents_le hg
  have hs := psum3 hg.prin0 hg.prin1 hg.fees0 hg.fees1 q0 (by omega)
  unfold sumL at hl
  rw [if_neg hl] at hs
  clear hl
  obtain ⟨g, wb, e1, e2, hB, hb⟩ := boxd_new w l.cells 23
  have HS := Lib.hid (ln_info l)
  have KC := Lib.hid (fun W => cents_c l W (by have := hg.intr1; omega))
  have KS : Hid (∀ W u, Ints W W.heap.size .i64 u [l.prin, l.fees, centsL l] → Calls Try.prog 66 #[u] W fun e w' => e = .returned (.tuple #[.int .i64 (valO (psum [l.prin, l.fees, centsL l])), .int .i64 (errO (psum [l.prin, l.fees, centsL l]))]) ∧ Below W.heap.size W w') := fun W u hu => sum_tells _ u W hu
  rw [hs] at KS
  have c1 : l.cells[1]? = some (.int .i64 l.prin) := rfl
  have c4 : l.cells[4]? = some (.int .i64 l.fees) := rfl
  have hS0 : wb.drew.cell? ⟨g, 1, none⟩ = some (.int .i64 l.prin) ∧ wb.drew.cell? ⟨g, 4, none⟩ = some (.int .i64 l.fees) ∧ Boxd wb.drew g l.cells 23 ∧ Below w.heap.size w wb.drew := ⟨hB.cell, hB.cell, hB, below_drawn hb⟩
  have HN : Hid (∀ W W', (W.cell? ⟨g, 1, none⟩ = some (.int .i64 l.prin) ∧ W.cell? ⟨g, 4, none⟩ = some (.int .i64 l.fees) ∧ Boxd W g l.cells 23 ∧ Below w.heap.size w W) → Below W.heap.size W W' → (W'.cell? ⟨g, 1, none⟩ = some (.int .i64 l.prin) ∧ W'.cell? ⟨g, 4, none⟩ = some (.int .i64 l.fees) ∧ Boxd W' g l.cells 23 ∧ Below w.heap.size w W')) :=
    fun W W' h k => ⟨(h.2.2.1.below k).cell, (h.2.2.1.below k).cell, h.2.2.1.below k, below_to h.2.2.2 k⟩
  clear hs q0 q1 q2 hg hB hb c1 c4
  generalize centsL l = c at *
  generalize l.prin = p at *
  generalize l.fees = f at *
  generalize l.cells = C at *
  go_enter Try.func31, Try.ntmps31
  go_upto_region 1 with fail
  rw [← e2, ← e1]
  clear e1 e2
  refine wp_region_held_drew (S := (fun w' => w'.cell? ⟨g, 1, none⟩ = some (.int .i64 p) ∧ w'.cell? ⟨g, 4, none⟩ = some (.int .i64 f) ∧ Boxd w' g C 23 ∧ Below w.heap.size w w')) (by kernel_rfl) hS0 (fun hHeld => ?_)
  refine ByHand.take_yes (v := ?_) 0 3 rfl rfl (by kernel_rfl) (by kernel_rfl) (by kernel_rfl) (fun _ _ _ h => h) (by rfl) ?_ (by assumption) ?_
  rotate_left
  · intro w' hSw
    (try dsimp only at hSw)
    go_simp
    all_goals with_reducible rfl
  (try simp only [Act.put, List.setIfInBounds_toArray, List.set_cons_zero, List.set_cons_succ])
  refine ByHand.take_yes (v := ?_) 1 4 rfl rfl (by kernel_rfl) (by kernel_rfl) (by kernel_rfl) (fun _ _ _ h => h) (by rfl) ?_ (by assumption) ?_
  rotate_left
  · intro w' hSw
    (try dsimp only at hSw)
    go_simp
    all_goals with_reducible rfl
  (try simp only [Act.put, List.setIfInBounds_toArray, List.set_cons_zero, List.set_cons_succ])
  refine ByHand.take_yes (v := ?_) 2 5 rfl rfl (by kernel_rfl) (by kernel_rfl) (by kernel_rfl) (fun _ _ _ h => h) (by rfl) ?_ (by assumption) ?_
  rotate_left
  · intro w' hSw
    (try dsimp only at hSw)
    go_simp
    all_goals with_reducible rfl
  (try simp only [Act.put, List.setIfInBounds_toArray, List.set_cons_zero, List.set_cons_succ])
  refine ByHand.take_yes (v := ?_) 3 6 rfl rfl (by kernel_rfl) (by kernel_rfl) (by kernel_rfl) (fun _ _ _ h => h) (by rfl) ?_ (by assumption) ?_
  rotate_left
  · intro w' hSw
    (try dsimp only at hSw)
    go_simp
    all_goals with_reducible rfl
  (try simp only [Act.put, List.setIfInBounds_toArray, List.set_cons_zero, List.set_cons_succ])
  refine take_row 4 7 rfl rfl (by kernel_rfl) (by kernel_rfl) (by kernel_rfl) 23 _ rfl _ rfl _ _ Try.underlying23 rfl HS.out (fun _ h => h.2.2.1) (fun _ _ _ h => h) (by rfl) (by assumption) ?_
  (try simp only [Act.put, List.setIfInBounds_toArray, List.set_cons_zero, List.set_cons_succ])
  refine wpAnyH_ready (rs := [5]) (by kernel_rfl) (by simp) (AllReadyH.cons rfl (fun K hK => ?_) AllReadyH.nil)
  go_simp
  refine (KC.out _).mono ?_
  rintro e y ⟨rfl, hb⟩
  go_wp2_with fail
  have hS1 := HN.out _ _ hS0 hb
  clear hb
  refine hK.out _ _ ?_ (fun hHeld => ?_)
  · exact hS1
  clear hK K
  (try simp only [Act.put, List.setIfInBounds_toArray, List.set_cons_zero, List.set_cons_succ])
  refine wpAnyH_ready (rs := [6]) (by kernel_rfl) (by simp) (AllReadyH.cons rfl (fun K hK => ?_) AllReadyH.nil)
  go_simp
  refine hK.out _ _ ?_ (fun hHeld => ?_)
  · exact HN.out _ _ hS1 (below_one _ _)
  clear hK K
  (try simp only [Act.put, List.setIfInBounds_toArray, List.set_cons_zero, List.set_cons_succ])
  refine wpAnyH_ready (rs := [7]) (by kernel_rfl) (by simp) (AllReadyH.cons rfl (fun K hK => ?_) AllReadyH.nil)
  go_simp
  refine (KS.out _ _ (ints3 _ _ _ _)).mono ?_
  rintro e y2 ⟨rfl, hb⟩
  go_wp2_with fail
  have hS2 := HN.out _ _ (HN.out _ _ hS1 (below_one _ _)) hb
  clear hb
  refine hK.out _ _ ?_ (fun hHeld => ?_)
  · exact hS2
  clear hK K
  (try simp only [Act.put, List.setIfInBounds_toArray, List.set_cons_zero, List.set_cons_succ])
  refine ByHand.take_yes (v := ?_) 8 11 rfl rfl (by kernel_rfl) (by kernel_rfl) (by kernel_rfl) (fun _ _ _ h => h) (by rfl) ?_ (by assumption) ?_
  rotate_left
  · intro w' hSw
    (try dsimp only at hSw)
    go_simp
    all_goals with_reducible rfl
  (try simp only [Act.put, List.setIfInBounds_toArray, List.set_cons_zero, List.set_cons_succ])
  refine ByHand.take_yes (v := ?_) 9 12 rfl rfl (by kernel_rfl) (by kernel_rfl) (by kernel_rfl) (fun _ _ _ h => h) (by rfl) ?_ (by assumption) ?_
  rotate_left
  · intro w' hSw
    (try dsimp only at hSw)
    go_simp
    all_goals with_reducible rfl
  (try simp only [Act.put, List.setIfInBounds_toArray, List.set_cons_zero, List.set_cons_succ])
  refine wpAnyH_ready (rs := [10]) (by kernel_rfl) (by simp) (AllReadyH.cons rfl (fun K hK => ?_) AllReadyH.nil)
  go_simp
  refine (must_bad _ _ _ rfl).mono ?_
  rintro e y3 ⟨rfl, rfl⟩
  go_wp2_with fail
  exact ⟨rfl, rfl, hS2.2.2.2⟩
set_option maxRecDepth 20000 in
theorem cap_ok (l : Ln) (w : World) (hg : Good l) (hl : l.prin + centsL l ≤ 10000000000000) : Calls Try.prog 43 #[.agg l.cells] w fun e w' => e = .returned (.agg (capL l).cells) ∧ Below w.heap.size w w' := by
  obtain ⟨g, wb, e1, e2, hB, hb⟩ := boxd_new w l.cells 23
  obtain ⟨g2, wc, e3, e4, hB2, hb2⟩ := boxd_new wb #[.int .i64 0, .int .i64 0, .int .i64 0, .int .i64 0, .int .i64 0, .int .i64 0, .bool false, .int .i64 0, .int .i64 0, .int .i64 0, .int .i64 0, .int .i64 0, .int .i64 0] 23
  have e5 : g2 = g + 1 := by rw [e3, e2, Deep.nblk_alloc, e1]
  have HB : Hid (Boxd wc g l.cells 23) := hB.below hb2
  have HR : Hid (Boxd wc g2 #[.int .i64 0, .int .i64 0, .int .i64 0, .int .i64 0, .int .i64 0, .int .i64 0, .bool false, .int .i64 0, .int .i64 0, .int .i64 0, .int .i64 0, .int .i64 0, .int .i64 0] 23) := hB2
  have HW : Hid (Below w.heap.size w wc) := below_to hb hb2
  have HG : Hid (w.heap.size ≤ g ∧ w.heap.size ≤ g2 ∧ ¬ g = g2 ∧ ¬ g2 = g) := show _ ∧ _ ∧ ¬ _ ∧ ¬ _ by omega
  clear hB hB2 hb hb2
  obtain ⟨q0, q1, q2⟩ := cents_le hg
  have KC := Lib.hid (fun W => cents_c l W (by have := hg.intr1; omega))
  have KA := Lib.hid (fun W => add3 l.prin (centsL l) W hg.prin0 hg.prin1 q0 (by omega))
  have HS := Lib.hid (ln_info l)
  have X1 : Hid (l.cells[1]? = some (.int .i64 l.prin)) := show _ = _ from rfl
  rw [if_pos hl, if_pos hl] at KA
  have KT := Lib.hid (fun W => c_take l.intr (centsL l) W (by have := hg.intr1; omega))
  have hk : okT l.intr (centsL l) = true := by unfold okT; rw [decide_eq_true_iff]; exact ⟨hg.intr0, hg.intr1, q0, Int.le_refl _⟩
  rw [(tV_yes hk).1, (tV_yes hk).2] at KT
  have P1 : Hid (l.cells.setIfInBounds 1 (.int .i64 (l.prin + centsL l)) = ({ l with prin := l.prin + centsL l } : Ln).cells) := show _ = _ from rfl
  have P2 : Hid (({ l with prin := l.prin + centsL l } : Ln).cells.setIfInBounds 2 (.int .i64 (l.intr - centsL l * 1000000)) = (capL l).cells) := show _ = _ from rfl
  have X2 : Hid (({ l with prin := l.prin + centsL l } : Ln).cells[2]? = some (.int .i64 l.intr)) := show _ = _ from rfl
  have HS2 := Lib.hid (ln_info (capL l))
  have HO := Lib.hid (ln_one (capL l))
  have HZ : Hid (l.cells.size = 13) := ln_size l
  have HZ1 : Hid (({ l with prin := l.prin + centsL l } : Ln).cells.size = 13) := ln_size _
  have HZ2 : Hid (13 = (capL l).cells.size) := show _ = _ from rfl
  clear q0 q1 q2 hk hg hl
  generalize (capL l).cells = D at *
  generalize ({ l with prin := l.prin + centsL l } : Ln).cells = E at *
  generalize l.cells = C at *
  generalize l.prin + centsL l = s at *
  generalize l.intr - centsL l * 1000000 = r at *
  generalize centsL l = c at *
  generalize l.prin = p at *
  generalize l.intr = m at *
  go_enter Try.func43, Try.ntmps43
  go_upto_region 1 with fail
  rw [← e2, ← e1, ← e5, ← e4]
  clear e1 e2 e3 e4 e5
  go_wp2_with (first
    | (refine o_load rfl 23 _ rfl _ rfl _ _ _ HB.out Try.underlying23 rfl HS.out ?_)
    | (refine o_load rfl 23 _ rfl _ rfl _ _ _ HB.out Try.underlying23 rfl HS2.out ?_)
    | (go_at_call 59; refine (KC.out _).mono ?_; rintro e y ⟨rfl, hb⟩; replace HB := Lib.hid (HB.out.below hb); replace HR := Lib.hid (HR.out.below hb); replace HW := Lib.hid (below_to HW.out hb); clear hb; have c1 := (HB.out.cell (i := 1)).trans X1.out)
    | (go_at_call 55; refine (KA.out _).mono ?_; rintro e y ⟨rfl, hb⟩; replace HB := Lib.hid (HB.out.below hb); replace HR := Lib.hid (HR.out.below hb); replace HW := Lib.hid (below_to HW.out hb); clear hb)
    | (go_at_call 39; with_reducible refine (must_ok _ _).mono ?_; rintro e w' ⟨rfl, rfl⟩)
    | (go_at_call 60; refine (KT.out _).mono ?_; rintro e w' ⟨rfl, rfl⟩)
    | (refine o_put rfl 2 _ _ rfl rfl g 1 (.int .i64 s) rfl rfl rfl _ _ HB.out (by simp [HZ.out]) i64_one ?_; intro y hr ho; rw [P1.out] at hr; replace HB := Lib.hid hr; replace HR := Lib.hid (HR.out.one ho HG.out.2.2.2); replace HW := Lib.hid (below_one_of HW.out ho HG.out.1 HW.out.size); clear hr ho; have c2 := (HB.out.cell (i := 2)).trans X2.out)
    | (refine o_put rfl 2 _ _ rfl rfl g 2 (.int .i64 r) rfl rfl rfl _ _ HB.out (by simp [HZ1.out]) i64_one ?_; intro y hr ho; rw [P2.out] at hr; replace HB := Lib.hid hr; replace HR := Lib.hid (HR.out.one ho HG.out.2.2.2); replace HW := Lib.hid (below_one_of HW.out ho HG.out.1 HW.out.size); clear hr ho)
    | (refine o_store rfl 23 _ _ rfl rfl _ _ rfl rfl _ _ HR.out HS2.out HZ2.out HO.out ?_; intro y hr ho; replace HR := Lib.hid hr; replace HW := Lib.hid (below_one_of HW.out ho HG.out.2.1 HW.out.size); clear hr ho))
  refine bodyPost_ret (results_cell_row rfl _ _ _ _ _ _ _ rfl HR.out Try.underlying23 rfl HS2.out) rfl ?_
  exact ⟨rfl, HW.out⟩
set_option maxRecDepth 20000 in
theorem cap_bad (l : Ln) (w : World) (hg : Good l) (hl : ¬ l.prin + centsL l ≤ 10000000000000) : Calls Try.prog 43 #[.agg l.cells] w fun e w' => e = .panicked (errL 14) ∧ Below w.heap.size w w' := by
  obtain ⟨g, wb, e1, e2, hB, hb⟩ := boxd_new w l.cells 23
  obtain ⟨g2, wc, e3, e4, hB2, hb2⟩ := boxd_new wb #[.int .i64 0, .int .i64 0, .int .i64 0, .int .i64 0, .int .i64 0, .int .i64 0, .bool false, .int .i64 0, .int .i64 0, .int .i64 0, .int .i64 0, .int .i64 0, .int .i64 0] 23
  have e5 : g2 = g + 1 := by rw [e3, e2, Deep.nblk_alloc, e1]
  have HB : Hid (Boxd wc g l.cells 23) := hB.below hb2
  have HR : Hid (Boxd wc g2 #[.int .i64 0, .int .i64 0, .int .i64 0, .int .i64 0, .int .i64 0, .int .i64 0, .bool false, .int .i64 0, .int .i64 0, .int .i64 0, .int .i64 0, .int .i64 0, .int .i64 0] 23) := hB2
  have HW : Hid (Below w.heap.size w wc) := below_to hb hb2
  have HG : Hid (w.heap.size ≤ g ∧ w.heap.size ≤ g2 ∧ ¬ g = g2 ∧ ¬ g2 = g) := show _ ∧ _ ∧ ¬ _ ∧ ¬ _ by omega
  clear hB hB2 hb hb2
  obtain ⟨q0, q1, q2⟩ := cents_le hg
  have KC := Lib.hid (fun W => cents_c l W (by have := hg.intr1; omega))
  have KA := Lib.hid (fun W => add3 l.prin (centsL l) W hg.prin0 hg.prin1 q0 (by omega))
  have HS := Lib.hid (ln_info l)
  have X1 : Hid (l.cells[1]? = some (.int .i64 l.prin)) := show _ = _ from rfl
  rw [if_neg hl, if_neg hl] at KA
  clear q0 q1 q2 hg hl
  generalize l.cells = C at *
  generalize centsL l = c at *
  generalize l.prin = p at *
  go_enter Try.func43, Try.ntmps43
  go_upto_region 1 with fail
  rw [← e2, ← e1, ← e5, ← e4]
  clear e1 e2 e3 e4 e5
  go_wp2_with (first
    | (refine o_load rfl 23 _ rfl _ rfl _ _ _ HB.out Try.underlying23 rfl HS.out ?_)
    | (go_at_call 59; refine (KC.out _).mono ?_; rintro e y ⟨rfl, hb⟩; replace HB := Lib.hid (HB.out.below hb); replace HR := Lib.hid (HR.out.below hb); replace HW := Lib.hid (below_to HW.out hb); clear hb; have c1 := (HB.out.cell (i := 1)).trans X1.out)
    | (go_at_call 55; refine (KA.out _).mono ?_; rintro e y ⟨rfl, hb⟩; replace HB := Lib.hid (HB.out.below hb); replace HR := Lib.hid (HR.out.below hb); replace HW := Lib.hid (below_to HW.out hb); clear hb)
    | (go_at_call 39; with_reducible refine (must_bad _ _ _ rfl).mono ?_; rintro e w' ⟨rfl, rfl⟩))
  exact ⟨rfl, rfl, HW.out⟩
end Go.Proofs.Ytkegmgjagcefhaa.Loan
