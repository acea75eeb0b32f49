/- What accrue.Add and Take answer, at every input. The program's own package loan: what it owes, capitalizing. The program's own package loan: told, which keeps a panic within. The program's own package loan: the closures of Capitalize, Fee, Draw, Owes, Close. The program's own package loan: the closures of Accrue and Turn. The program's own package loan: the closures of Turn, Owes, Close. The program's own package loan: the closure of Pay. The program's own package loan: the closure of Pay, where something is left. The program's own package loan: its calls. The program's own package loan: its other calls. -/
import Derived.Test.YtkddiaiohnbjpaaGreatDoorGLo
import Derived.Defers
import Derived.Recover
import Derived.WalkLawsBesides
import Derived.Shelf.Abstract
namespace Go.Proofs.YtkddiaiohnbjpaaGreatDoor.Accr
open Go.ChangeShapes Go.WideShapes Go.ChangeAt Go.RowKit Bits Law

theorem below_four (w : World) (a b c d : Obj) : Below w.heap.size w ((((w.alloc a).alloc b).alloc c).alloc d) := below_new (below_new (below_new (below_new (Below.refl _ _) _) _) _) _

end Go.Proofs.YtkddiaiohnbjpaaGreatDoor.Accr
namespace Go.Proofs.YtkddiaiohnbjpaaGreatDoor.Loan
open Go.ChangeShapes Go.WideShapes Go.ChangeAt Go.RowKit Accr Box Slice Money

theorem ints3 (w : World) (a b c : Int) : Ints (w.alloc (.cells #[.int .i64 a, .int .i64 b, .int .i64 c] 2)) (w.alloc (.cells #[.int .i64 a, .int .i64 b, .int .i64 c] 2)).heap.size .i64 (.slice (some ⟨w.heap.size, 0, none⟩) 3 3) [a, b, c] :=
  ⟨some ⟨w.heap.size, 0, none⟩, 3, rfl, by simp, fun h => (by cases h), fun _ => ⟨w.heap.size, 0, rfl, by simp, fun i hi => by
    match i, hi with
    | 0, _ | 1, _ | 2, _ => exact World.cell?_alloc_new ..⟩⟩
theorem psum3 {p f c : Int} (p0 : 0 ≤ p) (p1 : p ≤ 10000000000000) (f0 : 0 ≤ f) (f1 : f ≤ 10000000000000) (c0 : 0 ≤ c) (c1 : c ≤ 10000000000000) :
    psum [p, f, c] = if p + f + c ≤ 10000000000000 then some (p + f + c) else none := by
  have h1 : plusO 0 p = some p := by
    rw [plusO_some (by simp only [goodB_iff]; omega), Int.zero_add]
  show (((plusO 0 p).bind fun n => plusO n f).bind fun n => plusO n c) = _
  rw [h1]
  show ((plusO p f).bind fun n => plusO n c) = _
  by_cases h2 : p + f ≤ 10000000000000
  · rw [plusO_some (by simp only [goodB_iff]; omega)]
    show plusO (p + f) c = _
    by_cases h3 : p + f + c ≤ 10000000000000
    · rw [if_pos h3, plusO_some (by simp only [goodB_iff]; omega)]
    · rw [if_neg h3, plusO_none (by simp only [goodB_iff]; omega)]
  · rw [if_neg (by omega), plusO_none (by simp only [goodB_iff]; omega)]
    rfl
theorem add3 (a b : Int) (w : World) (a0 : 0 ≤ a) (a1 : a ≤ 10000000000000) (b0 : 0 ≤ b) (b1 : b ≤ 10000000000000) :
    Calls Tryz.prog 104 #[.int .i64 a, .int .i64 b] w fun e w' => e = .returned (.tuple #[.int .i64 (if a + b ≤ 10000000000000 then a + b else 0), .int .i64 (if a + b ≤ 10000000000000 then 0 else 14)]) ∧ Below w.heap.size w w' := by
  have h := add_tells a b w
  by_cases hq : a + b ≤ 10000000000000
  · rw [plusO_some (by simp only [goodB_iff]; omega)] at h
    rw [if_pos hq, if_pos hq]
    exact h
  · rw [plusO_none (by simp only [goodB_iff]; omega)] at h
    rw [if_neg hq, if_neg hq]
    exact h
theorem owes_ok (l : Ln) (w : World) (hg : Good l) (hl : sumL l ≤ 10000000000000) : Calls Tryz.prog 119 #[.agg l.cells] w fun e w' => e = .returned (.int .i64 (sumL l)) ∧ Below w.heap.size w w' := by
  obtain ⟨q0, q1, q2⟩ := cents_le hg
  have hs := psum3 hg.prin0 hg.prin1 hg.fees0 hg.fees1 q0 (by omega)
  unfold sumL at *
  rw [if_pos hl] at hs
  clear hl
  obtain ⟨g, wb, e1, e2, hB, hb⟩ := boxd_new w l.cells 23
  have HS := Lib.hid (ln_info l)
  have KC := Lib.hid (fun W => cents_c l W (by have := hg.intr1; omega))
  have KS : Hid (∀ W u, Ints W W.heap.size .i64 u [l.prin, l.fees, centsL l] → Calls Tryz.prog 113 #[u] W fun e w' => e = .returned (.tuple #[.int .i64 (valO (psum [l.prin, l.fees, centsL l])), .int .i64 (errO (psum [l.prin, l.fees, centsL l]))]) ∧ Below W.heap.size W w') := fun W u hu => sum_tells _ u W hu
  rw [hs] at KS
  have c1 : l.cells[1]? = some (.int .i64 l.prin) := rfl
  have c4 : l.cells[4]? = some (.int .i64 l.fees) := rfl
  have hS0 : wb.drew.cell? ⟨g, 1, none⟩ = some (.int .i64 l.prin) ∧ wb.drew.cell? ⟨g, 4, none⟩ = some (.int .i64 l.fees) ∧ Boxd wb.drew g l.cells 23 ∧ Below w.heap.size w wb.drew := ⟨hB.cell, hB.cell, hB, below_drawn hb⟩
  have HN : Hid (∀ W W', (W.cell? ⟨g, 1, none⟩ = some (.int .i64 l.prin) ∧ W.cell? ⟨g, 4, none⟩ = some (.int .i64 l.fees) ∧ Boxd W g l.cells 23 ∧ Below w.heap.size w W) → Below W.heap.size W W' → (W'.cell? ⟨g, 1, none⟩ = some (.int .i64 l.prin) ∧ W'.cell? ⟨g, 4, none⟩ = some (.int .i64 l.fees) ∧ Boxd W' g l.cells 23 ∧ Below w.heap.size w W')) :=
    fun W W' h k => ⟨(h.2.2.1.below k).cell, (h.2.2.1.below k).cell, h.2.2.1.below k, below_to h.2.2.2 k⟩
  clear hs q0 q1 q2 hg hB hb c1 c4
  generalize centsL l = c at *
  generalize l.prin = p at *
  generalize l.fees = f at *
  generalize l.cells = C at *
  go_enter Tryz.func119, Tryz.ntmps119
  go_upto_region 1 with fail
  rw [← e2, ← e1]
  clear e1 e2
  refine wp_region_held_drew (S := (fun w' => w'.cell? ⟨g, 1, none⟩ = some (.int .i64 p) ∧ w'.cell? ⟨g, 4, none⟩ = some (.int .i64 f) ∧ Boxd w' g C 23 ∧ Below w.heap.size w w')) (by kernel_rfl) hS0 (fun hHeld => ?_)
  refine ByHand.take_yes (v := ?_) 0 3 rfl rfl (by kernel_rfl) (by kernel_rfl) (by kernel_rfl) (fun _ _ _ h => h) (by rfl) ?_ (by assumption) ?_
  rotate_left
  · intro w' hSw
    (try dsimp only at hSw)
    go_simp
    all_goals with_reducible rfl
  (try simp only [Act.put, List.setIfInBounds_toArray, List.set_cons_zero, List.set_cons_succ])
  refine ByHand.take_yes (v := ?_) 1 4 rfl rfl (by kernel_rfl) (by kernel_rfl) (by kernel_rfl) (fun _ _ _ h => h) (by rfl) ?_ (by assumption) ?_
  rotate_left
  · intro w' hSw
    (try dsimp only at hSw)
    go_simp
    all_goals with_reducible rfl
  (try simp only [Act.put, List.setIfInBounds_toArray, List.set_cons_zero, List.set_cons_succ])
  refine ByHand.take_yes (v := ?_) 2 5 rfl rfl (by kernel_rfl) (by kernel_rfl) (by kernel_rfl) (fun _ _ _ h => h) (by rfl) ?_ (by assumption) ?_
  rotate_left
  · intro w' hSw
    (try dsimp only at hSw)
    go_simp
    all_goals with_reducible rfl
  (try simp only [Act.put, List.setIfInBounds_toArray, List.set_cons_zero, List.set_cons_succ])
  refine ByHand.take_yes (v := ?_) 3 6 rfl rfl (by kernel_rfl) (by kernel_rfl) (by kernel_rfl) (fun _ _ _ h => h) (by rfl) ?_ (by assumption) ?_
  rotate_left
  · intro w' hSw
    (try dsimp only at hSw)
    go_simp
    all_goals with_reducible rfl
  (try simp only [Act.put, List.setIfInBounds_toArray, List.set_cons_zero, List.set_cons_succ])
  refine take_row 4 7 rfl rfl (by kernel_rfl) (by kernel_rfl) (by kernel_rfl) 23 _ rfl _ rfl _ _ Tryz.underlying23 rfl HS.out (fun _ h => h.2.2.1) (fun _ _ _ h => h) (by rfl) (by assumption) ?_
  (try simp only [Act.put, List.setIfInBounds_toArray, List.set_cons_zero, List.set_cons_succ])
  refine wpAnyH_ready (rs := [5]) (by kernel_rfl) (by simp) (AllReadyH.cons rfl (fun K hK => ?_) AllReadyH.nil)
  go_simp
  refine (KC.out _).mono ?_
  rintro e y ⟨rfl, hb⟩
  go_wp2_with fail
  have hS1 := HN.out _ _ hS0 hb
  clear hb
  refine hK.out _ _ ?_ (fun hHeld => ?_)
  · exact hS1
  clear hK K
  (try simp only [Act.put, List.setIfInBounds_toArray, List.set_cons_zero, List.set_cons_succ])
  refine wpAnyH_ready (rs := [6]) (by kernel_rfl) (by simp) (AllReadyH.cons rfl (fun K hK => ?_) AllReadyH.nil)
  go_simp
  refine hK.out _ _ ?_ (fun hHeld => ?_)
  · exact HN.out _ _ hS1 (below_one _ _)
  clear hK K
  (try simp only [Act.put, List.setIfInBounds_toArray, List.set_cons_zero, List.set_cons_succ])
  refine wpAnyH_ready (rs := [7]) (by kernel_rfl) (by simp) (AllReadyH.cons rfl (fun K hK => ?_) AllReadyH.nil)
  go_simp
  refine (KS.out _ _ (ints3 _ _ _ _)).mono ?_
  rintro e y2 ⟨rfl, hb⟩
  go_wp2_with fail
  have hS2 := HN.out _ _ (HN.out _ _ hS1 (below_one _ _)) hb
  clear hb
  refine hK.out _ _ ?_ (fun hHeld => ?_)
  · exact hS2
  clear hK K
  (try simp only [Act.put, List.setIfInBounds_toArray, List.set_cons_zero, List.set_cons_succ])
  refine ByHand.take_yes (v := ?_) 8 11 rfl rfl (by kernel_rfl) (by kernel_rfl) (by kernel_rfl) (fun _ _ _ h => h) (by rfl) ?_ (by assumption) ?_
  rotate_left
  · intro w' hSw
    (try dsimp only at hSw)
    go_simp
    all_goals with_reducible rfl
  (try simp only [Act.put, List.setIfInBounds_toArray, List.set_cons_zero, List.set_cons_succ])
  refine ByHand.take_yes (v := ?_) 9 12 rfl rfl (by kernel_rfl) (by kernel_rfl) (by kernel_rfl) (fun _ _ _ h => h) (by rfl) ?_ (by assumption) ?_
  rotate_left
  · intro w' hSw
    (try dsimp only at hSw)
    go_simp
    all_goals with_reducible rfl
  (try simp only [Act.put, List.setIfInBounds_toArray, List.set_cons_zero, List.set_cons_succ])
  refine wpAnyH_ready (rs := [10]) (by kernel_rfl) (by simp) (AllReadyH.cons rfl (fun K hK => ?_) AllReadyH.nil)
  go_simp
  refine (must_ok _ _).mono ?_
  rintro e y3 ⟨rfl, rfl⟩
  go_wp2_with fail
  refine hK.out _ _ ?_ (fun hHeld => ?_)
  · exact hS2
  clear hK K
  (try simp only [Act.put, List.setIfInBounds_toArray, List.set_cons_zero, List.set_cons_succ])
  refine ByHand.take_yes (v := ?_) 11 2 rfl rfl (by kernel_rfl) (by kernel_rfl) (by kernel_rfl) (fun _ _ _ h => h) (by rfl) ?_ (by assumption) ?_
  rotate_left
  · intro w' hSw
    (try dsimp only at hSw)
    go_simp
    all_goals with_reducible rfl
  (try simp only [Act.put, List.setIfInBounds_toArray, List.set_cons_zero, List.set_cons_succ])
  refine wpAnyH_done (by kernel_rfl) ?_ _

  go_wp2_with fail
  go_ret
  exact ⟨rfl, hS2.2.2.2⟩
theorem owes_bad (l : Ln) (w : World) (hg : Good l) (hl : ¬ sumL l ≤ 10000000000000) : Calls Tryz.prog 119 #[.agg l.cells] w fun e w' => e = .panicked (errL 14) ∧ Below w.heap.size w w' := by
  obtain ⟨q0, q1, q2⟩ := cents_le hg
  have hs := psum3 hg.prin0 hg.prin1 hg.fees0 hg.fees1 q0 (by omega)
  unfold sumL at hl
  rw [if_neg hl] at hs
  clear hl
  obtain ⟨g, wb, e1, e2, hB, hb⟩ := boxd_new w l.cells 23
  have HS := Lib.hid (ln_info l)
  have KC := Lib.hid (fun W => cents_c l W (by have := hg.intr1; omega))
  have KS : Hid (∀ W u, Ints W W.heap.size .i64 u [l.prin, l.fees, centsL l] → Calls Tryz.prog 113 #[u] W fun e w' => e = .returned (.tuple #[.int .i64 (valO (psum [l.prin, l.fees, centsL l])), .int .i64 (errO (psum [l.prin, l.fees, centsL l]))]) ∧ Below W.heap.size W w') := fun W u hu => sum_tells _ u W hu
  rw [hs] at KS
  have c1 : l.cells[1]? = some (.int .i64 l.prin) := rfl
  have c4 : l.cells[4]? = some (.int .i64 l.fees) := rfl
  have hS0 : wb.drew.cell? ⟨g, 1, none⟩ = some (.int .i64 l.prin) ∧ wb.drew.cell? ⟨g, 4, none⟩ = some (.int .i64 l.fees) ∧ Boxd wb.drew g l.cells 23 ∧ Below w.heap.size w wb.drew := ⟨hB.cell, hB.cell, hB, below_drawn hb⟩
  have HN : Hid (∀ W W', (W.cell? ⟨g, 1, none⟩ = some (.int .i64 l.prin) ∧ W.cell? ⟨g, 4, none⟩ = some (.int .i64 l.fees) ∧ Boxd W g l.cells 23 ∧ Below w.heap.size w W) → Below W.heap.size W W' → (W'.cell? ⟨g, 1, none⟩ = some (.int .i64 l.prin) ∧ W'.cell? ⟨g, 4, none⟩ = some (.int .i64 l.fees) ∧ Boxd W' g l.cells 23 ∧ Below w.heap.size w W')) :=
    fun W W' h k => ⟨(h.2.2.1.below k).cell, (h.2.2.1.below k).cell, h.2.2.1.below k, below_to h.2.2.2 k⟩
  clear hs q0 q1 q2 hg hB hb c1 c4
  generalize centsL l = c at *
  generalize l.prin = p at *
  generalize l.fees = f at *
  generalize l.cells = C at *
  go_enter Tryz.func119, Tryz.ntmps119
  go_upto_region 1 with fail
  rw [← e2, ← e1]
  clear e1 e2
  refine wp_region_held_drew (S := (fun w' => w'.cell? ⟨g, 1, none⟩ = some (.int .i64 p) ∧ w'.cell? ⟨g, 4, none⟩ = some (.int .i64 f) ∧ Boxd w' g C 23 ∧ Below w.heap.size w w')) (by kernel_rfl) hS0 (fun hHeld => ?_)
  refine ByHand.take_yes (v := ?_) 0 3 rfl rfl (by kernel_rfl) (by kernel_rfl) (by kernel_rfl) (fun _ _ _ h => h) (by rfl) ?_ (by assumption) ?_
  rotate_left
  · intro w' hSw
    (try dsimp only at hSw)
    go_simp
    all_goals with_reducible rfl
  (try simp only [Act.put, List.setIfInBounds_toArray, List.set_cons_zero, List.set_cons_succ])
  refine ByHand.take_yes (v := ?_) 1 4 rfl rfl (by kernel_rfl) (by kernel_rfl) (by kernel_rfl) (fun _ _ _ h => h) (by rfl) ?_ (by assumption) ?_
  rotate_left
  · intro w' hSw
    (try dsimp only at hSw)
    go_simp
    all_goals with_reducible rfl
  (try simp only [Act.put, List.setIfInBounds_toArray, List.set_cons_zero, List.set_cons_succ])
  refine ByHand.take_yes (v := ?_) 2 5 rfl rfl (by kernel_rfl) (by kernel_rfl) (by kernel_rfl) (fun _ _ _ h => h) (by rfl) ?_ (by assumption) ?_
  rotate_left
  · intro w' hSw
    (try dsimp only at hSw)
    go_simp
    all_goals with_reducible rfl
  (try simp only [Act.put, List.setIfInBounds_toArray, List.set_cons_zero, List.set_cons_succ])
  refine ByHand.take_yes (v := ?_) 3 6 rfl rfl (by kernel_rfl) (by kernel_rfl) (by kernel_rfl) (fun _ _ _ h => h) (by rfl) ?_ (by assumption) ?_
  rotate_left
  · intro w' hSw
    (try dsimp only at hSw)
    go_simp
    all_goals with_reducible rfl
  (try simp only [Act.put, List.setIfInBounds_toArray, List.set_cons_zero, List.set_cons_succ])
  refine take_row 4 7 rfl rfl (by kernel_rfl) (by kernel_rfl) (by kernel_rfl) 23 _ rfl _ rfl _ _ Tryz.underlying23 rfl HS.out (fun _ h => h.2.2.1) (fun _ _ _ h => h) (by rfl) (by assumption) ?_
  (try simp only [Act.put, List.setIfInBounds_toArray, List.set_cons_zero, List.set_cons_succ])
  refine wpAnyH_ready (rs := [5]) (by kernel_rfl) (by simp) (AllReadyH.cons rfl (fun K hK => ?_) AllReadyH.nil)
  go_simp
  refine (KC.out _).mono ?_
  rintro e y ⟨rfl, hb⟩
  go_wp2_with fail
  have hS1 := HN.out _ _ hS0 hb
  clear hb
  refine hK.out _ _ ?_ (fun hHeld => ?_)
  · exact hS1
  clear hK K
  (try simp only [Act.put, List.setIfInBounds_toArray, List.set_cons_zero, List.set_cons_succ])
  refine wpAnyH_ready (rs := [6]) (by kernel_rfl) (by simp) (AllReadyH.cons rfl (fun K hK => ?_) AllReadyH.nil)
  go_simp
  refine hK.out _ _ ?_ (fun hHeld => ?_)
  · exact HN.out _ _ hS1 (below_one _ _)
  clear hK K
  (try simp only [Act.put, List.setIfInBounds_toArray, List.set_cons_zero, List.set_cons_succ])
  refine wpAnyH_ready (rs := [7]) (by kernel_rfl) (by simp) (AllReadyH.cons rfl (fun K hK => ?_) AllReadyH.nil)
  go_simp
  refine (KS.out _ _ (ints3 _ _ _ _)).mono ?_
  rintro e y2 ⟨rfl, hb⟩
  go_wp2_with fail
  have hS2 := HN.out _ _ (HN.out _ _ hS1 (below_one _ _)) hb
  clear hb
  refine hK.out _ _ ?_ (fun hHeld => ?_)
  · exact hS2
  clear hK K
  (try simp only [Act.put, List.setIfInBounds_toArray, List.set_cons_zero, List.set_cons_succ])
  refine ByHand.take_yes (v := ?_) 8 11 rfl rfl (by kernel_rfl) (by kernel_rfl) (by kernel_rfl) (fun _ _ _ h => h) (by rfl) ?_ (by assumption) ?_
  rotate_left
  · intro w' hSw
    (try dsimp only at hSw)
    go_simp
    all_goals with_reducible rfl
  (try simp only [Act.put, List.setIfInBounds_toArray, List.set_cons_zero, List.set_cons_succ])
  refine ByHand.take_yes (v := ?_) 9 12 rfl rfl (by kernel_rfl) (by kernel_rfl) (by kernel_rfl) (fun _ _ _ h => h) (by rfl) ?_ (by assumption) ?_
  rotate_left
  · intro w' hSw
    (try dsimp only at hSw)
    go_simp
    all_goals with_reducible rfl
  (try simp only [Act.put, List.setIfInBounds_toArray, List.set_cons_zero, List.set_cons_succ])
  refine wpAnyH_ready (rs := [10]) (by kernel_rfl) (by simp) (AllReadyH.cons rfl (fun K hK => ?_) AllReadyH.nil)
  go_simp
  refine (must_bad _ _ _ rfl).mono ?_
  rintro e y3 ⟨rfl, rfl⟩
  go_wp2_with fail
  exact ⟨rfl, rfl, hS2.2.2.2⟩
end Go.Proofs.YtkddiaiohnbjpaaGreatDoor.Loan
namespace Go.Proofs.YtkddiaiohnbjpaaGreatDoor.Loan
open Go.ChangeShapes Go.WideShapes Go.ChangeAt Go.RowKit Accr Box

theorem assert_none (w : World) : (Instr.typeAssert .nilIface 20 24 true).run Tryz.prog w = .ok (.tuple #[.int .i64 0, .bool false]) w := by kernel_rfl
theorem assert_some (e : Int) (w : World) : (Instr.typeAssert (.iface 24 (.int .i64 e)) 20 24 true).run Tryz.prog w = .ok (.tuple #[.int .i64 e, .bool true]) w := by kernel_rfl
theorem idle_i (q : Addr) (w : World) :
    CallsD Tryz.prog 143 #[.pointer (some q)] .returning w fun e u' w' => e = .returned (.tuple #[]) ∧ u' = .returning ∧ w' = w := by
  refine callsD_of_wpS Tryz.func143 rfl fun c₀ cs hu => ?_
  have ha := assert_none w
  apply wpS_seq
  apply wpS_region
  simp [wpOpsS, go_sem, recoverD, hu, Tryz.ntmps143, Exit.thenS, ha]
  apply wpS_seq
  apply wpS_region
  simp [wpOpsS, go_sem, Array.replicate]
  refine wpS_cond (t := false) (by simp [Act.eval]) ?_
  simp only [Bool.false_eq_true, if_false]
  refine wpS_of_wp (wp_skip ?_)
  cases c₀
  simp_all [bodyPostS, results, Tryz.results143]
theorem caught_i (q : Addr) (x y : Int) (older : List PanicEntry) (w : World) (hc : w.cell? q = some (.int .i64 y)) (hz : w.frozen? q = false) :
    CallsD Tryz.prog 143 #[.pointer (some q)] (.panicking ({ v := .iface 24 (.int .i64 x), recovered := false } :: older)) w fun e u' w' =>
      e = .returned (.tuple #[]) ∧ u' = .panicking ({ v := .iface 24 (.int .i64 x), recovered := true } :: older) ∧ w' = w.setCell q (.int .i64 x) := by
  refine callsD_of_wpS Tryz.func143 rfl fun c₀ cs hu => ?_
  have ha := assert_some x w
  apply wpS_seq
  apply wpS_region
  simp [wpOpsS, go_sem, recoverD, hu, Tryz.ntmps143, Exit.thenS, ha]
  apply wpS_seq
  apply wpS_region
  simp [wpOpsS, go_sem, Array.replicate]
  refine wpS_cond (t := true) (by simp [Act.eval]) ?_
  simp only [if_true]
  apply wpS_region
  simp [wpOpsS, go_sem, hc, hz, bodyPostS, results, Tryz.results143]
theorem toldI_ok (Fn : FuncId) (cap : Array Value) (n : Int) (w : World) (hF : ∀ (args : Array Value) (w : World), (callFunc Fn args).run Tryz.prog w = .ok (.enter Fn args) w) (h : Calls Tryz.prog Fn cap (w.alloc (.cells #[.int .i64 0] 24)) fun e w' => e = .returned (.int .i64 n) ∧ Below (w.alloc (.cells #[.int .i64 0] 24)).heap.size (w.alloc (.cells #[.int .i64 0] 24)) w') :
    Calls Tryz.prog 116 #[.func (.func Fn) #[] cap] w fun e w' => e = .returned (.tuple #[.int .i64 n, .int .i64 0]) ∧ Below w.heap.size w w' := by
  have hmf := make_fn
  obtain ⟨g, wb, e1, e2, hB, hb⟩ := boxd_new w #[.int .i64 0] 24
  rw [← e2] at h
  have H := Lib.hid h
  have HB := Lib.hid hB
  have HW := Lib.hid hb
  have HG : Hid (w.heap.size ≤ g) := show _ ≤ _ from Nat.le_of_eq e1.symm
  clear h hB hb
  go_enter_defers Tryz.func116, Tryz.ntmps116
  go_upto_region 1 with fail
  rw [← e2, ← e1]
  clear e1 e2
  go_wp2_with fail
  refine H.out.mono ?_
  rintro e w' ⟨rfl, hb⟩
  replace HW := Lib.hid (below_to HW.out hb)
  replace HB := Lib.hid (HB.out.below hb)
  have c0 := (HB.out.cell (i := 0)).trans (show (#[.int .i64 0] : Array Value)[0]? = some (.int .i64 0) from rfl)
  have f0 := boxd_free (i := 0) HB.out
  clear hb
  go_wp2_with fail
  refine leaves_cons (f := 143) (args := #[.pointer (some ⟨g, 0, none⟩)]) (by simp) (by simp [go_sem]) ?_
  refine (idle_i ⟨g, 0, none⟩ _).mono ?_
  rintro e u' w'' ⟨rfl, rfl, rfl⟩
  simp [Leaves, settle, results, Tryz.results116, go_sem, c0]
  exact below_one_of HW.out (one_set _ _ _ _) HG.out HW.out.size
theorem toldI_bad (Fn : FuncId) (cap : Array Value) (x : Int) (w : World) (hF : ∀ (args : Array Value) (w : World), (callFunc Fn args).run Tryz.prog w = .ok (.enter Fn args) w) (h : Calls Tryz.prog Fn cap (w.alloc (.cells #[.int .i64 0] 24)) fun e w' => e = .panicked (errL x) ∧ Below (w.alloc (.cells #[.int .i64 0] 24)).heap.size (w.alloc (.cells #[.int .i64 0] 24)) w') :
    Calls Tryz.prog 116 #[.func (.func Fn) #[] cap] w fun e w' => e = .returned (.tuple #[.int .i64 0, .int .i64 x]) ∧ Below w.heap.size w w' := by
  have hmf := make_fn
  obtain ⟨g, wb, e1, e2, hB, hb⟩ := boxd_new w #[.int .i64 0] 24
  rw [← e2] at h
  have H := Lib.hid h
  have HB := Lib.hid hB
  have HW := Lib.hid hb
  have HG : Hid (w.heap.size ≤ g) := show _ ≤ _ from Nat.le_of_eq e1.symm
  clear h hB hb
  go_enter_defers Tryz.func116, Tryz.ntmps116
  go_upto_region 1 with fail
  rw [← e2, ← e1]
  clear e1 e2
  go_wp2_with fail
  refine H.out.mono ?_
  rintro e w' ⟨rfl, hb⟩
  replace HW := Lib.hid (below_to HW.out hb)
  replace HB := Lib.hid (HB.out.below hb)
  have c0 := (HB.out.cell (i := 0)).trans (show (#[.int .i64 0] : Array Value)[0]? = some (.int .i64 0) from rfl)
  have f0 := boxd_free (i := 0) HB.out
  clear hb
  go_wp2_with fail
  refine leaves_cons (f := 143) (args := #[.pointer (some ⟨g, 0, none⟩)]) (by simp) (by simp [go_sem]) ?_
  refine (caught_i ⟨g, 0, none⟩ x 0 [] _ c0 f0).mono ?_
  rintro e u' w'' ⟨rfl, rfl, rfl⟩
  simp [Leaves, settle, results, Tryz.results116, go_sem, c0]
  exact below_one_of HW.out (one_set _ _ _ _) HG.out HW.out.size
end Go.Proofs.YtkddiaiohnbjpaaGreatDoor.Loan
namespace Go.Proofs.YtkddiaiohnbjpaaGreatDoor.Loan
open Go.ChangeShapes Go.WideShapes Go.ChangeAt Go.RowKit Accr Box Slice Money

/-- What stands while a closure runs: the loan's box g, the box g2 of what it tells, the boxes of what it holds beside. -/
structure St (w : World) (g g2 : Nat) (C R : Array Value) (ks : List (Nat × Value × TypeId)) (W : World) : Prop where
  box : Boxd W g C 23
  res : Boxd W g2 R 23
  one : One g w W
  ne : ¬ g2 = g
  low : w.heap.size ≤ g2
  keep : ∀ x ∈ ks, Boxd W x.1 #[x.2.1] x.2.2 ∧ ¬ x.1 = g ∧ x.1 < w.heap.size
section
variable {w W W' : World} {g g2 : Nat} {C D R : Array Value} {ks : List (Nat × Value × TypeId)}
theorem St.below (h : St w g g2 C R ks W) (hb : Below W.heap.size W W') : St w g g2 C R ks W' :=
  ⟨h.box.below hb, h.res.below hb, h.one.then hb, h.ne, h.low, fun x hx => ⟨(h.keep x hx).1.below hb, (h.keep x hx).2⟩⟩
theorem St.drawn (h : St w g g2 C R ks W) : St w g g2 C R ks W.drew := ⟨h.box, h.res, h.one.drawn, h.ne, h.low, h.keep⟩
theorem St.put (h : St w g g2 C R ks W) (hr : Boxd W' g D 23) (ho : One g W W') : St w g g2 D R ks W' :=
  ⟨hr, h.res.one ho h.ne, h.one.trans ho, h.ne, h.low, fun x hx => ⟨(h.keep x hx).1.one ho (h.keep x hx).2.1, (h.keep x hx).2⟩⟩
theorem St.fill (h : St w g g2 C R ks W) (hr : Boxd W' g2 D 23) (ho : One g2 W W') : St w g g2 C D ks W' :=
  ⟨h.box.one ho (fun e => h.ne e.symm), hr, one_far h.one ho h.low, h.ne, h.low, fun x hx => ⟨(h.keep x hx).1.one ho (by have h1 := (h.keep x hx).2.2; have h2 := h.low; omega), (h.keep x hx).2⟩⟩
theorem St.cell (h : St w g g2 C R ks W) {i : Nat} {v : Value} (hc : C[i]? = some v) : W.cell? ⟨g, i, none⟩ = some v := h.box.cell.trans hc
theorem St.arg (h : St w g g2 C R ks W) {k : Nat} {v : Value} {T : TypeId} (hx : (k, v, T) ∈ ks) : W.cell? ⟨k, 0, none⟩ = some v := (h.keep _ hx).1.cell.trans rfl
theorem st_new (hB : Boxd w g C 23) (hk : ∀ x ∈ ks, Boxd w x.1 #[x.2.1] x.2.2 ∧ ¬ x.1 = g) : ∃ g2 wb, g2 = w.heap.size ∧ wb = w.alloc (.cells #[.int .i64 0, .int .i64 0, .int .i64 0, .int .i64 0, .int .i64 0, .int .i64 0, .bool false, .int .i64 0, .int .i64 0, .int .i64 0, .int .i64 0, .int .i64 0, .int .i64 0] 23) ∧ St w g g2 C #[.int .i64 0, .int .i64 0, .int .i64 0, .int .i64 0, .int .i64 0, .int .i64 0, .bool false, .int .i64 0, .int .i64 0, .int .i64 0, .int .i64 0, .int .i64 0, .int .i64 0] ks wb := by
  obtain ⟨g2, wb, e1, e2, h1, h2⟩ := boxd_new w #[.int .i64 0, .int .i64 0, .int .i64 0, .int .i64 0, .int .i64 0, .int .i64 0, .bool false, .int .i64 0, .int .i64 0, .int .i64 0, .int .i64 0, .int .i64 0, .int .i64 0] 23
  exact ⟨g2, wb, e1, e2, hB.below h2, h1, One.of h2, by have := hB.lt; omega, by omega, fun x hx => ⟨(hk x hx).1.below h2, (hk x hx).2, (hk x hx).1.lt⟩⟩
end
end Go.Proofs.YtkddiaiohnbjpaaGreatDoor.Loan
namespace Go.Proofs.YtkddiaiohnbjpaaGreatDoor.Loan
open Go.ChangeShapes Go.WideShapes Go.ChangeAt Go.RowKit Accr Box Slice Money

end Go.Proofs.YtkddiaiohnbjpaaGreatDoor.Loan
namespace Go.Proofs.YtkddiaiohnbjpaaGreatDoor.Loan
open Go.ChangeShapes Go.WideShapes Go.ChangeAt Go.RowKit Accr Box Slice Money

theorem owesF_arg (l : Ln) (g : Nat) (w : World) (hB : Boxd w g l.cells 23) (hg : goodL l = false) : Calls Tryz.prog 117 #[.pointer (some ⟨g, 0, none⟩)] w fun e w' => e = .panicked (errL 1) ∧ Below w.heap.size w w' := by
  have HB := Lib.hid hB
  have HW := Lib.hid (Below.refl w.heap.size w)
  clear hB
  have HS := Lib.hid (ln_info l)
  have KG := Lib.hid (fun W => good_c l W)
  rw [hg] at KG
  clear hg
  generalize l.cells = C at *
  go_enter Tryz.func117, Tryz.ntmps117
  go_wp2_with (first
    | (refine o_load rfl 23 _ rfl _ rfl _ _ _ HB.out Tryz.underlying23 rfl HS.out ?_)
    | (go_at_call 24; with_reducible refine (KG.out _).mono ?_; rintro e y ⟨rfl, hb⟩; replace HB := Lib.hid (HB.out.below hb); replace HW := Lib.hid (below_to HW.out hb); clear hb)
    | (go_at_call 118; with_reducible refine (need_bad _ _).mono ?_; rintro e w' ⟨rfl, rfl⟩))
  exact ⟨rfl, rfl, HW.out⟩
theorem owesF_over (l : Ln) (g : Nat) (w : World) (hB : Boxd w g l.cells 23) (G : Good l) (hl : ¬ sumL l ≤ 10000000000000) : Calls Tryz.prog 117 #[.pointer (some ⟨g, 0, none⟩)] w fun e w' => e = .panicked (errL 14) ∧ Below w.heap.size w w' := by
  have HB := Lib.hid hB
  have HW := Lib.hid (Below.refl w.heap.size w)
  clear hB
  have HS := Lib.hid (ln_info l)
  have KG := Lib.hid (fun W => good_c l W)
  rw [goodL_iff.2 G] at KG
  have KO := Lib.hid (fun W => owes_bad l W G hl)
  clear G hl
  generalize l.cells = C at *
  go_enter Tryz.func117, Tryz.ntmps117
  go_wp2_with (first
    | (refine o_load rfl 23 _ rfl _ rfl _ _ _ HB.out Tryz.underlying23 rfl HS.out ?_)
    | (go_at_call 24; with_reducible refine (KG.out _).mono ?_; rintro e y ⟨rfl, hb⟩; replace HB := Lib.hid (HB.out.below hb); replace HW := Lib.hid (below_to HW.out hb); clear hb)
    | (go_at_call 118; with_reducible refine (need_ok _ _).mono ?_; rintro e w' ⟨rfl, rfl⟩)
    | (go_at_call 119; with_reducible refine (KO.out _).mono ?_; rintro e y ⟨rfl, hb⟩; replace HB := Lib.hid (HB.out.below hb); replace HW := Lib.hid (below_to HW.out hb); clear hb))
  exact ⟨rfl, rfl, HW.out⟩
theorem owesF_ok (l : Ln) (g : Nat) (w : World) (hB : Boxd w g l.cells 23) (G : Good l) (hl : sumL l ≤ 10000000000000) : Calls Tryz.prog 117 #[.pointer (some ⟨g, 0, none⟩)] w fun e w' => e = .returned (.int .i64 (sumL l)) ∧ Below w.heap.size w w' := by
  have HB := Lib.hid hB
  have HW := Lib.hid (Below.refl w.heap.size w)
  clear hB
  have HS := Lib.hid (ln_info l)
  have KG := Lib.hid (fun W => good_c l W)
  rw [goodL_iff.2 G] at KG
  have KO := Lib.hid (fun W => owes_ok l W G hl)
  clear G hl
  generalize sumL l = z at *
  generalize l.cells = C at *
  go_enter Tryz.func117, Tryz.ntmps117
  go_wp2_with (first
    | (refine o_load rfl 23 _ rfl _ rfl _ _ _ HB.out Tryz.underlying23 rfl HS.out ?_)
    | (go_at_call 24; with_reducible refine (KG.out _).mono ?_; rintro e y ⟨rfl, hb⟩; replace HB := Lib.hid (HB.out.below hb); replace HW := Lib.hid (below_to HW.out hb); clear hb)
    | (go_at_call 118; with_reducible refine (need_ok _ _).mono ?_; rintro e w' ⟨rfl, rfl⟩)
    | (go_at_call 119; with_reducible refine (KO.out _).mono ?_; rintro e y ⟨rfl, hb⟩; replace HB := Lib.hid (HB.out.below hb); replace HW := Lib.hid (below_to HW.out hb); clear hb))
  go_ret
  exact ⟨rfl, HW.out⟩
end Go.Proofs.YtkddiaiohnbjpaaGreatDoor.Loan
namespace Go.Proofs.YtkddiaiohnbjpaaGreatDoor.Loan
open Go.ChangeShapes Go.WideShapes Go.ChangeAt Go.RowKit Accr Box Slice Money

end Go.Proofs.YtkddiaiohnbjpaaGreatDoor.Loan
namespace Go.Proofs.YtkddiaiohnbjpaaGreatDoor.Loan
open Go.ChangeShapes Go.WideShapes Go.ChangeAt Go.RowKit Accr Box Slice Money

end Go.Proofs.YtkddiaiohnbjpaaGreatDoor.Loan
namespace Go.Proofs.YtkddiaiohnbjpaaGreatDoor.Loan
open Go.ChangeShapes Go.WideShapes Go.ChangeAt Go.RowKit Accr Box Slice Money

theorem two_below (w : World) : Below w.heap.size w ((w.alloc (.cells #[.int .i64 0, .int .i64 0, .int .i64 0, .int .i64 0, .int .i64 0, .int .i64 0, .bool false, .int .i64 0, .int .i64 0, .int .i64 0, .int .i64 0, .int .i64 0, .int .i64 0] 23)).alloc (.cells #[.int .i64 0] 24)) := below_to (below_one _ _) (below_one _ _)
end Go.Proofs.YtkddiaiohnbjpaaGreatDoor.Loan
namespace Go.Proofs.YtkddiaiohnbjpaaGreatDoor.Loan
open Go.ChangeShapes Go.WideShapes Go.ChangeAt Go.RowKit Accr Box Slice Money

theorem one_below (w : World) : Below w.heap.size w (w.alloc (.cells #[.int .i64 0] 24)) := below_one _ _
theorem told_owes (l : Ln) (g : Nat) (w : World) (hB : Boxd w g l.cells 23) :
    Calls Tryz.prog 116 #[.func (.func 117) #[] #[.pointer (some ⟨g, 0, none⟩)]] w fun e w' => e = .returned (.tuple #[.int .i64 (owesR l).1, .int .i64 (owesR l).2]) ∧ Below w.heap.size w w' := by
  have B2 := hB.below (one_below w)
  have en : ∀ (args : Array Value) (w : World), (callFunc 117 args).run Tryz.prog w = .ok (.enter 117 args) w := enters_of Tryz.func117 (by kernel_rfl) rfl
  cases hg : goodL l with
  | false =>
    rw [show owesR l = (0, 1) by unfold owesR; simp only [hg]; rfl]
    exact toldI_bad _ _ 1 w en (owesF_arg l g _ B2 hg)
  | true =>
    have G := goodL_iff.1 hg
    by_cases hl : sumL l ≤ 10000000000000
    · rw [show owesR l = (sumL l, 0) by unfold owesR; simp only [hg, if_pos hl]; rfl]
      exact toldI_ok _ _ _ w en (owesF_ok l g _ B2 G hl)
    · rw [show owesR l = (0, 14) by unfold owesR; simp only [hg, if_neg hl]; rfl]
      exact toldI_bad _ _ 14 w en (owesF_over l g _ B2 G hl)
theorem c_owes (l : Ln) (w : World) : Calls Tryz.prog 82 #[.agg l.cells] w fun e w' => e = .returned (.tuple #[.int .i64 (owesR l).1, .int .i64 (owesR l).2]) ∧ Below w.heap.size w w' := by
  obtain ⟨g, w0, e0, f0, hB, hb⟩ := boxd_new w l.cells 23
  have hW := hb
  clear hb
  have HB := Lib.hid hB
  have HW := Lib.hid hW
  have KT := Lib.hid (fun W hB => told_owes l g W hB)
  have hmf := make_fn
  clear hB hW
  generalize (owesR l).1 = n at *
  generalize (owesR l).2 = x at *
  generalize l.cells = C at *
  go_enter Tryz.func82, Tryz.ntmps82
  go_upto_region 1 with fail
  rw [← f0, ← e0]
  clear e0 f0
  go_wp2_with (first
    | (go_at_call 116; refine (KT.out _ HB.out).mono ?_; rintro e y ⟨rfl, hb⟩; replace HW := Lib.hid (below_to HW.out hb); clear hb))
  go_ret2
  exact ⟨rfl, HW.out⟩
theorem close_two (l : Ln) (how : Int) : ((closeR l how).2.2 = 0 ∧ (closeR l how).1 = shutL l how) ∨ ((closeR l how).2.2 ≠ 0 ∧ (closeR l how).1 = ln0 ∧ (closeR l how).2.1 = 0) := by
  unfold closeR
  split
  · split
    · split
      · exact Or.inl ⟨rfl, rfl⟩
      · exact Or.inr ⟨by decide, rfl, rfl⟩
    · exact Or.inr ⟨by decide, rfl, rfl⟩
  · exact Or.inr ⟨by decide, rfl, rfl⟩
end Go.Proofs.YtkddiaiohnbjpaaGreatDoor.Loan
