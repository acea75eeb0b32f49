/- The document's own package of layer 14: Fee, Draw. -/
import Derived.Test.YtkegmgjagcefhaaRefLoan2
namespace Go.Proofs.Ytkegmgjagcefhaa.RLoan
open Go.ChangeShapes Go.WideShapes Go.ChangeAt Go.RowKit Accr Box Loan Money

theorem amount_tests (a : Int) : amountB a = (!decide (a < 1) && !decide (1000000000 < a)) := by
  unfold amountB
  rw [Bool.eq_iff_iff, wB_iff]
  simp only [Bool.and_eq_true, Bool.not_eq_true', decide_eq_false_iff_not]
  omega
set_option maxRecDepth 20000 in
theorem fee_arg (l : Ln) (a : Int) (w : World) (hg : (goodL l && amountB a) = false) : Calls Try.prog 56 #[.agg l.cells, .int .i64 a, .bool true] w fun e w' => e = .returned (.tuple #[.agg (ln0).cells, .int .i64 1]) ∧ Below w.heap.size w w' := by
  obtain ⟨g, wb, e1, e2, hB, hb⟩ := boxd_new w l.cells 23
  obtain ⟨g2, wc, e3, e4, hB2, hb2⟩ := boxd_new wb #[.int .i64 0, .int .i64 0, .int .i64 0, .int .i64 0, .int .i64 0, .int .i64 0, .bool false, .int .i64 0, .int .i64 0, .int .i64 0, .int .i64 0, .int .i64 0, .int .i64 0] 23
  have e5 : g2 = g + 1 := by rw [e3, e2, Deep.nblk_alloc, e1]
  have HB : Hid (Boxd wc g l.cells 23) := hB.below hb2
  have HR : Hid (Boxd wc g2 #[.int .i64 0, .int .i64 0, .int .i64 0, .int .i64 0, .int .i64 0, .int .i64 0, .bool false, .int .i64 0, .int .i64 0, .int .i64 0, .int .i64 0, .int .i64 0, .int .i64 0] 23) := hB2
  have HW : Hid (Below w.heap.size w wc) := below_to hb hb2
  have HG : Hid (w.heap.size ≤ g ∧ w.heap.size ≤ g2 ∧ ¬ g = g2 ∧ ¬ g2 = g) := show _ ∧ _ ∧ ¬ _ ∧ ¬ _ by omega
  clear hB hB2 hb hb2
  have HS := Lib.hid (ln_info l)
  have HS0 := Lib.hid (ln_info ln0)
  have HO0 := Lib.hid (ln_one ln0)
  have KG := Lib.hid (fun W => r_good l W)
  rw [amount_tests] at hg
  obtain ⟨a0, t0⟩ : ∃ a0 : Bool, decide (a < 1) = a0 := ⟨_, rfl⟩
  obtain ⟨a1, t1⟩ : ∃ a1 : Bool, decide (1000000000 < a) = a1 := ⟨_, rfl⟩
  rw [t0, t1] at hg
  generalize goodL l = b at *
  generalize l.cells = C at *
  go_enter Try.func56, Try.ntmps56
  go_upto_region 1 with fail
  rw [← e2, ← e1, ← e5, ← e4]
  clear e1 e2 e3 e4 e5
  cases b with
  | false =>
    clear hg
    go_wp2_with (first
      | (refine o_load rfl 23 _ rfl _ rfl _ _ _ HB.out Try.underlying23 rfl HS.out ?_)
      | (go_at_call 15; with_reducible refine (KG.out _).mono ?_; rintro e y ⟨rfl, hb⟩; replace HB := Lib.hid (HB.out.below hb); replace HR := Lib.hid (HR.out.below hb); replace HW := Lib.hid (below_to HW.out hb); clear hb)
      | (refine o_store rfl 23 _ _ rfl rfl g2 _ rfl rfl _ _ HR.out HS0.out rfl HO0.out ?_; intro y hr ho; replace HB := Lib.hid (HB.out.one ho HG.out.2.2.1); replace HR := Lib.hid hr; replace HW := Lib.hid (below_one_of HW.out ho HG.out.2.1 HW.out.size); clear hr ho))
    refine bodyPost_ret (results_two rfl _ _ _ _ _ _ _ rfl HR.out Try.underlying23 rfl HS0.out rfl) rfl ?_
    exact ⟨rfl, HW.out⟩
  | true =>
    cases a0 with
    | true =>
      clear hg
      go_wp2_with (first
        | (refine o_load rfl 23 _ rfl _ rfl _ _ _ HB.out Try.underlying23 rfl HS.out ?_)
        | (go_at_call 15; with_reducible refine (KG.out _).mono ?_; rintro e y ⟨rfl, hb⟩; replace HB := Lib.hid (HB.out.below hb); replace HR := Lib.hid (HR.out.below hb); replace HW := Lib.hid (below_to HW.out hb); clear hb)
        | (refine o_store rfl 23 _ _ rfl rfl g2 _ rfl rfl _ _ HR.out HS0.out rfl HO0.out ?_; intro y hr ho; replace HB := Lib.hid (HB.out.one ho HG.out.2.2.1); replace HR := Lib.hid hr; replace HW := Lib.hid (below_one_of HW.out ho HG.out.2.1 HW.out.size); clear hr ho))
      refine bodyPost_ret (results_two rfl _ _ _ _ _ _ _ rfl HR.out Try.underlying23 rfl HS0.out rfl) rfl ?_
      exact ⟨rfl, HW.out⟩
    | false =>
      cases a1 with
      | false => cases hg
      | true =>
        clear hg
        go_wp2_with (first
          | (refine o_load rfl 23 _ rfl _ rfl _ _ _ HB.out Try.underlying23 rfl HS.out ?_)
          | (go_at_call 15; with_reducible refine (KG.out _).mono ?_; rintro e y ⟨rfl, hb⟩; replace HB := Lib.hid (HB.out.below hb); replace HR := Lib.hid (HR.out.below hb); replace HW := Lib.hid (below_to HW.out hb); clear hb)
          | (refine o_store rfl 23 _ _ rfl rfl g2 _ rfl rfl _ _ HR.out HS0.out rfl HO0.out ?_; intro y hr ho; replace HB := Lib.hid (HB.out.one ho HG.out.2.2.1); replace HR := Lib.hid hr; replace HW := Lib.hid (below_one_of HW.out ho HG.out.2.1 HW.out.size); clear hr ho))
        refine bodyPost_ret (results_two rfl _ _ _ _ _ _ _ rfl HR.out Try.underlying23 rfl HS0.out rfl) rfl ?_
        exact ⟨rfl, HW.out⟩
set_option maxRecDepth 20000 in
theorem fee_gone (l : Ln) (a : Int) (w : World) (hg : (goodL l && amountB a) = true) (ho : openB l = false) : Calls Try.prog 56 #[.agg l.cells, .int .i64 a, .bool true] w fun e w' => e = .returned (.tuple #[.agg (ln0).cells, .int .i64 61]) ∧ Below w.heap.size w w' := by
  obtain ⟨g, wb, e1, e2, hB, hb⟩ := boxd_new w l.cells 23
  obtain ⟨g2, wc, e3, e4, hB2, hb2⟩ := boxd_new wb #[.int .i64 0, .int .i64 0, .int .i64 0, .int .i64 0, .int .i64 0, .int .i64 0, .bool false, .int .i64 0, .int .i64 0, .int .i64 0, .int .i64 0, .int .i64 0, .int .i64 0] 23
  have e5 : g2 = g + 1 := by rw [e3, e2, Deep.nblk_alloc, e1]
  have HB : Hid (Boxd wc g l.cells 23) := hB.below hb2
  have HR : Hid (Boxd wc g2 #[.int .i64 0, .int .i64 0, .int .i64 0, .int .i64 0, .int .i64 0, .int .i64 0, .bool false, .int .i64 0, .int .i64 0, .int .i64 0, .int .i64 0, .int .i64 0, .int .i64 0] 23) := hB2
  have HW : Hid (Below w.heap.size w wc) := below_to hb hb2
  have HG : Hid (w.heap.size ≤ g ∧ w.heap.size ≤ g2 ∧ ¬ g = g2 ∧ ¬ g2 = g) := show _ ∧ _ ∧ ¬ _ ∧ ¬ _ by omega
  clear hB hB2 hb hb2
  have HS := Lib.hid (ln_info l)
  have HS0 := Lib.hid (ln_info ln0)
  have HO0 := Lib.hid (ln_one ln0)
  obtain ⟨hg1, hg2⟩ := Bool.and_eq_true_iff.1 hg
  have G := goodL_iff.1 hg1
  have KG := Lib.hid (fun W => r_good l W)
  rw [hg1] at KG
  have hd := wB_iff.1 (show wB a 1 1000000000 = true from hg2)
  have t0 : decide (a < 1) = false := decide_eq_false (by omega)
  have t1 : decide (1000000000 < a) = false := decide_eq_false (by omega)
  have t8 := shut_test ho
  have X8 : Hid (l.cells[8]? = some (.int .i64 l.closed)) := show _ = _ from rfl
  clear hg hg1 hg2 hd ho G
  generalize l.closed = x8 at *
  generalize l.cells = C at *
  go_enter Try.func56, Try.ntmps56
  go_upto_region 1 with fail
  rw [← e2, ← e1, ← e5, ← e4]
  clear e1 e2 e3 e4 e5
  go_wp2_with (first
    | (refine o_load rfl 23 _ rfl _ rfl _ _ _ HB.out Try.underlying23 rfl HS.out ?_)
    | (go_at_call 15; with_reducible refine (KG.out _).mono ?_; rintro e y ⟨rfl, hb⟩; replace HB := Lib.hid (HB.out.below hb); replace HR := Lib.hid (HR.out.below hb); replace HW := Lib.hid (below_to HW.out hb); clear hb; have c8 := (HB.out.cell (i := 8)).trans X8.out)
    | (refine o_store rfl 23 _ _ rfl rfl g2 _ rfl rfl _ _ HR.out HS0.out rfl HO0.out ?_; intro y hr ho; replace HB := Lib.hid (HB.out.one ho HG.out.2.2.1); replace HR := Lib.hid hr; replace HW := Lib.hid (below_one_of HW.out ho HG.out.2.1 HW.out.size); clear hr ho))
  refine bodyPost_ret (results_two rfl _ _ _ _ _ _ _ rfl HR.out Try.underlying23 rfl HS0.out rfl) rfl ?_
  exact ⟨rfl, HW.out⟩
set_option maxRecDepth 20000 in
theorem fee_over (l : Ln) (a : Int) (w : World) (hg : (goodL l && amountB a) = true) (ho : openB l = true) (hl : ¬ l.fees + a ≤ 10000000000000) : Calls Try.prog 56 #[.agg l.cells, .int .i64 a, .bool true] w fun e w' => e = .returned (.tuple #[.agg (ln0).cells, .int .i64 14]) ∧ Below w.heap.size w w' := by
  obtain ⟨g, wb, e1, e2, hB, hb⟩ := boxd_new w l.cells 23
  obtain ⟨g2, wc, e3, e4, hB2, hb2⟩ := boxd_new wb #[.int .i64 0, .int .i64 0, .int .i64 0, .int .i64 0, .int .i64 0, .int .i64 0, .bool false, .int .i64 0, .int .i64 0, .int .i64 0, .int .i64 0, .int .i64 0, .int .i64 0] 23
  have e5 : g2 = g + 1 := by rw [e3, e2, Deep.nblk_alloc, e1]
  have HB : Hid (Boxd wc g l.cells 23) := hB.below hb2
  have HR : Hid (Boxd wc g2 #[.int .i64 0, .int .i64 0, .int .i64 0, .int .i64 0, .int .i64 0, .int .i64 0, .bool false, .int .i64 0, .int .i64 0, .int .i64 0, .int .i64 0, .int .i64 0, .int .i64 0] 23) := hB2
  have HW : Hid (Below w.heap.size w wc) := below_to hb hb2
  have HG : Hid (w.heap.size ≤ g ∧ w.heap.size ≤ g2 ∧ ¬ g = g2 ∧ ¬ g2 = g) := show _ ∧ _ ∧ ¬ _ ∧ ¬ _ by omega
  clear hB hB2 hb hb2
  have HS := Lib.hid (ln_info l)
  have HS0 := Lib.hid (ln_info ln0)
  have HO0 := Lib.hid (ln_one ln0)
  obtain ⟨hg1, hg2⟩ := Bool.and_eq_true_iff.1 hg
  have G := goodL_iff.1 hg1
  have KG := Lib.hid (fun W => r_good l W)
  rw [hg1] at KG
  have hd := wB_iff.1 (show wB a 1 1000000000 = true from hg2)
  have t0 : decide (a < 1) = false := decide_eq_false (by omega)
  have t1 : decide (1000000000 < a) = false := decide_eq_false (by omega)
  have t8 := open_test ho
  have KA := Lib.hid (fun W => radd3 l.fees a W G.fees0 G.fees1 (by omega) (by omega))
  rw [if_neg hl, if_neg hl] at KA
  have X8 : Hid (l.cells[8]? = some (.int .i64 l.closed)) := show _ = _ from rfl
  have X4 : Hid (l.cells[4]? = some (.int .i64 l.fees)) := show _ = _ from rfl
  have HZ : Hid (l.cells.size = 13) := ln_size l
  have PX : Hid (l.cells.setIfInBounds 4 (.int .i64 0) = ({ l with fees := 0 } : Ln).cells) := show _ = _ from rfl
  clear hg hg1 hg2 hd ho hl G
  generalize ({ l with fees := 0 } : Ln).cells = D at *
  generalize l.closed = x8 at *
  generalize l.fees = x4 at *
  generalize l.cells = C at *
  go_enter Try.func56, Try.ntmps56
  go_upto_region 1 with fail
  rw [← e2, ← e1, ← e5, ← e4]
  clear e1 e2 e3 e4 e5
  go_wp2_with (first
    | (refine o_load rfl 23 _ rfl _ rfl _ _ _ HB.out Try.underlying23 rfl HS.out ?_)
    | (go_at_call 15; with_reducible refine (KG.out _).mono ?_; rintro e y ⟨rfl, hb⟩; replace HB := Lib.hid (HB.out.below hb); replace HR := Lib.hid (HR.out.below hb); replace HW := Lib.hid (below_to HW.out hb); clear hb; have c8 := (HB.out.cell (i := 8)).trans X8.out; have c4 := (HB.out.cell (i := 4)).trans X4.out)
    | (go_at_call 32; with_reducible refine (KA.out _).mono ?_; rintro e w' ⟨rfl, rfl⟩)
    | (refine o_put rfl 2 _ _ rfl rfl g 4 (.int .i64 0) rfl rfl rfl _ _ HB.out (by simp [HZ.out]) i64_one ?_; intro y hr ho; rw [PX.out] at hr; replace HB := Lib.hid hr; replace HR := Lib.hid (HR.out.one ho HG.out.2.2.2); replace HW := Lib.hid (below_one_of HW.out ho HG.out.1 HW.out.size); clear hr ho)
    | (refine o_store rfl 23 _ _ rfl rfl g2 _ rfl rfl _ _ HR.out HS0.out rfl HO0.out ?_; intro y hr ho; replace HB := Lib.hid (HB.out.one ho HG.out.2.2.1); replace HR := Lib.hid hr; replace HW := Lib.hid (below_one_of HW.out ho HG.out.2.1 HW.out.size); clear hr ho))
  refine bodyPost_ret (results_two rfl _ _ _ _ _ _ _ rfl HR.out Try.underlying23 rfl HS0.out rfl) rfl ?_
  exact ⟨rfl, HW.out⟩
set_option maxRecDepth 20000 in
theorem fee_ok (l : Ln) (a : Int) (w : World) (hg : (goodL l && amountB a) = true) (ho : openB l = true) (hl : l.fees + a ≤ 10000000000000) : Calls Try.prog 56 #[.agg l.cells, .int .i64 a, .bool true] w fun e w' => e = .returned (.tuple #[.agg (({ l with fees := l.fees + a } : Ln)).cells, .int .i64 0]) ∧ Below w.heap.size w w' := by
  obtain ⟨g, wb, e1, e2, hB, hb⟩ := boxd_new w l.cells 23
  obtain ⟨g2, wc, e3, e4, hB2, hb2⟩ := boxd_new wb #[.int .i64 0, .int .i64 0, .int .i64 0, .int .i64 0, .int .i64 0, .int .i64 0, .bool false, .int .i64 0, .int .i64 0, .int .i64 0, .int .i64 0, .int .i64 0, .int .i64 0] 23
  have e5 : g2 = g + 1 := by rw [e3, e2, Deep.nblk_alloc, e1]
  have HB : Hid (Boxd wc g l.cells 23) := hB.below hb2
  have HR : Hid (Boxd wc g2 #[.int .i64 0, .int .i64 0, .int .i64 0, .int .i64 0, .int .i64 0, .int .i64 0, .bool false, .int .i64 0, .int .i64 0, .int .i64 0, .int .i64 0, .int .i64 0, .int .i64 0] 23) := hB2
  have HW : Hid (Below w.heap.size w wc) := below_to hb hb2
  have HG : Hid (w.heap.size ≤ g ∧ w.heap.size ≤ g2 ∧ ¬ g = g2 ∧ ¬ g2 = g) := show _ ∧ _ ∧ ¬ _ ∧ ¬ _ by omega
  clear hB hB2 hb hb2
  have HS := Lib.hid (ln_info l)
  have HS0 := Lib.hid (ln_info ln0)
  have HO0 := Lib.hid (ln_one ln0)
  obtain ⟨hg1, hg2⟩ := Bool.and_eq_true_iff.1 hg
  have G := goodL_iff.1 hg1
  have KG := Lib.hid (fun W => r_good l W)
  rw [hg1] at KG
  have hd := wB_iff.1 (show wB a 1 1000000000 = true from hg2)
  have t0 : decide (a < 1) = false := decide_eq_false (by omega)
  have t1 : decide (1000000000 < a) = false := decide_eq_false (by omega)
  have t8 := open_test ho
  have KA := Lib.hid (fun W => radd3 l.fees a W G.fees0 G.fees1 (by omega) (by omega))
  rw [if_pos hl, if_pos hl] at KA
  have X8 : Hid (l.cells[8]? = some (.int .i64 l.closed)) := show _ = _ from rfl
  have X4 : Hid (l.cells[4]? = some (.int .i64 l.fees)) := show _ = _ from rfl
  have HZ : Hid (l.cells.size = 13) := ln_size l
  have PX : Hid (l.cells.setIfInBounds 4 (.int .i64 (l.fees + a)) = ({ l with fees := l.fees + a } : Ln).cells) := show _ = _ from rfl
  have HS2 := Lib.hid (ln_info ({ l with fees := l.fees + a } : Ln))
  have HO2 := Lib.hid (ln_one ({ l with fees := l.fees + a } : Ln))
  have HZ2 : Hid (13 = ({ l with fees := l.fees + a } : Ln).cells.size) := show _ = _ from rfl
  clear hg hg1 hg2 hd ho hl G
  generalize ({ l with fees := l.fees + a } : Ln).cells = D at *
  generalize l.fees + a = s at *
  generalize l.closed = x8 at *
  generalize l.fees = x4 at *
  generalize l.cells = C at *
  go_enter Try.func56, Try.ntmps56
  go_upto_region 1 with fail
  rw [← e2, ← e1, ← e5, ← e4]
  clear e1 e2 e3 e4 e5
  go_wp2_with (first
    | (refine o_load rfl 23 _ rfl _ rfl _ _ _ HB.out Try.underlying23 rfl HS.out ?_)
    | (refine o_load rfl 23 _ rfl _ rfl _ _ _ HB.out Try.underlying23 rfl HS2.out ?_)
    | (go_at_call 15; with_reducible refine (KG.out _).mono ?_; rintro e y ⟨rfl, hb⟩; replace HB := Lib.hid (HB.out.below hb); replace HR := Lib.hid (HR.out.below hb); replace HW := Lib.hid (below_to HW.out hb); clear hb; have c8 := (HB.out.cell (i := 8)).trans X8.out; have c4 := (HB.out.cell (i := 4)).trans X4.out)
    | (go_at_call 32; with_reducible refine (KA.out _).mono ?_; rintro e w' ⟨rfl, rfl⟩)
    | (refine o_put rfl 2 _ _ rfl rfl g 4 (.int .i64 s) rfl rfl rfl _ _ HB.out (by simp [HZ.out]) i64_one ?_; intro y hr ho; rw [PX.out] at hr; replace HB := Lib.hid hr; replace HR := Lib.hid (HR.out.one ho HG.out.2.2.2); replace HW := Lib.hid (below_one_of HW.out ho HG.out.1 HW.out.size); clear hr ho)
    | (refine o_store rfl 23 _ _ rfl rfl g2 _ rfl rfl _ _ HR.out HS2.out HZ2.out HO2.out ?_; intro y hr ho; replace HB := Lib.hid (HB.out.one ho HG.out.2.2.1); replace HR := Lib.hid hr; replace HW := Lib.hid (below_one_of HW.out ho HG.out.2.1 HW.out.size); clear hr ho))
  refine bodyPost_ret (results_two rfl _ _ _ _ _ _ _ rfl HR.out Try.underlying23 rfl HS2.out rfl) rfl ?_
  exact ⟨rfl, HW.out⟩
theorem more_fee (l : Ln) (a : Int) (w : World) : Calls Try.prog 56 #[.agg l.cells, .int .i64 a, .bool true] w fun e w' => e = .returned (.tuple #[.agg (feeR l a).1.cells, .int .i64 (feeR l a).2]) ∧ Below w.heap.size w w' := by
  cases hg : (goodL l && amountB a) with
  | false =>
    rw [show feeR l a = (ln0, 1) by unfold feeR; simp only [hg]; rfl]
    exact fee_arg l a w hg
  | true =>
    cases ho : openB l with
    | false =>
      rw [show feeR l a = (ln0, 61) by unfold feeR; simp only [hg, ho]; rfl]
      exact fee_gone l a w hg ho
    | true =>
      by_cases hl : l.fees + a ≤ 10000000000000
      · rw [show feeR l a = ({ l with fees := l.fees + a }, 0) by unfold feeR; simp only [hg, ho, if_pos hl]; rfl]
        exact fee_ok l a w hg ho hl
      · rw [show feeR l a = (ln0, 14) by unfold feeR; simp only [hg, ho, if_neg hl]; rfl]
        exact fee_over l a w hg ho hl
theorem r_fee (l : Ln) (a : Int) (w : World) : Calls Try.prog 21 #[.agg l.cells, .int .i64 a] w fun e w' => e = .returned (.tuple #[.agg (feeR l a).1.cells, .int .i64 (feeR l a).2]) ∧ Below w.heap.size w w' := by
  obtain ⟨g, wb, e1, e2, hB, hb⟩ := boxd_new w l.cells 23
  obtain ⟨g2, wc, e3, e4, hB2, hb2⟩ := boxd_new wb #[.int .i64 0, .int .i64 0, .int .i64 0, .int .i64 0, .int .i64 0, .int .i64 0, .bool false, .int .i64 0, .int .i64 0, .int .i64 0, .int .i64 0, .int .i64 0, .int .i64 0] 23
  have e5 : g2 = g + 1 := by rw [e3, e2, Deep.nblk_alloc, e1]
  have HB : Hid (Boxd wc g l.cells 23) := hB.below hb2
  have HR : Hid (Boxd wc g2 #[.int .i64 0, .int .i64 0, .int .i64 0, .int .i64 0, .int .i64 0, .int .i64 0, .bool false, .int .i64 0, .int .i64 0, .int .i64 0, .int .i64 0, .int .i64 0, .int .i64 0] 23) := hB2
  have HW : Hid (Below w.heap.size w wc) := below_to hb hb2
  have HG : Hid (w.heap.size ≤ g ∧ w.heap.size ≤ g2 ∧ ¬ g = g2 ∧ ¬ g2 = g) := show _ ∧ _ ∧ ¬ _ ∧ ¬ _ by omega
  clear hB hB2 hb hb2
  have HS := Lib.hid (ln_info l)
  have HS2 := Lib.hid (ln_info (feeR l a).1)
  have HO2 := Lib.hid (ln_one (feeR l a).1)
  have HZ2 : Hid (13 = (feeR l a).1.cells.size) := show _ = _ from rfl
  have KM := Lib.hid (fun W => more_fee l a W)
  generalize (feeR l a).1.cells = D at *
  generalize (feeR l a).2 = x at *
  generalize l.cells = C at *
  go_enter Try.func21, Try.ntmps21
  go_upto_region 1 with fail
  rw [← e2, ← e1, ← e5, ← e4]
  clear e1 e2 e3 e4 e5
  go_wp2_with (first
    | (refine o_load rfl 23 _ rfl _ rfl _ _ _ HB.out Try.underlying23 rfl HS.out ?_)
    | (go_at_call 56; with_reducible refine (KM.out _).mono ?_; rintro e y ⟨rfl, hb⟩; replace HB := Lib.hid (HB.out.below hb); replace HR := Lib.hid (HR.out.below hb); replace HW := Lib.hid (below_to HW.out hb); clear hb)
    | (refine o_store rfl 23 _ _ rfl rfl g2 _ rfl rfl _ _ HR.out HS2.out HZ2.out HO2.out ?_; intro y hr ho; replace HB := Lib.hid (HB.out.one ho HG.out.2.2.1); replace HR := Lib.hid hr; replace HW := Lib.hid (below_one_of HW.out ho HG.out.2.1 HW.out.size); clear hr ho))
  refine bodyPost_ret (results_two rfl _ _ _ _ _ _ _ rfl HR.out Try.underlying23 rfl HS2.out rfl) rfl ?_
  exact ⟨rfl, HW.out⟩
set_option maxRecDepth 20000 in
theorem draw_arg (l : Ln) (a : Int) (w : World) (hg : (goodL l && amountB a) = false) : Calls Try.prog 56 #[.agg l.cells, .int .i64 a, .bool false] w fun e w' => e = .returned (.tuple #[.agg (ln0).cells, .int .i64 1]) ∧ Below w.heap.size w w' := by
  obtain ⟨g, wb, e1, e2, hB, hb⟩ := boxd_new w l.cells 23
  obtain ⟨g2, wc, e3, e4, hB2, hb2⟩ := boxd_new wb #[.int .i64 0, .int .i64 0, .int .i64 0, .int .i64 0, .int .i64 0, .int .i64 0, .bool false, .int .i64 0, .int .i64 0, .int .i64 0, .int .i64 0, .int .i64 0, .int .i64 0] 23
  have e5 : g2 = g + 1 := by rw [e3, e2, Deep.nblk_alloc, e1]
  have HB : Hid (Boxd wc g l.cells 23) := hB.below hb2
  have HR : Hid (Boxd wc g2 #[.int .i64 0, .int .i64 0, .int .i64 0, .int .i64 0, .int .i64 0, .int .i64 0, .bool false, .int .i64 0, .int .i64 0, .int .i64 0, .int .i64 0, .int .i64 0, .int .i64 0] 23) := hB2
  have HW : Hid (Below w.heap.size w wc) := below_to hb hb2
  have HG : Hid (w.heap.size ≤ g ∧ w.heap.size ≤ g2 ∧ ¬ g = g2 ∧ ¬ g2 = g) := show _ ∧ _ ∧ ¬ _ ∧ ¬ _ by omega
  clear hB hB2 hb hb2
  have HS := Lib.hid (ln_info l)
  have HS0 := Lib.hid (ln_info ln0)
  have HO0 := Lib.hid (ln_one ln0)
  have KG := Lib.hid (fun W => r_good l W)
  rw [amount_tests] at hg
  obtain ⟨a0, t0⟩ : ∃ a0 : Bool, decide (a < 1) = a0 := ⟨_, rfl⟩
  obtain ⟨a1, t1⟩ : ∃ a1 : Bool, decide (1000000000 < a) = a1 := ⟨_, rfl⟩
  rw [t0, t1] at hg
  generalize goodL l = b at *
  generalize l.cells = C at *
  go_enter Try.func56, Try.ntmps56
  go_upto_region 1 with fail
  rw [← e2, ← e1, ← e5, ← e4]
  clear e1 e2 e3 e4 e5
  cases b with
  | false =>
    clear hg
    go_wp2_with (first
      | (refine o_load rfl 23 _ rfl _ rfl _ _ _ HB.out Try.underlying23 rfl HS.out ?_)
      | (go_at_call 15; with_reducible refine (KG.out _).mono ?_; rintro e y ⟨rfl, hb⟩; replace HB := Lib.hid (HB.out.below hb); replace HR := Lib.hid (HR.out.below hb); replace HW := Lib.hid (below_to HW.out hb); clear hb)
      | (refine o_store rfl 23 _ _ rfl rfl g2 _ rfl rfl _ _ HR.out HS0.out rfl HO0.out ?_; intro y hr ho; replace HB := Lib.hid (HB.out.one ho HG.out.2.2.1); replace HR := Lib.hid hr; replace HW := Lib.hid (below_one_of HW.out ho HG.out.2.1 HW.out.size); clear hr ho))
    refine bodyPost_ret (results_two rfl _ _ _ _ _ _ _ rfl HR.out Try.underlying23 rfl HS0.out rfl) rfl ?_
    exact ⟨rfl, HW.out⟩
  | true =>
    cases a0 with
    | true =>
      clear hg
      go_wp2_with (first
        | (refine o_load rfl 23 _ rfl _ rfl _ _ _ HB.out Try.underlying23 rfl HS.out ?_)
        | (go_at_call 15; with_reducible refine (KG.out _).mono ?_; rintro e y ⟨rfl, hb⟩; replace HB := Lib.hid (HB.out.below hb); replace HR := Lib.hid (HR.out.below hb); replace HW := Lib.hid (below_to HW.out hb); clear hb)
        | (refine o_store rfl 23 _ _ rfl rfl g2 _ rfl rfl _ _ HR.out HS0.out rfl HO0.out ?_; intro y hr ho; replace HB := Lib.hid (HB.out.one ho HG.out.2.2.1); replace HR := Lib.hid hr; replace HW := Lib.hid (below_one_of HW.out ho HG.out.2.1 HW.out.size); clear hr ho))
      refine bodyPost_ret (results_two rfl _ _ _ _ _ _ _ rfl HR.out Try.underlying23 rfl HS0.out rfl) rfl ?_
      exact ⟨rfl, HW.out⟩
    | false =>
      cases a1 with
      | false => cases hg
      | true =>
        clear hg
        go_wp2_with (first
          | (refine o_load rfl 23 _ rfl _ rfl _ _ _ HB.out Try.underlying23 rfl HS.out ?_)
          | (go_at_call 15; with_reducible refine (KG.out _).mono ?_; rintro e y ⟨rfl, hb⟩; replace HB := Lib.hid (HB.out.below hb); replace HR := Lib.hid (HR.out.below hb); replace HW := Lib.hid (below_to HW.out hb); clear hb)
          | (refine o_store rfl 23 _ _ rfl rfl g2 _ rfl rfl _ _ HR.out HS0.out rfl HO0.out ?_; intro y hr ho; replace HB := Lib.hid (HB.out.one ho HG.out.2.2.1); replace HR := Lib.hid hr; replace HW := Lib.hid (below_one_of HW.out ho HG.out.2.1 HW.out.size); clear hr ho))
        refine bodyPost_ret (results_two rfl _ _ _ _ _ _ _ rfl HR.out Try.underlying23 rfl HS0.out rfl) rfl ?_
        exact ⟨rfl, HW.out⟩
set_option maxRecDepth 20000 in
theorem draw_gone (l : Ln) (a : Int) (w : World) (hg : (goodL l && amountB a) = true) (ho : openB l = false) : Calls Try.prog 56 #[.agg l.cells, .int .i64 a, .bool false] w fun e w' => e = .returned (.tuple #[.agg (ln0).cells, .int .i64 61]) ∧ Below w.heap.size w w' := by
  obtain ⟨g, wb, e1, e2, hB, hb⟩ := boxd_new w l.cells 23
  obtain ⟨g2, wc, e3, e4, hB2, hb2⟩ := boxd_new wb #[.int .i64 0, .int .i64 0, .int .i64 0, .int .i64 0, .int .i64 0, .int .i64 0, .bool false, .int .i64 0, .int .i64 0, .int .i64 0, .int .i64 0, .int .i64 0, .int .i64 0] 23
  have e5 : g2 = g + 1 := by rw [e3, e2, Deep.nblk_alloc, e1]
  have HB : Hid (Boxd wc g l.cells 23) := hB.below hb2
  have HR : Hid (Boxd wc g2 #[.int .i64 0, .int .i64 0, .int .i64 0, .int .i64 0, .int .i64 0, .int .i64 0, .bool false, .int .i64 0, .int .i64 0, .int .i64 0, .int .i64 0, .int .i64 0, .int .i64 0] 23) := hB2
  have HW : Hid (Below w.heap.size w wc) := below_to hb hb2
  have HG : Hid (w.heap.size ≤ g ∧ w.heap.size ≤ g2 ∧ ¬ g = g2 ∧ ¬ g2 = g) := show _ ∧ _ ∧ ¬ _ ∧ ¬ _ by omega
  clear hB hB2 hb hb2
  have HS := Lib.hid (ln_info l)
  have HS0 := Lib.hid (ln_info ln0)
  have HO0 := Lib.hid (ln_one ln0)
  obtain ⟨hg1, hg2⟩ := Bool.and_eq_true_iff.1 hg
  have G := goodL_iff.1 hg1
  have KG := Lib.hid (fun W => r_good l W)
  rw [hg1] at KG
  have hd := wB_iff.1 (show wB a 1 1000000000 = true from hg2)
  have t0 : decide (a < 1) = false := decide_eq_false (by omega)
  have t1 : decide (1000000000 < a) = false := decide_eq_false (by omega)
  have t8 := shut_test ho
  have X8 : Hid (l.cells[8]? = some (.int .i64 l.closed)) := show _ = _ from rfl
  clear hg hg1 hg2 hd ho G
  generalize l.closed = x8 at *
  generalize l.cells = C at *
  go_enter Try.func56, Try.ntmps56
  go_upto_region 1 with fail
  rw [← e2, ← e1, ← e5, ← e4]
  clear e1 e2 e3 e4 e5
  go_wp2_with (first
    | (refine o_load rfl 23 _ rfl _ rfl _ _ _ HB.out Try.underlying23 rfl HS.out ?_)
    | (go_at_call 15; with_reducible refine (KG.out _).mono ?_; rintro e y ⟨rfl, hb⟩; replace HB := Lib.hid (HB.out.below hb); replace HR := Lib.hid (HR.out.below hb); replace HW := Lib.hid (below_to HW.out hb); clear hb; have c8 := (HB.out.cell (i := 8)).trans X8.out)
    | (refine o_store rfl 23 _ _ rfl rfl g2 _ rfl rfl _ _ HR.out HS0.out rfl HO0.out ?_; intro y hr ho; replace HB := Lib.hid (HB.out.one ho HG.out.2.2.1); replace HR := Lib.hid hr; replace HW := Lib.hid (below_one_of HW.out ho HG.out.2.1 HW.out.size); clear hr ho))
  refine bodyPost_ret (results_two rfl _ _ _ _ _ _ _ rfl HR.out Try.underlying23 rfl HS0.out rfl) rfl ?_
  exact ⟨rfl, HW.out⟩
set_option maxRecDepth 20000 in
theorem draw_over (l : Ln) (a : Int) (w : World) (hg : (goodL l && amountB a) = true) (ho : openB l = true) (hl : ¬ l.prin + a ≤ 10000000000000) : Calls Try.prog 56 #[.agg l.cells, .int .i64 a, .bool false] w fun e w' => e = .returned (.tuple #[.agg (ln0).cells, .int .i64 14]) ∧ Below w.heap.size w w' := by
  obtain ⟨g, wb, e1, e2, hB, hb⟩ := boxd_new w l.cells 23
  obtain ⟨g2, wc, e3, e4, hB2, hb2⟩ := boxd_new wb #[.int .i64 0, .int .i64 0, .int .i64 0, .int .i64 0, .int .i64 0, .int .i64 0, .bool false, .int .i64 0, .int .i64 0, .int .i64 0, .int .i64 0, .int .i64 0, .int .i64 0] 23
  have e5 : g2 = g + 1 := by rw [e3, e2, Deep.nblk_alloc, e1]
  have HB : Hid (Boxd wc g l.cells 23) := hB.below hb2
  have HR : Hid (Boxd wc g2 #[.int .i64 0, .int .i64 0, .int .i64 0, .int .i64 0, .int .i64 0, .int .i64 0, .bool false, .int .i64 0, .int .i64 0, .int .i64 0, .int .i64 0, .int .i64 0, .int .i64 0] 23) := hB2
  have HW : Hid (Below w.heap.size w wc) := below_to hb hb2
  have HG : Hid (w.heap.size ≤ g ∧ w.heap.size ≤ g2 ∧ ¬ g = g2 ∧ ¬ g2 = g) := show _ ∧ _ ∧ ¬ _ ∧ ¬ _ by omega
  clear hB hB2 hb hb2
  have HS := Lib.hid (ln_info l)
  have HS0 := Lib.hid (ln_info ln0)
  have HO0 := Lib.hid (ln_one ln0)
  obtain ⟨hg1, hg2⟩ := Bool.and_eq_true_iff.1 hg
  have G := goodL_iff.1 hg1
  have KG := Lib.hid (fun W => r_good l W)
  rw [hg1] at KG
  have hd := wB_iff.1 (show wB a 1 1000000000 = true from hg2)
  have t0 : decide (a < 1) = false := decide_eq_false (by omega)
  have t1 : decide (1000000000 < a) = false := decide_eq_false (by omega)
  have t8 := open_test ho
  have KA := Lib.hid (fun W => radd3 l.prin a W G.prin0 G.prin1 (by omega) (by omega))
  rw [if_neg hl, if_neg hl] at KA
  have X8 : Hid (l.cells[8]? = some (.int .i64 l.closed)) := show _ = _ from rfl
  have X1 : Hid (l.cells[1]? = some (.int .i64 l.prin)) := show _ = _ from rfl
  have HZ : Hid (l.cells.size = 13) := ln_size l
  have PX : Hid (l.cells.setIfInBounds 1 (.int .i64 0) = ({ l with prin := 0 } : Ln).cells) := show _ = _ from rfl
  clear hg hg1 hg2 hd ho hl G
  generalize ({ l with prin := 0 } : Ln).cells = D at *
  generalize l.closed = x8 at *
  generalize l.prin = x1 at *
  generalize l.cells = C at *
  go_enter Try.func56, Try.ntmps56
  go_upto_region 1 with fail
  rw [← e2, ← e1, ← e5, ← e4]
  clear e1 e2 e3 e4 e5
  go_wp2_with (first
    | (refine o_load rfl 23 _ rfl _ rfl _ _ _ HB.out Try.underlying23 rfl HS.out ?_)
    | (go_at_call 15; with_reducible refine (KG.out _).mono ?_; rintro e y ⟨rfl, hb⟩; replace HB := Lib.hid (HB.out.below hb); replace HR := Lib.hid (HR.out.below hb); replace HW := Lib.hid (below_to HW.out hb); clear hb; have c8 := (HB.out.cell (i := 8)).trans X8.out; have c1 := (HB.out.cell (i := 1)).trans X1.out)
    | (go_at_call 32; with_reducible refine (KA.out _).mono ?_; rintro e w' ⟨rfl, rfl⟩)
    | (refine o_put rfl 2 _ _ rfl rfl g 1 (.int .i64 0) rfl rfl rfl _ _ HB.out (by simp [HZ.out]) i64_one ?_; intro y hr ho; rw [PX.out] at hr; replace HB := Lib.hid hr; replace HR := Lib.hid (HR.out.one ho HG.out.2.2.2); replace HW := Lib.hid (below_one_of HW.out ho HG.out.1 HW.out.size); clear hr ho)
    | (refine o_store rfl 23 _ _ rfl rfl g2 _ rfl rfl _ _ HR.out HS0.out rfl HO0.out ?_; intro y hr ho; replace HB := Lib.hid (HB.out.one ho HG.out.2.2.1); replace HR := Lib.hid hr; replace HW := Lib.hid (below_one_of HW.out ho HG.out.2.1 HW.out.size); clear hr ho))
  refine bodyPost_ret (results_two rfl _ _ _ _ _ _ _ rfl HR.out Try.underlying23 rfl HS0.out rfl) rfl ?_
  exact ⟨rfl, HW.out⟩
set_option maxRecDepth 20000 in
theorem draw_ok (l : Ln) (a : Int) (w : World) (hg : (goodL l && amountB a) = true) (ho : openB l = true) (hl : l.prin + a ≤ 10000000000000) : Calls Try.prog 56 #[.agg l.cells, .int .i64 a, .bool false] w fun e w' => e = .returned (.tuple #[.agg (({ l with prin := l.prin + a } : Ln)).cells, .int .i64 0]) ∧ Below w.heap.size w w' := by
  obtain ⟨g, wb, e1, e2, hB, hb⟩ := boxd_new w l.cells 23
  obtain ⟨g2, wc, e3, e4, hB2, hb2⟩ := boxd_new wb #[.int .i64 0, .int .i64 0, .int .i64 0, .int .i64 0, .int .i64 0, .int .i64 0, .bool false, .int .i64 0, .int .i64 0, .int .i64 0, .int .i64 0, .int .i64 0, .int .i64 0] 23
  have e5 : g2 = g + 1 := by rw [e3, e2, Deep.nblk_alloc, e1]
  have HB : Hid (Boxd wc g l.cells 23) := hB.below hb2
  have HR : Hid (Boxd wc g2 #[.int .i64 0, .int .i64 0, .int .i64 0, .int .i64 0, .int .i64 0, .int .i64 0, .bool false, .int .i64 0, .int .i64 0, .int .i64 0, .int .i64 0, .int .i64 0, .int .i64 0] 23) := hB2
  have HW : Hid (Below w.heap.size w wc) := below_to hb hb2
  have HG : Hid (w.heap.size ≤ g ∧ w.heap.size ≤ g2 ∧ ¬ g = g2 ∧ ¬ g2 = g) := show _ ∧ _ ∧ ¬ _ ∧ ¬ _ by omega
  clear hB hB2 hb hb2
  have HS := Lib.hid (ln_info l)
  have HS0 := Lib.hid (ln_info ln0)
  have HO0 := Lib.hid (ln_one ln0)
  obtain ⟨hg1, hg2⟩ := Bool.and_eq_true_iff.1 hg
  have G := goodL_iff.1 hg1
  have KG := Lib.hid (fun W => r_good l W)
  rw [hg1] at KG
  have hd := wB_iff.1 (show wB a 1 1000000000 = true from hg2)
  have t0 : decide (a < 1) = false := decide_eq_false (by omega)
  have t1 : decide (1000000000 < a) = false := decide_eq_false (by omega)
  have t8 := open_test ho
  have KA := Lib.hid (fun W => radd3 l.prin a W G.prin0 G.prin1 (by omega) (by omega))
  rw [if_pos hl, if_pos hl] at KA
  have X8 : Hid (l.cells[8]? = some (.int .i64 l.closed)) := show _ = _ from rfl
  have X1 : Hid (l.cells[1]? = some (.int .i64 l.prin)) := show _ = _ from rfl
  have HZ : Hid (l.cells.size = 13) := ln_size l
  have PX : Hid (l.cells.setIfInBounds 1 (.int .i64 (l.prin + a)) = ({ l with prin := l.prin + a } : Ln).cells) := show _ = _ from rfl
  have HS2 := Lib.hid (ln_info ({ l with prin := l.prin + a } : Ln))
  have HO2 := Lib.hid (ln_one ({ l with prin := l.prin + a } : Ln))
  have HZ2 : Hid (13 = ({ l with prin := l.prin + a } : Ln).cells.size) := show _ = _ from rfl
  clear hg hg1 hg2 hd ho hl G
  generalize ({ l with prin := l.prin + a } : Ln).cells = D at *
  generalize l.prin + a = s at *
  generalize l.closed = x8 at *
  generalize l.prin = x1 at *
  generalize l.cells = C at *
  go_enter Try.func56, Try.ntmps56
  go_upto_region 1 with fail
  rw [← e2, ← e1, ← e5, ← e4]
  clear e1 e2 e3 e4 e5
  go_wp2_with (first
    | (refine o_load rfl 23 _ rfl _ rfl _ _ _ HB.out Try.underlying23 rfl HS.out ?_)
    | (refine o_load rfl 23 _ rfl _ rfl _ _ _ HB.out Try.underlying23 rfl HS2.out ?_)
    | (go_at_call 15; with_reducible refine (KG.out _).mono ?_; rintro e y ⟨rfl, hb⟩; replace HB := Lib.hid (HB.out.below hb); replace HR := Lib.hid (HR.out.below hb); replace HW := Lib.hid (below_to HW.out hb); clear hb; have c8 := (HB.out.cell (i := 8)).trans X8.out; have c1 := (HB.out.cell (i := 1)).trans X1.out)
    | (go_at_call 32; with_reducible refine (KA.out _).mono ?_; rintro e w' ⟨rfl, rfl⟩)
    | (refine o_put rfl 2 _ _ rfl rfl g 1 (.int .i64 s) rfl rfl rfl _ _ HB.out (by simp [HZ.out]) i64_one ?_; intro y hr ho; rw [PX.out] at hr; replace HB := Lib.hid hr; replace HR := Lib.hid (HR.out.one ho HG.out.2.2.2); replace HW := Lib.hid (below_one_of HW.out ho HG.out.1 HW.out.size); clear hr ho)
    | (refine o_store rfl 23 _ _ rfl rfl g2 _ rfl rfl _ _ HR.out HS2.out HZ2.out HO2.out ?_; intro y hr ho; replace HB := Lib.hid (HB.out.one ho HG.out.2.2.1); replace HR := Lib.hid hr; replace HW := Lib.hid (below_one_of HW.out ho HG.out.2.1 HW.out.size); clear hr ho))
  refine bodyPost_ret (results_two rfl _ _ _ _ _ _ _ rfl HR.out Try.underlying23 rfl HS2.out rfl) rfl ?_
  exact ⟨rfl, HW.out⟩
theorem more_draw (l : Ln) (a : Int) (w : World) : Calls Try.prog 56 #[.agg l.cells, .int .i64 a, .bool false] w fun e w' => e = .returned (.tuple #[.agg (drawR l a).1.cells, .int .i64 (drawR l a).2]) ∧ Below w.heap.size w w' := by
  cases hg : (goodL l && amountB a) with
  | false =>
    rw [show drawR l a = (ln0, 1) by unfold drawR; simp only [hg]; rfl]
    exact draw_arg l a w hg
  | true =>
    cases ho : openB l with
    | false =>
      rw [show drawR l a = (ln0, 61) by unfold drawR; simp only [hg, ho]; rfl]
      exact draw_gone l a w hg ho
    | true =>
      by_cases hl : l.prin + a ≤ 10000000000000
      · rw [show drawR l a = ({ l with prin := l.prin + a }, 0) by unfold drawR; simp only [hg, ho, if_pos hl]; rfl]
        exact draw_ok l a w hg ho hl
      · rw [show drawR l a = (ln0, 14) by unfold drawR; simp only [hg, ho, if_neg hl]; rfl]
        exact draw_over l a w hg ho hl
theorem r_draw (l : Ln) (a : Int) (w : World) : Calls Try.prog 23 #[.agg l.cells, .int .i64 a] w fun e w' => e = .returned (.tuple #[.agg (drawR l a).1.cells, .int .i64 (drawR l a).2]) ∧ Below w.heap.size w w' := by
  obtain ⟨g, wb, e1, e2, hB, hb⟩ := boxd_new w l.cells 23
  obtain ⟨g2, wc, e3, e4, hB2, hb2⟩ := boxd_new wb #[.int .i64 0, .int .i64 0, .int .i64 0, .int .i64 0, .int .i64 0, .int .i64 0, .bool false, .int .i64 0, .int .i64 0, .int .i64 0, .int .i64 0, .int .i64 0, .int .i64 0] 23
  have e5 : g2 = g + 1 := by rw [e3, e2, Deep.nblk_alloc, e1]
  have HB : Hid (Boxd wc g l.cells 23) := hB.below hb2
  have HR : Hid (Boxd wc g2 #[.int .i64 0, .int .i64 0, .int .i64 0, .int .i64 0, .int .i64 0, .int .i64 0, .bool false, .int .i64 0, .int .i64 0, .int .i64 0, .int .i64 0, .int .i64 0, .int .i64 0] 23) := hB2
  have HW : Hid (Below w.heap.size w wc) := below_to hb hb2
  have HG : Hid (w.heap.size ≤ g ∧ w.heap.size ≤ g2 ∧ ¬ g = g2 ∧ ¬ g2 = g) := show _ ∧ _ ∧ ¬ _ ∧ ¬ _ by omega
  clear hB hB2 hb hb2
  have HS := Lib.hid (ln_info l)
  have HS2 := Lib.hid (ln_info (drawR l a).1)
  have HO2 := Lib.hid (ln_one (drawR l a).1)
  have HZ2 : Hid (13 = (drawR l a).1.cells.size) := show _ = _ from rfl
  have KM := Lib.hid (fun W => more_draw l a W)
  generalize (drawR l a).1.cells = D at *
  generalize (drawR l a).2 = x at *
  generalize l.cells = C at *
  go_enter Try.func23, Try.ntmps23
  go_upto_region 1 with fail
  rw [← e2, ← e1, ← e5, ← e4]
  clear e1 e2 e3 e4 e5
  go_wp2_with (first
    | (refine o_load rfl 23 _ rfl _ rfl _ _ _ HB.out Try.underlying23 rfl HS.out ?_)
    | (go_at_call 56; with_reducible refine (KM.out _).mono ?_; rintro e y ⟨rfl, hb⟩; replace HB := Lib.hid (HB.out.below hb); replace HR := Lib.hid (HR.out.below hb); replace HW := Lib.hid (below_to HW.out hb); clear hb)
    | (refine o_store rfl 23 _ _ rfl rfl g2 _ rfl rfl _ _ HR.out HS2.out HZ2.out HO2.out ?_; intro y hr ho; replace HB := Lib.hid (HB.out.one ho HG.out.2.2.1); replace HR := Lib.hid hr; replace HW := Lib.hid (below_one_of HW.out ho HG.out.2.1 HW.out.size); clear hr ho))
  refine bodyPost_ret (results_two rfl _ _ _ _ _ _ _ rfl HR.out Try.underlying23 rfl HS2.out rfl) rfl ?_
  exact ⟨rfl, HW.out⟩
end Go.Proofs.Ytkegmgjagcefhaa.RLoan
