/- The document's own package of layer 14: Turn, Fee, Draw. -/
import Derived.Test.YtkegmgjagcefhaaRefLoan2
namespace Go.Proofs.Ytkegmgjagcefhaa.RLoan
open Go.ChangeShapes Go.WideShapes Go.ChangeAt Go.RowKit Accr Box Loan Money

theorem may_tests (l : Ln) (s : Int) : mayB l s = !(decide (s < 1) || (decide (5 < s) || ((s == l.status) || ((decide (s ≤ 2) && decide (0 ≤ l.entered)) || ((s == 1) && (l.status == 2)))))) := by
  unfold mayB
  by_cases h1 : s < 1
  · rw [wB_not.2 (by omega)]; simp [h1]
  by_cases h2 : 5 < s
  · rw [wB_not.2 (by omega)]; simp [h2]
  rw [wB_iff.2 (by omega)]
  cases h3 : (s == l.status) with
  | true => simp
  | false =>
    by_cases h4 : s = 1
    · subst h4
      by_cases h5 : l.entered < 0
      · have h6 : ¬ 0 ≤ l.entered := by omega
        simp [h5, h6]
      · have h6 : 0 ≤ l.entered := by omega
        simp [h5, h6]
    · by_cases h7 : s = 2
      · subst h7
        by_cases h5 : l.entered < 0
        · have h6 : ¬ 0 ≤ l.entered := by omega
          simp [h5, h6]
        · have h6 : 0 ≤ l.entered := by omega
          simp [h5, h6]
      · have h8 : ¬ s ≤ 2 := by omega
        simp [h1, h2, h4, h7, h8]
set_option maxRecDepth 20000 in
set_option maxHeartbeats 2000000 in
theorem turn_arg (l : Ln) (s d : Int) (w : World) (hg : (goodL l && dayB d) = false) : Calls Try.prog 19 #[.agg l.cells, .int .i64 s, .int .i64 d] w fun e w' => e = .returned (.tuple #[.agg (ln0).cells, .int .i64 1]) ∧ Below w.heap.size w w' := by
  obtain ⟨g, wb, e1, e2, hB, hb⟩ := boxd_new w l.cells 23
  obtain ⟨g2, wc, e3, e4, hB2, hb2⟩ := boxd_new wb #[.int .i64 0, .int .i64 0, .int .i64 0, .int .i64 0, .int .i64 0, .int .i64 0, .bool false, .int .i64 0, .int .i64 0, .int .i64 0, .int .i64 0, .int .i64 0, .int .i64 0] 23
  have e5 : g2 = g + 1 := by rw [e3, e2, Deep.nblk_alloc, e1]
  have HB : Hid (Boxd wc g l.cells 23) := hB.below hb2
  have HR : Hid (Boxd wc g2 #[.int .i64 0, .int .i64 0, .int .i64 0, .int .i64 0, .int .i64 0, .int .i64 0, .bool false, .int .i64 0, .int .i64 0, .int .i64 0, .int .i64 0, .int .i64 0, .int .i64 0] 23) := hB2
  have HW : Hid (Below w.heap.size w wc) := below_to hb hb2
  have HG : Hid (w.heap.size ≤ g ∧ w.heap.size ≤ g2 ∧ ¬ g = g2 ∧ ¬ g2 = g) := show _ ∧ _ ∧ ¬ _ ∧ ¬ _ by omega
  clear hB hB2 hb hb2
  have HS := Lib.hid (ln_info l)
  have HS0 := Lib.hid (ln_info ln0)
  have HO0 := Lib.hid (ln_one ln0)
  have KG := Lib.hid (fun W => r_good l W)
  have KD : Hid (∀ W, Calls Try.prog 52 #[.int .i64 d] W fun e w' => e = .returned (.bool (dayB d)) ∧ W = w') := fun W => day_r d W
  generalize goodL l = b at *
  generalize dayB d = b2 at *
  generalize l.cells = C at *
  go_enter Try.func19, Try.ntmps19
  go_upto_region 1 with fail
  rw [← e2, ← e1, ← e5, ← e4]
  clear e1 e2 e3 e4 e5
  cases b with
  | false =>
    clear hg
    go_wp2_with (first
      | (refine o_load rfl 23 _ rfl _ rfl _ _ _ HB.out Try.underlying23 rfl HS.out ?_)
      | (go_at_call 15; with_reducible refine (KG.out _).mono ?_; rintro e y ⟨rfl, hb⟩; replace HB := Lib.hid (HB.out.below hb); replace HR := Lib.hid (HR.out.below hb); replace HW := Lib.hid (below_to HW.out hb); clear hb)
      | (refine o_store rfl 23 _ _ rfl rfl g2 _ rfl rfl _ _ HR.out HS0.out rfl HO0.out ?_; intro y hr ho; replace HB := Lib.hid (HB.out.one ho HG.out.2.2.1); replace HR := Lib.hid hr; replace HW := Lib.hid (below_one_of HW.out ho HG.out.2.1 HW.out.size); clear hr ho))
    refine bodyPost_ret (results_two rfl _ _ _ _ _ _ _ rfl HR.out Try.underlying23 rfl HS0.out rfl) rfl ?_
    exact ⟨rfl, HW.out⟩
  | true =>
    cases b2 with
    | true => cases hg
    | false =>
      clear hg
      go_wp2_with (first
        | (refine o_load rfl 23 _ rfl _ rfl _ _ _ HB.out Try.underlying23 rfl HS.out ?_)
        | (go_at_call 15; with_reducible refine (KG.out _).mono ?_; rintro e y ⟨rfl, hb⟩; replace HB := Lib.hid (HB.out.below hb); replace HR := Lib.hid (HR.out.below hb); replace HW := Lib.hid (below_to HW.out hb); clear hb)
        | (go_at_call 52; with_reducible refine (KD.out _).mono ?_; rintro e w' ⟨rfl, rfl⟩)
        | (refine o_store rfl 23 _ _ rfl rfl g2 _ rfl rfl _ _ HR.out HS0.out rfl HO0.out ?_; intro y hr ho; replace HB := Lib.hid (HB.out.one ho HG.out.2.2.1); replace HR := Lib.hid hr; replace HW := Lib.hid (below_one_of HW.out ho HG.out.2.1 HW.out.size); clear hr ho))
      refine bodyPost_ret (results_two rfl _ _ _ _ _ _ _ rfl HR.out Try.underlying23 rfl HS0.out rfl) rfl ?_
      exact ⟨rfl, HW.out⟩
set_option maxRecDepth 20000 in
set_option maxHeartbeats 2000000 in
theorem turn_gone (l : Ln) (s d : Int) (w : World) (hg : (goodL l && dayB d) = true) (ho : openB l = false) : Calls Try.prog 19 #[.agg l.cells, .int .i64 s, .int .i64 d] w fun e w' => e = .returned (.tuple #[.agg (ln0).cells, .int .i64 61]) ∧ Below w.heap.size w w' := by
  obtain ⟨g, wb, e1, e2, hB, hb⟩ := boxd_new w l.cells 23
  obtain ⟨g2, wc, e3, e4, hB2, hb2⟩ := boxd_new wb #[.int .i64 0, .int .i64 0, .int .i64 0, .int .i64 0, .int .i64 0, .int .i64 0, .bool false, .int .i64 0, .int .i64 0, .int .i64 0, .int .i64 0, .int .i64 0, .int .i64 0] 23
  have e5 : g2 = g + 1 := by rw [e3, e2, Deep.nblk_alloc, e1]
  have HB : Hid (Boxd wc g l.cells 23) := hB.below hb2
  have HR : Hid (Boxd wc g2 #[.int .i64 0, .int .i64 0, .int .i64 0, .int .i64 0, .int .i64 0, .int .i64 0, .bool false, .int .i64 0, .int .i64 0, .int .i64 0, .int .i64 0, .int .i64 0, .int .i64 0] 23) := hB2
  have HW : Hid (Below w.heap.size w wc) := below_to hb hb2
  have HG : Hid (w.heap.size ≤ g ∧ w.heap.size ≤ g2 ∧ ¬ g = g2 ∧ ¬ g2 = g) := show _ ∧ _ ∧ ¬ _ ∧ ¬ _ by omega
  clear hB hB2 hb hb2
  have HS := Lib.hid (ln_info l)
  have HS0 := Lib.hid (ln_info ln0)
  have HO0 := Lib.hid (ln_one ln0)
  obtain ⟨hg1, hg2⟩ := Bool.and_eq_true_iff.1 hg
  have G := goodL_iff.1 hg1
  have KG := Lib.hid (fun W => r_good l W)
  have KD : Hid (∀ W, Calls Try.prog 52 #[.int .i64 d] W fun e w' => e = .returned (.bool (dayB d)) ∧ W = w') := fun W => day_r d W
  rw [hg1] at KG
  rw [hg2] at KD
  have t8 := shut_test ho
  have X8 : Hid (l.cells[8]? = some (.int .i64 l.closed)) := show _ = _ from rfl
  clear hg hg1 hg2 ho G
  generalize l.closed = x8 at *
  generalize l.cells = C at *
  go_enter Try.func19, Try.ntmps19
  go_upto_region 1 with fail
  rw [← e2, ← e1, ← e5, ← e4]
  clear e1 e2 e3 e4 e5
  go_wp2_with (first
    | (refine o_load rfl 23 _ rfl _ rfl _ _ _ HB.out Try.underlying23 rfl HS.out ?_)
    | (go_at_call 15; with_reducible refine (KG.out _).mono ?_; rintro e y ⟨rfl, hb⟩; replace HB := Lib.hid (HB.out.below hb); replace HR := Lib.hid (HR.out.below hb); replace HW := Lib.hid (below_to HW.out hb); clear hb; have c8 := (HB.out.cell (i := 8)).trans X8.out)
    | (go_at_call 52; with_reducible refine (KD.out _).mono ?_; rintro e w' ⟨rfl, rfl⟩)
    | (refine o_store rfl 23 _ _ rfl rfl g2 _ rfl rfl _ _ HR.out HS0.out rfl HO0.out ?_; intro y hr ho; replace HB := Lib.hid (HB.out.one ho HG.out.2.2.1); replace HR := Lib.hid hr; replace HW := Lib.hid (below_one_of HW.out ho HG.out.2.1 HW.out.size); clear hr ho))
  refine bodyPost_ret (results_two rfl _ _ _ _ _ _ _ rfl HR.out Try.underlying23 rfl HS0.out rfl) rfl ?_
  exact ⟨rfl, HW.out⟩
set_option maxRecDepth 20000 in
set_option maxHeartbeats 2000000 in
theorem turn_no (l : Ln) (s d : Int) (w : World) (hg : (goodL l && dayB d) = true) (ho : openB l = true) (hm : mayB l s = false) : Calls Try.prog 19 #[.agg l.cells, .int .i64 s, .int .i64 d] w fun e w' => e = .returned (.tuple #[.agg (ln0).cells, .int .i64 62]) ∧ Below w.heap.size w w' := by
  obtain ⟨g, wb, e1, e2, hB, hb⟩ := boxd_new w l.cells 23
  obtain ⟨g2, wc, e3, e4, hB2, hb2⟩ := boxd_new wb #[.int .i64 0, .int .i64 0, .int .i64 0, .int .i64 0, .int .i64 0, .int .i64 0, .bool false, .int .i64 0, .int .i64 0, .int .i64 0, .int .i64 0, .int .i64 0, .int .i64 0] 23
  have e5 : g2 = g + 1 := by rw [e3, e2, Deep.nblk_alloc, e1]
  have HB : Hid (Boxd wc g l.cells 23) := hB.below hb2
  have HR : Hid (Boxd wc g2 #[.int .i64 0, .int .i64 0, .int .i64 0, .int .i64 0, .int .i64 0, .int .i64 0, .bool false, .int .i64 0, .int .i64 0, .int .i64 0, .int .i64 0, .int .i64 0, .int .i64 0] 23) := hB2
  have HW : Hid (Below w.heap.size w wc) := below_to hb hb2
  have HG : Hid (w.heap.size ≤ g ∧ w.heap.size ≤ g2 ∧ ¬ g = g2 ∧ ¬ g2 = g) := show _ ∧ _ ∧ ¬ _ ∧ ¬ _ by omega
  clear hB hB2 hb hb2
  have HS := Lib.hid (ln_info l)
  have HS0 := Lib.hid (ln_info ln0)
  have HO0 := Lib.hid (ln_one ln0)
  obtain ⟨hg1, hg2⟩ := Bool.and_eq_true_iff.1 hg
  have G := goodL_iff.1 hg1
  have KG := Lib.hid (fun W => r_good l W)
  have KD : Hid (∀ W, Calls Try.prog 52 #[.int .i64 d] W fun e w' => e = .returned (.bool (dayB d)) ∧ W = w') := fun W => day_r d W
  rw [hg1] at KG
  rw [hg2] at KD
  have t8 := open_test ho
  have X8 : Hid (l.cells[8]? = some (.int .i64 l.closed)) := show _ = _ from rfl
  have X7 : Hid (l.cells[7]? = some (.int .i64 l.status)) := show _ = _ from rfl
  have X9 : Hid (l.cells[9]? = some (.int .i64 l.entered)) := show _ = _ from rfl
  obtain ⟨a0, t0⟩ : ∃ a0 : Bool, decide (s < 1) = a0 := ⟨_, rfl⟩
  obtain ⟨a1, t1⟩ : ∃ a1 : Bool, decide (5 < s) = a1 := ⟨_, rfl⟩
  obtain ⟨a2, t2⟩ : ∃ a2 : Bool, (s == l.status) = a2 := ⟨_, rfl⟩
  obtain ⟨a3, t3⟩ : ∃ a3 : Bool, decide (s ≤ 2) = a3 := ⟨_, rfl⟩
  obtain ⟨a4, t4⟩ : ∃ a4 : Bool, decide (0 ≤ l.entered) = a4 := ⟨_, rfl⟩
  obtain ⟨a5, t5⟩ : ∃ a5 : Bool, (s == 1) = a5 := ⟨_, rfl⟩
  obtain ⟨a6, t6⟩ : ∃ a6 : Bool, (l.status == 2) = a6 := ⟨_, rfl⟩
  rw [may_tests, t0, t1, t2, t3, t4, t5, t6] at hm
  clear hg hg1 hg2 ho G
  generalize l.closed = x8 at *
  generalize l.status = x7 at *
  generalize l.entered = x9 at *
  generalize l.cells = C at *
  go_enter Try.func19, Try.ntmps19
  go_upto_region 1 with fail
  rw [← e2, ← e1, ← e5, ← e4]
  clear e1 e2 e3 e4 e5
  cases a0 with
  | false =>
    cases a1 with
    | false =>
      cases a2 with
      | false =>
        cases a3 with
        | false =>
          cases a5 with
          | false =>
            simp at hm
          | true =>
            cases a6 with
            | false =>
              simp at hm
            | true =>
              clear hm
              go_wp2_with (first
                | (refine o_load rfl 23 _ rfl _ rfl _ _ _ HB.out Try.underlying23 rfl HS.out ?_)
                | (go_at_call 15; with_reducible refine (KG.out _).mono ?_; rintro e y ⟨rfl, hb⟩; replace HB := Lib.hid (HB.out.below hb); replace HR := Lib.hid (HR.out.below hb); replace HW := Lib.hid (below_to HW.out hb); clear hb; have c8 := (HB.out.cell (i := 8)).trans X8.out; have c7 := (HB.out.cell (i := 7)).trans X7.out; have c9 := (HB.out.cell (i := 9)).trans X9.out)
                | (go_at_call 52; with_reducible refine (KD.out _).mono ?_; rintro e w' ⟨rfl, rfl⟩)
                | (refine o_store rfl 23 _ _ rfl rfl g2 _ rfl rfl _ _ HR.out HS0.out rfl HO0.out ?_; intro y hr ho; replace HB := Lib.hid (HB.out.one ho HG.out.2.2.1); replace HR := Lib.hid hr; replace HW := Lib.hid (below_one_of HW.out ho HG.out.2.1 HW.out.size); clear hr ho))
              refine bodyPost_ret (results_two rfl _ _ _ _ _ _ _ rfl HR.out Try.underlying23 rfl HS0.out rfl) rfl ?_
              exact ⟨rfl, HW.out⟩
        | true =>
          cases a4 with
          | false =>
            cases a5 with
            | false =>
              simp at hm
            | true =>
              cases a6 with
              | false =>
                simp at hm
              | true =>
                clear hm
                go_wp2_with (first
                  | (refine o_load rfl 23 _ rfl _ rfl _ _ _ HB.out Try.underlying23 rfl HS.out ?_)
                  | (go_at_call 15; with_reducible refine (KG.out _).mono ?_; rintro e y ⟨rfl, hb⟩; replace HB := Lib.hid (HB.out.below hb); replace HR := Lib.hid (HR.out.below hb); replace HW := Lib.hid (below_to HW.out hb); clear hb; have c8 := (HB.out.cell (i := 8)).trans X8.out; have c7 := (HB.out.cell (i := 7)).trans X7.out; have c9 := (HB.out.cell (i := 9)).trans X9.out)
                  | (go_at_call 52; with_reducible refine (KD.out _).mono ?_; rintro e w' ⟨rfl, rfl⟩)
                  | (refine o_store rfl 23 _ _ rfl rfl g2 _ rfl rfl _ _ HR.out HS0.out rfl HO0.out ?_; intro y hr ho; replace HB := Lib.hid (HB.out.one ho HG.out.2.2.1); replace HR := Lib.hid hr; replace HW := Lib.hid (below_one_of HW.out ho HG.out.2.1 HW.out.size); clear hr ho))
                refine bodyPost_ret (results_two rfl _ _ _ _ _ _ _ rfl HR.out Try.underlying23 rfl HS0.out rfl) rfl ?_
                exact ⟨rfl, HW.out⟩
          | true =>
            clear hm
            go_wp2_with (first
              | (refine o_load rfl 23 _ rfl _ rfl _ _ _ HB.out Try.underlying23 rfl HS.out ?_)
              | (go_at_call 15; with_reducible refine (KG.out _).mono ?_; rintro e y ⟨rfl, hb⟩; replace HB := Lib.hid (HB.out.below hb); replace HR := Lib.hid (HR.out.below hb); replace HW := Lib.hid (below_to HW.out hb); clear hb; have c8 := (HB.out.cell (i := 8)).trans X8.out; have c7 := (HB.out.cell (i := 7)).trans X7.out; have c9 := (HB.out.cell (i := 9)).trans X9.out)
              | (go_at_call 52; with_reducible refine (KD.out _).mono ?_; rintro e w' ⟨rfl, rfl⟩)
              | (refine o_store rfl 23 _ _ rfl rfl g2 _ rfl rfl _ _ HR.out HS0.out rfl HO0.out ?_; intro y hr ho; replace HB := Lib.hid (HB.out.one ho HG.out.2.2.1); replace HR := Lib.hid hr; replace HW := Lib.hid (below_one_of HW.out ho HG.out.2.1 HW.out.size); clear hr ho))
            refine bodyPost_ret (results_two rfl _ _ _ _ _ _ _ rfl HR.out Try.underlying23 rfl HS0.out rfl) rfl ?_
            exact ⟨rfl, HW.out⟩
      | true =>
        clear hm
        go_wp2_with (first
          | (refine o_load rfl 23 _ rfl _ rfl _ _ _ HB.out Try.underlying23 rfl HS.out ?_)
          | (go_at_call 15; with_reducible refine (KG.out _).mono ?_; rintro e y ⟨rfl, hb⟩; replace HB := Lib.hid (HB.out.below hb); replace HR := Lib.hid (HR.out.below hb); replace HW := Lib.hid (below_to HW.out hb); clear hb; have c8 := (HB.out.cell (i := 8)).trans X8.out; have c7 := (HB.out.cell (i := 7)).trans X7.out; have c9 := (HB.out.cell (i := 9)).trans X9.out)
          | (go_at_call 52; with_reducible refine (KD.out _).mono ?_; rintro e w' ⟨rfl, rfl⟩)
          | (refine o_store rfl 23 _ _ rfl rfl g2 _ rfl rfl _ _ HR.out HS0.out rfl HO0.out ?_; intro y hr ho; replace HB := Lib.hid (HB.out.one ho HG.out.2.2.1); replace HR := Lib.hid hr; replace HW := Lib.hid (below_one_of HW.out ho HG.out.2.1 HW.out.size); clear hr ho))
        refine bodyPost_ret (results_two rfl _ _ _ _ _ _ _ rfl HR.out Try.underlying23 rfl HS0.out rfl) rfl ?_
        exact ⟨rfl, HW.out⟩
    | true =>
      clear hm
      go_wp2_with (first
        | (refine o_load rfl 23 _ rfl _ rfl _ _ _ HB.out Try.underlying23 rfl HS.out ?_)
        | (go_at_call 15; with_reducible refine (KG.out _).mono ?_; rintro e y ⟨rfl, hb⟩; replace HB := Lib.hid (HB.out.below hb); replace HR := Lib.hid (HR.out.below hb); replace HW := Lib.hid (below_to HW.out hb); clear hb; have c8 := (HB.out.cell (i := 8)).trans X8.out; have c7 := (HB.out.cell (i := 7)).trans X7.out; have c9 := (HB.out.cell (i := 9)).trans X9.out)
        | (go_at_call 52; with_reducible refine (KD.out _).mono ?_; rintro e w' ⟨rfl, rfl⟩)
        | (refine o_store rfl 23 _ _ rfl rfl g2 _ rfl rfl _ _ HR.out HS0.out rfl HO0.out ?_; intro y hr ho; replace HB := Lib.hid (HB.out.one ho HG.out.2.2.1); replace HR := Lib.hid hr; replace HW := Lib.hid (below_one_of HW.out ho HG.out.2.1 HW.out.size); clear hr ho))
      refine bodyPost_ret (results_two rfl _ _ _ _ _ _ _ rfl HR.out Try.underlying23 rfl HS0.out rfl) rfl ?_
      exact ⟨rfl, HW.out⟩
  | true =>
    clear hm
    go_wp2_with (first
      | (refine o_load rfl 23 _ rfl _ rfl _ _ _ HB.out Try.underlying23 rfl HS.out ?_)
      | (go_at_call 15; with_reducible refine (KG.out _).mono ?_; rintro e y ⟨rfl, hb⟩; replace HB := Lib.hid (HB.out.below hb); replace HR := Lib.hid (HR.out.below hb); replace HW := Lib.hid (below_to HW.out hb); clear hb; have c8 := (HB.out.cell (i := 8)).trans X8.out; have c7 := (HB.out.cell (i := 7)).trans X7.out; have c9 := (HB.out.cell (i := 9)).trans X9.out)
      | (go_at_call 52; with_reducible refine (KD.out _).mono ?_; rintro e w' ⟨rfl, rfl⟩)
      | (refine o_store rfl 23 _ _ rfl rfl g2 _ rfl rfl _ _ HR.out HS0.out rfl HO0.out ?_; intro y hr ho; replace HB := Lib.hid (HB.out.one ho HG.out.2.2.1); replace HR := Lib.hid hr; replace HW := Lib.hid (below_one_of HW.out ho HG.out.2.1 HW.out.size); clear hr ho))
    refine bodyPost_ret (results_two rfl _ _ _ _ _ _ _ rfl HR.out Try.underlying23 rfl HS0.out rfl) rfl ?_
    exact ⟨rfl, HW.out⟩
set_option maxRecDepth 20000 in
set_option maxHeartbeats 2000000 in
theorem turn_ok (l : Ln) (s d : Int) (w : World) (hg : (goodL l && dayB d) = true) (ho : openB l = true) (hm : mayB l s = true) (h5 : (s == 5) = false) : Calls Try.prog 19 #[.agg l.cells, .int .i64 s, .int .i64 d] w fun e w' => e = .returned (.tuple #[.agg (({ l with status := s } : Ln)).cells, .int .i64 0]) ∧ Below w.heap.size w w' := by
  obtain ⟨g, wb, e1, e2, hB, hb⟩ := boxd_new w l.cells 23
  obtain ⟨g2, wc, e3, e4, hB2, hb2⟩ := boxd_new wb #[.int .i64 0, .int .i64 0, .int .i64 0, .int .i64 0, .int .i64 0, .int .i64 0, .bool false, .int .i64 0, .int .i64 0, .int .i64 0, .int .i64 0, .int .i64 0, .int .i64 0] 23
  have e5 : g2 = g + 1 := by rw [e3, e2, Deep.nblk_alloc, e1]
  have HB : Hid (Boxd wc g l.cells 23) := hB.below hb2
  have HR : Hid (Boxd wc g2 #[.int .i64 0, .int .i64 0, .int .i64 0, .int .i64 0, .int .i64 0, .int .i64 0, .bool false, .int .i64 0, .int .i64 0, .int .i64 0, .int .i64 0, .int .i64 0, .int .i64 0] 23) := hB2
  have HW : Hid (Below w.heap.size w wc) := below_to hb hb2
  have HG : Hid (w.heap.size ≤ g ∧ w.heap.size ≤ g2 ∧ ¬ g = g2 ∧ ¬ g2 = g) := show _ ∧ _ ∧ ¬ _ ∧ ¬ _ by omega
  clear hB hB2 hb hb2
  have HS := Lib.hid (ln_info l)
  have HS0 := Lib.hid (ln_info ln0)
  have HO0 := Lib.hid (ln_one ln0)
  obtain ⟨hg1, hg2⟩ := Bool.and_eq_true_iff.1 hg
  have G := goodL_iff.1 hg1
  have KG := Lib.hid (fun W => r_good l W)
  have KD : Hid (∀ W, Calls Try.prog 52 #[.int .i64 d] W fun e w' => e = .returned (.bool (dayB d)) ∧ W = w') := fun W => day_r d W
  rw [hg1] at KG
  rw [hg2] at KD
  have t8 := open_test ho
  have X8 : Hid (l.cells[8]? = some (.int .i64 l.closed)) := show _ = _ from rfl
  have X7 : Hid (l.cells[7]? = some (.int .i64 l.status)) := show _ = _ from rfl
  have X9 : Hid (l.cells[9]? = some (.int .i64 l.entered)) := show _ = _ from rfl
  obtain ⟨a0, t0⟩ : ∃ a0 : Bool, decide (s < 1) = a0 := ⟨_, rfl⟩
  obtain ⟨a1, t1⟩ : ∃ a1 : Bool, decide (5 < s) = a1 := ⟨_, rfl⟩
  obtain ⟨a2, t2⟩ : ∃ a2 : Bool, (s == l.status) = a2 := ⟨_, rfl⟩
  obtain ⟨a3, t3⟩ : ∃ a3 : Bool, decide (s ≤ 2) = a3 := ⟨_, rfl⟩
  obtain ⟨a4, t4⟩ : ∃ a4 : Bool, decide (0 ≤ l.entered) = a4 := ⟨_, rfl⟩
  obtain ⟨a5, t5⟩ : ∃ a5 : Bool, (s == 1) = a5 := ⟨_, rfl⟩
  obtain ⟨a6, t6⟩ : ∃ a6 : Bool, (l.status == 2) = a6 := ⟨_, rfl⟩
  rw [may_tests, t0, t1, t2, t3, t4, t5, t6] at hm
  clear hg hg1 hg2 ho G
  have HZ : Hid (l.cells.size = 13) := ln_size l
  have PX : Hid (l.cells.setIfInBounds 7 (.int .i64 s) = ({ l with status := s } : Ln).cells) := show _ = _ from rfl
  have HS2 := Lib.hid (ln_info ({ l with status := s } : Ln))
  have HO2 := Lib.hid (ln_one ({ l with status := s } : Ln))
  have HZ2 : Hid (13 = ({ l with status := s } : Ln).cells.size) := show _ = _ from rfl
  generalize ({ l with status := s } : Ln).cells = D at *
  generalize l.closed = x8 at *
  generalize l.status = x7 at *
  generalize l.entered = x9 at *
  generalize l.cells = C at *
  go_enter Try.func19, Try.ntmps19
  go_upto_region 1 with fail
  rw [← e2, ← e1, ← e5, ← e4]
  clear e1 e2 e3 e4 e5
  cases a0 with
  | false =>
    cases a1 with
    | false =>
      cases a2 with
      | false =>
        cases a3 with
        | false =>
          cases a5 with
          | false =>
            clear hm
            go_wp2_with (first
              | (refine o_load rfl 23 _ rfl _ rfl _ _ _ HB.out Try.underlying23 rfl HS.out ?_)
              | (go_at_call 15; with_reducible refine (KG.out _).mono ?_; rintro e y ⟨rfl, hb⟩; replace HB := Lib.hid (HB.out.below hb); replace HR := Lib.hid (HR.out.below hb); replace HW := Lib.hid (below_to HW.out hb); clear hb; have c8 := (HB.out.cell (i := 8)).trans X8.out; have c7 := (HB.out.cell (i := 7)).trans X7.out; have c9 := (HB.out.cell (i := 9)).trans X9.out)
              | (go_at_call 52; with_reducible refine (KD.out _).mono ?_; rintro e w' ⟨rfl, rfl⟩)
              | (refine o_load rfl 23 _ rfl _ rfl _ _ _ HB.out Try.underlying23 rfl HS2.out ?_)
              | (refine o_put rfl 3 _ _ rfl rfl g 7 (.int .i64 s) rfl rfl rfl _ _ HB.out (by simp [HZ.out]) int_one ?_; intro y hr ho; rw [PX.out] at hr; replace HB := Lib.hid hr; replace HR := Lib.hid (HR.out.one ho HG.out.2.2.2); replace HW := Lib.hid (below_one_of HW.out ho HG.out.1 HW.out.size); clear hr ho)
              | (refine o_store rfl 23 _ _ rfl rfl g2 _ rfl rfl _ _ HR.out HS2.out HZ2.out HO2.out ?_; intro y hr ho; replace HB := Lib.hid (HB.out.one ho HG.out.2.2.1); replace HR := Lib.hid hr; replace HW := Lib.hid (below_one_of HW.out ho HG.out.2.1 HW.out.size); clear hr ho))
            refine bodyPost_ret (results_two rfl _ _ _ _ _ _ _ rfl HR.out Try.underlying23 rfl HS2.out rfl) rfl ?_
            exact ⟨rfl, HW.out⟩
          | true =>
            cases a6 with
            | false =>
              clear hm
              go_wp2_with (first
                | (refine o_load rfl 23 _ rfl _ rfl _ _ _ HB.out Try.underlying23 rfl HS.out ?_)
                | (go_at_call 15; with_reducible refine (KG.out _).mono ?_; rintro e y ⟨rfl, hb⟩; replace HB := Lib.hid (HB.out.below hb); replace HR := Lib.hid (HR.out.below hb); replace HW := Lib.hid (below_to HW.out hb); clear hb; have c8 := (HB.out.cell (i := 8)).trans X8.out; have c7 := (HB.out.cell (i := 7)).trans X7.out; have c9 := (HB.out.cell (i := 9)).trans X9.out)
                | (go_at_call 52; with_reducible refine (KD.out _).mono ?_; rintro e w' ⟨rfl, rfl⟩)
                | (refine o_load rfl 23 _ rfl _ rfl _ _ _ HB.out Try.underlying23 rfl HS2.out ?_)
                | (refine o_put rfl 3 _ _ rfl rfl g 7 (.int .i64 s) rfl rfl rfl _ _ HB.out (by simp [HZ.out]) int_one ?_; intro y hr ho; rw [PX.out] at hr; replace HB := Lib.hid hr; replace HR := Lib.hid (HR.out.one ho HG.out.2.2.2); replace HW := Lib.hid (below_one_of HW.out ho HG.out.1 HW.out.size); clear hr ho)
                | (refine o_store rfl 23 _ _ rfl rfl g2 _ rfl rfl _ _ HR.out HS2.out HZ2.out HO2.out ?_; intro y hr ho; replace HB := Lib.hid (HB.out.one ho HG.out.2.2.1); replace HR := Lib.hid hr; replace HW := Lib.hid (below_one_of HW.out ho HG.out.2.1 HW.out.size); clear hr ho))
              refine bodyPost_ret (results_two rfl _ _ _ _ _ _ _ rfl HR.out Try.underlying23 rfl HS2.out rfl) rfl ?_
              exact ⟨rfl, HW.out⟩
            | true =>
              simp at hm
        | true =>
          cases a4 with
          | false =>
            cases a5 with
            | false =>
              clear hm
              go_wp2_with (first
                | (refine o_load rfl 23 _ rfl _ rfl _ _ _ HB.out Try.underlying23 rfl HS.out ?_)
                | (go_at_call 15; with_reducible refine (KG.out _).mono ?_; rintro e y ⟨rfl, hb⟩; replace HB := Lib.hid (HB.out.below hb); replace HR := Lib.hid (HR.out.below hb); replace HW := Lib.hid (below_to HW.out hb); clear hb; have c8 := (HB.out.cell (i := 8)).trans X8.out; have c7 := (HB.out.cell (i := 7)).trans X7.out; have c9 := (HB.out.cell (i := 9)).trans X9.out)
                | (go_at_call 52; with_reducible refine (KD.out _).mono ?_; rintro e w' ⟨rfl, rfl⟩)
                | (refine o_load rfl 23 _ rfl _ rfl _ _ _ HB.out Try.underlying23 rfl HS2.out ?_)
                | (refine o_put rfl 3 _ _ rfl rfl g 7 (.int .i64 s) rfl rfl rfl _ _ HB.out (by simp [HZ.out]) int_one ?_; intro y hr ho; rw [PX.out] at hr; replace HB := Lib.hid hr; replace HR := Lib.hid (HR.out.one ho HG.out.2.2.2); replace HW := Lib.hid (below_one_of HW.out ho HG.out.1 HW.out.size); clear hr ho)
                | (refine o_store rfl 23 _ _ rfl rfl g2 _ rfl rfl _ _ HR.out HS2.out HZ2.out HO2.out ?_; intro y hr ho; replace HB := Lib.hid (HB.out.one ho HG.out.2.2.1); replace HR := Lib.hid hr; replace HW := Lib.hid (below_one_of HW.out ho HG.out.2.1 HW.out.size); clear hr ho))
              refine bodyPost_ret (results_two rfl _ _ _ _ _ _ _ rfl HR.out Try.underlying23 rfl HS2.out rfl) rfl ?_
              exact ⟨rfl, HW.out⟩
            | true =>
              cases a6 with
              | false =>
                clear hm
                go_wp2_with (first
                  | (refine o_load rfl 23 _ rfl _ rfl _ _ _ HB.out Try.underlying23 rfl HS.out ?_)
                  | (go_at_call 15; with_reducible refine (KG.out _).mono ?_; rintro e y ⟨rfl, hb⟩; replace HB := Lib.hid (HB.out.below hb); replace HR := Lib.hid (HR.out.below hb); replace HW := Lib.hid (below_to HW.out hb); clear hb; have c8 := (HB.out.cell (i := 8)).trans X8.out; have c7 := (HB.out.cell (i := 7)).trans X7.out; have c9 := (HB.out.cell (i := 9)).trans X9.out)
                  | (go_at_call 52; with_reducible refine (KD.out _).mono ?_; rintro e w' ⟨rfl, rfl⟩)
                  | (refine o_load rfl 23 _ rfl _ rfl _ _ _ HB.out Try.underlying23 rfl HS2.out ?_)
                  | (refine o_put rfl 3 _ _ rfl rfl g 7 (.int .i64 s) rfl rfl rfl _ _ HB.out (by simp [HZ.out]) int_one ?_; intro y hr ho; rw [PX.out] at hr; replace HB := Lib.hid hr; replace HR := Lib.hid (HR.out.one ho HG.out.2.2.2); replace HW := Lib.hid (below_one_of HW.out ho HG.out.1 HW.out.size); clear hr ho)
                  | (refine o_store rfl 23 _ _ rfl rfl g2 _ rfl rfl _ _ HR.out HS2.out HZ2.out HO2.out ?_; intro y hr ho; replace HB := Lib.hid (HB.out.one ho HG.out.2.2.1); replace HR := Lib.hid hr; replace HW := Lib.hid (below_one_of HW.out ho HG.out.2.1 HW.out.size); clear hr ho))
                refine bodyPost_ret (results_two rfl _ _ _ _ _ _ _ rfl HR.out Try.underlying23 rfl HS2.out rfl) rfl ?_
                exact ⟨rfl, HW.out⟩
              | true =>
                simp at hm
          | true =>
            simp at hm
      | true =>
        simp at hm
    | true =>
      simp at hm
  | true =>
    simp at hm
set_option maxRecDepth 20000 in
set_option maxHeartbeats 2000000 in
theorem turn_over (l : Ln) (d : Int) (w : World) (hg : (goodL l && dayB d) = true) (ho : openB l = true) (hm : mayB l 5 = true) (hl : ¬ l.prin + centsL l ≤ 10000000000000) : Calls Try.prog 19 #[.agg l.cells, .int .i64 5, .int .i64 d] w fun e w' => e = .returned (.tuple #[.agg (ln0).cells, .int .i64 14]) ∧ Below w.heap.size w w' := by
  obtain ⟨g, wb, e1, e2, hB, hb⟩ := boxd_new w l.cells 23
  obtain ⟨g2, wc, e3, e4, hB2, hb2⟩ := boxd_new wb #[.int .i64 0, .int .i64 0, .int .i64 0, .int .i64 0, .int .i64 0, .int .i64 0, .bool false, .int .i64 0, .int .i64 0, .int .i64 0, .int .i64 0, .int .i64 0, .int .i64 0] 23
  have e5 : g2 = g + 1 := by rw [e3, e2, Deep.nblk_alloc, e1]
  have HB : Hid (Boxd wc g l.cells 23) := hB.below hb2
  have HR : Hid (Boxd wc g2 #[.int .i64 0, .int .i64 0, .int .i64 0, .int .i64 0, .int .i64 0, .int .i64 0, .bool false, .int .i64 0, .int .i64 0, .int .i64 0, .int .i64 0, .int .i64 0, .int .i64 0] 23) := hB2
  have HW : Hid (Below w.heap.size w wc) := below_to hb hb2
  have HG : Hid (w.heap.size ≤ g ∧ w.heap.size ≤ g2 ∧ ¬ g = g2 ∧ ¬ g2 = g) := show _ ∧ _ ∧ ¬ _ ∧ ¬ _ by omega
  clear hB hB2 hb hb2
  have HS := Lib.hid (ln_info l)
  have HS0 := Lib.hid (ln_info ln0)
  have HO0 := Lib.hid (ln_one ln0)
  obtain ⟨hg1, hg2⟩ := Bool.and_eq_true_iff.1 hg
  have G := goodL_iff.1 hg1
  have KG := Lib.hid (fun W => r_good l W)
  have KD : Hid (∀ W, Calls Try.prog 52 #[.int .i64 d] W fun e w' => e = .returned (.bool (dayB d)) ∧ W = w') := fun W => day_r d W
  rw [hg1] at KG
  rw [hg2] at KD
  have t8 := open_test ho
  have X8 : Hid (l.cells[8]? = some (.int .i64 l.closed)) := show _ = _ from rfl
  have X7 : Hid (l.cells[7]? = some (.int .i64 l.status)) := show _ = _ from rfl
  have X9 : Hid (l.cells[9]? = some (.int .i64 l.entered)) := show _ = _ from rfl
  have t2 : ((5 : Int) == l.status) = false := by
    rw [may_tests] at hm
    cases hq : ((5 : Int) == l.status) with
    | false => rfl
    | true => rw [hq] at hm; simp at hm
  have KC := Lib.hid (fun W => r_cap l W)
  rw [show capR l = (ln0, 14) by unfold capR capO; simp only [hg1, ho, if_neg hl]; rfl] at KC
  clear hg hg1 hg2 ho hm hl G
  generalize l.closed = x8 at *
  generalize l.status = x7 at *
  generalize l.entered = x9 at *
  generalize l.cells = C at *
  go_enter Try.func19, Try.ntmps19
  go_upto_region 1 with fail
  rw [← e2, ← e1, ← e5, ← e4]
  clear e1 e2 e3 e4 e5
  go_upto_region 9 with (first
    | (refine o_load rfl 23 _ rfl _ rfl _ _ _ HB.out Try.underlying23 rfl HS.out ?_)
    | (go_at_call 15; with_reducible refine (KG.out _).mono ?_; rintro e y ⟨rfl, hb⟩; replace HB := Lib.hid (HB.out.below hb); replace HR := Lib.hid (HR.out.below hb); replace HW := Lib.hid (below_to HW.out hb); clear hb; have c8 := (HB.out.cell (i := 8)).trans X8.out; have c7 := (HB.out.cell (i := 7)).trans X7.out; have c9 := (HB.out.cell (i := 9)).trans X9.out)
    | (go_at_call 52; with_reducible refine (KD.out _).mono ?_; rintro e w' ⟨rfl, rfl⟩)
    | (go_at_call 13; with_reducible refine (KC.out _).mono ?_; rintro e y ⟨rfl, hb⟩; replace HB := Lib.hid (HB.out.below hb); replace HR := Lib.hid (HR.out.below hb); replace HW := Lib.hid (below_to HW.out hb); clear hb)
    | (refine o_store rfl 23 _ _ rfl rfl _ _ rfl rfl _ _ (heap_alloc_last _ _) HS0.out rfl HO0.out ?_; intro y2 hr ho; have NE : Hid (¬ g = y.heap.size ∧ ¬ g2 = y.heap.size) := show ¬ _ ∧ ¬ _ from ⟨Nat.ne_of_lt HB.out.lt, Nat.ne_of_lt HR.out.lt⟩; have HK := Lib.hid hr; replace HB := Lib.hid ((HB.out.below (below_one _ _)).one ho NE.out.1); replace HR := Lib.hid ((HR.out.below (below_one _ _)).one ho NE.out.2); replace HW := Lib.hid (below_one_of (below_to HW.out (below_one _ _)) ho HW.out.size (below_to HW.out (below_one _ _)).size); clear hr ho))
  go_wp2_with (first
    | (refine o_store rfl 23 _ _ rfl rfl g2 _ rfl rfl _ _ HR.out HS0.out rfl HO0.out ?_; intro y hr ho; replace HB := Lib.hid (HB.out.one ho HG.out.2.2.1); replace HR := Lib.hid hr; replace HW := Lib.hid (below_one_of HW.out ho HG.out.2.1 HW.out.size); clear hr ho))
  refine bodyPost_ret (results_two rfl _ _ _ _ _ _ _ rfl HR.out Try.underlying23 rfl HS0.out rfl) rfl ?_
  exact ⟨rfl, HW.out⟩
set_option maxRecDepth 20000 in
set_option maxHeartbeats 2000000 in
theorem turn_repay (l : Ln) (d : Int) (w : World) (hg : (goodL l && dayB d) = true) (ho : openB l = true) (hm : mayB l 5 = true) (hl : l.prin + centsL l ≤ 10000000000000) : Calls Try.prog 19 #[.agg l.cells, .int .i64 5, .int .i64 d] w fun e w' => e = .returned (.tuple #[.agg (({ capL l with entered := d, status := 5 } : Ln)).cells, .int .i64 0]) ∧ Below w.heap.size w w' := by
  obtain ⟨g, wb, e1, e2, hB, hb⟩ := boxd_new w l.cells 23
  obtain ⟨g2, wc, e3, e4, hB2, hb2⟩ := boxd_new wb #[.int .i64 0, .int .i64 0, .int .i64 0, .int .i64 0, .int .i64 0, .int .i64 0, .bool false, .int .i64 0, .int .i64 0, .int .i64 0, .int .i64 0, .int .i64 0, .int .i64 0] 23
  have e5 : g2 = g + 1 := by rw [e3, e2, Deep.nblk_alloc, e1]
  have HB : Hid (Boxd wc g l.cells 23) := hB.below hb2
  have HR : Hid (Boxd wc g2 #[.int .i64 0, .int .i64 0, .int .i64 0, .int .i64 0, .int .i64 0, .int .i64 0, .bool false, .int .i64 0, .int .i64 0, .int .i64 0, .int .i64 0, .int .i64 0, .int .i64 0] 23) := hB2
  have HW : Hid (Below w.heap.size w wc) := below_to hb hb2
  have HG : Hid (w.heap.size ≤ g ∧ w.heap.size ≤ g2 ∧ ¬ g = g2 ∧ ¬ g2 = g) := show _ ∧ _ ∧ ¬ _ ∧ ¬ _ by omega
  clear hB hB2 hb hb2
  have HS := Lib.hid (ln_info l)
  have HS0 := Lib.hid (ln_info ln0)
  have HO0 := Lib.hid (ln_one ln0)
  obtain ⟨hg1, hg2⟩ := Bool.and_eq_true_iff.1 hg
  have G := goodL_iff.1 hg1
  have KG := Lib.hid (fun W => r_good l W)
  have KD : Hid (∀ W, Calls Try.prog 52 #[.int .i64 d] W fun e w' => e = .returned (.bool (dayB d)) ∧ W = w') := fun W => day_r d W
  rw [hg1] at KG
  rw [hg2] at KD
  have t8 := open_test ho
  have X8 : Hid (l.cells[8]? = some (.int .i64 l.closed)) := show _ = _ from rfl
  have X7 : Hid (l.cells[7]? = some (.int .i64 l.status)) := show _ = _ from rfl
  have X9 : Hid (l.cells[9]? = some (.int .i64 l.entered)) := show _ = _ from rfl
  have t2 : ((5 : Int) == l.status) = false := by
    rw [may_tests] at hm
    cases hq : ((5 : Int) == l.status) with
    | false => rfl
    | true => rw [hq] at hm; simp at hm
  have KC := Lib.hid (fun W => r_cap l W)
  rw [show capR l = (capL l, 0) by unfold capR capO; simp only [hg1, ho, if_pos hl]; rfl] at KC
  clear hg hg1 hg2 ho hm hl G
  have HS2 := Lib.hid (ln_info ({ capL l with entered := d, status := 5 } : Ln))
  have HO2 := Lib.hid (ln_one ({ capL l with entered := d, status := 5 } : Ln))
  have HZ2 : Hid (13 = ({ capL l with entered := d, status := 5 } : Ln).cells.size) := show _ = _ from rfl
  have HS1 := Lib.hid (ln_info (capL l))
  have HO1 := Lib.hid (ln_one (capL l))
  have HZA : Hid (13 = (capL l).cells.size) := show _ = _ from rfl
  have HZB : Hid (l.cells.size = (capL l).cells.size) := show _ = _ from rfl
  have HZ1 : Hid ((capL l).cells.size = 13) := ln_size _
  have HZ3 : Hid (({ capL l with entered := d } : Ln).cells.size = 13) := ln_size _
  have PX : Hid ((capL l).cells.setIfInBounds 9 (.int .i64 d) = ({ capL l with entered := d } : Ln).cells) := show _ = _ from rfl
  have PY : Hid (({ capL l with entered := d } : Ln).cells.setIfInBounds 7 (.int .i64 5) = ({ capL l with entered := d, status := 5 } : Ln).cells) := show _ = _ from rfl
  generalize ({ capL l with entered := d, status := 5 } : Ln).cells = D3 at *
  generalize ({ capL l with entered := d } : Ln).cells = D2 at *
  generalize (capL l).cells = D1 at *
  generalize l.closed = x8 at *
  generalize l.status = x7 at *
  generalize l.entered = x9 at *
  generalize l.cells = C at *
  go_enter Try.func19, Try.ntmps19
  go_upto_region 1 with fail
  rw [← e2, ← e1, ← e5, ← e4]
  clear e1 e2 e3 e4 e5
  go_upto_region 9 with (first
    | (refine o_load rfl 23 _ rfl _ rfl _ _ _ HB.out Try.underlying23 rfl HS.out ?_)
    | (go_at_call 15; with_reducible refine (KG.out _).mono ?_; rintro e y ⟨rfl, hb⟩; replace HB := Lib.hid (HB.out.below hb); replace HR := Lib.hid (HR.out.below hb); replace HW := Lib.hid (below_to HW.out hb); clear hb; have c8 := (HB.out.cell (i := 8)).trans X8.out; have c7 := (HB.out.cell (i := 7)).trans X7.out; have c9 := (HB.out.cell (i := 9)).trans X9.out)
    | (go_at_call 52; with_reducible refine (KD.out _).mono ?_; rintro e w' ⟨rfl, rfl⟩)
    | (go_at_call 13; with_reducible refine (KC.out _).mono ?_; rintro e y ⟨rfl, hb⟩; replace HB := Lib.hid (HB.out.below hb); replace HR := Lib.hid (HR.out.below hb); replace HW := Lib.hid (below_to HW.out hb); clear hb)
    | (refine o_store rfl 23 _ _ rfl rfl _ _ rfl rfl _ _ (heap_alloc_last _ _) HS1.out HZA.out HO1.out ?_; intro y2 hr ho; have NE : Hid (¬ g = y.heap.size ∧ ¬ g2 = y.heap.size) := show ¬ _ ∧ ¬ _ from ⟨Nat.ne_of_lt HB.out.lt, Nat.ne_of_lt HR.out.lt⟩; have HK := Lib.hid hr; replace HB := Lib.hid ((HB.out.below (below_one _ _)).one ho NE.out.1); replace HR := Lib.hid ((HR.out.below (below_one _ _)).one ho NE.out.2); replace HW := Lib.hid (below_one_of (below_to HW.out (below_one _ _)) ho HW.out.size (below_to HW.out (below_one _ _)).size); clear hr ho))
  go_wp2_with (first
    | (refine o_load rfl 23 _ rfl _ rfl _ _ _ HK.out Try.underlying23 rfl HS1.out ?_)
    | (refine o_load rfl 23 _ rfl _ rfl _ _ _ HB.out Try.underlying23 rfl HS2.out ?_)
    | (refine o_store rfl 23 _ _ rfl rfl g _ rfl rfl _ _ HB.out HS1.out HZB.out HO1.out ?_; intro y3 hr ho; replace HB := Lib.hid hr; replace HR := Lib.hid (HR.out.one ho HG.out.2.2.2); replace HW := Lib.hid (below_one_of HW.out ho HG.out.1 HW.out.size); clear hr ho)
    | (refine o_put rfl 3 _ _ rfl rfl g 9 (.int .i64 d) rfl rfl rfl _ _ HB.out (by simp [HZ1.out]) int_one ?_; intro y hr ho; rw [PX.out] at hr; replace HB := Lib.hid hr; replace HR := Lib.hid (HR.out.one ho HG.out.2.2.2); replace HW := Lib.hid (below_one_of HW.out ho HG.out.1 HW.out.size); clear hr ho)
    | (refine o_put rfl 3 _ _ rfl rfl g 7 (.int .i64 5) rfl rfl rfl _ _ HB.out (by simp [HZ3.out]) int_one ?_; intro y hr ho; rw [PY.out] at hr; replace HB := Lib.hid hr; replace HR := Lib.hid (HR.out.one ho HG.out.2.2.2); replace HW := Lib.hid (below_one_of HW.out ho HG.out.1 HW.out.size); clear hr ho)
    | (refine o_store rfl 23 _ _ rfl rfl g2 _ rfl rfl _ _ HR.out HS2.out HZ2.out HO2.out ?_; intro y hr ho; replace HB := Lib.hid (HB.out.one ho HG.out.2.2.1); replace HR := Lib.hid hr; replace HW := Lib.hid (below_one_of HW.out ho HG.out.2.1 HW.out.size); clear hr ho))
  refine bodyPost_ret (results_two rfl _ _ _ _ _ _ _ rfl HR.out Try.underlying23 rfl HS2.out rfl) rfl ?_
  exact ⟨rfl, HW.out⟩
theorem r_turn (l : Ln) (s d : Int) (w : World) : Calls Try.prog 19 #[.agg l.cells, .int .i64 s, .int .i64 d] w fun e w' => e = .returned (.tuple #[.agg (turnR l s d).1.cells, .int .i64 (turnR l s d).2]) ∧ Below w.heap.size w w' := by
  cases hg : (goodL l && dayB d) with
  | false =>
    rw [show turnR l s d = (ln0, 1) by unfold turnR; simp only [hg]; rfl]
    exact turn_arg l s d w hg
  | true =>
    cases ho : openB l with
    | false =>
      rw [show turnR l s d = (ln0, 61) by unfold turnR; simp only [hg, ho]; rfl]
      exact turn_gone l s d w hg ho
    | true =>
      cases hm : mayB l s with
      | false =>
        rw [show turnR l s d = (ln0, 62) by unfold turnR; simp only [hg, ho, hm]; rfl]
        exact turn_no l s d w hg ho hm
      | true =>
        rw [show turnR l s d = turnO l s d by unfold turnR; simp only [hg, ho, hm]; rfl]
        unfold turnO
        by_cases h5 : s = 5
        · rw [if_pos h5]
          subst h5
          by_cases hl : l.prin + centsL l ≤ 10000000000000
          · rw [if_pos hl]
            exact turn_repay l d w hg ho hm hl
          · rw [if_neg hl]
            exact turn_over l d w hg ho hm hl
        · rw [if_neg h5]
          exact turn_ok l s d w hg ho hm (by rw [beq_eq_false_iff_ne]; exact h5)
end Go.Proofs.Ytkegmgjagcefhaa.RLoan
