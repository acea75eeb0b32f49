/- The program's own package loan: what panics, what makes a new loan. -/
import Derived.Test.YtkegmgjagcefhaaLoanC1
namespace Go.Proofs.Ytkegmgjagcefhaa.Loan
open Go.ChangeShapes Go.WideShapes Go.ChangeAt Go.RowKit Accr Box

/-- The panic that tells an error. -/
def errL (x : Int) : List PanicEntry := [{ v := .iface 24 (.int .i64 x), recovered := false }]
theorem need_ok (x : Int) (w : World) : Calls Try.prog 30 #[.bool true, .int .i64 x] w fun e w' => e = .returned (.tuple #[]) ∧ w = w' := by
  go_enter Try.func30, Try.ntmps30
  go_wp2
  simp [bodyPost, results, Try.results30]
theorem need_bad (x : Int) (w : World) : Calls Try.prog 30 #[.bool false, .int .i64 x] w fun e w' => e = .panicked (errL x) ∧ w = w' := by
  go_enter Try.func30, Try.ntmps30
  go_wp2
  exact ⟨rfl, rfl, rfl⟩
theorem must_ok (n : Int) (w : World) : Calls Try.prog 39 #[.int .i64 n, .int .i64 0] w fun e w' => e = .returned (.int .i64 n) ∧ w = w' := by
  go_enter Try.func39, Try.ntmps39
  go_wp2_with fail
  refine (need_ok _ _).mono ?_
  rintro e w' ⟨rfl, rfl⟩
  go_wp2_with fail
  go_ret
  exact ⟨rfl, rfl⟩
theorem must_bad (n x : Int) (w : World) (h : (x == 0) = false) : Calls Try.prog 39 #[.int .i64 n, .int .i64 x] w fun e w' => e = .panicked (errL x) ∧ w = w' := by
  go_enter Try.func39, Try.ntmps39
  go_wp2_with fail
  refine (need_bad _ _).mono ?_
  rintro e w' ⟨rfl, rfl⟩
  go_wp2_with fail
  exact ⟨rfl, rfl, rfl⟩
theorem open_ok (l : Ln) (fits : Bool) (w : World) (hg : (goodL l && fits) = true) (ho : openB l = true) : Calls Try.prog 42 #[.agg l.cells, .bool fits] w fun e w' => e = .returned (.tuple #[]) ∧ Below w.heap.size w w' := by
  obtain ⟨g, wb, e1, e2, hB, hb⟩ := boxd_new w l.cells 23
  have HB := Lib.hid hB
  have HW := Lib.hid hb
  clear hB hb
  have HS := Lib.hid (ln_info l)
  have KG := Lib.hid (fun W => good_c l W)
  have KO := Lib.hid (fun W => open_c l W)
  obtain ⟨h1, rfl⟩ : goodL l = true ∧ fits = true := by simpa using hg
  rw [h1] at KG
  rw [ho] at KO
  clear hg ho h1
  generalize l.cells = C at *
  go_enter Try.func42, Try.ntmps42
  go_upto_region 1 with fail
  rw [← e2, ← e1]
  clear e1 e2
  go_wp2_with (first
    | (refine o_load rfl 23 _ rfl _ rfl _ _ _ HB.out Try.underlying23 rfl HS.out ?_)
    | (go_at_call 14; refine (KG.out _).mono ?_; rintro e y ⟨rfl, hb⟩; replace HB := Lib.hid (HB.out.below hb); replace HW := Lib.hid (below_to HW.out hb); clear hb)
    | (go_at_call 37; refine (KO.out _).mono ?_; rintro e y ⟨rfl, hb⟩; replace HB := Lib.hid (HB.out.below hb); replace HW := Lib.hid (below_to HW.out hb); clear hb)
    | (go_at_call 30; with_reducible refine (need_ok _ _).mono ?_; rintro e w' ⟨rfl, rfl⟩))
  simp [bodyPost, results, Try.results42]
  exact HW.out
theorem open_arg (l : Ln) (fits : Bool) (w : World) (hg : (goodL l && fits) = false) : Calls Try.prog 42 #[.agg l.cells, .bool fits] w fun e w' => e = .panicked (errL 1) ∧ Below w.heap.size w w' := by
  obtain ⟨g, wb, e1, e2, hB, hb⟩ := boxd_new w l.cells 23
  have HB := Lib.hid hB
  have HW := Lib.hid hb
  clear hB hb
  have HS := Lib.hid (ln_info l)
  have KG := Lib.hid (fun W => good_c l W)
  have KO := Lib.hid (fun W => open_c l W)
  generalize goodL l = b at *
  generalize l.cells = C at *
  clear KO
  go_enter Try.func42, Try.ntmps42
  go_upto_region 1 with fail
  rw [← e2, ← e1]
  clear e1 e2
  cases b with
  | true =>
    cases fits with
    | true => cases hg
    | false =>
      clear hg
      go_wp2_with (first
        | (refine o_load rfl 23 _ rfl _ rfl _ _ _ HB.out Try.underlying23 rfl HS.out ?_)
        | (go_at_call 14; refine (KG.out _).mono ?_; rintro e y ⟨rfl, hb⟩; replace HB := Lib.hid (HB.out.below hb); replace HW := Lib.hid (below_to HW.out hb); clear hb)
        | (go_at_call 30; with_reducible refine (need_bad _ _).mono ?_; rintro e w' ⟨rfl, rfl⟩))
      exact ⟨rfl, rfl, HW.out⟩
  | false =>
    clear hg
    go_wp2_with (first
      | (refine o_load rfl 23 _ rfl _ rfl _ _ _ HB.out Try.underlying23 rfl HS.out ?_)
      | (go_at_call 14; refine (KG.out _).mono ?_; rintro e y ⟨rfl, hb⟩; replace HB := Lib.hid (HB.out.below hb); replace HW := Lib.hid (below_to HW.out hb); clear hb)
      | (go_at_call 30; with_reducible refine (need_bad _ _).mono ?_; rintro e w' ⟨rfl, rfl⟩))
    exact ⟨rfl, rfl, HW.out⟩
theorem open_gone (l : Ln) (fits : Bool) (w : World) (hg : (goodL l && fits) = true) (ho : openB l = false) : Calls Try.prog 42 #[.agg l.cells, .bool fits] w fun e w' => e = .panicked (errL 61) ∧ Below w.heap.size w w' := by
  obtain ⟨g, wb, e1, e2, hB, hb⟩ := boxd_new w l.cells 23
  have HB := Lib.hid hB
  have HW := Lib.hid hb
  clear hB hb
  have HS := Lib.hid (ln_info l)
  have KG := Lib.hid (fun W => good_c l W)
  have KO := Lib.hid (fun W => open_c l W)
  obtain ⟨h1, rfl⟩ : goodL l = true ∧ fits = true := by simpa using hg
  rw [h1] at KG
  rw [ho] at KO
  clear hg ho h1
  generalize l.cells = C at *
  go_enter Try.func42, Try.ntmps42
  go_upto_region 1 with fail
  rw [← e2, ← e1]
  clear e1 e2
  go_wp2_with (first
    | (refine o_load rfl 23 _ rfl _ rfl _ _ _ HB.out Try.underlying23 rfl HS.out ?_)
    | (go_at_call 14; refine (KG.out _).mono ?_; rintro e y ⟨rfl, hb⟩; replace HB := Lib.hid (HB.out.below hb); replace HW := Lib.hid (below_to HW.out hb); clear hb)
    | (go_at_call 37; refine (KO.out _).mono ?_; rintro e y ⟨rfl, hb⟩; replace HB := Lib.hid (HB.out.below hb); replace HW := Lib.hid (below_to HW.out hb); clear hb)
    | (go_at_call 30; with_reducible refine (need_ok _ _).mono ?_; rintro e w' ⟨rfl, rfl⟩)
    | (go_at_call 30; with_reducible refine (need_bad _ _).mono ?_; rintro e w' ⟨rfl, rfl⟩))
  exact ⟨rfl, rfl, HW.out⟩
set_option maxRecDepth 20000 in
theorem closed_c (l : Ln) (how : Int) (w : World) : Calls Try.prog 61 #[.agg l.cells, .int .i64 how] w fun e w' => e = .returned (.agg (shutL l how).cells) ∧ Below w.heap.size w w' := by
  obtain ⟨g, wb, e1, e2, hB, hb⟩ := boxd_new w l.cells 23
  obtain ⟨g2, wc, e3, e4, hB2, hb2⟩ := boxd_new wb #[.int .i64 0, .int .i64 0, .int .i64 0, .int .i64 0, .int .i64 0, .int .i64 0, .bool false, .int .i64 0, .int .i64 0, .int .i64 0, .int .i64 0, .int .i64 0, .int .i64 0] 23
  have e5 : g2 = g + 1 := by rw [e3, e2, Deep.nblk_alloc, e1]
  have HB : Hid (Boxd wc g l.cells 23) := hB.below hb2
  have HR : Hid (Boxd wc g2 #[.int .i64 0, .int .i64 0, .int .i64 0, .int .i64 0, .int .i64 0, .int .i64 0, .bool false, .int .i64 0, .int .i64 0, .int .i64 0, .int .i64 0, .int .i64 0, .int .i64 0] 23) := hB2
  have HW : Hid (Below w.heap.size w wc) := below_to hb hb2
  have HG : Hid (w.heap.size ≤ g ∧ w.heap.size ≤ g2 ∧ ¬ g = g2 ∧ ¬ g2 = g) := show _ ∧ _ ∧ ¬ _ ∧ ¬ _ by omega
  clear hB hB2 hb hb2
  have P1 : Hid ((((l.cells.setIfInBounds 1 (.int .i64 0)).setIfInBounds 2 (.int .i64 0)).setIfInBounds 4 (.int .i64 0)).setIfInBounds 8 (.int .i64 how) = (shutL l how).cells) := show _ = _ from rfl
  have HS := Lib.hid (ln_info (shutL l how))
  have HO := Lib.hid (ln_one (shutL l how))
  have HZ : Hid (l.cells.size = 13) := ln_size l
  have HZ2 : Hid (13 = (shutL l how).cells.size) := show _ = _ from rfl
  generalize (shutL l how).cells = D at *
  generalize l.cells = C at *
  go_enter Try.func61, Try.ntmps61
  go_upto_region 1 with fail
  rw [← e2, ← e1, ← e5, ← e4]
  clear e1 e2 e3 e4 e5
  go_upto_region 2 with (first
    | (refine o_put rfl 2 _ _ rfl rfl g 1 (.int .i64 0) rfl rfl rfl _ _ HB.out (by simp [HZ.out]) i64_one ?_; intro y hr ho; replace HB := Lib.hid hr; replace HR := Lib.hid (HR.out.one ho HG.out.2.2.2); replace HW := Lib.hid (below_one_of HW.out ho HG.out.1 HW.out.size); clear hr ho)
    | (refine o_put rfl 2 _ _ rfl rfl g 2 (.int .i64 0) rfl rfl rfl _ _ HB.out (by simp [HZ.out]) i64_one ?_; intro y hr ho; replace HB := Lib.hid hr; replace HR := Lib.hid (HR.out.one ho HG.out.2.2.2); replace HW := Lib.hid (below_one_of HW.out ho HG.out.1 HW.out.size); clear hr ho)
    | (refine o_put rfl 2 _ _ rfl rfl g 4 (.int .i64 0) rfl rfl rfl _ _ HB.out (by simp [HZ.out]) i64_one ?_; intro y hr ho; replace HB := Lib.hid hr; replace HR := Lib.hid (HR.out.one ho HG.out.2.2.2); replace HW := Lib.hid (below_one_of HW.out ho HG.out.1 HW.out.size); clear hr ho)
    | (refine o_put rfl 3 _ _ rfl rfl g 8 (.int .i64 how) rfl rfl rfl _ _ HB.out (by simp [HZ.out]) int_one ?_; intro y hr ho; replace HB := Lib.hid hr; replace HR := Lib.hid (HR.out.one ho HG.out.2.2.2); replace HW := Lib.hid (below_one_of HW.out ho HG.out.1 HW.out.size); clear hr ho))
  rw [P1.out] at HB
  go_wp2_with (first
    | (refine o_load rfl 23 _ rfl _ rfl _ _ _ HB.out Try.underlying23 rfl HS.out ?_)
    | (refine o_store rfl 23 _ _ rfl rfl _ _ rfl rfl _ _ HR.out HS.out HZ2.out HO.out ?_; intro y hr ho; replace HR := Lib.hid hr; replace HW := Lib.hid (below_one_of HW.out ho HG.out.2.1 HW.out.size); clear hr ho))
  refine bodyPost_ret (results_cell_row rfl _ _ _ _ _ _ _ rfl HR.out Try.underlying23 rfl HS.out) rfl ?_
  exact ⟨rfl, HW.out⟩
theorem may_c (l : Ln) (s : Int) (w : World) : Calls Try.prog 51 #[.agg l.cells, .int .i64 s] w fun e w' => e = .returned (.bool (mayB l s)) ∧ Below w.heap.size w w' := by
  obtain ⟨g, wb, e1, e2, hB, hb⟩ := boxd_new w l.cells 23
  have c7 : wb.cell? ⟨g, 7, none⟩ = some (.int .i64 l.status) := hB.cell
  have c9 : wb.cell? ⟨g, 9, none⟩ = some (.int .i64 l.entered) := hB.cell
  have HW := Lib.hid hb
  clear hB hb
  have K0 := Lib.hid (fun W => status_c s W)
  unfold mayB
  generalize wB s 1 5 = b0 at *
  generalize l.status = x at *
  generalize l.entered = n at *
  generalize l.cells = C at *
  obtain ⟨b1, t1⟩ : ∃ b1 : Bool, (s == x) = b1 := ⟨_, rfl⟩
  obtain ⟨b2, t2⟩ : ∃ b2 : Bool, decide (n < 0) = b2 := ⟨_, rfl⟩
  obtain ⟨b3, t3⟩ : ∃ b3 : Bool, (x == 2) = b3 := ⟨_, rfl⟩
  rw [t1, t2, t3]
  have t4 : (x != 2) = !b3 := by rw [← t3]; rfl
  obtain ⟨b4, t5⟩ : ∃ b4 : Bool, (if s = 1 then b2 && !b3 else if s = 2 then b2 else true) = b4 := ⟨_, rfl⟩
  rw [t5]
  go_enter Try.func51, Try.ntmps51
  go_upto_region 1 with fail
  rw [← e2, ← e1]
  clear e1 e2
  cases b0 with
  | false =>
    go_wp2_with (go_at_call 78; refine (K0.out _).mono ?_; rintro e w' ⟨rfl, rfl⟩)
    go_ret
    exact ⟨rfl, HW.out⟩
  | true =>
    cases b1 with
    | true =>
      go_wp2_with (go_at_call 78; refine (K0.out _).mono ?_; rintro e w' ⟨rfl, rfl⟩)
      go_ret
      exact ⟨rfl, HW.out⟩
    | false =>
      by_cases hs1 : s = 1
      · subst hs1
        rw [if_pos rfl] at t5
        subst t5
        cases b2 with
        | false =>
          go_wp2_with (go_at_call 78; refine (K0.out _).mono ?_; rintro e w' ⟨rfl, rfl⟩)
          go_ret
          exact ⟨rfl, HW.out⟩
        | true =>
          cases b3 with
          | false =>
            go_wp2_with (go_at_call 78; refine (K0.out _).mono ?_; rintro e w' ⟨rfl, rfl⟩)
            go_ret
            exact ⟨rfl, HW.out⟩
          | true =>
            go_wp2_with (go_at_call 78; refine (K0.out _).mono ?_; rintro e w' ⟨rfl, rfl⟩)
            go_ret
            exact ⟨rfl, HW.out⟩
      · rw [if_neg hs1] at t5
        have q1 : (s == 1) = false := by rw [beq_eq_false_iff_ne]; exact hs1
        by_cases hs2 : s = 2
        · subst hs2
          rw [if_pos rfl] at t5
          subst t5
          clear q1
          cases b2 with
          | false =>
            go_wp2_with (go_at_call 78; refine (K0.out _).mono ?_; rintro e w' ⟨rfl, rfl⟩)
            go_ret
            exact ⟨rfl, HW.out⟩
          | true =>
            go_wp2_with (go_at_call 78; refine (K0.out _).mono ?_; rintro e w' ⟨rfl, rfl⟩)
            go_ret
            exact ⟨rfl, HW.out⟩
        · rw [if_neg hs2] at t5
          subst t5
          have q2 : (s == 2) = false := by rw [beq_eq_false_iff_ne]; exact hs2
          go_wp2_with (go_at_call 78; refine (K0.out _).mono ?_; rintro e w' ⟨rfl, rfl⟩)
          go_ret
          exact ⟨rfl, HW.out⟩
end Go.Proofs.Ytkegmgjagcefhaa.Loan
