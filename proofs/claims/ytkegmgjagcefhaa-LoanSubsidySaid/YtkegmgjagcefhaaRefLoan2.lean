/- The document's own package of layer 14: Owes, Accrue, Capitalize; two loans alike. -/
import Derived.Test.YtkegmgjagcefhaaRefLoan
import Derived.Test.YtkegmgjagcefhaaLoanPlain
namespace Go.Proofs.Ytkegmgjagcefhaa.RLoan
open Go.ChangeShapes Go.WideShapes Go.ChangeAt Go.RowKit Accr Box Loan Money

theorem radd3 (a b : Int) (w : World) (a0 : 0 ≤ a) (a1 : a ≤ 10000000000000) (b0 : 0 ≤ b) (b1 : b ≤ 10000000000000) :
    Calls Try.prog 32 #[.int .i64 a, .int .i64 b] w fun e w' => e = .returned (.tuple #[.int .i64 (if a + b ≤ 10000000000000 then a + b else 0), .int .i64 (if a + b ≤ 10000000000000 then 0 else 14)]) ∧ w = w' := by
  have h := Ref.add_tells a b w
  by_cases hq : a + b ≤ 10000000000000
  · rw [plusO_some (by simp only [goodB_iff]; omega)] at h
    rw [if_pos hq, if_pos hq]
    exact h
  · rw [plusO_none (by simp only [goodB_iff]; omega)] at h
    rw [if_neg hq, if_neg hq]
    exact h
set_option maxRecDepth 20000 in
set_option maxHeartbeats 2000000 in
theorem alike (l : Ln) (w : World) : Calls Try.prog 16 #[.agg l.cells, .agg l.cells] w fun e w' => e = .returned (.bool true) ∧ Below w.heap.size w w' := by
  obtain ⟨g, w0, e0, f0, hB, hb⟩ := boxd_new w l.cells 23
  obtain ⟨k, w1, e1, f1, hK, hb2⟩ := boxd_new w0 l.cells 23
  have b1 : k = g + 1 := by rw [e1, f0, Deep.nblk_alloc, ← e0]
  have HW := Lib.hid (below_to hb hb2)
  replace hB := hB.below hb2
  have c0 : w1.cell? ⟨g, 0, none⟩ = some (.int .i64 l.id) := hB.cell
  have d0 : w1.cell? ⟨k, 0, none⟩ = some (.int .i64 l.id) := hK.cell
  have c1 : w1.cell? ⟨g, 1, none⟩ = some (.int .i64 l.prin) := hB.cell
  have d1 : w1.cell? ⟨k, 1, none⟩ = some (.int .i64 l.prin) := hK.cell
  have c2 : w1.cell? ⟨g, 2, none⟩ = some (.int .i64 l.intr) := hB.cell
  have d2 : w1.cell? ⟨k, 2, none⟩ = some (.int .i64 l.intr) := hK.cell
  have c3 : w1.cell? ⟨g, 3, none⟩ = some (.int .i64 l.subs) := hB.cell
  have d3 : w1.cell? ⟨k, 3, none⟩ = some (.int .i64 l.subs) := hK.cell
  have c4 : w1.cell? ⟨g, 4, none⟩ = some (.int .i64 l.fees) := hB.cell
  have d4 : w1.cell? ⟨k, 4, none⟩ = some (.int .i64 l.fees) := hK.cell
  have c5 : w1.cell? ⟨g, 5, none⟩ = some (.int .i64 l.ppm) := hB.cell
  have d5 : w1.cell? ⟨k, 5, none⟩ = some (.int .i64 l.ppm) := hK.cell
  have c6 : w1.cell? ⟨g, 6, none⟩ = some (.bool l.subd) := hB.cell
  have d6 : w1.cell? ⟨k, 6, none⟩ = some (.bool l.subd) := hK.cell
  have c7 : w1.cell? ⟨g, 7, none⟩ = some (.int .i64 l.status) := hB.cell
  have d7 : w1.cell? ⟨k, 7, none⟩ = some (.int .i64 l.status) := hK.cell
  have c8 : w1.cell? ⟨g, 8, none⟩ = some (.int .i64 l.closed) := hB.cell
  have d8 : w1.cell? ⟨k, 8, none⟩ = some (.int .i64 l.closed) := hK.cell
  have c9 : w1.cell? ⟨g, 9, none⟩ = some (.int .i64 l.entered) := hB.cell
  have d9 : w1.cell? ⟨k, 9, none⟩ = some (.int .i64 l.entered) := hK.cell
  have c10 : w1.cell? ⟨g, 10, none⟩ = some (.int .i64 l.level) := hB.cell
  have d10 : w1.cell? ⟨k, 10, none⟩ = some (.int .i64 l.level) := hK.cell
  have c11 : w1.cell? ⟨g, 11, none⟩ = some (.int .i64 l.far) := hB.cell
  have d11 : w1.cell? ⟨k, 11, none⟩ = some (.int .i64 l.far) := hK.cell
  have c12 : w1.cell? ⟨g, 12, none⟩ = some (.int .i64 l.count) := hB.cell
  have d12 : w1.cell? ⟨k, 12, none⟩ = some (.int .i64 l.count) := hK.cell
  clear hB hK hb hb2
  have t0 : (l.id == l.id) = true := by simp
  have t1 : (l.prin == l.prin) = true := by simp
  have t2 : (l.intr == l.intr) = true := by simp
  have t3 : (l.subs == l.subs) = true := by simp
  have t4 : (l.fees == l.fees) = true := by simp
  have t5 : (l.ppm == l.ppm) = true := by simp
  have t6 : (l.subd == l.subd) = true := by simp
  have t7 : (l.status == l.status) = true := by simp
  have t8 : (l.closed == l.closed) = true := by simp
  have t9 : (l.entered == l.entered) = true := by simp
  have t10 : (l.level == l.level) = true := by simp
  have t11 : (l.far == l.far) = true := by simp
  have t12 : (l.count == l.count) = true := by simp
  generalize l.id = x0 at *
  generalize l.prin = x1 at *
  generalize l.intr = x2 at *
  generalize l.subs = x3 at *
  generalize l.fees = x4 at *
  generalize l.ppm = x5 at *
  generalize l.subd = x6 at *
  generalize l.status = x7 at *
  generalize l.closed = x8 at *
  generalize l.entered = x9 at *
  generalize l.level = x10 at *
  generalize l.far = x11 at *
  generalize l.count = x12 at *
  generalize l.cells = C at *
  go_enter Try.func16, Try.ntmps16
  go_upto_region 1 with fail
  rw [← f0, ← e0]
  rw [← f1, ← b1]
  clear e0 f0 e1 f1 b1
  go_wp2_with fail
  go_ret
  exact ⟨rfl, HW.out⟩
theorem owes_arg (l : Ln) (w : World) (hg : goodL l = false) : Calls Try.prog 9 #[.agg l.cells] w fun e w' => e = .returned (.tuple #[.int .i64 0, .int .i64 1]) ∧ Below w.heap.size w w' := by
  obtain ⟨g, wb, e1, e2, hB, hb⟩ := boxd_new w l.cells 23
  have HB := Lib.hid hB
  have HW := Lib.hid hb
  clear hB hb
  have HS := Lib.hid (ln_info l)
  have KG := Lib.hid (fun W => r_good l W)
  rw [hg] at KG
  clear hg
  generalize l.cells = C at *
  go_enter Try.func9, Try.ntmps9
  go_upto_region 1 with fail
  rw [← e2, ← e1]
  clear e1 e2
  go_wp2_with (first
    | (refine o_load rfl 23 _ rfl _ rfl _ _ _ HB.out Try.underlying23 rfl HS.out ?_)
    | (go_at_call 15; with_reducible refine (KG.out _).mono ?_; rintro e y ⟨rfl, hb⟩; replace HB := Lib.hid (HB.out.below hb); replace HW := Lib.hid (below_to HW.out hb); clear hb))
  go_ret2
  exact ⟨rfl, HW.out⟩
theorem owes_far (l : Ln) (w : World) (hg : goodL l = true) (hl : ¬ l.prin + l.fees ≤ 10000000000000) : Calls Try.prog 9 #[.agg l.cells] w fun e w' => e = .returned (.tuple #[.int .i64 0, .int .i64 14]) ∧ Below w.heap.size w w' := by
  obtain ⟨g, wb, e1, e2, hB, hb⟩ := boxd_new w l.cells 23
  have HB := Lib.hid hB
  have HW := Lib.hid hb
  clear hB hb
  have HS := Lib.hid (ln_info l)
  have KG := Lib.hid (fun W => r_good l W)
  have G := goodL_iff.1 hg
  rw [hg] at KG
  obtain ⟨q0, q1, q2⟩ := cents_le G
  have X1 : Hid (l.cells[1]? = some (.int .i64 l.prin)) := show _ = _ from rfl
  have X2 : Hid (l.cells[2]? = some (.int .i64 l.intr)) := show _ = _ from rfl
  have X4 : Hid (l.cells[4]? = some (.int .i64 l.fees)) := show _ = _ from rfl
  have KA := Lib.hid (fun W => radd3 l.prin l.fees W G.prin0 G.prin1 G.fees0 G.fees1)
  rw [if_neg hl, if_neg hl] at KA
  clear hg hl G q0 q1 q2
  generalize l.prin = p at *
  generalize l.fees = f at *
  generalize l.intr = m at *
  generalize l.cells = C at *
  go_enter Try.func9, Try.ntmps9
  go_upto_region 1 with fail
  rw [← e2, ← e1]
  clear e1 e2
  go_wp2_with (first
    | (refine o_load rfl 23 _ rfl _ rfl _ _ _ HB.out Try.underlying23 rfl HS.out ?_)
    | (go_at_call 15; with_reducible refine (KG.out _).mono ?_; rintro e y ⟨rfl, hb⟩; replace HB := Lib.hid (HB.out.below hb); replace HW := Lib.hid (below_to HW.out hb); clear hb; have c1 := (HB.out.cell (i := 1)).trans X1.out; have c4 := (HB.out.cell (i := 4)).trans X4.out; have c2 := (HB.out.cell (i := 2)).trans X2.out)
    | (go_at_call 32; with_reducible refine (KA.out _).mono ?_; rintro e w' ⟨rfl, rfl⟩))
  go_ret2
  exact ⟨rfl, HW.out⟩
theorem owes_over (l : Ln) (w : World) (hg : goodL l = true) (hl : l.prin + l.fees ≤ 10000000000000) (h2 : ¬ sumL l ≤ 10000000000000) : Calls Try.prog 9 #[.agg l.cells] w fun e w' => e = .returned (.tuple #[.int .i64 0, .int .i64 14]) ∧ Below w.heap.size w w' := by
  obtain ⟨g, wb, e1, e2, hB, hb⟩ := boxd_new w l.cells 23
  have HB := Lib.hid hB
  have HW := Lib.hid hb
  clear hB hb
  have HS := Lib.hid (ln_info l)
  have KG := Lib.hid (fun W => r_good l W)
  have G := goodL_iff.1 hg
  rw [hg] at KG
  obtain ⟨q0, q1, q2⟩ := cents_le G
  have X1 : Hid (l.cells[1]? = some (.int .i64 l.prin)) := show _ = _ from rfl
  have X2 : Hid (l.cells[2]? = some (.int .i64 l.intr)) := show _ = _ from rfl
  have X4 : Hid (l.cells[4]? = some (.int .i64 l.fees)) := show _ = _ from rfl
  have KA := Lib.hid (fun W => radd3 l.prin l.fees W G.prin0 G.prin1 G.fees0 G.fees1)
  rw [if_pos hl, if_pos hl] at KA
  have KW : Hid (∀ W, Calls Try.prog 33 #[.int .i64 l.intr] W fun e w' => e = .returned (.int .i64 (centsL l)) ∧ W = w') := fun W => RAccr.r_whole l.intr W (by have := G.intr1; omega)
  have KB := Lib.hid (fun W => radd3 (l.prin + l.fees) (centsL l) W (by have := G.prin0; have := G.fees0; omega) hl q0 (by omega))
  unfold sumL at h2
  rw [if_neg h2, if_neg h2] at KB
  clear hg hl h2 G q0 q1 q2
  generalize centsL l = c at *
  generalize l.prin + l.fees = s at *
  generalize l.prin = p at *
  generalize l.fees = f at *
  generalize l.intr = m at *
  generalize l.cells = C at *
  go_enter Try.func9, Try.ntmps9
  go_upto_region 1 with fail
  rw [← e2, ← e1]
  clear e1 e2
  go_wp2_with (first
    | (refine o_load rfl 23 _ rfl _ rfl _ _ _ HB.out Try.underlying23 rfl HS.out ?_)
    | (go_at_call 15; with_reducible refine (KG.out _).mono ?_; rintro e y ⟨rfl, hb⟩; replace HB := Lib.hid (HB.out.below hb); replace HW := Lib.hid (below_to HW.out hb); clear hb; have c1 := (HB.out.cell (i := 1)).trans X1.out; have c4 := (HB.out.cell (i := 4)).trans X4.out; have c2 := (HB.out.cell (i := 2)).trans X2.out)
    | (go_at_call 32; with_reducible refine (KA.out _).mono ?_; rintro e w' ⟨rfl, rfl⟩)
    | (go_at_call 32; with_reducible refine (KB.out _).mono ?_; rintro e w' ⟨rfl, rfl⟩)
    | (go_at_call 33; with_reducible refine (KW.out _).mono ?_; rintro e w' ⟨rfl, rfl⟩))
  go_ret2
  exact ⟨rfl, HW.out⟩
theorem owes_all (l : Ln) (w : World) (hg : goodL l = true) (hl : l.prin + l.fees ≤ 10000000000000) (h2 : sumL l ≤ 10000000000000) : Calls Try.prog 9 #[.agg l.cells] w fun e w' => e = .returned (.tuple #[.int .i64 (sumL l), .int .i64 0]) ∧ Below w.heap.size w w' := by
  obtain ⟨g, wb, e1, e2, hB, hb⟩ := boxd_new w l.cells 23
  have HB := Lib.hid hB
  have HW := Lib.hid hb
  clear hB hb
  have HS := Lib.hid (ln_info l)
  have KG := Lib.hid (fun W => r_good l W)
  have G := goodL_iff.1 hg
  rw [hg] at KG
  obtain ⟨q0, q1, q2⟩ := cents_le G
  have X1 : Hid (l.cells[1]? = some (.int .i64 l.prin)) := show _ = _ from rfl
  have X2 : Hid (l.cells[2]? = some (.int .i64 l.intr)) := show _ = _ from rfl
  have X4 : Hid (l.cells[4]? = some (.int .i64 l.fees)) := show _ = _ from rfl
  have KA := Lib.hid (fun W => radd3 l.prin l.fees W G.prin0 G.prin1 G.fees0 G.fees1)
  rw [if_pos hl, if_pos hl] at KA
  have KW : Hid (∀ W, Calls Try.prog 33 #[.int .i64 l.intr] W fun e w' => e = .returned (.int .i64 (centsL l)) ∧ W = w') := fun W => RAccr.r_whole l.intr W (by have := G.intr1; omega)
  have KB := Lib.hid (fun W => radd3 (l.prin + l.fees) (centsL l) W (by have := G.prin0; have := G.fees0; omega) hl q0 (by omega))
  unfold sumL at *
  rw [if_pos h2, if_pos h2] at KB
  clear hg hl h2 G q0 q1 q2
  generalize centsL l = c at *
  generalize l.prin + l.fees = s at *
  generalize l.prin = p at *
  generalize l.fees = f at *
  generalize l.intr = m at *
  generalize l.cells = C at *
  go_enter Try.func9, Try.ntmps9
  go_upto_region 1 with fail
  rw [← e2, ← e1]
  clear e1 e2
  go_wp2_with (first
    | (refine o_load rfl 23 _ rfl _ rfl _ _ _ HB.out Try.underlying23 rfl HS.out ?_)
    | (go_at_call 15; with_reducible refine (KG.out _).mono ?_; rintro e y ⟨rfl, hb⟩; replace HB := Lib.hid (HB.out.below hb); replace HW := Lib.hid (below_to HW.out hb); clear hb; have c1 := (HB.out.cell (i := 1)).trans X1.out; have c4 := (HB.out.cell (i := 4)).trans X4.out; have c2 := (HB.out.cell (i := 2)).trans X2.out)
    | (go_at_call 32; with_reducible refine (KA.out _).mono ?_; rintro e w' ⟨rfl, rfl⟩)
    | (go_at_call 32; with_reducible refine (KB.out _).mono ?_; rintro e w' ⟨rfl, rfl⟩)
    | (go_at_call 33; with_reducible refine (KW.out _).mono ?_; rintro e w' ⟨rfl, rfl⟩))
  go_ret2
  exact ⟨rfl, HW.out⟩
theorem r_owes (l : Ln) (w : World) : Calls Try.prog 9 #[.agg l.cells] w fun e w' => e = .returned (.tuple #[.int .i64 (owesR l).1, .int .i64 (owesR l).2]) ∧ Below w.heap.size w w' := by
  cases hg : goodL l with
  | false =>
    rw [show owesR l = (0, 1) by unfold owesR; simp only [hg]; rfl]
    exact owes_arg l w hg
  | true =>
    have G := goodL_iff.1 hg
    by_cases h2 : sumL l ≤ 10000000000000
    · rw [show owesR l = (sumL l, 0) by unfold owesR; simp only [hg, if_pos h2]; rfl]
      exact owes_all l w hg (by obtain ⟨q0, q1, q2⟩ := cents_le G; unfold sumL at h2; omega) h2
    · rw [show owesR l = (0, 14) by unfold owesR; simp only [hg, if_neg h2]; rfl]
      by_cases hl : l.prin + l.fees ≤ 10000000000000
      · exact owes_over l w hg hl h2
      · exact owes_far l w hg hl
theorem day_tests (d : Int) : dayB d = (!decide (d < 0) && !decide (87658 < d)) := by
  unfold dayB
  rw [Bool.eq_iff_iff, wB_iff]
  simp only [Bool.and_eq_true, Bool.not_eq_true', decide_eq_false_iff_not]
  omega
theorem shut_test {l : Ln} (h : openB l = false) : (l.closed != 0) = true := by
  unfold openB at h
  rw [bne, h]; rfl
theorem open_test {l : Ln} (h : openB l = true) : (l.closed != 0) = false := by
  unfold openB at h
  rw [bne, h]; rfl
set_option maxRecDepth 20000 in
theorem acc_arg (l : Ln) (d : Int) (w : World) (hg : (goodL l && dayB d) = false) : Calls Try.prog 11 #[.agg l.cells, .int .i64 d] w fun e w' => e = .returned (.tuple #[.agg (ln0).cells, .int .i64 1]) ∧ Below w.heap.size w w' := by
  obtain ⟨g, wb, e1, e2, hB, hb⟩ := boxd_new w l.cells 23
  obtain ⟨g2, wc, e3, e4, hB2, hb2⟩ := boxd_new wb #[.int .i64 0, .int .i64 0, .int .i64 0, .int .i64 0, .int .i64 0, .int .i64 0, .bool false, .int .i64 0, .int .i64 0, .int .i64 0, .int .i64 0, .int .i64 0, .int .i64 0] 23
  have e5 : g2 = g + 1 := by rw [e3, e2, Deep.nblk_alloc, e1]
  have HB : Hid (Boxd wc g l.cells 23) := hB.below hb2
  have HR : Hid (Boxd wc g2 #[.int .i64 0, .int .i64 0, .int .i64 0, .int .i64 0, .int .i64 0, .int .i64 0, .bool false, .int .i64 0, .int .i64 0, .int .i64 0, .int .i64 0, .int .i64 0, .int .i64 0] 23) := hB2
  have HW : Hid (Below w.heap.size w wc) := below_to hb hb2
  have HG : Hid (w.heap.size ≤ g ∧ w.heap.size ≤ g2 ∧ ¬ g = g2 ∧ ¬ g2 = g) := show _ ∧ _ ∧ ¬ _ ∧ ¬ _ by omega
  clear hB hB2 hb hb2
  have HS := Lib.hid (ln_info l)
  have HS0 := Lib.hid (ln_info ln0)
  have HO0 := Lib.hid (ln_one ln0)
  have KG := Lib.hid (fun W => r_good l W)
  rw [day_tests] at hg
  obtain ⟨a0, t0⟩ : ∃ a0 : Bool, decide (d < 0) = a0 := ⟨_, rfl⟩
  obtain ⟨a1, t1⟩ : ∃ a1 : Bool, decide (87658 < d) = a1 := ⟨_, rfl⟩
  rw [t0, t1] at hg
  generalize goodL l = b at *
  generalize l.cells = C at *
  go_enter Try.func11, Try.ntmps11
  go_upto_region 1 with fail
  rw [← e2, ← e1, ← e5, ← e4]
  clear e1 e2 e3 e4 e5
  cases b with
  | false =>
    clear hg
    go_wp2_with (first
      | (refine o_load rfl 23 _ rfl _ rfl _ _ _ HB.out Try.underlying23 rfl HS.out ?_)
      | (go_at_call 15; with_reducible refine (KG.out _).mono ?_; rintro e y ⟨rfl, hb⟩; replace HB := Lib.hid (HB.out.below hb); replace HR := Lib.hid (HR.out.below hb); replace HW := Lib.hid (below_to HW.out hb); clear hb)
      | (refine o_store rfl 23 _ _ rfl rfl g2 _ rfl rfl _ _ HR.out HS0.out rfl HO0.out ?_; intro y hr ho; replace HB := Lib.hid (HB.out.one ho HG.out.2.2.1); replace HR := Lib.hid hr; replace HW := Lib.hid (below_one_of HW.out ho HG.out.2.1 HW.out.size); clear hr ho))
    refine bodyPost_ret (results_two rfl _ _ _ _ _ _ _ rfl HR.out Try.underlying23 rfl HS0.out rfl) rfl ?_
    exact ⟨rfl, HW.out⟩
  | true =>
    cases a0 with
    | true =>
      clear hg
      go_wp2_with (first
        | (refine o_load rfl 23 _ rfl _ rfl _ _ _ HB.out Try.underlying23 rfl HS.out ?_)
        | (go_at_call 15; with_reducible refine (KG.out _).mono ?_; rintro e y ⟨rfl, hb⟩; replace HB := Lib.hid (HB.out.below hb); replace HR := Lib.hid (HR.out.below hb); replace HW := Lib.hid (below_to HW.out hb); clear hb)
        | (refine o_store rfl 23 _ _ rfl rfl g2 _ rfl rfl _ _ HR.out HS0.out rfl HO0.out ?_; intro y hr ho; replace HB := Lib.hid (HB.out.one ho HG.out.2.2.1); replace HR := Lib.hid hr; replace HW := Lib.hid (below_one_of HW.out ho HG.out.2.1 HW.out.size); clear hr ho))
      refine bodyPost_ret (results_two rfl _ _ _ _ _ _ _ rfl HR.out Try.underlying23 rfl HS0.out rfl) rfl ?_
      exact ⟨rfl, HW.out⟩
    | false =>
      cases a1 with
      | false => cases hg
      | true =>
        clear hg
        go_wp2_with (first
          | (refine o_load rfl 23 _ rfl _ rfl _ _ _ HB.out Try.underlying23 rfl HS.out ?_)
          | (go_at_call 15; with_reducible refine (KG.out _).mono ?_; rintro e y ⟨rfl, hb⟩; replace HB := Lib.hid (HB.out.below hb); replace HR := Lib.hid (HR.out.below hb); replace HW := Lib.hid (below_to HW.out hb); clear hb)
          | (refine o_store rfl 23 _ _ rfl rfl g2 _ rfl rfl _ _ HR.out HS0.out rfl HO0.out ?_; intro y hr ho; replace HB := Lib.hid (HB.out.one ho HG.out.2.2.1); replace HR := Lib.hid hr; replace HW := Lib.hid (below_one_of HW.out ho HG.out.2.1 HW.out.size); clear hr ho))
        refine bodyPost_ret (results_two rfl _ _ _ _ _ _ _ rfl HR.out Try.underlying23 rfl HS0.out rfl) rfl ?_
        exact ⟨rfl, HW.out⟩
set_option maxRecDepth 20000 in
theorem acc_shut (l : Ln) (d : Int) (w : World) (hg : (goodL l && dayB d) = true) (ho : openB l = false) : Calls Try.prog 11 #[.agg l.cells, .int .i64 d] w fun e w' => e = .returned (.tuple #[.agg (l).cells, .int .i64 0]) ∧ Below w.heap.size w w' := by
  obtain ⟨g, wb, e1, e2, hB, hb⟩ := boxd_new w l.cells 23
  obtain ⟨g2, wc, e3, e4, hB2, hb2⟩ := boxd_new wb #[.int .i64 0, .int .i64 0, .int .i64 0, .int .i64 0, .int .i64 0, .int .i64 0, .bool false, .int .i64 0, .int .i64 0, .int .i64 0, .int .i64 0, .int .i64 0, .int .i64 0] 23
  have e5 : g2 = g + 1 := by rw [e3, e2, Deep.nblk_alloc, e1]
  have HB : Hid (Boxd wc g l.cells 23) := hB.below hb2
  have HR : Hid (Boxd wc g2 #[.int .i64 0, .int .i64 0, .int .i64 0, .int .i64 0, .int .i64 0, .int .i64 0, .bool false, .int .i64 0, .int .i64 0, .int .i64 0, .int .i64 0, .int .i64 0, .int .i64 0] 23) := hB2
  have HW : Hid (Below w.heap.size w wc) := below_to hb hb2
  have HG : Hid (w.heap.size ≤ g ∧ w.heap.size ≤ g2 ∧ ¬ g = g2 ∧ ¬ g2 = g) := show _ ∧ _ ∧ ¬ _ ∧ ¬ _ by omega
  clear hB hB2 hb hb2
  have HS := Lib.hid (ln_info l)
  have HS0 := Lib.hid (ln_info ln0)
  have HO0 := Lib.hid (ln_one ln0)
  obtain ⟨hg1, hg2⟩ := Bool.and_eq_true_iff.1 hg
  have G := goodL_iff.1 hg1
  have KG := Lib.hid (fun W => r_good l W)
  rw [hg1] at KG
  have hd := wB_iff.1 (show wB d 0 87658 = true from hg2)
  have t0 : decide (d < 0) = false := decide_eq_false (by omega)
  have t1 : decide (87658 < d) = false := decide_eq_false (by omega)
  have t8 := shut_test ho
  have HO := Lib.hid (ln_one l)
  have HZ : Hid (13 = l.cells.size) := show _ = _ from rfl
  have X8 : Hid (l.cells[8]? = some (.int .i64 l.closed)) := show _ = _ from rfl
  clear hg hg1 hg2 hd ho G
  generalize l.closed = x8 at *
  generalize l.cells = C at *
  go_enter Try.func11, Try.ntmps11
  go_upto_region 1 with fail
  rw [← e2, ← e1, ← e5, ← e4]
  clear e1 e2 e3 e4 e5
  go_wp2_with (first
    | (refine o_load rfl 23 _ rfl _ rfl _ _ _ HB.out Try.underlying23 rfl HS.out ?_)
    | (go_at_call 15; with_reducible refine (KG.out _).mono ?_; rintro e y ⟨rfl, hb⟩; replace HB := Lib.hid (HB.out.below hb); replace HR := Lib.hid (HR.out.below hb); replace HW := Lib.hid (below_to HW.out hb); clear hb; have c8 := (HB.out.cell (i := 8)).trans X8.out)
    | (refine o_store rfl 23 _ _ rfl rfl g2 _ rfl rfl _ _ HR.out HS.out HZ.out HO.out ?_; intro y hr ho; replace HB := Lib.hid (HB.out.one ho HG.out.2.2.1); replace HR := Lib.hid hr; replace HW := Lib.hid (below_one_of HW.out ho HG.out.2.1 HW.out.size); clear hr ho))
  refine bodyPost_ret (results_two rfl _ _ _ _ _ _ _ rfl HR.out Try.underlying23 rfl HS.out rfl) rfl ?_
  exact ⟨rfl, HW.out⟩
set_option maxRecDepth 20000 in
theorem acc_subs_ok (l : Ln) (d : Int) (w : World) (hg : (goodL l && dayB d) = true) (ho : openB l = true) (hs : sparedB l = true) (ha : aE l.subs l.prin l.ppm d = 0) : Calls Try.prog 11 #[.agg l.cells, .int .i64 d] w fun e w' => e = .returned (.tuple #[.agg (({ l with subs := aV l.subs l.prin l.ppm d } : Ln)).cells, .int .i64 0]) ∧ Below w.heap.size w w' := by
  obtain ⟨g, wb, e1, e2, hB, hb⟩ := boxd_new w l.cells 23
  obtain ⟨g2, wc, e3, e4, hB2, hb2⟩ := boxd_new wb #[.int .i64 0, .int .i64 0, .int .i64 0, .int .i64 0, .int .i64 0, .int .i64 0, .bool false, .int .i64 0, .int .i64 0, .int .i64 0, .int .i64 0, .int .i64 0, .int .i64 0] 23
  have e5 : g2 = g + 1 := by rw [e3, e2, Deep.nblk_alloc, e1]
  have HB : Hid (Boxd wc g l.cells 23) := hB.below hb2
  have HR : Hid (Boxd wc g2 #[.int .i64 0, .int .i64 0, .int .i64 0, .int .i64 0, .int .i64 0, .int .i64 0, .bool false, .int .i64 0, .int .i64 0, .int .i64 0, .int .i64 0, .int .i64 0, .int .i64 0] 23) := hB2
  have HW : Hid (Below w.heap.size w wc) := below_to hb hb2
  have HG : Hid (w.heap.size ≤ g ∧ w.heap.size ≤ g2 ∧ ¬ g = g2 ∧ ¬ g2 = g) := show _ ∧ _ ∧ ¬ _ ∧ ¬ _ by omega
  clear hB hB2 hb hb2
  have HS := Lib.hid (ln_info l)
  have HS0 := Lib.hid (ln_info ln0)
  have HO0 := Lib.hid (ln_one ln0)
  obtain ⟨hg1, hg2⟩ := Bool.and_eq_true_iff.1 hg
  have G := goodL_iff.1 hg1
  have KG := Lib.hid (fun W => r_good l W)
  rw [hg1] at KG
  have hd := wB_iff.1 (show wB d 0 87658 = true from hg2)
  have t0 : decide (d < 0) = false := decide_eq_false (by omega)
  have t1 : decide (87658 < d) = false := decide_eq_false (by omega)
  have t8 := open_test ho
  unfold sparedB at hs
  have KA := Lib.hid (fun W => RAccr.r_add l.subs l.prin l.ppm d W)
  rw [ha] at KA
  have X1 : Hid (l.cells[1]? = some (.int .i64 l.prin)) := show _ = _ from rfl
  have X3 : Hid (l.cells[3]? = some (.int .i64 l.subs)) := show _ = _ from rfl
  have X5 : Hid (l.cells[5]? = some (.int .i64 l.ppm)) := show _ = _ from rfl
  have X6 : Hid (l.cells[6]? = some (.bool l.subd)) := show _ = _ from rfl
  have X7 : Hid (l.cells[7]? = some (.int .i64 l.status)) := show _ = _ from rfl
  have X8 : Hid (l.cells[8]? = some (.int .i64 l.closed)) := show _ = _ from rfl
  have HZ : Hid (l.cells.size = 13) := ln_size l
  have PX : Hid (l.cells.setIfInBounds 3 (.int .i64 (aV l.subs l.prin l.ppm d)) = ({ l with subs := aV l.subs l.prin l.ppm d } : Ln).cells) := show _ = _ from rfl
  have HS2 := Lib.hid (ln_info ({ l with subs := aV l.subs l.prin l.ppm d } : Ln))
  have HO2 := Lib.hid (ln_one ({ l with subs := aV l.subs l.prin l.ppm d } : Ln))
  have HZ2 : Hid (13 = ({ l with subs := aV l.subs l.prin l.ppm d } : Ln).cells.size) := show _ = _ from rfl
  obtain ⟨q7, t7⟩ : ∃ q7 : Bool, decide (l.status ≤ 3) = q7 := ⟨_, rfl⟩
  rw [t7] at hs
  clear hg hg1 hg2 hd ho G ha
  generalize ({ l with subs := aV l.subs l.prin l.ppm d } : Ln).cells = D at *
  generalize aV l.subs l.prin l.ppm d = v at *
  generalize l.prin = x1 at *
  generalize l.subs = x3 at *
  generalize l.ppm = x5 at *
  generalize l.subd = x6 at *
  generalize l.status = x7 at *
  generalize l.closed = x8 at *
  generalize l.cells = C at *
  go_enter Try.func11, Try.ntmps11
  go_upto_region 1 with fail
  rw [← e2, ← e1, ← e5, ← e4]
  clear e1 e2 e3 e4 e5
  obtain ⟨rfl, rfl⟩ : x6 = true ∧ q7 = true := by simpa using hs
  clear hs
  go_wp2_with (first
    | (refine o_load rfl 23 _ rfl _ rfl _ _ _ HB.out Try.underlying23 rfl HS.out ?_)
    | (refine o_load rfl 23 _ rfl _ rfl _ _ _ HB.out Try.underlying23 rfl HS2.out ?_)
    | (go_at_call 15; with_reducible refine (KG.out _).mono ?_; rintro e y ⟨rfl, hb⟩; replace HB := Lib.hid (HB.out.below hb); replace HR := Lib.hid (HR.out.below hb); replace HW := Lib.hid (below_to HW.out hb); clear hb; have c1 := (HB.out.cell (i := 1)).trans X1.out; have c3 := (HB.out.cell (i := 3)).trans X3.out; have c5 := (HB.out.cell (i := 5)).trans X5.out; have c6 := (HB.out.cell (i := 6)).trans X6.out; have c7 := (HB.out.cell (i := 7)).trans X7.out; have c8 := (HB.out.cell (i := 8)).trans X8.out)
    | (go_at_call 27; with_reducible refine (KA.out _).mono ?_; rintro e y ⟨rfl, hb⟩; replace HB := Lib.hid (HB.out.below hb); replace HR := Lib.hid (HR.out.below hb); replace HW := Lib.hid (below_to HW.out hb); clear hb)
    | (refine o_put rfl 2 _ _ rfl rfl g 3 (.int .i64 v) rfl rfl rfl _ _ HB.out (by simp [HZ.out]) i64_one ?_; intro y hr ho; rw [PX.out] at hr; replace HB := Lib.hid hr; replace HR := Lib.hid (HR.out.one ho HG.out.2.2.2); replace HW := Lib.hid (below_one_of HW.out ho HG.out.1 HW.out.size); clear hr ho)
    | (refine o_store rfl 23 _ _ rfl rfl g2 _ rfl rfl _ _ HR.out HS2.out HZ2.out HO2.out ?_; intro y hr ho; replace HB := Lib.hid (HB.out.one ho HG.out.2.2.1); replace HR := Lib.hid hr; replace HW := Lib.hid (below_one_of HW.out ho HG.out.2.1 HW.out.size); clear hr ho))
  refine bodyPost_ret (results_two rfl _ _ _ _ _ _ _ rfl HR.out Try.underlying23 rfl HS2.out rfl) rfl ?_
  exact ⟨rfl, HW.out⟩
set_option maxRecDepth 20000 in
theorem acc_subs_over (l : Ln) (d : Int) (w : World) (hg : (goodL l && dayB d) = true) (ho : openB l = true) (hs : sparedB l = true) (ha : aE l.subs l.prin l.ppm d = 14) : Calls Try.prog 11 #[.agg l.cells, .int .i64 d] w fun e w' => e = .returned (.tuple #[.agg (ln0).cells, .int .i64 14]) ∧ Below w.heap.size w w' := by
  obtain ⟨g, wb, e1, e2, hB, hb⟩ := boxd_new w l.cells 23
  obtain ⟨g2, wc, e3, e4, hB2, hb2⟩ := boxd_new wb #[.int .i64 0, .int .i64 0, .int .i64 0, .int .i64 0, .int .i64 0, .int .i64 0, .bool false, .int .i64 0, .int .i64 0, .int .i64 0, .int .i64 0, .int .i64 0, .int .i64 0] 23
  have e5 : g2 = g + 1 := by rw [e3, e2, Deep.nblk_alloc, e1]
  have HB : Hid (Boxd wc g l.cells 23) := hB.below hb2
  have HR : Hid (Boxd wc g2 #[.int .i64 0, .int .i64 0, .int .i64 0, .int .i64 0, .int .i64 0, .int .i64 0, .bool false, .int .i64 0, .int .i64 0, .int .i64 0, .int .i64 0, .int .i64 0, .int .i64 0] 23) := hB2
  have HW : Hid (Below w.heap.size w wc) := below_to hb hb2
  have HG : Hid (w.heap.size ≤ g ∧ w.heap.size ≤ g2 ∧ ¬ g = g2 ∧ ¬ g2 = g) := show _ ∧ _ ∧ ¬ _ ∧ ¬ _ by omega
  clear hB hB2 hb hb2
  have HS := Lib.hid (ln_info l)
  have HS0 := Lib.hid (ln_info ln0)
  have HO0 := Lib.hid (ln_one ln0)
  obtain ⟨hg1, hg2⟩ := Bool.and_eq_true_iff.1 hg
  have G := goodL_iff.1 hg1
  have KG := Lib.hid (fun W => r_good l W)
  rw [hg1] at KG
  have hd := wB_iff.1 (show wB d 0 87658 = true from hg2)
  have t0 : decide (d < 0) = false := decide_eq_false (by omega)
  have t1 : decide (87658 < d) = false := decide_eq_false (by omega)
  have t8 := open_test ho
  unfold sparedB at hs
  have KA := Lib.hid (fun W => RAccr.r_add l.subs l.prin l.ppm d W)
  rw [ha] at KA
  have X1 : Hid (l.cells[1]? = some (.int .i64 l.prin)) := show _ = _ from rfl
  have X3 : Hid (l.cells[3]? = some (.int .i64 l.subs)) := show _ = _ from rfl
  have X5 : Hid (l.cells[5]? = some (.int .i64 l.ppm)) := show _ = _ from rfl
  have X6 : Hid (l.cells[6]? = some (.bool l.subd)) := show _ = _ from rfl
  have X7 : Hid (l.cells[7]? = some (.int .i64 l.status)) := show _ = _ from rfl
  have X8 : Hid (l.cells[8]? = some (.int .i64 l.closed)) := show _ = _ from rfl
  have HZ : Hid (l.cells.size = 13) := ln_size l
  have PX : Hid (l.cells.setIfInBounds 3 (.int .i64 (aV l.subs l.prin l.ppm d)) = ({ l with subs := aV l.subs l.prin l.ppm d } : Ln).cells) := show _ = _ from rfl
  have HS2 := Lib.hid (ln_info ({ l with subs := aV l.subs l.prin l.ppm d } : Ln))
  have HO2 := Lib.hid (ln_one ({ l with subs := aV l.subs l.prin l.ppm d } : Ln))
  have HZ2 : Hid (13 = ({ l with subs := aV l.subs l.prin l.ppm d } : Ln).cells.size) := show _ = _ from rfl
  obtain ⟨q7, t7⟩ : ∃ q7 : Bool, decide (l.status ≤ 3) = q7 := ⟨_, rfl⟩
  rw [t7] at hs
  clear hg hg1 hg2 hd ho G ha
  generalize ({ l with subs := aV l.subs l.prin l.ppm d } : Ln).cells = D at *
  generalize aV l.subs l.prin l.ppm d = v at *
  generalize l.prin = x1 at *
  generalize l.subs = x3 at *
  generalize l.ppm = x5 at *
  generalize l.subd = x6 at *
  generalize l.status = x7 at *
  generalize l.closed = x8 at *
  generalize l.cells = C at *
  go_enter Try.func11, Try.ntmps11
  go_upto_region 1 with fail
  rw [← e2, ← e1, ← e5, ← e4]
  clear e1 e2 e3 e4 e5
  obtain ⟨rfl, rfl⟩ : x6 = true ∧ q7 = true := by simpa using hs
  clear hs
  go_wp2_with (first
    | (refine o_load rfl 23 _ rfl _ rfl _ _ _ HB.out Try.underlying23 rfl HS.out ?_)
    | (refine o_load rfl 23 _ rfl _ rfl _ _ _ HB.out Try.underlying23 rfl HS2.out ?_)
    | (go_at_call 15; with_reducible refine (KG.out _).mono ?_; rintro e y ⟨rfl, hb⟩; replace HB := Lib.hid (HB.out.below hb); replace HR := Lib.hid (HR.out.below hb); replace HW := Lib.hid (below_to HW.out hb); clear hb; have c1 := (HB.out.cell (i := 1)).trans X1.out; have c3 := (HB.out.cell (i := 3)).trans X3.out; have c5 := (HB.out.cell (i := 5)).trans X5.out; have c6 := (HB.out.cell (i := 6)).trans X6.out; have c7 := (HB.out.cell (i := 7)).trans X7.out; have c8 := (HB.out.cell (i := 8)).trans X8.out)
    | (go_at_call 27; with_reducible refine (KA.out _).mono ?_; rintro e y ⟨rfl, hb⟩; replace HB := Lib.hid (HB.out.below hb); replace HR := Lib.hid (HR.out.below hb); replace HW := Lib.hid (below_to HW.out hb); clear hb)
    | (refine o_put rfl 2 _ _ rfl rfl g 3 (.int .i64 v) rfl rfl rfl _ _ HB.out (by simp [HZ.out]) i64_one ?_; intro y hr ho; rw [PX.out] at hr; replace HB := Lib.hid hr; replace HR := Lib.hid (HR.out.one ho HG.out.2.2.2); replace HW := Lib.hid (below_one_of HW.out ho HG.out.1 HW.out.size); clear hr ho)
    | (refine o_store rfl 23 _ _ rfl rfl g2 _ rfl rfl _ _ HR.out HS0.out rfl HO0.out ?_; intro y hr ho; replace HB := Lib.hid (HB.out.one ho HG.out.2.2.1); replace HR := Lib.hid hr; replace HW := Lib.hid (below_one_of HW.out ho HG.out.2.1 HW.out.size); clear hr ho))
  refine bodyPost_ret (results_two rfl _ _ _ _ _ _ _ rfl HR.out Try.underlying23 rfl HS0.out rfl) rfl ?_
  exact ⟨rfl, HW.out⟩
set_option maxRecDepth 20000 in
theorem acc_intr_ok (l : Ln) (d : Int) (w : World) (hg : (goodL l && dayB d) = true) (ho : openB l = true) (hs : sparedB l = false) (ha : aE l.intr l.prin l.ppm d = 0) : Calls Try.prog 11 #[.agg l.cells, .int .i64 d] w fun e w' => e = .returned (.tuple #[.agg (({ l with intr := aV l.intr l.prin l.ppm d } : Ln)).cells, .int .i64 0]) ∧ Below w.heap.size w w' := by
  obtain ⟨g, wb, e1, e2, hB, hb⟩ := boxd_new w l.cells 23
  obtain ⟨g2, wc, e3, e4, hB2, hb2⟩ := boxd_new wb #[.int .i64 0, .int .i64 0, .int .i64 0, .int .i64 0, .int .i64 0, .int .i64 0, .bool false, .int .i64 0, .int .i64 0, .int .i64 0, .int .i64 0, .int .i64 0, .int .i64 0] 23
  have e5 : g2 = g + 1 := by rw [e3, e2, Deep.nblk_alloc, e1]
  have HB : Hid (Boxd wc g l.cells 23) := hB.below hb2
  have HR : Hid (Boxd wc g2 #[.int .i64 0, .int .i64 0, .int .i64 0, .int .i64 0, .int .i64 0, .int .i64 0, .bool false, .int .i64 0, .int .i64 0, .int .i64 0, .int .i64 0, .int .i64 0, .int .i64 0] 23) := hB2
  have HW : Hid (Below w.heap.size w wc) := below_to hb hb2
  have HG : Hid (w.heap.size ≤ g ∧ w.heap.size ≤ g2 ∧ ¬ g = g2 ∧ ¬ g2 = g) := show _ ∧ _ ∧ ¬ _ ∧ ¬ _ by omega
  clear hB hB2 hb hb2
  have HS := Lib.hid (ln_info l)
  have HS0 := Lib.hid (ln_info ln0)
  have HO0 := Lib.hid (ln_one ln0)
  obtain ⟨hg1, hg2⟩ := Bool.and_eq_true_iff.1 hg
  have G := goodL_iff.1 hg1
  have KG := Lib.hid (fun W => r_good l W)
  rw [hg1] at KG
  have hd := wB_iff.1 (show wB d 0 87658 = true from hg2)
  have t0 : decide (d < 0) = false := decide_eq_false (by omega)
  have t1 : decide (87658 < d) = false := decide_eq_false (by omega)
  have t8 := open_test ho
  unfold sparedB at hs
  have KA := Lib.hid (fun W => RAccr.r_add l.intr l.prin l.ppm d W)
  rw [ha] at KA
  have X1 : Hid (l.cells[1]? = some (.int .i64 l.prin)) := show _ = _ from rfl
  have X2 : Hid (l.cells[2]? = some (.int .i64 l.intr)) := show _ = _ from rfl
  have X5 : Hid (l.cells[5]? = some (.int .i64 l.ppm)) := show _ = _ from rfl
  have X6 : Hid (l.cells[6]? = some (.bool l.subd)) := show _ = _ from rfl
  have X7 : Hid (l.cells[7]? = some (.int .i64 l.status)) := show _ = _ from rfl
  have X8 : Hid (l.cells[8]? = some (.int .i64 l.closed)) := show _ = _ from rfl
  have HZ : Hid (l.cells.size = 13) := ln_size l
  have PX : Hid (l.cells.setIfInBounds 2 (.int .i64 (aV l.intr l.prin l.ppm d)) = ({ l with intr := aV l.intr l.prin l.ppm d } : Ln).cells) := show _ = _ from rfl
  have HS2 := Lib.hid (ln_info ({ l with intr := aV l.intr l.prin l.ppm d } : Ln))
  have HO2 := Lib.hid (ln_one ({ l with intr := aV l.intr l.prin l.ppm d } : Ln))
  have HZ2 : Hid (13 = ({ l with intr := aV l.intr l.prin l.ppm d } : Ln).cells.size) := show _ = _ from rfl
  obtain ⟨q7, t7⟩ : ∃ q7 : Bool, decide (l.status ≤ 3) = q7 := ⟨_, rfl⟩
  rw [t7] at hs
  clear hg hg1 hg2 hd ho G ha
  generalize ({ l with intr := aV l.intr l.prin l.ppm d } : Ln).cells = D at *
  generalize aV l.intr l.prin l.ppm d = v at *
  generalize l.prin = x1 at *
  generalize l.intr = x2 at *
  generalize l.ppm = x5 at *
  generalize l.subd = x6 at *
  generalize l.status = x7 at *
  generalize l.closed = x8 at *
  generalize l.cells = C at *
  go_enter Try.func11, Try.ntmps11
  go_upto_region 1 with fail
  rw [← e2, ← e1, ← e5, ← e4]
  clear e1 e2 e3 e4 e5
  cases x6 with
  | false =>
    clear hs
    go_wp2_with (first
      | (refine o_load rfl 23 _ rfl _ rfl _ _ _ HB.out Try.underlying23 rfl HS.out ?_)
      | (refine o_load rfl 23 _ rfl _ rfl _ _ _ HB.out Try.underlying23 rfl HS2.out ?_)
      | (go_at_call 15; with_reducible refine (KG.out _).mono ?_; rintro e y ⟨rfl, hb⟩; replace HB := Lib.hid (HB.out.below hb); replace HR := Lib.hid (HR.out.below hb); replace HW := Lib.hid (below_to HW.out hb); clear hb; have c1 := (HB.out.cell (i := 1)).trans X1.out; have c2 := (HB.out.cell (i := 2)).trans X2.out; have c5 := (HB.out.cell (i := 5)).trans X5.out; have c6 := (HB.out.cell (i := 6)).trans X6.out; have c7 := (HB.out.cell (i := 7)).trans X7.out; have c8 := (HB.out.cell (i := 8)).trans X8.out)
      | (go_at_call 27; with_reducible refine (KA.out _).mono ?_; rintro e y ⟨rfl, hb⟩; replace HB := Lib.hid (HB.out.below hb); replace HR := Lib.hid (HR.out.below hb); replace HW := Lib.hid (below_to HW.out hb); clear hb)
      | (refine o_put rfl 2 _ _ rfl rfl g 2 (.int .i64 v) rfl rfl rfl _ _ HB.out (by simp [HZ.out]) i64_one ?_; intro y hr ho; rw [PX.out] at hr; replace HB := Lib.hid hr; replace HR := Lib.hid (HR.out.one ho HG.out.2.2.2); replace HW := Lib.hid (below_one_of HW.out ho HG.out.1 HW.out.size); clear hr ho)
      | (refine o_store rfl 23 _ _ rfl rfl g2 _ rfl rfl _ _ HR.out HS2.out HZ2.out HO2.out ?_; intro y hr ho; replace HB := Lib.hid (HB.out.one ho HG.out.2.2.1); replace HR := Lib.hid hr; replace HW := Lib.hid (below_one_of HW.out ho HG.out.2.1 HW.out.size); clear hr ho))
    refine bodyPost_ret (results_two rfl _ _ _ _ _ _ _ rfl HR.out Try.underlying23 rfl HS2.out rfl) rfl ?_
    exact ⟨rfl, HW.out⟩
  | true =>
    obtain rfl : q7 = false := by simpa using hs
    clear hs
    go_wp2_with (first
      | (refine o_load rfl 23 _ rfl _ rfl _ _ _ HB.out Try.underlying23 rfl HS.out ?_)
      | (refine o_load rfl 23 _ rfl _ rfl _ _ _ HB.out Try.underlying23 rfl HS2.out ?_)
      | (go_at_call 15; with_reducible refine (KG.out _).mono ?_; rintro e y ⟨rfl, hb⟩; replace HB := Lib.hid (HB.out.below hb); replace HR := Lib.hid (HR.out.below hb); replace HW := Lib.hid (below_to HW.out hb); clear hb; have c1 := (HB.out.cell (i := 1)).trans X1.out; have c2 := (HB.out.cell (i := 2)).trans X2.out; have c5 := (HB.out.cell (i := 5)).trans X5.out; have c6 := (HB.out.cell (i := 6)).trans X6.out; have c7 := (HB.out.cell (i := 7)).trans X7.out; have c8 := (HB.out.cell (i := 8)).trans X8.out)
      | (go_at_call 27; with_reducible refine (KA.out _).mono ?_; rintro e y ⟨rfl, hb⟩; replace HB := Lib.hid (HB.out.below hb); replace HR := Lib.hid (HR.out.below hb); replace HW := Lib.hid (below_to HW.out hb); clear hb)
      | (refine o_put rfl 2 _ _ rfl rfl g 2 (.int .i64 v) rfl rfl rfl _ _ HB.out (by simp [HZ.out]) i64_one ?_; intro y hr ho; rw [PX.out] at hr; replace HB := Lib.hid hr; replace HR := Lib.hid (HR.out.one ho HG.out.2.2.2); replace HW := Lib.hid (below_one_of HW.out ho HG.out.1 HW.out.size); clear hr ho)
      | (refine o_store rfl 23 _ _ rfl rfl g2 _ rfl rfl _ _ HR.out HS2.out HZ2.out HO2.out ?_; intro y hr ho; replace HB := Lib.hid (HB.out.one ho HG.out.2.2.1); replace HR := Lib.hid hr; replace HW := Lib.hid (below_one_of HW.out ho HG.out.2.1 HW.out.size); clear hr ho))
    refine bodyPost_ret (results_two rfl _ _ _ _ _ _ _ rfl HR.out Try.underlying23 rfl HS2.out rfl) rfl ?_
    exact ⟨rfl, HW.out⟩
set_option maxRecDepth 20000 in
theorem acc_intr_over (l : Ln) (d : Int) (w : World) (hg : (goodL l && dayB d) = true) (ho : openB l = true) (hs : sparedB l = false) (ha : aE l.intr l.prin l.ppm d = 14) : Calls Try.prog 11 #[.agg l.cells, .int .i64 d] w fun e w' => e = .returned (.tuple #[.agg (ln0).cells, .int .i64 14]) ∧ Below w.heap.size w w' := by
  obtain ⟨g, wb, e1, e2, hB, hb⟩ := boxd_new w l.cells 23
  obtain ⟨g2, wc, e3, e4, hB2, hb2⟩ := boxd_new wb #[.int .i64 0, .int .i64 0, .int .i64 0, .int .i64 0, .int .i64 0, .int .i64 0, .bool false, .int .i64 0, .int .i64 0, .int .i64 0, .int .i64 0, .int .i64 0, .int .i64 0] 23
  have e5 : g2 = g + 1 := by rw [e3, e2, Deep.nblk_alloc, e1]
  have HB : Hid (Boxd wc g l.cells 23) := hB.below hb2
  have HR : Hid (Boxd wc g2 #[.int .i64 0, .int .i64 0, .int .i64 0, .int .i64 0, .int .i64 0, .int .i64 0, .bool false, .int .i64 0, .int .i64 0, .int .i64 0, .int .i64 0, .int .i64 0, .int .i64 0] 23) := hB2
  have HW : Hid (Below w.heap.size w wc) := below_to hb hb2
  have HG : Hid (w.heap.size ≤ g ∧ w.heap.size ≤ g2 ∧ ¬ g = g2 ∧ ¬ g2 = g) := show _ ∧ _ ∧ ¬ _ ∧ ¬ _ by omega
  clear hB hB2 hb hb2
  have HS := Lib.hid (ln_info l)
  have HS0 := Lib.hid (ln_info ln0)
  have HO0 := Lib.hid (ln_one ln0)
  obtain ⟨hg1, hg2⟩ := Bool.and_eq_true_iff.1 hg
  have G := goodL_iff.1 hg1
  have KG := Lib.hid (fun W => r_good l W)
  rw [hg1] at KG
  have hd := wB_iff.1 (show wB d 0 87658 = true from hg2)
  have t0 : decide (d < 0) = false := decide_eq_false (by omega)
  have t1 : decide (87658 < d) = false := decide_eq_false (by omega)
  have t8 := open_test ho
  unfold sparedB at hs
  have KA := Lib.hid (fun W => RAccr.r_add l.intr l.prin l.ppm d W)
  rw [ha] at KA
  have X1 : Hid (l.cells[1]? = some (.int .i64 l.prin)) := show _ = _ from rfl
  have X2 : Hid (l.cells[2]? = some (.int .i64 l.intr)) := show _ = _ from rfl
  have X5 : Hid (l.cells[5]? = some (.int .i64 l.ppm)) := show _ = _ from rfl
  have X6 : Hid (l.cells[6]? = some (.bool l.subd)) := show _ = _ from rfl
  have X7 : Hid (l.cells[7]? = some (.int .i64 l.status)) := show _ = _ from rfl
  have X8 : Hid (l.cells[8]? = some (.int .i64 l.closed)) := show _ = _ from rfl
  have HZ : Hid (l.cells.size = 13) := ln_size l
  have PX : Hid (l.cells.setIfInBounds 2 (.int .i64 (aV l.intr l.prin l.ppm d)) = ({ l with intr := aV l.intr l.prin l.ppm d } : Ln).cells) := show _ = _ from rfl
  have HS2 := Lib.hid (ln_info ({ l with intr := aV l.intr l.prin l.ppm d } : Ln))
  have HO2 := Lib.hid (ln_one ({ l with intr := aV l.intr l.prin l.ppm d } : Ln))
  have HZ2 : Hid (13 = ({ l with intr := aV l.intr l.prin l.ppm d } : Ln).cells.size) := show _ = _ from rfl
  obtain ⟨q7, t7⟩ : ∃ q7 : Bool, decide (l.status ≤ 3) = q7 := ⟨_, rfl⟩
  rw [t7] at hs
  clear hg hg1 hg2 hd ho G ha
  generalize ({ l with intr := aV l.intr l.prin l.ppm d } : Ln).cells = D at *
  generalize aV l.intr l.prin l.ppm d = v at *
  generalize l.prin = x1 at *
  generalize l.intr = x2 at *
  generalize l.ppm = x5 at *
  generalize l.subd = x6 at *
  generalize l.status = x7 at *
  generalize l.closed = x8 at *
  generalize l.cells = C at *
  go_enter Try.func11, Try.ntmps11
  go_upto_region 1 with fail
  rw [← e2, ← e1, ← e5, ← e4]
  clear e1 e2 e3 e4 e5
  cases x6 with
  | false =>
    clear hs
    go_wp2_with (first
      | (refine o_load rfl 23 _ rfl _ rfl _ _ _ HB.out Try.underlying23 rfl HS.out ?_)
      | (refine o_load rfl 23 _ rfl _ rfl _ _ _ HB.out Try.underlying23 rfl HS2.out ?_)
      | (go_at_call 15; with_reducible refine (KG.out _).mono ?_; rintro e y ⟨rfl, hb⟩; replace HB := Lib.hid (HB.out.below hb); replace HR := Lib.hid (HR.out.below hb); replace HW := Lib.hid (below_to HW.out hb); clear hb; have c1 := (HB.out.cell (i := 1)).trans X1.out; have c2 := (HB.out.cell (i := 2)).trans X2.out; have c5 := (HB.out.cell (i := 5)).trans X5.out; have c6 := (HB.out.cell (i := 6)).trans X6.out; have c7 := (HB.out.cell (i := 7)).trans X7.out; have c8 := (HB.out.cell (i := 8)).trans X8.out)
      | (go_at_call 27; with_reducible refine (KA.out _).mono ?_; rintro e y ⟨rfl, hb⟩; replace HB := Lib.hid (HB.out.below hb); replace HR := Lib.hid (HR.out.below hb); replace HW := Lib.hid (below_to HW.out hb); clear hb)
      | (refine o_put rfl 2 _ _ rfl rfl g 2 (.int .i64 v) rfl rfl rfl _ _ HB.out (by simp [HZ.out]) i64_one ?_; intro y hr ho; rw [PX.out] at hr; replace HB := Lib.hid hr; replace HR := Lib.hid (HR.out.one ho HG.out.2.2.2); replace HW := Lib.hid (below_one_of HW.out ho HG.out.1 HW.out.size); clear hr ho)
      | (refine o_store rfl 23 _ _ rfl rfl g2 _ rfl rfl _ _ HR.out HS0.out rfl HO0.out ?_; intro y hr ho; replace HB := Lib.hid (HB.out.one ho HG.out.2.2.1); replace HR := Lib.hid hr; replace HW := Lib.hid (below_one_of HW.out ho HG.out.2.1 HW.out.size); clear hr ho))
    refine bodyPost_ret (results_two rfl _ _ _ _ _ _ _ rfl HR.out Try.underlying23 rfl HS0.out rfl) rfl ?_
    exact ⟨rfl, HW.out⟩
  | true =>
    obtain rfl : q7 = false := by simpa using hs
    clear hs
    go_wp2_with (first
      | (refine o_load rfl 23 _ rfl _ rfl _ _ _ HB.out Try.underlying23 rfl HS.out ?_)
      | (refine o_load rfl 23 _ rfl _ rfl _ _ _ HB.out Try.underlying23 rfl HS2.out ?_)
      | (go_at_call 15; with_reducible refine (KG.out _).mono ?_; rintro e y ⟨rfl, hb⟩; replace HB := Lib.hid (HB.out.below hb); replace HR := Lib.hid (HR.out.below hb); replace HW := Lib.hid (below_to HW.out hb); clear hb; have c1 := (HB.out.cell (i := 1)).trans X1.out; have c2 := (HB.out.cell (i := 2)).trans X2.out; have c5 := (HB.out.cell (i := 5)).trans X5.out; have c6 := (HB.out.cell (i := 6)).trans X6.out; have c7 := (HB.out.cell (i := 7)).trans X7.out; have c8 := (HB.out.cell (i := 8)).trans X8.out)
      | (go_at_call 27; with_reducible refine (KA.out _).mono ?_; rintro e y ⟨rfl, hb⟩; replace HB := Lib.hid (HB.out.below hb); replace HR := Lib.hid (HR.out.below hb); replace HW := Lib.hid (below_to HW.out hb); clear hb)
      | (refine o_put rfl 2 _ _ rfl rfl g 2 (.int .i64 v) rfl rfl rfl _ _ HB.out (by simp [HZ.out]) i64_one ?_; intro y hr ho; rw [PX.out] at hr; replace HB := Lib.hid hr; replace HR := Lib.hid (HR.out.one ho HG.out.2.2.2); replace HW := Lib.hid (below_one_of HW.out ho HG.out.1 HW.out.size); clear hr ho)
      | (refine o_store rfl 23 _ _ rfl rfl g2 _ rfl rfl _ _ HR.out HS0.out rfl HO0.out ?_; intro y hr ho; replace HB := Lib.hid (HB.out.one ho HG.out.2.2.1); replace HR := Lib.hid hr; replace HW := Lib.hid (below_one_of HW.out ho HG.out.2.1 HW.out.size); clear hr ho))
    refine bodyPost_ret (results_two rfl _ _ _ _ _ _ _ rfl HR.out Try.underlying23 rfl HS0.out rfl) rfl ?_
    exact ⟨rfl, HW.out⟩
theorem r_accrue (l : Ln) (d : Int) (w : World) : Calls Try.prog 11 #[.agg l.cells, .int .i64 d] w fun e w' => e = .returned (.tuple #[.agg (accR l d).1.cells, .int .i64 (accR l d).2]) ∧ Below w.heap.size w w' := by
  cases hg : (goodL l && dayB d) with
  | false =>
    rw [show accR l d = (ln0, 1) by unfold accR; simp only [hg]; rfl]
    exact acc_arg l d w hg
  | true =>
    cases ho : openB l with
    | false =>
      rw [show accR l d = (l, 0) by unfold accR; simp only [hg, ho]; rfl]
      exact acc_shut l d w hg ho
    | true =>
      rw [show accR l d = accO l d by unfold accR; simp only [hg, ho]; rfl]
      obtain ⟨a1, a2⟩ := aE_good hg
      unfold accO
      cases hs : sparedB l with
      | true =>
        simp only [if_true]
        rcases a1 with ha | ha
        · rw [if_pos ha]
          exact acc_subs_ok l d w hg ho hs ha
        · rw [if_neg (by rw [ha]; decide), ha]
          exact acc_subs_over l d w hg ho hs ha
      | false =>
        simp only [Bool.false_eq_true, if_false]
        rcases a2 with ha | ha
        · rw [if_pos ha]
          exact acc_intr_ok l d w hg ho hs ha
        · rw [if_neg (by rw [ha]; decide), ha]
          exact acc_intr_over l d w hg ho hs ha
set_option maxRecDepth 20000 in
theorem cap_arg (l : Ln) (w : World) (hg : goodL l = false) : Calls Try.prog 13 #[.agg l.cells] w fun e w' => e = .returned (.tuple #[.agg (ln0).cells, .int .i64 1]) ∧ Below w.heap.size w w' := by
  obtain ⟨g, wb, e1, e2, hB, hb⟩ := boxd_new w l.cells 23
  obtain ⟨g2, wc, e3, e4, hB2, hb2⟩ := boxd_new wb #[.int .i64 0, .int .i64 0, .int .i64 0, .int .i64 0, .int .i64 0, .int .i64 0, .bool false, .int .i64 0, .int .i64 0, .int .i64 0, .int .i64 0, .int .i64 0, .int .i64 0] 23
  have e5 : g2 = g + 1 := by rw [e3, e2, Deep.nblk_alloc, e1]
  have HB : Hid (Boxd wc g l.cells 23) := hB.below hb2
  have HR : Hid (Boxd wc g2 #[.int .i64 0, .int .i64 0, .int .i64 0, .int .i64 0, .int .i64 0, .int .i64 0, .bool false, .int .i64 0, .int .i64 0, .int .i64 0, .int .i64 0, .int .i64 0, .int .i64 0] 23) := hB2
  have HW : Hid (Below w.heap.size w wc) := below_to hb hb2
  have HG : Hid (w.heap.size ≤ g ∧ w.heap.size ≤ g2 ∧ ¬ g = g2 ∧ ¬ g2 = g) := show _ ∧ _ ∧ ¬ _ ∧ ¬ _ by omega
  clear hB hB2 hb hb2
  have HS := Lib.hid (ln_info l)
  have HS0 := Lib.hid (ln_info ln0)
  have HO0 := Lib.hid (ln_one ln0)
  have KG := Lib.hid (fun W => r_good l W)
  rw [hg] at KG
  clear hg
  generalize l.cells = C at *
  go_enter Try.func13, Try.ntmps13
  go_upto_region 1 with fail
  rw [← e2, ← e1, ← e5, ← e4]
  clear e1 e2 e3 e4 e5
  go_wp2_with (first
    | (refine o_load rfl 23 _ rfl _ rfl _ _ _ HB.out Try.underlying23 rfl HS.out ?_)
    | (go_at_call 15; with_reducible refine (KG.out _).mono ?_; rintro e y ⟨rfl, hb⟩; replace HB := Lib.hid (HB.out.below hb); replace HR := Lib.hid (HR.out.below hb); replace HW := Lib.hid (below_to HW.out hb); clear hb)
    | (refine o_store rfl 23 _ _ rfl rfl g2 _ rfl rfl _ _ HR.out HS0.out rfl HO0.out ?_; intro y hr ho; replace HB := Lib.hid (HB.out.one ho HG.out.2.2.1); replace HR := Lib.hid hr; replace HW := Lib.hid (below_one_of HW.out ho HG.out.2.1 HW.out.size); clear hr ho))
  refine bodyPost_ret (results_two rfl _ _ _ _ _ _ _ rfl HR.out Try.underlying23 rfl HS0.out rfl) rfl ?_
  exact ⟨rfl, HW.out⟩
set_option maxRecDepth 20000 in
theorem cap_gone (l : Ln) (w : World) (hg : goodL l = true) (ho : openB l = false) : Calls Try.prog 13 #[.agg l.cells] w fun e w' => e = .returned (.tuple #[.agg (ln0).cells, .int .i64 61]) ∧ Below w.heap.size w w' := by
  obtain ⟨g, wb, e1, e2, hB, hb⟩ := boxd_new w l.cells 23
  obtain ⟨g2, wc, e3, e4, hB2, hb2⟩ := boxd_new wb #[.int .i64 0, .int .i64 0, .int .i64 0, .int .i64 0, .int .i64 0, .int .i64 0, .bool false, .int .i64 0, .int .i64 0, .int .i64 0, .int .i64 0, .int .i64 0, .int .i64 0] 23
  have e5 : g2 = g + 1 := by rw [e3, e2, Deep.nblk_alloc, e1]
  have HB : Hid (Boxd wc g l.cells 23) := hB.below hb2
  have HR : Hid (Boxd wc g2 #[.int .i64 0, .int .i64 0, .int .i64 0, .int .i64 0, .int .i64 0, .int .i64 0, .bool false, .int .i64 0, .int .i64 0, .int .i64 0, .int .i64 0, .int .i64 0, .int .i64 0] 23) := hB2
  have HW : Hid (Below w.heap.size w wc) := below_to hb hb2
  have HG : Hid (w.heap.size ≤ g ∧ w.heap.size ≤ g2 ∧ ¬ g = g2 ∧ ¬ g2 = g) := show _ ∧ _ ∧ ¬ _ ∧ ¬ _ by omega
  clear hB hB2 hb hb2
  have HS := Lib.hid (ln_info l)
  have HS0 := Lib.hid (ln_info ln0)
  have HO0 := Lib.hid (ln_one ln0)
  have KG := Lib.hid (fun W => r_good l W)
  rw [hg] at KG
  have t8 := shut_test ho
  have X8 : Hid (l.cells[8]? = some (.int .i64 l.closed)) := show _ = _ from rfl
  clear hg ho
  generalize l.closed = x8 at *
  generalize l.cells = C at *
  go_enter Try.func13, Try.ntmps13
  go_upto_region 1 with fail
  rw [← e2, ← e1, ← e5, ← e4]
  clear e1 e2 e3 e4 e5
  go_wp2_with (first
    | (refine o_load rfl 23 _ rfl _ rfl _ _ _ HB.out Try.underlying23 rfl HS.out ?_)
    | (go_at_call 15; with_reducible refine (KG.out _).mono ?_; rintro e y ⟨rfl, hb⟩; replace HB := Lib.hid (HB.out.below hb); replace HR := Lib.hid (HR.out.below hb); replace HW := Lib.hid (below_to HW.out hb); clear hb; have c8 := (HB.out.cell (i := 8)).trans X8.out)
    | (refine o_store rfl 23 _ _ rfl rfl g2 _ rfl rfl _ _ HR.out HS0.out rfl HO0.out ?_; intro y hr ho; replace HB := Lib.hid (HB.out.one ho HG.out.2.2.1); replace HR := Lib.hid hr; replace HW := Lib.hid (below_one_of HW.out ho HG.out.2.1 HW.out.size); clear hr ho))
  refine bodyPost_ret (results_two rfl _ _ _ _ _ _ _ rfl HR.out Try.underlying23 rfl HS0.out rfl) rfl ?_
  exact ⟨rfl, HW.out⟩
set_option maxRecDepth 20000 in
theorem cap_over (l : Ln) (w : World) (hg : goodL l = true) (ho : openB l = true) (hl : ¬ l.prin + centsL l ≤ 10000000000000) : Calls Try.prog 13 #[.agg l.cells] w fun e w' => e = .returned (.tuple #[.agg (ln0).cells, .int .i64 14]) ∧ Below w.heap.size w w' := by
  obtain ⟨g, wb, e1, e2, hB, hb⟩ := boxd_new w l.cells 23
  obtain ⟨g2, wc, e3, e4, hB2, hb2⟩ := boxd_new wb #[.int .i64 0, .int .i64 0, .int .i64 0, .int .i64 0, .int .i64 0, .int .i64 0, .bool false, .int .i64 0, .int .i64 0, .int .i64 0, .int .i64 0, .int .i64 0, .int .i64 0] 23
  have e5 : g2 = g + 1 := by rw [e3, e2, Deep.nblk_alloc, e1]
  have HB : Hid (Boxd wc g l.cells 23) := hB.below hb2
  have HR : Hid (Boxd wc g2 #[.int .i64 0, .int .i64 0, .int .i64 0, .int .i64 0, .int .i64 0, .int .i64 0, .bool false, .int .i64 0, .int .i64 0, .int .i64 0, .int .i64 0, .int .i64 0, .int .i64 0] 23) := hB2
  have HW : Hid (Below w.heap.size w wc) := below_to hb hb2
  have HG : Hid (w.heap.size ≤ g ∧ w.heap.size ≤ g2 ∧ ¬ g = g2 ∧ ¬ g2 = g) := show _ ∧ _ ∧ ¬ _ ∧ ¬ _ by omega
  clear hB hB2 hb hb2
  have HS := Lib.hid (ln_info l)
  have HS0 := Lib.hid (ln_info ln0)
  have HO0 := Lib.hid (ln_one ln0)
  have KG := Lib.hid (fun W => r_good l W)
  rw [hg] at KG
  have t8 := open_test ho
  have G := goodL_iff.1 hg
  obtain ⟨q0, q1, q2⟩ := cents_le G
  have KW : Hid (∀ W, Calls Try.prog 33 #[.int .i64 l.intr] W fun e w' => e = .returned (.int .i64 (centsL l)) ∧ W = w') := fun W => RAccr.r_whole l.intr W (by have := G.intr1; omega)
  have KA := Lib.hid (fun W => radd3 l.prin (centsL l) W G.prin0 G.prin1 q0 (by omega))
  have X8 : Hid (l.cells[8]? = some (.int .i64 l.closed)) := show _ = _ from rfl
  have X1 : Hid (l.cells[1]? = some (.int .i64 l.prin)) := show _ = _ from rfl
  have X2 : Hid (l.cells[2]? = some (.int .i64 l.intr)) := show _ = _ from rfl
  rw [if_neg hl, if_neg hl] at KA
  clear hg ho hl G q0 q1 q2
  generalize centsL l = c at *
  generalize l.closed = x8 at *
  generalize l.prin = x1 at *
  generalize l.intr = x2 at *
  generalize l.cells = C at *
  go_enter Try.func13, Try.ntmps13
  go_upto_region 1 with fail
  rw [← e2, ← e1, ← e5, ← e4]
  clear e1 e2 e3 e4 e5
  go_wp2_with (first
    | (refine o_load rfl 23 _ rfl _ rfl _ _ _ HB.out Try.underlying23 rfl HS.out ?_)
    | (go_at_call 15; with_reducible refine (KG.out _).mono ?_; rintro e y ⟨rfl, hb⟩; replace HB := Lib.hid (HB.out.below hb); replace HR := Lib.hid (HR.out.below hb); replace HW := Lib.hid (below_to HW.out hb); clear hb; have c8 := (HB.out.cell (i := 8)).trans X8.out; have c1 := (HB.out.cell (i := 1)).trans X1.out; have c2 := (HB.out.cell (i := 2)).trans X2.out)
    | (go_at_call 33; with_reducible refine (KW.out _).mono ?_; rintro e w' ⟨rfl, rfl⟩)
    | (go_at_call 32; with_reducible refine (KA.out _).mono ?_; rintro e w' ⟨rfl, rfl⟩)
    | (refine o_store rfl 23 _ _ rfl rfl g2 _ rfl rfl _ _ HR.out HS0.out rfl HO0.out ?_; intro y hr ho; replace HB := Lib.hid (HB.out.one ho HG.out.2.2.1); replace HR := Lib.hid hr; replace HW := Lib.hid (below_one_of HW.out ho HG.out.2.1 HW.out.size); clear hr ho))
  refine bodyPost_ret (results_two rfl _ _ _ _ _ _ _ rfl HR.out Try.underlying23 rfl HS0.out rfl) rfl ?_
  exact ⟨rfl, HW.out⟩
set_option maxRecDepth 20000 in
theorem cap_ok (l : Ln) (w : World) (hg : goodL l = true) (ho : openB l = true) (hl : l.prin + centsL l ≤ 10000000000000) : Calls Try.prog 13 #[.agg l.cells] w fun e w' => e = .returned (.tuple #[.agg (capL l).cells, .int .i64 0]) ∧ Below w.heap.size w w' := by
  obtain ⟨g, wb, e1, e2, hB, hb⟩ := boxd_new w l.cells 23
  obtain ⟨g2, wc, e3, e4, hB2, hb2⟩ := boxd_new wb #[.int .i64 0, .int .i64 0, .int .i64 0, .int .i64 0, .int .i64 0, .int .i64 0, .bool false, .int .i64 0, .int .i64 0, .int .i64 0, .int .i64 0, .int .i64 0, .int .i64 0] 23
  have e5 : g2 = g + 1 := by rw [e3, e2, Deep.nblk_alloc, e1]
  have HB : Hid (Boxd wc g l.cells 23) := hB.below hb2
  have HR : Hid (Boxd wc g2 #[.int .i64 0, .int .i64 0, .int .i64 0, .int .i64 0, .int .i64 0, .int .i64 0, .bool false, .int .i64 0, .int .i64 0, .int .i64 0, .int .i64 0, .int .i64 0, .int .i64 0] 23) := hB2
  have HW : Hid (Below w.heap.size w wc) := below_to hb hb2
  have HG : Hid (w.heap.size ≤ g ∧ w.heap.size ≤ g2 ∧ ¬ g = g2 ∧ ¬ g2 = g) := show _ ∧ _ ∧ ¬ _ ∧ ¬ _ by omega
  clear hB hB2 hb hb2
  have HS := Lib.hid (ln_info l)
  have HS0 := Lib.hid (ln_info ln0)
  have HO0 := Lib.hid (ln_one ln0)
  have KG := Lib.hid (fun W => r_good l W)
  rw [hg] at KG
  have t8 := open_test ho
  have G := goodL_iff.1 hg
  obtain ⟨q0, q1, q2⟩ := cents_le G
  have KW : Hid (∀ W, Calls Try.prog 33 #[.int .i64 l.intr] W fun e w' => e = .returned (.int .i64 (centsL l)) ∧ W = w') := fun W => RAccr.r_whole l.intr W (by have := G.intr1; omega)
  have KA := Lib.hid (fun W => radd3 l.prin (centsL l) W G.prin0 G.prin1 q0 (by omega))
  have X8 : Hid (l.cells[8]? = some (.int .i64 l.closed)) := show _ = _ from rfl
  have X1 : Hid (l.cells[1]? = some (.int .i64 l.prin)) := show _ = _ from rfl
  have X2 : Hid (l.cells[2]? = some (.int .i64 l.intr)) := show _ = _ from rfl
  rw [if_pos hl, if_pos hl] at KA
  have V1 : wrap64 (centsL l * 1000000) = centsL l * 1000000 := by unfold wrap64; omega
  have V2 : wrap64 (l.intr - centsL l * 1000000) = l.intr - centsL l * 1000000 := by have := G.intr1; unfold wrap64; omega
  have HZ : Hid (l.cells.size = 13) := ln_size l
  have HZ1 : Hid (({ l with prin := l.prin + centsL l } : Ln).cells.size = 13) := ln_size _
  have P1 : Hid (l.cells.setIfInBounds 1 (.int .i64 (l.prin + centsL l)) = ({ l with prin := l.prin + centsL l } : Ln).cells) := show _ = _ from rfl
  have P2 : Hid (({ l with prin := l.prin + centsL l } : Ln).cells.setIfInBounds 2 (.int .i64 (wrap64 (l.intr - wrap64 (centsL l * 1000000)))) = (capL l).cells) := show _ = _ by rw [V1, V2]; rfl
  have Y2 : Hid (({ l with prin := l.prin + centsL l } : Ln).cells[2]? = some (.int .i64 l.intr)) := show _ = _ from rfl
  have HS2 := Lib.hid (ln_info (capL l))
  have HO2 := Lib.hid (ln_one (capL l))
  have HZ2 : Hid (13 = (capL l).cells.size) := show _ = _ from rfl
  clear hg ho hl G q0 q1 q2 V1 V2
  generalize (capL l).cells = D2 at *
  generalize ({ l with prin := l.prin + centsL l } : Ln).cells = D1 at *
  generalize l.prin + centsL l = s at *
  generalize centsL l = c at *
  generalize l.closed = x8 at *
  generalize l.prin = x1 at *
  generalize l.intr = x2 at *
  generalize l.cells = C at *
  go_enter Try.func13, Try.ntmps13
  go_upto_region 1 with fail
  rw [← e2, ← e1, ← e5, ← e4]
  clear e1 e2 e3 e4 e5
  go_wp2_with (first
    | (refine o_load rfl 23 _ rfl _ rfl _ _ _ HB.out Try.underlying23 rfl HS.out ?_)
    | (refine o_load rfl 23 _ rfl _ rfl _ _ _ HB.out Try.underlying23 rfl HS2.out ?_)
    | (go_at_call 15; with_reducible refine (KG.out _).mono ?_; rintro e y ⟨rfl, hb⟩; replace HB := Lib.hid (HB.out.below hb); replace HR := Lib.hid (HR.out.below hb); replace HW := Lib.hid (below_to HW.out hb); clear hb; have c8 := (HB.out.cell (i := 8)).trans X8.out; have c1 := (HB.out.cell (i := 1)).trans X1.out; have c2 := (HB.out.cell (i := 2)).trans X2.out)
    | (go_at_call 33; with_reducible refine (KW.out _).mono ?_; rintro e w' ⟨rfl, rfl⟩)
    | (go_at_call 32; with_reducible refine (KA.out _).mono ?_; rintro e w' ⟨rfl, rfl⟩)
    | (refine o_put rfl 2 _ _ rfl rfl g 1 (.int .i64 s) rfl rfl rfl _ _ HB.out (by simp [HZ.out]) i64_one ?_; intro y hr ho; rw [P1.out] at hr; replace HB := Lib.hid hr; replace HR := Lib.hid (HR.out.one ho HG.out.2.2.2); replace HW := Lib.hid (below_one_of HW.out ho HG.out.1 HW.out.size); clear hr ho; have c2 := (HB.out.cell (i := 2)).trans Y2.out)
    | (refine o_put rfl 2 _ _ rfl rfl g 2 (.int .i64 (wrap64 (x2 - wrap64 (c * 1000000)))) rfl rfl rfl _ _ HB.out (by simp [HZ1.out]) i64_one ?_; intro y hr ho; rw [P2.out] at hr; replace HB := Lib.hid hr; replace HR := Lib.hid (HR.out.one ho HG.out.2.2.2); replace HW := Lib.hid (below_one_of HW.out ho HG.out.1 HW.out.size); clear hr ho)
    | (refine o_store rfl 23 _ _ rfl rfl g2 _ rfl rfl _ _ HR.out HS2.out HZ2.out HO2.out ?_; intro y hr ho; replace HB := Lib.hid (HB.out.one ho HG.out.2.2.1); replace HR := Lib.hid hr; replace HW := Lib.hid (below_one_of HW.out ho HG.out.2.1 HW.out.size); clear hr ho))
  refine bodyPost_ret (results_two rfl _ _ _ _ _ _ _ rfl HR.out Try.underlying23 rfl HS2.out rfl) rfl ?_
  exact ⟨rfl, HW.out⟩
theorem r_cap (l : Ln) (w : World) : Calls Try.prog 13 #[.agg l.cells] w fun e w' => e = .returned (.tuple #[.agg (capR l).1.cells, .int .i64 (capR l).2]) ∧ Below w.heap.size w w' := by
  cases hg : goodL l with
  | false =>
    rw [show capR l = (ln0, 1) by unfold capR; simp only [hg]; rfl]
    exact cap_arg l w hg
  | true =>
    cases ho : openB l with
    | false =>
      rw [show capR l = (ln0, 61) by unfold capR; simp only [hg, ho]; rfl]
      exact cap_gone l w hg ho
    | true =>
      by_cases hl : l.prin + centsL l ≤ 10000000000000
      · rw [show capR l = (capL l, 0) by unfold capR capO; simp only [hg, ho, if_pos hl]; rfl]
        exact cap_ok l w hg ho hl
      · rw [show capR l = (ln0, 14) by unfold capR capO; simp only [hg, ho, if_neg hl]; rfl]
        exact cap_over l w hg ho hl
end Go.Proofs.Ytkegmgjagcefhaa.RLoan
