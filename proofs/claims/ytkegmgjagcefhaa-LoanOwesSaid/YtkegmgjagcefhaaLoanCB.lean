/- The program's own package loan: its other calls. -/
import Derived.Test.YtkegmgjagcefhaaLoanCA
namespace Go.Proofs.Ytkegmgjagcefhaa.Loan
open Go.ChangeShapes Go.WideShapes Go.ChangeAt Go.RowKit Accr Box Slice Money

theorem told_turn (l : Ln) (s : Int) (d : Int) (g ks kd : Nat) (w : World) (hB : Boxd w g l.cells 23) (q0 : Boxd w ks #[.int .i64 s] 3) (n0 : ¬ ks = g) (q1 : Boxd w kd #[.int .i64 d] 3) (n1 : ¬ kd = g) :
    Calls Try.prog 34 #[.func (.func 50) #[] #[.pointer (some ⟨g, 0, none⟩), .pointer (some ⟨kd, 0, none⟩), .pointer (some ⟨ks, 0, none⟩)]] w fun e w' => e = .returned (.tuple #[.agg (turnR l s d).1.cells, .int .i64 (turnR l s d).2]) ∧ One g w w' := by
  have B2 := hB.below (two_below w)
  have Q0 := q0.below (two_below w)
  have Q1 := q1.below (two_below w)
  have en : ∀ (args : Array Value) (w : World), (callFunc 50 args).run Try.prog w = .ok (.enter 50 args) w := enters_of Try.func50 (by kernel_rfl) rfl
  cases hg : (goodL l && dayB d) with
  | false =>
    rw [show turnR l s d = (ln0, 1) by unfold turnR; simp only [hg]; rfl]
    exact toldL_bad _ _ 1 g w hB.lt en (turnF_arg l d s kd ks g _ B2 Q1 n1 Q0 n0 hg)
  | true =>
    cases ho : openB l with
    | false =>
      rw [show turnR l s d = (ln0, 61) by unfold turnR; simp only [hg, ho]; rfl]
      exact toldL_bad _ _ 61 g w hB.lt en (turnF_gone l d s kd ks g _ B2 Q1 n1 Q0 n0 hg ho)
    | true =>
      cases hm : mayB l s with
      | false =>
        rw [show turnR l s d = (ln0, 62) by unfold turnR; simp only [hg, ho, hm]; rfl]
        exact toldL_bad _ _ 62 g w hB.lt en (turnF_no l d s kd ks g _ B2 Q1 n1 Q0 n0 hg ho hm)
      | true =>
        rw [show turnR l s d = turnO l s d by unfold turnR; simp only [hg, ho, hm]; rfl]
        unfold turnO
        by_cases h5 : s = 5
        · have b5 : (s == 5) = true := by rw [h5]; rfl
          rw [if_pos h5]
          by_cases hl : l.prin + centsL l ≤ 10000000000000
          · rw [if_pos hl]
            exact toldL_ok _ _ _ g w hB.lt en (turnF_repay l d s kd ks g _ B2 Q1 n1 Q0 n0 hg ho hm b5 hl)
          · rw [if_neg hl]
            exact toldL_bad _ _ 14 g w hB.lt en (turnF_over l d s kd ks g _ B2 Q1 n1 Q0 n0 hg ho hm b5 hl)
        · rw [if_neg h5]
          exact toldL_ok _ _ _ g w hB.lt en (turnF_ok l d s kd ks g _ B2 Q1 n1 Q0 n0 hg ho hm (by rw [beq_eq_false_iff_ne]; exact h5))
set_option maxRecDepth 20000 in
theorem c_turn (l : Ln) (s : Int) (d : Int) (w : World) : Calls Try.prog 18 #[.agg l.cells, .int .i64 s, .int .i64 d] w fun e w' => e = .returned (.tuple #[.agg (turnR l s d).1.cells, .int .i64 (turnR l s d).2]) ∧ Below w.heap.size w w' := by
  obtain ⟨g, w0, e0, f0, hB, hb⟩ := boxd_new w l.cells 23
  have hW := hb
  clear hb
  obtain ⟨ks, w1, e1, f1, hK0, hb⟩ := boxd_new w0 #[.int .i64 s] 3
  have b1 : ks = g + 1 := by rw [e1, f0, Deep.nblk_alloc, ← e0]
  replace hB := hB.below hb
  replace hW := below_to hW hb
  clear hb
  obtain ⟨kd, w2, e2, f2, hK1, hb⟩ := boxd_new w1 #[.int .i64 d] 3
  have b2 : kd = ks + 1 := by rw [e2, f1, Deep.nblk_alloc, ← e1]
  replace hB := hB.below hb
  replace hK0 := hK0.below hb
  replace hW := below_to hW hb
  clear hb
  obtain ⟨gr, wr, er, fr, hR, hb⟩ := boxd_new w2 #[.int .i64 0, .int .i64 0, .int .i64 0, .int .i64 0, .int .i64 0, .int .i64 0, .bool false, .int .i64 0, .int .i64 0, .int .i64 0, .int .i64 0, .int .i64 0, .int .i64 0] 23
  have br : gr = kd + 1 := by rw [er, f2, Deep.nblk_alloc, ← e2]
  have HB : Hid (Boxd wr g l.cells 23) := hB.below hb
  have HK0 : Hid (Boxd wr ks #[.int .i64 s] 3) := hK0.below hb
  have HK1 : Hid (Boxd wr kd #[.int .i64 d] 3) := hK1.below hb
  have HR : Hid (Boxd wr gr #[.int .i64 0, .int .i64 0, .int .i64 0, .int .i64 0, .int .i64 0, .int .i64 0, .bool false, .int .i64 0, .int .i64 0, .int .i64 0, .int .i64 0, .int .i64 0, .int .i64 0] 23) := hR
  have HW : Hid (Below w.heap.size w wr) := below_to hW hb
  have HG : Hid (w.heap.size ≤ g ∧ w.heap.size ≤ gr ∧ ¬ gr = g) := show _ ∧ _ ∧ ¬ _ by omega
  have KT := Lib.hid (fun W hB hK0 hK1 => told_turn l s d g ks kd W hB hK0 (show ¬ ks = g by omega) hK1 (show ¬ kd = g by omega))
  have HS := Lib.hid (ln_info (turnR l s d).1)
  have HO := Lib.hid (ln_one (turnR l s d).1)
  have HZ : Hid (13 = (turnR l s d).1.cells.size) := show _ = _ from rfl
  have hmf := make_fn
  clear hB hW hR hb hK0 hK1
  generalize (turnR l s d).1.cells = D at *
  generalize (turnR l s d).2 = x at *
  generalize l.cells = C at *
  go_enter Try.func18, Try.ntmps18
  go_upto_region 1 with fail
  rw [← f0, ← e0]
  rw [← f1, ← b1]
  rw [← f2, ← b2]
  rw [← fr, ← br]
  clear e0 f0 e1 f1 b1 e2 f2 b2 er fr br
  go_wp2_with (first
    | (go_at_call 34; refine (KT.out _ HB.out HK0.out HK1.out).mono ?_; rintro e y ⟨rfl, ho⟩; replace HR := Lib.hid (HR.out.one ho HG.out.2.2); replace HW := Lib.hid (below_one_of HW.out ho HG.out.1 HW.out.size); clear ho)
    | (refine o_store rfl 23 _ _ rfl rfl _ _ rfl rfl _ _ HR.out HS.out HZ.out HO.out ?_; intro y hr ho; replace HR := Lib.hid hr; replace HW := Lib.hid (below_one_of HW.out ho HG.out.2.1 HW.out.size); clear hr ho))
  refine bodyPost_ret (results_two rfl _ _ _ _ _ _ _ rfl HR.out Try.underlying23 rfl HS.out rfl) rfl ?_
  exact ⟨rfl, HW.out⟩
theorem told_pay (l : Ln) (f : Int) (i : Int) (p : Int) (g kf ki kp : Nat) (w : World) (hB : Boxd w g l.cells 23) (q0 : Boxd w kf #[.int .i64 f] 2) (n0 : ¬ kf = g) (q1 : Boxd w ki #[.int .i64 i] 2) (n1 : ¬ ki = g) (q2 : Boxd w kp #[.int .i64 p] 2) (n2 : ¬ kp = g) :
    Calls Try.prog 34 #[.func (.func 58) #[] #[.pointer (some ⟨g, 0, none⟩), .pointer (some ⟨kf, 0, none⟩), .pointer (some ⟨ki, 0, none⟩), .pointer (some ⟨kp, 0, none⟩)]] w fun e w' => e = .returned (.tuple #[.agg (payR l f i p).1.cells, .int .i64 (payR l f i p).2]) ∧ One g w w' := by
  have B2 := hB.below (two_below w)
  have Q0 := q0.below (two_below w)
  have Q1 := q1.below (two_below w)
  have Q2 := q2.below (two_below w)
  have en : ∀ (args : Array Value) (w : World), (callFunc 58 args).run Try.prog w = .ok (.enter 58 args) w := enters_of Try.func58 (by kernel_rfl) rfl
  cases hg : (goodL l && notB f i p) with
  | false =>
    rw [show payR l f i p = (ln0, 1) by unfold payR; simp only [hg]; rfl]
    exact toldL_bad _ _ 1 g w hB.lt en (payF_arg l f i p kf ki kp g _ B2 Q0 n0 Q1 n1 Q2 n2 hg)
  | true =>
    cases ho : openB l with
    | false =>
      rw [show payR l f i p = (ln0, 61) by unfold payR; simp only [hg, ho]; rfl]
      exact toldL_bad _ _ 61 g w hB.lt en (payF_gone l f i p kf ki kp g _ B2 Q0 n0 Q1 n1 Q2 n2 hg ho)
    | true =>
      cases hh : hasB l f i p with
      | false =>
        rw [show payR l f i p = (ln0, 14) by unfold payR; simp only [hg, ho, hh]; rfl]
        exact toldL_bad _ _ 14 g w hB.lt en (payF_range l f i p kf ki kp g _ B2 Q0 n0 Q1 n1 Q2 n2 hg ho hh)
      | true =>
        cases hp : paidB (lessL l f i p) with
        | true =>
          rw [show payR l f i p = (shutL (lessL l f i p) 1, 0) by unfold payR payO; simp only [hg, ho, hh, hp]; rfl]
          exact toldL_ok _ _ _ g w hB.lt en (payF_paid l f i p kf ki kp g _ B2 Q0 n0 Q1 n1 Q2 n2 hg ho hh hp)
        | false =>
          rw [show payR l f i p = (lessL l f i p, 0) by unfold payR payO; simp only [hg, ho, hh, hp]; rfl]
          exact toldL_ok _ _ _ g w hB.lt en (payF_ok l f i p kf ki kp g _ B2 Q0 n0 Q1 n1 Q2 n2 hg ho hh hp)
set_option maxRecDepth 20000 in
theorem c_pay (l : Ln) (f : Int) (i : Int) (p : Int) (w : World) : Calls Try.prog 24 #[.agg l.cells, .int .i64 f, .int .i64 i, .int .i64 p] w fun e w' => e = .returned (.tuple #[.agg (payR l f i p).1.cells, .int .i64 (payR l f i p).2]) ∧ Below w.heap.size w w' := by
  obtain ⟨g, w0, e0, f0, hB, hb⟩ := boxd_new w l.cells 23
  have hW := hb
  clear hb
  obtain ⟨kf, w1, e1, f1, hK0, hb⟩ := boxd_new w0 #[.int .i64 f] 2
  have b1 : kf = g + 1 := by rw [e1, f0, Deep.nblk_alloc, ← e0]
  replace hB := hB.below hb
  replace hW := below_to hW hb
  clear hb
  obtain ⟨ki, w2, e2, f2, hK1, hb⟩ := boxd_new w1 #[.int .i64 i] 2
  have b2 : ki = kf + 1 := by rw [e2, f1, Deep.nblk_alloc, ← e1]
  replace hB := hB.below hb
  replace hK0 := hK0.below hb
  replace hW := below_to hW hb
  clear hb
  obtain ⟨kp, w3, e3, f3, hK2, hb⟩ := boxd_new w2 #[.int .i64 p] 2
  have b3 : kp = ki + 1 := by rw [e3, f2, Deep.nblk_alloc, ← e2]
  replace hB := hB.below hb
  replace hK0 := hK0.below hb
  replace hK1 := hK1.below hb
  replace hW := below_to hW hb
  clear hb
  obtain ⟨gr, wr, er, fr, hR, hb⟩ := boxd_new w3 #[.int .i64 0, .int .i64 0, .int .i64 0, .int .i64 0, .int .i64 0, .int .i64 0, .bool false, .int .i64 0, .int .i64 0, .int .i64 0, .int .i64 0, .int .i64 0, .int .i64 0] 23
  have br : gr = kp + 1 := by rw [er, f3, Deep.nblk_alloc, ← e3]
  have HB : Hid (Boxd wr g l.cells 23) := hB.below hb
  have HK0 : Hid (Boxd wr kf #[.int .i64 f] 2) := hK0.below hb
  have HK1 : Hid (Boxd wr ki #[.int .i64 i] 2) := hK1.below hb
  have HK2 : Hid (Boxd wr kp #[.int .i64 p] 2) := hK2.below hb
  have HR : Hid (Boxd wr gr #[.int .i64 0, .int .i64 0, .int .i64 0, .int .i64 0, .int .i64 0, .int .i64 0, .bool false, .int .i64 0, .int .i64 0, .int .i64 0, .int .i64 0, .int .i64 0, .int .i64 0] 23) := hR
  have HW : Hid (Below w.heap.size w wr) := below_to hW hb
  have HG : Hid (w.heap.size ≤ g ∧ w.heap.size ≤ gr ∧ ¬ gr = g) := show _ ∧ _ ∧ ¬ _ by omega
  have KT := Lib.hid (fun W hB hK0 hK1 hK2 => told_pay l f i p g kf ki kp W hB hK0 (show ¬ kf = g by omega) hK1 (show ¬ ki = g by omega) hK2 (show ¬ kp = g by omega))
  have HS := Lib.hid (ln_info (payR l f i p).1)
  have HO := Lib.hid (ln_one (payR l f i p).1)
  have HZ : Hid (13 = (payR l f i p).1.cells.size) := show _ = _ from rfl
  have hmf := make_fn
  clear hB hW hR hb hK0 hK1 hK2
  generalize (payR l f i p).1.cells = D at *
  generalize (payR l f i p).2 = x at *
  generalize l.cells = C at *
  go_enter Try.func24, Try.ntmps24
  go_upto_region 1 with fail
  rw [← f0, ← e0]
  rw [← f1, ← b1]
  rw [← f2, ← b2]
  rw [← f3, ← b3]
  rw [← fr, ← br]
  clear e0 f0 e1 f1 b1 e2 f2 b2 e3 f3 b3 er fr br
  go_wp2_with (first
    | (go_at_call 34; refine (KT.out _ HB.out HK0.out HK1.out HK2.out).mono ?_; rintro e y ⟨rfl, ho⟩; replace HR := Lib.hid (HR.out.one ho HG.out.2.2); replace HW := Lib.hid (below_one_of HW.out ho HG.out.1 HW.out.size); clear ho)
    | (refine o_store rfl 23 _ _ rfl rfl _ _ rfl rfl _ _ HR.out HS.out HZ.out HO.out ?_; intro y hr ho; replace HR := Lib.hid hr; replace HW := Lib.hid (below_one_of HW.out ho HG.out.2.1 HW.out.size); clear hr ho))
  refine bodyPost_ret (results_two rfl _ _ _ _ _ _ _ rfl HR.out Try.underlying23 rfl HS.out rfl) rfl ?_
  exact ⟨rfl, HW.out⟩
theorem one_below (w : World) : Below w.heap.size w (w.alloc (.cells #[.int .i64 0] 24)) := below_one _ _
theorem told_owes (l : Ln) (g : Nat) (w : World) (hB : Boxd w g l.cells 23) :
    Calls Try.prog 28 #[.func (.func 29) #[] #[.pointer (some ⟨g, 0, none⟩)]] w fun e w' => e = .returned (.tuple #[.int .i64 (owesR l).1, .int .i64 (owesR l).2]) ∧ Below w.heap.size w w' := by
  have B2 := hB.below (one_below w)
  have en : ∀ (args : Array Value) (w : World), (callFunc 29 args).run Try.prog w = .ok (.enter 29 args) w := enters_of Try.func29 (by kernel_rfl) rfl
  cases hg : goodL l with
  | false =>
    rw [show owesR l = (0, 1) by unfold owesR; simp only [hg]; rfl]
    exact toldI_bad _ _ 1 w en (owesF_arg l g _ B2 hg)
  | true =>
    have G := goodL_iff.1 hg
    by_cases hl : sumL l ≤ 10000000000000
    · rw [show owesR l = (sumL l, 0) by unfold owesR; simp only [hg, if_pos hl]; rfl]
      exact toldI_ok _ _ _ w en (owesF_ok l g _ B2 G hl)
    · rw [show owesR l = (0, 14) by unfold owesR; simp only [hg, if_neg hl]; rfl]
      exact toldI_bad _ _ 14 w en (owesF_over l g _ B2 G hl)
theorem c_owes (l : Ln) (w : World) : Calls Try.prog 8 #[.agg l.cells] w fun e w' => e = .returned (.tuple #[.int .i64 (owesR l).1, .int .i64 (owesR l).2]) ∧ Below w.heap.size w w' := by
  obtain ⟨g, w0, e0, f0, hB, hb⟩ := boxd_new w l.cells 23
  have hW := hb
  clear hb
  have HB := Lib.hid hB
  have HW := Lib.hid hW
  have KT := Lib.hid (fun W hB => told_owes l g W hB)
  have hmf := make_fn
  clear hB hW
  generalize (owesR l).1 = n at *
  generalize (owesR l).2 = x at *
  generalize l.cells = C at *
  go_enter Try.func8, Try.ntmps8
  go_upto_region 1 with fail
  rw [← f0, ← e0]
  clear e0 f0
  go_wp2_with (first
    | (go_at_call 28; refine (KT.out _ HB.out).mono ?_; rintro e y ⟨rfl, hb⟩; replace HW := Lib.hid (below_to HW.out hb); clear hb))
  go_ret2
  exact ⟨rfl, HW.out⟩
theorem told_close (l : Ln) (how : Int) (g k : Nat) (w : World) (hB : Boxd w g l.cells 23) (hK : Boxd w k #[.int .i64 how] 3) :
    Calls Try.prog 28 #[.func (.func 62) #[] #[.pointer (some ⟨g, 0, none⟩), .pointer (some ⟨k, 0, none⟩)]] w fun e w' => e = .returned (.tuple #[.int .i64 (closeR l how).2.1, .int .i64 (closeR l how).2.2]) ∧ Below w.heap.size w w' := by
  have B2 := hB.below (one_below w)
  have K2 := hK.below (one_below w)
  have en : ∀ (args : Array Value) (w : World), (callFunc 62 args).run Try.prog w = .ok (.enter 62 args) w := enters_of Try.func62 (by kernel_rfl) rfl
  cases hg : (goodL l && wB how 1 4) with
  | false =>
    rw [show closeR l how = (ln0, 0, 1) by unfold closeR; simp only [hg]; rfl]
    exact toldI_bad _ _ 1 w en (closeF_arg l how g k _ B2 K2 hg)
  | true =>
    cases ho : openB l with
    | false =>
      rw [show closeR l how = (ln0, 0, 61) by unfold closeR; simp only [hg, ho]; rfl]
      exact toldI_bad _ _ 61 w en (closeF_gone l how g k _ B2 K2 hg ho)
    | true =>
      by_cases hl : sumL l ≤ 10000000000000
      · rw [show closeR l how = (shutL l how, sumL l, 0) by unfold closeR; simp only [hg, ho, if_pos hl]; rfl]
        exact toldI_ok _ _ _ w en (closeF_ok l how g k _ B2 K2 hg ho hl)
      · rw [show closeR l how = (ln0, 0, 14) by unfold closeR; simp only [hg, ho, if_neg hl]; rfl]
        exact toldI_bad _ _ 14 w en (closeF_over l how g k _ B2 K2 hg ho hl)
theorem close_two (l : Ln) (how : Int) : ((closeR l how).2.2 = 0 ∧ (closeR l how).1 = shutL l how) ∨ ((closeR l how).2.2 ≠ 0 ∧ (closeR l how).1 = ln0 ∧ (closeR l how).2.1 = 0) := by
  unfold closeR
  split
  · split
    · split
      · exact Or.inl ⟨rfl, rfl⟩
      · exact Or.inr ⟨by decide, rfl, rfl⟩
    · exact Or.inr ⟨by decide, rfl, rfl⟩
  · exact Or.inr ⟨by decide, rfl, rfl⟩
set_option maxRecDepth 20000 in
theorem c_close (l : Ln) (how : Int) (w : World) : Calls Try.prog 25 #[.agg l.cells, .int .i64 how] w fun e w' => e = .returned (.tuple #[.agg (closeR l how).1.cells, .int .i64 (closeR l how).2.1, .int .i64 (closeR l how).2.2]) ∧ Below w.heap.size w w' := by
  obtain ⟨g, w0, e0, f0, hB, hb⟩ := boxd_new w l.cells 23
  have hW := hb
  clear hb
  obtain ⟨khow, w1, e1, f1, hK0, hb⟩ := boxd_new w0 #[.int .i64 how] 3
  have b1 : khow = g + 1 := by rw [e1, f0, Deep.nblk_alloc, ← e0]
  replace hB := hB.below hb
  replace hW := below_to hW hb
  clear hb
  obtain ⟨gr, wr, er, fr, hR, hb⟩ := boxd_new w1 #[.int .i64 0, .int .i64 0, .int .i64 0, .int .i64 0, .int .i64 0, .int .i64 0, .bool false, .int .i64 0, .int .i64 0, .int .i64 0, .int .i64 0, .int .i64 0, .int .i64 0] 23
  have br : gr = khow + 1 := by rw [er, f1, Deep.nblk_alloc, ← e1]
  have HB : Hid (Boxd wr g l.cells 23) := hB.below hb
  have HK : Hid (Boxd wr khow #[.int .i64 how] 3) := hK0.below hb
  have HR : Hid (Boxd wr gr #[.int .i64 0, .int .i64 0, .int .i64 0, .int .i64 0, .int .i64 0, .int .i64 0, .bool false, .int .i64 0, .int .i64 0, .int .i64 0, .int .i64 0, .int .i64 0, .int .i64 0] 23) := hR
  have HW : Hid (Below w.heap.size w wr) := below_to hW hb
  have HG : Hid (w.heap.size ≤ gr) := show _ ≤ _ by omega
  have KT := Lib.hid (fun W hB hK => told_close l how g khow W hB hK)
  have hmf := make_fn
  have h2 := close_two l how
  clear hB hW hR hb hK0
  rcases h2 with ⟨h3, h4⟩ | ⟨h3, h4, h5⟩
  · rw [h4]
    rw [h3] at KT ⊢
    clear h3 h4
    have HS := Lib.hid (ln_info (shutL l how))
    have HO := Lib.hid (ln_one (shutL l how))
    have HZ : Hid (13 = (shutL l how).cells.size) := show _ = _ from rfl
    have HS2 := Lib.hid (ln_info l)
    have KC := Lib.hid (fun W => closed_c l how W)
    generalize (closeR l how).2.1 = n at *
    generalize (shutL l how).cells = D at *
    generalize l.cells = C at *
    go_enter Try.func25, Try.ntmps25
    go_upto_region 1 with fail
    rw [← f0, ← e0]
    rw [← f1, ← b1]
    rw [← fr, ← br]
    clear e0 f0 e1 f1 b1 er fr br
    go_wp2_with (first
      | (go_at_call 28; refine (KT.out _ HB.out HK.out).mono ?_; rintro e y ⟨rfl, hb⟩; replace HB := Lib.hid (HB.out.below hb); replace HK := Lib.hid (HK.out.below hb); replace HR := Lib.hid (HR.out.below hb); replace HW := Lib.hid (below_to HW.out hb); have ck := (HK.out.cell (i := 0)).trans (show _ = some (.int .i64 how) from rfl); clear hb)
      | (refine o_load rfl 23 _ rfl _ rfl _ _ _ HB.out Try.underlying23 rfl HS2.out ?_)
      | (go_at_call 61; refine (KC.out _).mono ?_; rintro e y ⟨rfl, hb⟩; replace HR := Lib.hid (HR.out.below hb); replace HW := Lib.hid (below_to HW.out hb); clear hb)
      | (refine o_store rfl 23 _ _ rfl rfl _ _ rfl rfl _ _ HR.out HS.out HZ.out HO.out ?_; intro y hr ho; replace HR := Lib.hid hr; replace HW := Lib.hid (below_one_of HW.out ho HG.out HW.out.size); clear hr ho))
    refine bodyPost_ret (results_three rfl _ _ _ _ _ _ _ _ rfl HR.out Try.underlying23 rfl HS.out rfl rfl) rfl ?_
    exact ⟨rfl, HW.out⟩
  · rw [h4]
    rw [h5] at KT ⊢
    clear h4 h5
    have HS := Lib.hid (ln_info ln0)
    have HO := Lib.hid (ln_one ln0)
    have HZ : Hid (13 = ln0.cells.size) := show _ = _ from rfl
    have hx : ((closeR l how).2.2 != 0) = true := by rw [bne_iff_ne]; exact h3
    clear h3
    generalize (closeR l how).2.2 = x at *
    generalize l.cells = C at *
    go_enter Try.func25, Try.ntmps25
    go_upto_region 1 with fail
    rw [← f0, ← e0]
    rw [← f1, ← b1]
    rw [← fr, ← br]
    clear e0 f0 e1 f1 b1 er fr br
    go_wp2_with (first
      | (go_at_call 28; refine (KT.out _ HB.out HK.out).mono ?_; rintro e y ⟨rfl, hb⟩; replace HB := Lib.hid (HB.out.below hb); replace HK := Lib.hid (HK.out.below hb); replace HR := Lib.hid (HR.out.below hb); replace HW := Lib.hid (below_to HW.out hb); have ck := (HK.out.cell (i := 0)).trans (show _ = some (.int .i64 how) from rfl); clear hb)
      | (refine o_store rfl 23 _ _ rfl rfl _ _ rfl rfl _ _ HR.out HS.out HZ.out HO.out ?_; intro y hr ho; replace HR := Lib.hid hr; replace HW := Lib.hid (below_one_of HW.out ho HG.out HW.out.size); clear hr ho))
    refine bodyPost_ret (results_three rfl _ _ _ _ _ _ _ _ rfl HR.out Try.underlying23 rfl HS.out rfl rfl) rfl ?_
    exact ⟨rfl, HW.out⟩
end Go.Proofs.Ytkegmgjagcefhaa.Loan
