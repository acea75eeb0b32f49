/- The program's own package loan: its calls. -/
import Derived.Test.YtkegmgjagcefhaaLoanC8
import Derived.Test.YtkegmgjagcefhaaLoanC9
import Derived.Shelf.Abstract
namespace Go.Proofs.Ytkegmgjagcefhaa.Loan
open Go.ChangeShapes Go.WideShapes Go.ChangeAt Go.RowKit Accr Box Slice Money

theorem two_below (w : World) : Below w.heap.size w ((w.alloc (.cells #[.int .i64 0, .int .i64 0, .int .i64 0, .int .i64 0, .int .i64 0, .int .i64 0, .bool false, .int .i64 0, .int .i64 0, .int .i64 0, .int .i64 0, .int .i64 0, .int .i64 0] 23)).alloc (.cells #[.int .i64 0] 24)) := below_to (below_one _ _) (below_one _ _)
theorem told_acc (l : Ln) (d : Int) (g kd : Nat) (w : World) (hB : Boxd w g l.cells 23) (q0 : Boxd w kd #[.int .i64 d] 3) (n0 : ¬ kd = g) :
    Calls Try.prog 34 #[.func (.func 35) #[] #[.pointer (some ⟨g, 0, none⟩), .pointer (some ⟨kd, 0, none⟩)]] w fun e w' => e = .returned (.tuple #[.agg (accR l d).1.cells, .int .i64 (accR l d).2]) ∧ One g w w' := by
  have B2 := hB.below (two_below w)
  have Q0 := q0.below (two_below w)
  have en : ∀ (args : Array Value) (w : World), (callFunc 35 args).run Try.prog w = .ok (.enter 35 args) w := enters_of Try.func35 (by kernel_rfl) rfl
  cases hg : (goodL l && dayB d) with
  | false =>
    rw [show accR l d = (ln0, 1) by unfold accR; simp only [hg]; rfl]
    exact toldL_bad _ _ 1 g w hB.lt en (accF_arg l d kd g _ B2 Q0 n0 hg)
  | true =>
    cases ho : openB l with
    | false =>
      rw [show accR l d = (l, 0) by unfold accR; simp only [hg, ho]; rfl]
      exact toldL_ok _ _ l g w hB.lt en (accF_closed l d kd g _ B2 Q0 n0 hg ho)
    | true =>
      rw [show accR l d = accO l d by unfold accR; simp only [hg, ho]; rfl]
      obtain ⟨a1, a2⟩ := aE_good hg
      unfold accO
      cases hs : sparedB l with
      | true =>
        simp only [if_true]
        rcases a1 with ha | ha
        · rw [if_pos ha]
          exact toldL_ok _ _ _ g w hB.lt en (accF_sub_ok l d kd g _ B2 Q0 n0 hg ho hs ha)
        · rw [if_neg (by rw [ha]; decide), ha]
          exact toldL_bad _ _ 14 g w hB.lt en (accF_sub_over l d kd g _ B2 Q0 n0 hg ho hs ha)
      | false =>
        simp only [Bool.false_eq_true, if_false]
        rcases a2 with ha | ha
        · rw [if_pos ha]
          exact toldL_ok _ _ _ g w hB.lt en (accF_int_ok l d kd g _ B2 Q0 n0 hg ho hs ha)
        · rw [if_neg (by rw [ha]; decide), ha]
          exact toldL_bad _ _ 14 g w hB.lt en (accF_int_over l d kd g _ B2 Q0 n0 hg ho hs ha)
set_option maxRecDepth 20000 in
theorem c_accrue (l : Ln) (d : Int) (w : World) : Calls Try.prog 10 #[.agg l.cells, .int .i64 d] w fun e w' => e = .returned (.tuple #[.agg (accR l d).1.cells, .int .i64 (accR l d).2]) ∧ Below w.heap.size w w' := by
  obtain ⟨g, w0, e0, f0, hB, hb⟩ := boxd_new w l.cells 23
  have hW := hb
  clear hb
  obtain ⟨kd, w1, e1, f1, hK0, hb⟩ := boxd_new w0 #[.int .i64 d] 3
  have b1 : kd = g + 1 := by rw [e1, f0, Deep.nblk_alloc, ← e0]
  replace hB := hB.below hb
  replace hW := below_to hW hb
  clear hb
  obtain ⟨gr, wr, er, fr, hR, hb⟩ := boxd_new w1 #[.int .i64 0, .int .i64 0, .int .i64 0, .int .i64 0, .int .i64 0, .int .i64 0, .bool false, .int .i64 0, .int .i64 0, .int .i64 0, .int .i64 0, .int .i64 0, .int .i64 0] 23
  have br : gr = kd + 1 := by rw [er, f1, Deep.nblk_alloc, ← e1]
  have HB : Hid (Boxd wr g l.cells 23) := hB.below hb
  have HK0 : Hid (Boxd wr kd #[.int .i64 d] 3) := hK0.below hb
  have HR : Hid (Boxd wr gr #[.int .i64 0, .int .i64 0, .int .i64 0, .int .i64 0, .int .i64 0, .int .i64 0, .bool false, .int .i64 0, .int .i64 0, .int .i64 0, .int .i64 0, .int .i64 0, .int .i64 0] 23) := hR
  have HW : Hid (Below w.heap.size w wr) := below_to hW hb
  have HG : Hid (w.heap.size ≤ g ∧ w.heap.size ≤ gr ∧ ¬ gr = g) := show _ ∧ _ ∧ ¬ _ by omega
  have KT := Lib.hid (fun W hB hK0 => told_acc l d g kd W hB hK0 (show ¬ kd = g by omega))
  have HS := Lib.hid (ln_info (accR l d).1)
  have HO := Lib.hid (ln_one (accR l d).1)
  have HZ : Hid (13 = (accR l d).1.cells.size) := show _ = _ from rfl
  have hmf := make_fn
  clear hB hW hR hb hK0
  generalize (accR l d).1.cells = D at *
  generalize (accR l d).2 = x at *
  generalize l.cells = C at *
  go_enter Try.func10, Try.ntmps10
  go_upto_region 1 with fail
  rw [← f0, ← e0]
  rw [← f1, ← b1]
  rw [← fr, ← br]
  clear e0 f0 e1 f1 b1 er fr br
  go_wp2_with (first
    | (go_at_call 34; refine (KT.out _ HB.out HK0.out).mono ?_; rintro e y ⟨rfl, ho⟩; replace HR := Lib.hid (HR.out.one ho HG.out.2.2); replace HW := Lib.hid (below_one_of HW.out ho HG.out.1 HW.out.size); clear ho)
    | (refine o_store rfl 23 _ _ rfl rfl _ _ rfl rfl _ _ HR.out HS.out HZ.out HO.out ?_; intro y hr ho; replace HR := Lib.hid hr; replace HW := Lib.hid (below_one_of HW.out ho HG.out.2.1 HW.out.size); clear hr ho))
  refine bodyPost_ret (results_two rfl _ _ _ _ _ _ _ rfl HR.out Try.underlying23 rfl HS.out rfl) rfl ?_
  exact ⟨rfl, HW.out⟩
theorem told_cap (l : Ln) (g : Nat) (w : World) (hB : Boxd w g l.cells 23) :
    Calls Try.prog 34 #[.func (.func 41) #[] #[.pointer (some ⟨g, 0, none⟩)]] w fun e w' => e = .returned (.tuple #[.agg (capR l).1.cells, .int .i64 (capR l).2]) ∧ One g w w' := by
  have B2 := hB.below (two_below w)
  have en : ∀ (args : Array Value) (w : World), (callFunc 41 args).run Try.prog w = .ok (.enter 41 args) w := enters_of Try.func41 (by kernel_rfl) rfl
  have hg0 : (goodL l && true) = goodL l := Bool.and_true _
  cases hg : goodL l with
  | false =>
    rw [show capR l = (ln0, 1) by unfold capR; simp only [hg]; rfl]
    exact toldL_bad _ _ 1 g w hB.lt en (capF_arg l  g _ B2 (hg0.trans hg))
  | true =>
    cases ho : openB l with
    | false =>
      rw [show capR l = (ln0, 61) by unfold capR; simp only [hg, ho]; rfl]
      exact toldL_bad _ _ 61 g w hB.lt en (capF_gone l  g _ B2 (hg0.trans hg) ho)
    | true =>
      by_cases hl : l.prin + centsL l ≤ 10000000000000
      · rw [show capR l = (capL l, 0) by unfold capR capO; simp only [hg, ho, if_pos hl]; rfl]
        exact toldL_ok _ _ _ g w hB.lt en (capF_ok l  g _ B2 (hg0.trans hg) ho hl)
      · rw [show capR l = (ln0, 14) by unfold capR capO; simp only [hg, ho, if_neg hl]; rfl]
        exact toldL_bad _ _ 14 g w hB.lt en (capF_over l  g _ B2 (hg0.trans hg) ho hl)
set_option maxRecDepth 20000 in
theorem c_cap (l : Ln) (w : World) : Calls Try.prog 12 #[.agg l.cells] w fun e w' => e = .returned (.tuple #[.agg (capR l).1.cells, .int .i64 (capR l).2]) ∧ Below w.heap.size w w' := by
  obtain ⟨g, w0, e0, f0, hB, hb⟩ := boxd_new w l.cells 23
  have hW := hb
  clear hb
  obtain ⟨gr, wr, er, fr, hR, hb⟩ := boxd_new w0 #[.int .i64 0, .int .i64 0, .int .i64 0, .int .i64 0, .int .i64 0, .int .i64 0, .bool false, .int .i64 0, .int .i64 0, .int .i64 0, .int .i64 0, .int .i64 0, .int .i64 0] 23
  have br : gr = g + 1 := by rw [er, f0, Deep.nblk_alloc, ← e0]
  have HB : Hid (Boxd wr g l.cells 23) := hB.below hb
  have HR : Hid (Boxd wr gr #[.int .i64 0, .int .i64 0, .int .i64 0, .int .i64 0, .int .i64 0, .int .i64 0, .bool false, .int .i64 0, .int .i64 0, .int .i64 0, .int .i64 0, .int .i64 0, .int .i64 0] 23) := hR
  have HW : Hid (Below w.heap.size w wr) := below_to hW hb
  have HG : Hid (w.heap.size ≤ g ∧ w.heap.size ≤ gr ∧ ¬ gr = g) := show _ ∧ _ ∧ ¬ _ by omega
  have KT := Lib.hid (fun W hB => told_cap l g W hB)
  have HS := Lib.hid (ln_info (capR l).1)
  have HO := Lib.hid (ln_one (capR l).1)
  have HZ : Hid (13 = (capR l).1.cells.size) := show _ = _ from rfl
  have hmf := make_fn
  clear hB hW hR hb
  generalize (capR l).1.cells = D at *
  generalize (capR l).2 = x at *
  generalize l.cells = C at *
  go_enter Try.func12, Try.ntmps12
  go_upto_region 1 with fail
  rw [← f0, ← e0]
  rw [← fr, ← br]
  clear e0 f0 er fr br
  go_wp2_with (first
    | (go_at_call 34; refine (KT.out _ HB.out).mono ?_; rintro e y ⟨rfl, ho⟩; replace HR := Lib.hid (HR.out.one ho HG.out.2.2); replace HW := Lib.hid (below_one_of HW.out ho HG.out.1 HW.out.size); clear ho)
    | (refine o_store rfl 23 _ _ rfl rfl _ _ rfl rfl _ _ HR.out HS.out HZ.out HO.out ?_; intro y hr ho; replace HR := Lib.hid hr; replace HW := Lib.hid (below_one_of HW.out ho HG.out.2.1 HW.out.size); clear hr ho))
  refine bodyPost_ret (results_two rfl _ _ _ _ _ _ _ rfl HR.out Try.underlying23 rfl HS.out rfl) rfl ?_
  exact ⟨rfl, HW.out⟩
theorem told_fee (l : Ln) (a : Int) (g ka : Nat) (w : World) (hB : Boxd w g l.cells 23) (q0 : Boxd w ka #[.int .i64 a] 2) (n0 : ¬ ka = g) :
    Calls Try.prog 34 #[.func (.func 53) #[] #[.pointer (some ⟨g, 0, none⟩), .pointer (some ⟨ka, 0, none⟩)]] w fun e w' => e = .returned (.tuple #[.agg (feeR l a).1.cells, .int .i64 (feeR l a).2]) ∧ One g w w' := by
  have B2 := hB.below (two_below w)
  have Q0 := q0.below (two_below w)
  have en : ∀ (args : Array Value) (w : World), (callFunc 53 args).run Try.prog w = .ok (.enter 53 args) w := enters_of Try.func53 (by kernel_rfl) rfl
  cases hg : (goodL l && amountB a) with
  | false =>
    rw [show feeR l a = (ln0, 1) by unfold feeR; simp only [hg]; rfl]
    exact toldL_bad _ _ 1 g w hB.lt en (feeF_arg l a ka g _ B2 Q0 n0 hg)
  | true =>
    cases ho : openB l with
    | false =>
      rw [show feeR l a = (ln0, 61) by unfold feeR; simp only [hg, ho]; rfl]
      exact toldL_bad _ _ 61 g w hB.lt en (feeF_gone l a ka g _ B2 Q0 n0 hg ho)
    | true =>
      by_cases hl : l.fees + a ≤ 10000000000000
      · rw [show feeR l a = ({ l with fees := l.fees + a }, 0) by unfold feeR; simp only [hg, ho, if_pos hl]; rfl]
        exact toldL_ok _ _ _ g w hB.lt en (feeF_ok l a ka g _ B2 Q0 n0 hg ho hl)
      · rw [show feeR l a = (ln0, 14) by unfold feeR; simp only [hg, ho, if_neg hl]; rfl]
        exact toldL_bad _ _ 14 g w hB.lt en (feeF_over l a ka g _ B2 Q0 n0 hg ho hl)
set_option maxRecDepth 20000 in
theorem c_fee (l : Ln) (a : Int) (w : World) : Calls Try.prog 20 #[.agg l.cells, .int .i64 a] w fun e w' => e = .returned (.tuple #[.agg (feeR l a).1.cells, .int .i64 (feeR l a).2]) ∧ Below w.heap.size w w' := by
  obtain ⟨g, w0, e0, f0, hB, hb⟩ := boxd_new w l.cells 23
  have hW := hb
  clear hb
  obtain ⟨ka, w1, e1, f1, hK0, hb⟩ := boxd_new w0 #[.int .i64 a] 2
  have b1 : ka = g + 1 := by rw [e1, f0, Deep.nblk_alloc, ← e0]
  replace hB := hB.below hb
  replace hW := below_to hW hb
  clear hb
  obtain ⟨gr, wr, er, fr, hR, hb⟩ := boxd_new w1 #[.int .i64 0, .int .i64 0, .int .i64 0, .int .i64 0, .int .i64 0, .int .i64 0, .bool false, .int .i64 0, .int .i64 0, .int .i64 0, .int .i64 0, .int .i64 0, .int .i64 0] 23
  have br : gr = ka + 1 := by rw [er, f1, Deep.nblk_alloc, ← e1]
  have HB : Hid (Boxd wr g l.cells 23) := hB.below hb
  have HK0 : Hid (Boxd wr ka #[.int .i64 a] 2) := hK0.below hb
  have HR : Hid (Boxd wr gr #[.int .i64 0, .int .i64 0, .int .i64 0, .int .i64 0, .int .i64 0, .int .i64 0, .bool false, .int .i64 0, .int .i64 0, .int .i64 0, .int .i64 0, .int .i64 0, .int .i64 0] 23) := hR
  have HW : Hid (Below w.heap.size w wr) := below_to hW hb
  have HG : Hid (w.heap.size ≤ g ∧ w.heap.size ≤ gr ∧ ¬ gr = g) := show _ ∧ _ ∧ ¬ _ by omega
  have KT := Lib.hid (fun W hB hK0 => told_fee l a g ka W hB hK0 (show ¬ ka = g by omega))
  have HS := Lib.hid (ln_info (feeR l a).1)
  have HO := Lib.hid (ln_one (feeR l a).1)
  have HZ : Hid (13 = (feeR l a).1.cells.size) := show _ = _ from rfl
  have hmf := make_fn
  clear hB hW hR hb hK0
  generalize (feeR l a).1.cells = D at *
  generalize (feeR l a).2 = x at *
  generalize l.cells = C at *
  go_enter Try.func20, Try.ntmps20
  go_upto_region 1 with fail
  rw [← f0, ← e0]
  rw [← f1, ← b1]
  rw [← fr, ← br]
  clear e0 f0 e1 f1 b1 er fr br
  go_wp2_with (first
    | (go_at_call 34; refine (KT.out _ HB.out HK0.out).mono ?_; rintro e y ⟨rfl, ho⟩; replace HR := Lib.hid (HR.out.one ho HG.out.2.2); replace HW := Lib.hid (below_one_of HW.out ho HG.out.1 HW.out.size); clear ho)
    | (refine o_store rfl 23 _ _ rfl rfl _ _ rfl rfl _ _ HR.out HS.out HZ.out HO.out ?_; intro y hr ho; replace HR := Lib.hid hr; replace HW := Lib.hid (below_one_of HW.out ho HG.out.2.1 HW.out.size); clear hr ho))
  refine bodyPost_ret (results_two rfl _ _ _ _ _ _ _ rfl HR.out Try.underlying23 rfl HS.out rfl) rfl ?_
  exact ⟨rfl, HW.out⟩
theorem told_draw (l : Ln) (a : Int) (g ka : Nat) (w : World) (hB : Boxd w g l.cells 23) (q0 : Boxd w ka #[.int .i64 a] 2) (n0 : ¬ ka = g) :
    Calls Try.prog 34 #[.func (.func 57) #[] #[.pointer (some ⟨g, 0, none⟩), .pointer (some ⟨ka, 0, none⟩)]] w fun e w' => e = .returned (.tuple #[.agg (drawR l a).1.cells, .int .i64 (drawR l a).2]) ∧ One g w w' := by
  have B2 := hB.below (two_below w)
  have Q0 := q0.below (two_below w)
  have en : ∀ (args : Array Value) (w : World), (callFunc 57 args).run Try.prog w = .ok (.enter 57 args) w := enters_of Try.func57 (by kernel_rfl) rfl
  cases hg : (goodL l && amountB a) with
  | false =>
    rw [show drawR l a = (ln0, 1) by unfold drawR; simp only [hg]; rfl]
    exact toldL_bad _ _ 1 g w hB.lt en (drawF_arg l a ka g _ B2 Q0 n0 hg)
  | true =>
    cases ho : openB l with
    | false =>
      rw [show drawR l a = (ln0, 61) by unfold drawR; simp only [hg, ho]; rfl]
      exact toldL_bad _ _ 61 g w hB.lt en (drawF_gone l a ka g _ B2 Q0 n0 hg ho)
    | true =>
      by_cases hl : l.prin + a ≤ 10000000000000
      · rw [show drawR l a = ({ l with prin := l.prin + a }, 0) by unfold drawR; simp only [hg, ho, if_pos hl]; rfl]
        exact toldL_ok _ _ _ g w hB.lt en (drawF_ok l a ka g _ B2 Q0 n0 hg ho hl)
      · rw [show drawR l a = (ln0, 14) by unfold drawR; simp only [hg, ho, if_neg hl]; rfl]
        exact toldL_bad _ _ 14 g w hB.lt en (drawF_over l a ka g _ B2 Q0 n0 hg ho hl)
set_option maxRecDepth 20000 in
theorem c_draw (l : Ln) (a : Int) (w : World) : Calls Try.prog 22 #[.agg l.cells, .int .i64 a] w fun e w' => e = .returned (.tuple #[.agg (drawR l a).1.cells, .int .i64 (drawR l a).2]) ∧ Below w.heap.size w w' := by
  obtain ⟨g, w0, e0, f0, hB, hb⟩ := boxd_new w l.cells 23
  have hW := hb
  clear hb
  obtain ⟨ka, w1, e1, f1, hK0, hb⟩ := boxd_new w0 #[.int .i64 a] 2
  have b1 : ka = g + 1 := by rw [e1, f0, Deep.nblk_alloc, ← e0]
  replace hB := hB.below hb
  replace hW := below_to hW hb
  clear hb
  obtain ⟨gr, wr, er, fr, hR, hb⟩ := boxd_new w1 #[.int .i64 0, .int .i64 0, .int .i64 0, .int .i64 0, .int .i64 0, .int .i64 0, .bool false, .int .i64 0, .int .i64 0, .int .i64 0, .int .i64 0, .int .i64 0, .int .i64 0] 23
  have br : gr = ka + 1 := by rw [er, f1, Deep.nblk_alloc, ← e1]
  have HB : Hid (Boxd wr g l.cells 23) := hB.below hb
  have HK0 : Hid (Boxd wr ka #[.int .i64 a] 2) := hK0.below hb
  have HR : Hid (Boxd wr gr #[.int .i64 0, .int .i64 0, .int .i64 0, .int .i64 0, .int .i64 0, .int .i64 0, .bool false, .int .i64 0, .int .i64 0, .int .i64 0, .int .i64 0, .int .i64 0, .int .i64 0] 23) := hR
  have HW : Hid (Below w.heap.size w wr) := below_to hW hb
  have HG : Hid (w.heap.size ≤ g ∧ w.heap.size ≤ gr ∧ ¬ gr = g) := show _ ∧ _ ∧ ¬ _ by omega
  have KT := Lib.hid (fun W hB hK0 => told_draw l a g ka W hB hK0 (show ¬ ka = g by omega))
  have HS := Lib.hid (ln_info (drawR l a).1)
  have HO := Lib.hid (ln_one (drawR l a).1)
  have HZ : Hid (13 = (drawR l a).1.cells.size) := show _ = _ from rfl
  have hmf := make_fn
  clear hB hW hR hb hK0
  generalize (drawR l a).1.cells = D at *
  generalize (drawR l a).2 = x at *
  generalize l.cells = C at *
  go_enter Try.func22, Try.ntmps22
  go_upto_region 1 with fail
  rw [← f0, ← e0]
  rw [← f1, ← b1]
  rw [← fr, ← br]
  clear e0 f0 e1 f1 b1 er fr br
  go_wp2_with (first
    | (go_at_call 34; refine (KT.out _ HB.out HK0.out).mono ?_; rintro e y ⟨rfl, ho⟩; replace HR := Lib.hid (HR.out.one ho HG.out.2.2); replace HW := Lib.hid (below_one_of HW.out ho HG.out.1 HW.out.size); clear ho)
    | (refine o_store rfl 23 _ _ rfl rfl _ _ rfl rfl _ _ HR.out HS.out HZ.out HO.out ?_; intro y hr ho; replace HR := Lib.hid hr; replace HW := Lib.hid (below_one_of HW.out ho HG.out.2.1 HW.out.size); clear hr ho))
  refine bodyPost_ret (results_two rfl _ _ _ _ _ _ _ rfl HR.out Try.underlying23 rfl HS.out rfl) rfl ?_
  exact ⟨rfl, HW.out⟩
end Go.Proofs.Ytkegmgjagcefhaa.Loan
