/- The program's own package loan: the closure of Pay, where something is left. -/
import Derived.Test.YtkegmgjagcefhaaLoanC7
namespace Go.Proofs.Ytkegmgjagcefhaa.Loan
open Go.ChangeShapes Go.WideShapes Go.ChangeAt Go.RowKit Accr Box Slice Money

set_option maxRecDepth 20000 in
set_option maxHeartbeats 2000000 in
theorem payF_ok (l : Ln) (f i p : Int) (kf ki kp : Nat) (g : Nat) (w : World) (hB : Boxd w g l.cells 23) (q0 : Boxd w kf #[.int .i64 f] 2) (ne0 : ¬ kf = g) (q1 : Boxd w ki #[.int .i64 i] 2) (ne1 : ¬ ki = g) (q2 : Boxd w kp #[.int .i64 p] 2) (ne2 : ¬ kp = g) (hg : (goodL l && notB f i p) = true) (ho : openB l = true) (hh : hasB l f i p = true) (hp : paidB (lessL l f i p) = false) : Calls Try.prog 58 #[.pointer (some ⟨g, 0, none⟩), .pointer (some ⟨kf, 0, none⟩), .pointer (some ⟨ki, 0, none⟩), .pointer (some ⟨kp, 0, none⟩)] w fun e w' => e = .returned (.agg (lessL l f i p).cells) ∧ One g w w' := by
  have hks : ∀ x ∈ ([(kf, .int .i64 f, 2), (ki, .int .i64 i, 2), (kp, .int .i64 p, 2)] : List (Nat × Value × TypeId)), Boxd w x.1 #[x.2.1] x.2.2 ∧ ¬ x.1 = g := by
    intro x hx
    simp only [List.mem_cons, List.not_mem_nil, or_false] at hx
    rcases hx with rfl | rfl | rfl
    · exact ⟨q0, ne0⟩
    · exact ⟨q1, ne1⟩
    · exact ⟨q2, ne2⟩
  obtain ⟨g2, wb, e1, e2, hst⟩ := st_new hB hks
  have HST := Lib.hid hst
  clear hst hks hB q0 ne0 q1 ne1 q2 ne2
  have HS := Lib.hid (ln_info l)
  obtain ⟨hg1, hg2⟩ := Bool.and_eq_true_iff.1 hg
  have G : Good l := goodL_iff.1 hg1
  have hn : (0 ≤ f ∧ 0 ≤ i) ∧ 0 ≤ p := by unfold notB at hg2; simpa using hg2
  obtain ⟨⟨h1, h2⟩, h3⟩ := hn
  have KN := Lib.hid (fun W => open_ok l (notB f i p) W hg ho)
  rw [hg2] at KN
  have KC := Lib.hid (fun W => cents_c l W (by have := G.intr1; omega))
  have Mf : Hid ((kf, Value.int .i64 f, 2) ∈ [(kf, Value.int .i64 f, 2), (ki, Value.int .i64 i, 2), (kp, Value.int .i64 p, 2)]) := show _ ∈ _ by simp
  have Mi : Hid ((ki, Value.int .i64 i, 2) ∈ [(kf, Value.int .i64 f, 2), (ki, Value.int .i64 i, 2), (kp, Value.int .i64 p, 2)]) := show _ ∈ _ by simp
  have Mp : Hid ((kp, Value.int .i64 p, 2) ∈ [(kf, Value.int .i64 f, 2), (ki, Value.int .i64 i, 2), (kp, Value.int .i64 p, 2)]) := show _ ∈ _ by simp
  have X4 : Hid (l.cells[4]? = some (.int .i64 l.fees)) := show _ = _ from rfl
  have X2 : Hid (l.cells[2]? = some (.int .i64 l.intr)) := show _ = _ from rfl
  have X1 : Hid (l.cells[1]? = some (.int .i64 l.prin)) := show _ = _ from rfl
  obtain ⟨⟨t1, t2⟩, t3⟩ : (f ≤ l.fees ∧ i ≤ centsL l) ∧ p ≤ l.prin := by unfold hasB at hh; simpa using hh
  have hq := cents_le G
  have h40 := G.fees0
  have h41 := G.fees1
  have h10 := G.prin0
  have h11 := G.prin1
  have hi0 := G.intr0
  have hi1 := G.intr1
  have V1 : wrap64 (l.fees - f) = l.fees - f := by unfold wrap64; omega
  have V2 : wrap64 (l.prin - p) = l.prin - p := by unfold wrap64; omega
  have KT := Lib.hid (fun W => c_take l.intr i W (by omega))
  have hk : okT l.intr i = true := by unfold okT; rw [decide_eq_true_iff]; exact ⟨hi0, hi1, h2, t2⟩
  rw [(tV_yes hk).1, (tV_yes hk).2] at KT
  have hi2 : l.intr - i * 1000000 ≤ 9223372036854775807 := by omega
  have KC3 := Lib.hid (fun W => cents_c (lessL l f i p) W hi2)
  have P1 : Hid (l.cells.setIfInBounds 4 (.int .i64 (wrap64 (l.fees - f))) = ({ l with fees := l.fees - f } : Ln).cells) := show _ = _ by rw [V1]; rfl
  have P2 : Hid (({ l with fees := l.fees - f } : Ln).cells.setIfInBounds 2 (.int .i64 (l.intr - i * 1000000)) = ({ l with fees := l.fees - f, intr := l.intr - i * 1000000 } : Ln).cells) := show _ = _ from rfl
  have P3 : Hid (({ l with fees := l.fees - f, intr := l.intr - i * 1000000 } : Ln).cells.setIfInBounds 1 (.int .i64 (wrap64 (l.prin - p))) = (lessL l f i p).cells) := show _ = _ by rw [V2]; rfl
  have Y2 : Hid (({ l with fees := l.fees - f } : Ln).cells[2]? = some (.int .i64 l.intr)) := show _ = _ from rfl
  have Y1 : Hid (({ l with fees := l.fees - f, intr := l.intr - i * 1000000 } : Ln).cells[1]? = some (.int .i64 l.prin)) := show _ = _ from rfl
  have Z4 : Hid ((lessL l f i p).cells[4]? = some (.int .i64 (l.fees - f))) := show _ = _ from rfl
  have Z1 : Hid ((lessL l f i p).cells[1]? = some (.int .i64 (l.prin - p))) := show _ = _ from rfl
  have HZ : Hid (l.cells.size = 13) := ln_size l
  have HS1 := Lib.hid (ln_info ({ l with fees := l.fees - f } : Ln))
  have HO1 := Lib.hid (ln_one ({ l with fees := l.fees - f } : Ln))
  have HZ1 : Hid (13 = ({ l with fees := l.fees - f } : Ln).cells.size) := show _ = _ from rfl
  have ZH1 : Hid (({ l with fees := l.fees - f } : Ln).cells.size = 13) := ln_size _
  have HS2 := Lib.hid (ln_info ({ l with fees := l.fees - f, intr := l.intr - i * 1000000 } : Ln))
  have HO2 := Lib.hid (ln_one ({ l with fees := l.fees - f, intr := l.intr - i * 1000000 } : Ln))
  have HZ2 : Hid (13 = ({ l with fees := l.fees - f, intr := l.intr - i * 1000000 } : Ln).cells.size) := show _ = _ from rfl
  have ZH2 : Hid (({ l with fees := l.fees - f, intr := l.intr - i * 1000000 } : Ln).cells.size = 13) := ln_size _
  have HS3 := Lib.hid (ln_info (lessL l f i p))
  have HO3 := Lib.hid (ln_one (lessL l f i p))
  have HZ3 : Hid (13 = (lessL l f i p).cells.size) := show _ = _ from rfl
  have ZH3 : Hid ((lessL l f i p).cells.size = 13) := ln_size _
  have hq2 : ¬ ((l.fees - f = 0 ∧ centsL (lessL l f i p) = 0) ∧ l.prin - p = 0) := by unfold paidB at hp; simpa [lessL] using hp
  clear hg hg1 hg2 ho hh G hq h40 h41 h10 h11 hi0 hi1 hk hi2 hp V1 V2
  generalize hKS : [(kf, Value.int .i64 f, 2), (ki, Value.int .i64 i, 2), (kp, Value.int .i64 p, 2)] = KS at *
  generalize centsL (lessL l f i p) = c3 at *
  generalize (lessL l f i p).cells = E3 at *
  generalize ({ l with fees := l.fees - f, intr := l.intr - i * 1000000 } : Ln).cells = E2 at *
  generalize ({ l with fees := l.fees - f } : Ln).cells = E1 at *
  generalize l.intr - i * 1000000 = s at *
  generalize centsL l = c at *
  generalize l.fees = x4 at *
  generalize l.prin = x1 at *
  generalize l.intr = x2 at *
  generalize l.cells = C at *
  go_enter Try.func58, Try.ntmps58
  go_upto_region 1 with fail
  rw [← e2, ← e1]
  clear e1 e2
  have cf := HST.out.arg (k := kf) Mf.out
  have ci := HST.out.arg (k := ki) Mi.out
  have cp := HST.out.arg (k := kp) Mp.out
  go_upto_region 2 with (first
    | (refine o_load rfl 23 _ rfl _ rfl _ _ _ HST.out.box Try.underlying23 rfl HS.out ?_)
    | (go_at_call 42; with_reducible refine (KN.out _).mono ?_; rintro e y ⟨rfl, hb⟩; replace HST := Lib.hid (HST.out.below hb); clear hb))
  have HST0 := Lib.hid HST.out.drawn
  have hS0 := And.intro (And.intro (HST.out.drawn.arg (k := kf) Mf.out) (And.intro (HST.out.drawn.arg (k := ki) Mi.out) (And.intro (HST.out.drawn.arg (k := kp) Mp.out) (And.intro (HST.out.drawn.cell (i := 4) X4.out) (HST.out.drawn.cell (i := 1) X1.out))))) HST.out.drawn.box
  refine wp_region_held_drew (S := (fun W => (W.cell? ⟨kf, 0, none⟩ = some (.int .i64 f) ∧ W.cell? ⟨ki, 0, none⟩ = some (.int .i64 i) ∧ W.cell? ⟨kp, 0, none⟩ = some (.int .i64 p) ∧ W.cell? ⟨g, 4, none⟩ = some (.int .i64 x4) ∧ W.cell? ⟨g, 1, none⟩ = some (.int .i64 x1)) ∧ Boxd W g C 23)) (by kernel_rfl) hS0 (fun hHeld => ?_)
  refine ByHand.take_yes (v := ?_) 0 17 rfl rfl (by kernel_rfl) (by kernel_rfl) (by kernel_rfl) (fun _ _ _ h => h) (by rfl) ?_ (by assumption) ?_
  rotate_left
  · intro w' hSw
    have hSw := hSw.1
    go_simp
    all_goals with_reducible rfl
  (try simp only [Act.put, List.setIfInBounds_toArray, List.set_cons_zero, List.set_cons_succ])
  refine ByHand.take_yes (v := ?_) 1 18 rfl rfl (by kernel_rfl) (by kernel_rfl) (by kernel_rfl) (fun _ _ _ h => h) (by rfl) ?_ (by assumption) ?_
  rotate_left
  · intro w' hSw
    have hSw := hSw.1
    go_simp
    all_goals with_reducible rfl
  (try simp only [Act.put, List.setIfInBounds_toArray, List.set_cons_zero, List.set_cons_succ])
  refine ByHand.take_yes (v := ?_) 2 19 rfl rfl (by kernel_rfl) (by kernel_rfl) (by kernel_rfl) (fun _ _ _ h => h) (by rfl) ?_ (by assumption) ?_
  rotate_left
  · intro w' hSw
    have hSw := hSw.1
    go_simp
    all_goals with_reducible rfl
  (try simp only [Act.put, List.setIfInBounds_toArray, List.set_cons_zero, List.set_cons_succ])
  refine ByHand.take_yes (v := ?_) 3 20 rfl rfl (by kernel_rfl) (by kernel_rfl) (by kernel_rfl) (fun _ _ _ h => h) (by rfl) ?_ (by assumption) ?_
  rotate_left
  · intro w' hSw
    have hSw := hSw.1
    go_simp
    all_goals with_reducible rfl
  (try simp only [Act.put, List.setIfInBounds_toArray, List.set_cons_zero, List.set_cons_succ])
  refine ByHand.take_yes (v := ?_) 4 21 rfl rfl (by kernel_rfl) (by kernel_rfl) (by kernel_rfl) (fun _ _ _ h => h) (by rfl) ?_ (by assumption) ?_
  rotate_left
  · intro w' hSw
    have hSw := hSw.1
    go_simp
    all_goals with_reducible rfl
  (try simp only [Act.put, List.setIfInBounds_toArray, List.set_cons_zero, List.set_cons_succ])
  refine ByHand.take_yes (v := ?_) 5 22 rfl rfl (by kernel_rfl) (by kernel_rfl) (by kernel_rfl) (fun _ _ _ h => h) (by rfl) ?_ (by assumption) ?_
  rotate_left
  · intro w' hSw
    have hSw := hSw.1
    go_simp
    all_goals with_reducible rfl
  (try simp only [Act.put, List.setIfInBounds_toArray, List.set_cons_zero, List.set_cons_succ])
  refine take_row 6 23 rfl rfl (by kernel_rfl) (by kernel_rfl) (by kernel_rfl) 23 _ rfl _ rfl _ _ Try.underlying23 rfl HS.out (fun _ h => h.2) (fun _ _ _ h => h) (by rfl) (by assumption) ?_
  (try simp only [Act.put, List.setIfInBounds_toArray, List.set_cons_zero, List.set_cons_succ])
  refine wpAnyH_ready (rs := [7]) (by kernel_rfl) (by simp) (AllReadyH.cons rfl (fun K hK => ?_) AllReadyH.nil)
  go_simp
  refine (KC.out _).mono ?_
  rintro e y ⟨rfl, hb⟩
  replace HST := Lib.hid (HST0.out.below hb)
  clear hb
  have hS1 := And.intro (And.intro (HST.out.arg (k := kf) Mf.out) (And.intro (HST.out.arg (k := ki) Mi.out) (And.intro (HST.out.arg (k := kp) Mp.out) (And.intro (HST.out.cell (i := 4) X4.out) (HST.out.cell (i := 1) X1.out))))) HST.out.box
  go_wp2_with fail
  refine hK.out _ _ ?_ (fun hHeld => ?_)
  · exact hS1
  clear hK K
  (try simp only [Act.put, List.setIfInBounds_toArray, List.set_cons_zero, List.set_cons_succ])
  refine ByHand.take_yes (v := ?_) 8 25 rfl rfl (by kernel_rfl) (by kernel_rfl) (by kernel_rfl) (fun _ _ _ h => h) (by rfl) ?_ (by assumption) ?_
  rotate_left
  · intro w' hSw
    have hSw := hSw.1
    go_simp
    all_goals with_reducible rfl
  (try simp only [Act.put, List.setIfInBounds_toArray, List.set_cons_zero, List.set_cons_succ])
  refine ByHand.take_yes (v := ?_) 9 26 rfl rfl (by kernel_rfl) (by kernel_rfl) (by kernel_rfl) (fun _ _ _ h => h) (by rfl) ?_ (by assumption) ?_
  rotate_left
  · intro w' hSw
    have hSw := hSw.1
    go_simp
    all_goals with_reducible rfl
  (try simp only [Act.put, List.setIfInBounds_toArray, List.set_cons_zero, List.set_cons_succ])
  refine ByHand.take_yes (v := ?_) 10 27 rfl rfl (by kernel_rfl) (by kernel_rfl) (by kernel_rfl) (fun _ _ _ h => h) (by rfl) ?_ (by assumption) ?_
  rotate_left
  · intro w' hSw
    have hSw := hSw.1
    go_simp
    all_goals with_reducible rfl
  (try simp only [Act.put, List.setIfInBounds_toArray, List.set_cons_zero, List.set_cons_succ])
  refine ByHand.take_yes (v := ?_) 11 28 rfl rfl (by kernel_rfl) (by kernel_rfl) (by kernel_rfl) (fun _ _ _ h => h) (by rfl) ?_ (by assumption) ?_
  rotate_left
  · intro w' hSw
    have hSw := hSw.1
    go_simp
    all_goals with_reducible rfl
  (try simp only [Act.put, List.setIfInBounds_toArray, List.set_cons_zero, List.set_cons_succ])
  refine ByHand.take_yes (v := ?_) 12 29 rfl rfl (by kernel_rfl) (by kernel_rfl) (by kernel_rfl) (fun _ _ _ h => h) (by rfl) ?_ (by assumption) ?_
  rotate_left
  · intro w' hSw
    have hSw := hSw.1
    go_simp
    all_goals with_reducible rfl
  (try simp only [Act.put, List.setIfInBounds_toArray, List.set_cons_zero, List.set_cons_succ])
  refine ByHand.take_yes (v := ?_) 13 30 rfl rfl (by kernel_rfl) (by kernel_rfl) (by kernel_rfl) (fun _ _ _ h => h) (by rfl) ?_ (by assumption) ?_
  rotate_left
  · intro w' hSw
    have hSw := hSw.1
    go_simp
    all_goals with_reducible rfl
  (try simp only [Act.put, List.setIfInBounds_toArray, List.set_cons_zero, List.set_cons_succ])
  refine ByHand.take_yes (v := ?_) 14 31 rfl rfl (by kernel_rfl) (by kernel_rfl) (by kernel_rfl) (fun _ _ _ h => h) (by rfl) ?_ (by assumption) ?_
  rotate_left
  · intro w' hSw
    have hSw := hSw.1
    go_simp
    all_goals with_reducible rfl
  (try simp only [Act.put, List.setIfInBounds_toArray, List.set_cons_zero, List.set_cons_succ])
  refine ByHand.take_yes (v := ?_) 15 32 rfl rfl (by kernel_rfl) (by kernel_rfl) (by kernel_rfl) (fun _ _ _ h => h) (by rfl) ?_ (by assumption) ?_
  rotate_left
  · intro w' hSw
    have hSw := hSw.1
    go_simp
    all_goals with_reducible rfl
  (try simp only [Act.put, List.setIfInBounds_toArray, List.set_cons_zero, List.set_cons_succ])
  refine wpAnyH_ready (rs := [16]) (by kernel_rfl) (by simp) (AllReadyH.cons rfl (fun K hK => ?_) AllReadyH.nil)
  go_simp
  refine (need_ok _ _).mono ?_
  rintro e w' ⟨rfl, rfl⟩
  go_wp2_with fail
  refine hK.out _ _ ?_ (fun hHeld => ?_)
  · exact hS1
  clear hK K
  (try simp only [Act.put, List.setIfInBounds_toArray, List.set_cons_zero, List.set_cons_succ])
  refine wpAnyH_done (by kernel_rfl) ?_ _
  have c4 := HST.out.cell (i := 4) X4.out
  have cf := HST.out.arg (k := kf) Mf.out
  have ci := HST.out.arg (k := ki) Mi.out
  have cp := HST.out.arg (k := kp) Mp.out
  go_upto_region 6 with (first
    | (refine o_load rfl 23 _ rfl _ rfl _ _ _ HST.out.box Try.underlying23 rfl HS.out ?_)
    | (refine o_load rfl 23 _ rfl _ rfl _ _ _ HST.out.box Try.underlying23 rfl HS3.out ?_)
    | (refine o_put rfl 2 _ _ rfl rfl g 4 (.int .i64 (wrap64 (x4 - f))) rfl rfl rfl _ _ HST.out.box (by simp [HZ.out]) i64_one ?_; intro y hr ho; rw [P1.out] at hr; replace HST := Lib.hid (HST.out.put hr ho); clear hr ho; have c2 := HST.out.cell (i := 2) Y2.out; have cf := HST.out.arg (k := kf) Mf.out; have ci := HST.out.arg (k := ki) Mi.out; have cp := HST.out.arg (k := kp) Mp.out)
    | (go_at_call 60; with_reducible refine (KT.out _).mono ?_; rintro e w' ⟨rfl, rfl⟩)
    | (go_at_call 39; with_reducible refine (must_ok _ _).mono ?_; rintro e w' ⟨rfl, rfl⟩)
    | (refine o_put rfl 2 _ _ rfl rfl g 2 (.int .i64 s) rfl rfl rfl _ _ HST.out.box (by simp [ZH1.out]) i64_one ?_; intro y hr ho; rw [P2.out] at hr; replace HST := Lib.hid (HST.out.put hr ho); clear hr ho; have c1 := HST.out.cell (i := 1) Y1.out; have cf := HST.out.arg (k := kf) Mf.out; have ci := HST.out.arg (k := ki) Mi.out; have cp := HST.out.arg (k := kp) Mp.out)
    | (refine o_put rfl 2 _ _ rfl rfl g 1 (.int .i64 (wrap64 (x1 - p))) rfl rfl rfl _ _ HST.out.box (by simp [ZH2.out]) i64_one ?_; intro y hr ho; rw [P3.out] at hr; replace HST := Lib.hid (HST.out.put hr ho); clear hr ho; have z4 := HST.out.cell (i := 4) Z4.out)
    | (go_at_call 59; with_reducible refine (KC3.out _).mono ?_; rintro e y ⟨rfl, hb⟩; replace HST := Lib.hid (HST.out.below hb); clear hb; have z1 := HST.out.cell (i := 1) Z1.out))
  by_cases b1 : x4 - f = 0
  · replace b1 : (x4 - f == 0) = true := by rw [b1]; rfl
    by_cases b2 : c3 = 0
    · have b3 : (x1 - p == 0) = false := by rw [beq_eq_false_iff_ne]; exact fun h => hq2 ⟨⟨by simpa using b1, b2⟩, h⟩
      replace b2 : (c3 == 0) = true := by rw [b2]; rfl
      clear hq2
      go_wp2_with (first
        | (refine o_load rfl 23 _ rfl _ rfl _ _ _ HST.out.box Try.underlying23 rfl HS.out ?_)
        | (refine o_load rfl 23 _ rfl _ rfl _ _ _ HST.out.box Try.underlying23 rfl HS3.out ?_)
        | (refine o_put rfl 2 _ _ rfl rfl g 4 (.int .i64 (wrap64 (x4 - f))) rfl rfl rfl _ _ HST.out.box (by simp [HZ.out]) i64_one ?_; intro y hr ho; rw [P1.out] at hr; replace HST := Lib.hid (HST.out.put hr ho); clear hr ho; have c2 := HST.out.cell (i := 2) Y2.out; have cf := HST.out.arg (k := kf) Mf.out; have ci := HST.out.arg (k := ki) Mi.out; have cp := HST.out.arg (k := kp) Mp.out)
        | (go_at_call 60; with_reducible refine (KT.out _).mono ?_; rintro e w' ⟨rfl, rfl⟩)
        | (go_at_call 39; with_reducible refine (must_ok _ _).mono ?_; rintro e w' ⟨rfl, rfl⟩)
        | (refine o_put rfl 2 _ _ rfl rfl g 2 (.int .i64 s) rfl rfl rfl _ _ HST.out.box (by simp [ZH1.out]) i64_one ?_; intro y hr ho; rw [P2.out] at hr; replace HST := Lib.hid (HST.out.put hr ho); clear hr ho; have c1 := HST.out.cell (i := 1) Y1.out; have cf := HST.out.arg (k := kf) Mf.out; have ci := HST.out.arg (k := ki) Mi.out; have cp := HST.out.arg (k := kp) Mp.out)
        | (refine o_put rfl 2 _ _ rfl rfl g 1 (.int .i64 (wrap64 (x1 - p))) rfl rfl rfl _ _ HST.out.box (by simp [ZH2.out]) i64_one ?_; intro y hr ho; rw [P3.out] at hr; replace HST := Lib.hid (HST.out.put hr ho); clear hr ho; have z4 := HST.out.cell (i := 4) Z4.out)
        | (go_at_call 59; with_reducible refine (KC3.out _).mono ?_; rintro e y ⟨rfl, hb⟩; replace HST := Lib.hid (HST.out.below hb); clear hb; have z1 := HST.out.cell (i := 1) Z1.out)
        | (refine o_store rfl 23 _ _ rfl rfl _ _ rfl rfl _ _ HST.out.res HS3.out HZ3.out HO3.out ?_; intro y hr ho; replace HST := Lib.hid (HST.out.fill hr ho); clear hr ho))
      refine bodyPost_ret (results_cell_row rfl _ _ _ _ _ _ _ rfl HST.out.res Try.underlying23 rfl HS3.out) rfl ?_
      exact ⟨rfl, HST.out.one⟩
    · replace b2 : (c3 == 0) = false := by rw [beq_eq_false_iff_ne]; exact b2
      clear hq2
      go_wp2_with (first
        | (refine o_load rfl 23 _ rfl _ rfl _ _ _ HST.out.box Try.underlying23 rfl HS.out ?_)
        | (refine o_load rfl 23 _ rfl _ rfl _ _ _ HST.out.box Try.underlying23 rfl HS3.out ?_)
        | (refine o_put rfl 2 _ _ rfl rfl g 4 (.int .i64 (wrap64 (x4 - f))) rfl rfl rfl _ _ HST.out.box (by simp [HZ.out]) i64_one ?_; intro y hr ho; rw [P1.out] at hr; replace HST := Lib.hid (HST.out.put hr ho); clear hr ho; have c2 := HST.out.cell (i := 2) Y2.out; have cf := HST.out.arg (k := kf) Mf.out; have ci := HST.out.arg (k := ki) Mi.out; have cp := HST.out.arg (k := kp) Mp.out)
        | (go_at_call 60; with_reducible refine (KT.out _).mono ?_; rintro e w' ⟨rfl, rfl⟩)
        | (go_at_call 39; with_reducible refine (must_ok _ _).mono ?_; rintro e w' ⟨rfl, rfl⟩)
        | (refine o_put rfl 2 _ _ rfl rfl g 2 (.int .i64 s) rfl rfl rfl _ _ HST.out.box (by simp [ZH1.out]) i64_one ?_; intro y hr ho; rw [P2.out] at hr; replace HST := Lib.hid (HST.out.put hr ho); clear hr ho; have c1 := HST.out.cell (i := 1) Y1.out; have cf := HST.out.arg (k := kf) Mf.out; have ci := HST.out.arg (k := ki) Mi.out; have cp := HST.out.arg (k := kp) Mp.out)
        | (refine o_put rfl 2 _ _ rfl rfl g 1 (.int .i64 (wrap64 (x1 - p))) rfl rfl rfl _ _ HST.out.box (by simp [ZH2.out]) i64_one ?_; intro y hr ho; rw [P3.out] at hr; replace HST := Lib.hid (HST.out.put hr ho); clear hr ho; have z4 := HST.out.cell (i := 4) Z4.out)
        | (go_at_call 59; with_reducible refine (KC3.out _).mono ?_; rintro e y ⟨rfl, hb⟩; replace HST := Lib.hid (HST.out.below hb); clear hb; have z1 := HST.out.cell (i := 1) Z1.out)
        | (refine o_store rfl 23 _ _ rfl rfl _ _ rfl rfl _ _ HST.out.res HS3.out HZ3.out HO3.out ?_; intro y hr ho; replace HST := Lib.hid (HST.out.fill hr ho); clear hr ho))
      refine bodyPost_ret (results_cell_row rfl _ _ _ _ _ _ _ rfl HST.out.res Try.underlying23 rfl HS3.out) rfl ?_
      exact ⟨rfl, HST.out.one⟩
  · replace b1 : (x4 - f == 0) = false := by rw [beq_eq_false_iff_ne]; exact b1
    clear hq2
    go_wp2_with (first
      | (refine o_load rfl 23 _ rfl _ rfl _ _ _ HST.out.box Try.underlying23 rfl HS.out ?_)
      | (refine o_load rfl 23 _ rfl _ rfl _ _ _ HST.out.box Try.underlying23 rfl HS3.out ?_)
      | (refine o_put rfl 2 _ _ rfl rfl g 4 (.int .i64 (wrap64 (x4 - f))) rfl rfl rfl _ _ HST.out.box (by simp [HZ.out]) i64_one ?_; intro y hr ho; rw [P1.out] at hr; replace HST := Lib.hid (HST.out.put hr ho); clear hr ho; have c2 := HST.out.cell (i := 2) Y2.out; have cf := HST.out.arg (k := kf) Mf.out; have ci := HST.out.arg (k := ki) Mi.out; have cp := HST.out.arg (k := kp) Mp.out)
      | (go_at_call 60; with_reducible refine (KT.out _).mono ?_; rintro e w' ⟨rfl, rfl⟩)
      | (go_at_call 39; with_reducible refine (must_ok _ _).mono ?_; rintro e w' ⟨rfl, rfl⟩)
      | (refine o_put rfl 2 _ _ rfl rfl g 2 (.int .i64 s) rfl rfl rfl _ _ HST.out.box (by simp [ZH1.out]) i64_one ?_; intro y hr ho; rw [P2.out] at hr; replace HST := Lib.hid (HST.out.put hr ho); clear hr ho; have c1 := HST.out.cell (i := 1) Y1.out; have cf := HST.out.arg (k := kf) Mf.out; have ci := HST.out.arg (k := ki) Mi.out; have cp := HST.out.arg (k := kp) Mp.out)
      | (refine o_put rfl 2 _ _ rfl rfl g 1 (.int .i64 (wrap64 (x1 - p))) rfl rfl rfl _ _ HST.out.box (by simp [ZH2.out]) i64_one ?_; intro y hr ho; rw [P3.out] at hr; replace HST := Lib.hid (HST.out.put hr ho); clear hr ho; have z4 := HST.out.cell (i := 4) Z4.out)
      | (go_at_call 59; with_reducible refine (KC3.out _).mono ?_; rintro e y ⟨rfl, hb⟩; replace HST := Lib.hid (HST.out.below hb); clear hb; have z1 := HST.out.cell (i := 1) Z1.out)
      | (refine o_store rfl 23 _ _ rfl rfl _ _ rfl rfl _ _ HST.out.res HS3.out HZ3.out HO3.out ?_; intro y hr ho; replace HST := Lib.hid (HST.out.fill hr ho); clear hr ho))
    refine bodyPost_ret (results_cell_row rfl _ _ _ _ _ _ _ rfl HST.out.res Try.underlying23 rfl HS3.out) rfl ?_
    exact ⟨rfl, HST.out.one⟩
end Go.Proofs.Ytkegmgjagcefhaa.Loan
