/- The program's own package loan: the closures of Accrue and Turn. -/
import Derived.Test.YtkegmgjagcefhaaLoanC5
namespace Go.Proofs.Ytkegmgjagcefhaa.Loan
open Go.ChangeShapes Go.WideShapes Go.ChangeAt Go.RowKit Accr Box Slice Money

set_option maxRecDepth 20000 in
theorem accF_arg (l : Ln) (d : Int) (kd : Nat) (g : Nat) (w : World) (hB : Boxd w g l.cells 23) (q0 : Boxd w kd #[.int .i64 d] 3) (ne0 : ¬ kd = g) (hg : (goodL l && dayB d) = false) : Calls Try.prog 35 #[.pointer (some ⟨g, 0, none⟩), .pointer (some ⟨kd, 0, none⟩)] w fun e w' => e = .panicked (errL 1) ∧ One g w w' := by
  have hks : ∀ x ∈ ([(kd, .int .i64 d, 3)] : List (Nat × Value × TypeId)), Boxd w x.1 #[x.2.1] x.2.2 ∧ ¬ x.1 = g := by
    intro x hx
    simp only [List.mem_cons, List.not_mem_nil, or_false] at hx
    obtain rfl := hx
    exact ⟨q0, ne0⟩
  obtain ⟨g2, wb, e1, e2, hst⟩ := st_new hB hks
  have HST := Lib.hid hst
  clear hst hks hB q0 ne0
  have HS := Lib.hid (ln_info l)
  have KG := Lib.hid (fun W => good_c l W)
  have KD := Lib.hid (fun W => day_c d W)
  have HM : Hid ((kd, Value.int .i64 d, 3) ∈ [(kd, Value.int .i64 d, 3)]) := List.mem_singleton.2 rfl
  unfold dayB at hg
  generalize goodL l = b at *
  generalize wB d 0 87658 = b2 at *
  generalize hKS : [(kd, Value.int .i64 d, 3)] = KS at *
  generalize l.cells = C at *
  go_enter Try.func35, Try.ntmps35
  go_upto_region 1 with fail
  rw [← e2, ← e1]
  clear e1 e2
  cases b with
  | false =>
    clear hg
    go_wp2_with (first
      | (refine o_load rfl 23 _ rfl _ rfl _ _ _ HST.out.box Try.underlying23 rfl HS.out ?_)
      | (go_at_call 14; with_reducible refine (KG.out _).mono ?_; rintro e y ⟨rfl, hb⟩; replace HST := Lib.hid (HST.out.below hb); clear hb; have cd := HST.out.arg (k := kd) HM.out)
      | (go_at_call 30; with_reducible refine (need_bad _ _).mono ?_; rintro e w' ⟨rfl, rfl⟩))
    exact ⟨rfl, rfl, HST.out.one⟩
  | true =>
    cases b2 with
    | true => cases hg
    | false =>
      clear hg
      go_wp2_with (first
        | (refine o_load rfl 23 _ rfl _ rfl _ _ _ HST.out.box Try.underlying23 rfl HS.out ?_)
        | (go_at_call 14; with_reducible refine (KG.out _).mono ?_; rintro e y ⟨rfl, hb⟩; replace HST := Lib.hid (HST.out.below hb); clear hb; have cd := HST.out.arg (k := kd) HM.out)
        | (go_at_call 36; with_reducible refine (KD.out _).mono ?_; rintro e w' ⟨rfl, rfl⟩)
        | (go_at_call 30; with_reducible refine (need_bad _ _).mono ?_; rintro e w' ⟨rfl, rfl⟩))
      exact ⟨rfl, rfl, HST.out.one⟩
set_option maxRecDepth 20000 in
theorem accF_closed (l : Ln) (d : Int) (kd : Nat) (g : Nat) (w : World) (hB : Boxd w g l.cells 23) (q0 : Boxd w kd #[.int .i64 d] 3) (ne0 : ¬ kd = g) (hg : (goodL l && dayB d) = true) (ho : openB l = false) : Calls Try.prog 35 #[.pointer (some ⟨g, 0, none⟩), .pointer (some ⟨kd, 0, none⟩)] w fun e w' => e = .returned (.agg l.cells) ∧ One g w w' := by
  have hks : ∀ x ∈ ([(kd, .int .i64 d, 3)] : List (Nat × Value × TypeId)), Boxd w x.1 #[x.2.1] x.2.2 ∧ ¬ x.1 = g := by
    intro x hx
    simp only [List.mem_cons, List.not_mem_nil, or_false] at hx
    obtain rfl := hx
    exact ⟨q0, ne0⟩
  obtain ⟨g2, wb, e1, e2, hst⟩ := st_new hB hks
  have HST := Lib.hid hst
  clear hst hks hB q0 ne0
  have HS := Lib.hid (ln_info l)
  obtain ⟨hg1, hg2⟩ := Bool.and_eq_true_iff.1 hg
  have G : Good l := goodL_iff.1 hg1
  unfold dayB at hg2
  have KG := Lib.hid (fun W => good_c l W)
  have KD := Lib.hid (fun W => day_c d W)
  have HM : Hid ((kd, Value.int .i64 d, 3) ∈ [(kd, Value.int .i64 d, 3)]) := List.mem_singleton.2 rfl
  rw [hg1] at KG
  rw [hg2] at KD
  have KO := Lib.hid (fun W => open_c l W)
  rw [ho] at KO
  clear hg hg1 hg2 ho G
  have HO := Lib.hid (ln_one l)
  have HZ : Hid (13 = l.cells.size) := show _ = _ from rfl
  generalize hKS : [(kd, Value.int .i64 d, 3)] = KS at *
  generalize l.cells = C at *
  go_enter Try.func35, Try.ntmps35
  go_upto_region 1 with fail
  rw [← e2, ← e1]
  clear e1 e2
  go_wp2_with (first
    | (refine o_load rfl 23 _ rfl _ rfl _ _ _ HST.out.box Try.underlying23 rfl HS.out ?_)
    | (go_at_call 14; with_reducible refine (KG.out _).mono ?_; rintro e y ⟨rfl, hb⟩; replace HST := Lib.hid (HST.out.below hb); clear hb; have cd := HST.out.arg (k := kd) HM.out)
    | (go_at_call 36; with_reducible refine (KD.out _).mono ?_; rintro e w' ⟨rfl, rfl⟩)
    | (go_at_call 30; with_reducible refine (need_ok _ _).mono ?_; rintro e w' ⟨rfl, rfl⟩)
    | (go_at_call 37; with_reducible refine (KO.out _).mono ?_; rintro e y ⟨rfl, hb⟩; replace HST := Lib.hid (HST.out.below hb); clear hb)
    | (refine o_store rfl 23 _ _ rfl rfl _ _ rfl rfl _ _ HST.out.res HS.out HZ.out HO.out ?_; intro y hr ho; replace HST := Lib.hid (HST.out.fill hr ho); clear hr ho))
  refine bodyPost_ret (results_cell_row rfl _ _ _ _ _ _ _ rfl HST.out.res Try.underlying23 rfl HS.out) rfl ?_
  exact ⟨rfl, HST.out.one⟩
set_option maxRecDepth 20000 in
theorem accF_sub_ok (l : Ln) (d : Int) (kd : Nat) (g : Nat) (w : World) (hB : Boxd w g l.cells 23) (q0 : Boxd w kd #[.int .i64 d] 3) (ne0 : ¬ kd = g) (hg : (goodL l && dayB d) = true) (ho : openB l = true) (hs : sparedB l = true) (ha : aE l.subs l.prin l.ppm d = 0) : Calls Try.prog 35 #[.pointer (some ⟨g, 0, none⟩), .pointer (some ⟨kd, 0, none⟩)] w fun e w' => e = .returned (.agg ({ l with subs := aV l.subs l.prin l.ppm d } : Ln).cells) ∧ One g w w' := by
  have hks : ∀ x ∈ ([(kd, .int .i64 d, 3)] : List (Nat × Value × TypeId)), Boxd w x.1 #[x.2.1] x.2.2 ∧ ¬ x.1 = g := by
    intro x hx
    simp only [List.mem_cons, List.not_mem_nil, or_false] at hx
    obtain rfl := hx
    exact ⟨q0, ne0⟩
  obtain ⟨g2, wb, e1, e2, hst⟩ := st_new hB hks
  have HST := Lib.hid hst
  clear hst hks hB q0 ne0
  have HS := Lib.hid (ln_info l)
  obtain ⟨hg1, hg2⟩ := Bool.and_eq_true_iff.1 hg
  have G : Good l := goodL_iff.1 hg1
  unfold dayB at hg2
  have KG := Lib.hid (fun W => good_c l W)
  have KD := Lib.hid (fun W => day_c d W)
  have HM : Hid ((kd, Value.int .i64 d, 3) ∈ [(kd, Value.int .i64 d, 3)]) := List.mem_singleton.2 rfl
  rw [hg1] at KG
  rw [hg2] at KD
  have KO := Lib.hid (fun W => open_c l W)
  rw [ho] at KO
  have KSP := Lib.hid (fun W => spared_c l W G.status0)
  rw [hs] at KSP
  have KA := Lib.hid (fun W => c_add l.subs l.prin l.ppm d W)
  rw [ha] at KA
  have X1 : Hid (l.cells[1]? = some (.int .i64 l.prin)) := show _ = _ from rfl
  have X5 : Hid (l.cells[5]? = some (.int .i64 l.ppm)) := show _ = _ from rfl
  have X3 : Hid (l.cells[3]? = some (.int .i64 l.subs)) := show _ = _ from rfl
  have PX : Hid (l.cells.setIfInBounds 3 (.int .i64 (aV l.subs l.prin l.ppm d)) = ({ l with subs := aV l.subs l.prin l.ppm d } : Ln).cells) := show _ = _ from rfl
  have Y1 : Hid (({ l with subs := aV l.subs l.prin l.ppm d } : Ln).cells[1]? = some (.int .i64 l.prin)) := show _ = _ from rfl
  have Y5 : Hid (({ l with subs := aV l.subs l.prin l.ppm d } : Ln).cells[5]? = some (.int .i64 l.ppm)) := show _ = _ from rfl
  have HS2 := Lib.hid (ln_info ({ l with subs := aV l.subs l.prin l.ppm d } : Ln))
  have HO := Lib.hid (ln_one ({ l with subs := aV l.subs l.prin l.ppm d } : Ln))
  have HZ : Hid (l.cells.size = 13) := ln_size l
  have HZ2 : Hid (13 = ({ l with subs := aV l.subs l.prin l.ppm d } : Ln).cells.size) := show _ = _ from rfl
  clear hg hg1 hg2 ho G hs ha
  generalize ({ l with subs := aV l.subs l.prin l.ppm d } : Ln).cells = D at *
  generalize aV l.subs l.prin l.ppm d = v at *
  generalize l.subs = h at *
  generalize l.prin = p at *
  generalize l.ppm = r at *
  generalize hKS : [(kd, Value.int .i64 d, 3)] = KS at *
  generalize l.cells = C at *
  go_enter Try.func35, Try.ntmps35
  go_upto_region 1 with fail
  rw [← e2, ← e1]
  clear e1 e2
  go_upto_region 7 with (first
    | (refine o_load rfl 23 _ rfl _ rfl _ _ _ HST.out.box Try.underlying23 rfl HS.out ?_)
    | (go_at_call 14; with_reducible refine (KG.out _).mono ?_; rintro e y ⟨rfl, hb⟩; replace HST := Lib.hid (HST.out.below hb); clear hb; have cd := HST.out.arg (k := kd) HM.out)
    | (go_at_call 36; with_reducible refine (KD.out _).mono ?_; rintro e w' ⟨rfl, rfl⟩)
    | (go_at_call 30; with_reducible refine (need_ok _ _).mono ?_; rintro e w' ⟨rfl, rfl⟩)
    | (go_at_call 37; with_reducible refine (KO.out _).mono ?_; rintro e y ⟨rfl, hb⟩; replace HST := Lib.hid (HST.out.below hb); clear hb)
    | (go_at_call 38; with_reducible refine (KSP.out _).mono ?_; rintro e y ⟨rfl, hb⟩; replace HST := Lib.hid (HST.out.below hb); clear hb))
  have c3 := HST.out.drawn.cell (i := 3) X3.out
  have hS0 := And.intro (HST.out.drawn.cell (i := 1) X1.out) (And.intro (HST.out.drawn.cell (i := 5) X5.out) (HST.out.drawn.arg (k := kd) HM.out))
  refine wp_region_held_drew (S := (fun W => W.cell? ⟨g, 1, none⟩ = some (.int .i64 p) ∧ W.cell? ⟨g, 5, none⟩ = some (.int .i64 r) ∧ W.cell? ⟨kd, 0, none⟩ = some (.int .i64 d))) (by kernel_rfl) hS0 (fun hHeld => ?_)
  refine ByHand.take_yes (v := ?_) 0 19 rfl rfl (by kernel_rfl) (by kernel_rfl) (by kernel_rfl) (fun _ _ _ h => h) (by rfl) ?_ (by assumption) ?_
  rotate_left
  · intro w' hSw
    (try dsimp only at hSw)
    go_simp
    all_goals with_reducible rfl
  (try simp only [Act.put, List.setIfInBounds_toArray, List.set_cons_zero, List.set_cons_succ])
  refine ByHand.take_yes (v := ?_) 1 20 rfl rfl (by kernel_rfl) (by kernel_rfl) (by kernel_rfl) (fun _ _ _ h => h) (by rfl) ?_ (by assumption) ?_
  rotate_left
  · intro w' hSw
    (try dsimp only at hSw)
    go_simp
    all_goals with_reducible rfl
  (try simp only [Act.put, List.setIfInBounds_toArray, List.set_cons_zero, List.set_cons_succ])
  refine ByHand.take_yes (v := ?_) 2 21 rfl rfl (by kernel_rfl) (by kernel_rfl) (by kernel_rfl) (fun _ _ _ h => h) (by rfl) ?_ (by assumption) ?_
  rotate_left
  · intro w' hSw
    (try dsimp only at hSw)
    go_simp
    all_goals with_reducible rfl
  (try simp only [Act.put, List.setIfInBounds_toArray, List.set_cons_zero, List.set_cons_succ])
  refine ByHand.take_yes (v := ?_) 4 23 rfl rfl (by kernel_rfl) (by kernel_rfl) (by kernel_rfl) (fun _ _ _ h => h) (by rfl) ?_ (by assumption) ?_
  rotate_left
  · intro w' hSw
    (try dsimp only at hSw)
    go_simp
    all_goals with_reducible rfl
  (try simp only [Act.put, List.setIfInBounds_toArray, List.set_cons_zero, List.set_cons_succ])
  refine ByHand.take_yes (v := ?_) 5 24 rfl rfl (by kernel_rfl) (by kernel_rfl) (by kernel_rfl) (fun _ _ _ h => h) (by rfl) ?_ (by assumption) ?_
  rotate_left
  · intro w' hSw
    (try dsimp only at hSw)
    go_simp
    all_goals with_reducible rfl
  (try simp only [Act.put, List.setIfInBounds_toArray, List.set_cons_zero, List.set_cons_succ])
  refine ByHand.take_yes (v := ?_) 6 25 rfl rfl (by kernel_rfl) (by kernel_rfl) (by kernel_rfl) (fun _ _ _ h => h) (by rfl) ?_ (by assumption) ?_
  rotate_left
  · intro w' hSw
    (try dsimp only at hSw)
    go_simp
    all_goals with_reducible rfl
  (try simp only [Act.put, List.setIfInBounds_toArray, List.set_cons_zero, List.set_cons_succ])
  refine ByHand.take_yes (v := ?_) 7 26 rfl rfl (by kernel_rfl) (by kernel_rfl) (by kernel_rfl) (fun _ _ _ h => h) (by rfl) ?_ (by assumption) ?_
  rotate_left
  · intro w' hSw
    (try dsimp only at hSw)
    go_simp
    all_goals with_reducible rfl
  (try simp only [Act.put, List.setIfInBounds_toArray, List.set_cons_zero, List.set_cons_succ])
  refine ByHand.take_yes (v := ?_) 8 27 rfl rfl (by kernel_rfl) (by kernel_rfl) (by kernel_rfl) (fun _ _ _ h => h) (by rfl) ?_ (by assumption) ?_
  rotate_left
  · intro w' hSw
    (try dsimp only at hSw)
    go_simp
    all_goals with_reducible rfl
  (try simp only [Act.put, List.setIfInBounds_toArray, List.set_cons_zero, List.set_cons_succ])
  refine wpAnyH_ready (rs := [3]) (by kernel_rfl) (by simp) (AllReadyH.cons rfl (fun K hK => ?_) AllReadyH.nil)
  go_simp
  refine hK.out _ _ ?_ (fun hHeld => ?_)
  · exact hS0
  clear hK K
  (try simp only [Act.put, List.setIfInBounds_toArray, List.set_cons_zero, List.set_cons_succ])
  refine wpAnyH_ready (rs := [9]) (by kernel_rfl) (by simp) (AllReadyH.cons rfl (fun K hK => ?_) AllReadyH.nil)
  go_simp
  refine (KA.out _).mono ?_
  rintro e y ⟨rfl, hb⟩
  replace HST := Lib.hid (HST.out.drawn.below hb)
  clear hb
  have hS1 := And.intro (HST.out.cell (i := 1) X1.out) (And.intro (HST.out.cell (i := 5) X5.out) (HST.out.arg (k := kd) HM.out))
  go_wp2_with fail
  refine hK.out _ _ ?_ (fun hHeld => ?_)
  · exact hS1
  clear hK K
  (try simp only [Act.put, List.setIfInBounds_toArray, List.set_cons_zero, List.set_cons_succ])
  refine ByHand.take_yes (v := ?_) 10 29 rfl rfl (by kernel_rfl) (by kernel_rfl) (by kernel_rfl) (fun _ _ _ h => h) (by rfl) ?_ (by assumption) ?_
  rotate_left
  · intro w' hSw
    (try dsimp only at hSw)
    go_simp
    all_goals with_reducible rfl
  (try simp only [Act.put, List.setIfInBounds_toArray, List.set_cons_zero, List.set_cons_succ])
  refine ByHand.take_yes (v := ?_) 11 30 rfl rfl (by kernel_rfl) (by kernel_rfl) (by kernel_rfl) (fun _ _ _ h => h) (by rfl) ?_ (by assumption) ?_
  rotate_left
  · intro w' hSw
    (try dsimp only at hSw)
    go_simp
    all_goals with_reducible rfl
  (try simp only [Act.put, List.setIfInBounds_toArray, List.set_cons_zero, List.set_cons_succ])
  refine wpAnyH_ready (rs := [12]) (by kernel_rfl) (by simp) (AllReadyH.cons rfl (fun K hK => ?_) AllReadyH.nil)
  go_simp
  refine (must_ok _ _).mono ?_
  rintro e w' ⟨rfl, rfl⟩
  go_wp2_with fail
  refine hK.out _ _ ?_ (fun hHeld => ?_)
  · exact hS1
  clear hK K
  (try simp only [Act.put, List.setIfInBounds_toArray, List.set_cons_zero, List.set_cons_succ])
  refine ByHand.take_yes (v := ?_) 13 32 rfl rfl (by kernel_rfl) (by kernel_rfl) (by kernel_rfl) (fun _ _ _ h => h) (by rfl) ?_ (by assumption) ?_
  rotate_left
  · intro w' hSw
    (try dsimp only at hSw)
    go_simp
    all_goals with_reducible rfl
  (try simp only [Act.put, List.setIfInBounds_toArray, List.set_cons_zero, List.set_cons_succ])
  refine wpAnyH_ready (rs := [14]) (by kernel_rfl) (by simp) (AllReadyH.cons rfl (fun K hK => ?_) AllReadyH.nil)
  rw [if_pos (by rfl)]
  refine wp_put 2 _ _ rfl rfl g 3 (.int .i64 v) rfl rfl rfl _ _ HST.out.box (by simp [HZ.out]) i64_one ?_
  intro y2 hr hoo
  rw [PX.out] at hr
  replace HST := Lib.hid (HST.out.put hr hoo)
  clear hr hoo
  have hS2 := And.intro (HST.out.cell (i := 1) Y1.out) (And.intro (HST.out.cell (i := 5) Y5.out) (HST.out.arg (k := kd) HM.out))
  refine hK.out _ _ ?_ (fun hHeld => ?_)
  · exact hS2
  clear hK K
  (try simp only [Act.put, List.setIfInBounds_toArray, List.set_cons_zero, List.set_cons_succ])
  refine wpAnyH_done (by kernel_rfl) ?_ _
  go_wp2_with (first
    | (refine o_load rfl 23 _ rfl _ rfl _ _ _ HST.out.box Try.underlying23 rfl HS2.out ?_)
    | (refine o_store rfl 23 _ _ rfl rfl _ _ rfl rfl _ _ HST.out.res HS2.out HZ2.out HO.out ?_; intro y hr ho; replace HST := Lib.hid (HST.out.fill hr ho); clear hr ho))
  refine bodyPost_ret (results_cell_row rfl _ _ _ _ _ _ _ rfl HST.out.res Try.underlying23 rfl HS2.out) rfl ?_
  exact ⟨rfl, HST.out.one⟩
set_option maxRecDepth 20000 in
theorem accF_sub_over (l : Ln) (d : Int) (kd : Nat) (g : Nat) (w : World) (hB : Boxd w g l.cells 23) (q0 : Boxd w kd #[.int .i64 d] 3) (ne0 : ¬ kd = g) (hg : (goodL l && dayB d) = true) (ho : openB l = true) (hs : sparedB l = true) (ha : aE l.subs l.prin l.ppm d = 14) : Calls Try.prog 35 #[.pointer (some ⟨g, 0, none⟩), .pointer (some ⟨kd, 0, none⟩)] w fun e w' => e = .panicked (errL 14) ∧ One g w w' := by
  have hks : ∀ x ∈ ([(kd, .int .i64 d, 3)] : List (Nat × Value × TypeId)), Boxd w x.1 #[x.2.1] x.2.2 ∧ ¬ x.1 = g := by
    intro x hx
    simp only [List.mem_cons, List.not_mem_nil, or_false] at hx
    obtain rfl := hx
    exact ⟨q0, ne0⟩
  obtain ⟨g2, wb, e1, e2, hst⟩ := st_new hB hks
  have HST := Lib.hid hst
  clear hst hks hB q0 ne0
  have HS := Lib.hid (ln_info l)
  obtain ⟨hg1, hg2⟩ := Bool.and_eq_true_iff.1 hg
  have G : Good l := goodL_iff.1 hg1
  unfold dayB at hg2
  have KG := Lib.hid (fun W => good_c l W)
  have KD := Lib.hid (fun W => day_c d W)
  have HM : Hid ((kd, Value.int .i64 d, 3) ∈ [(kd, Value.int .i64 d, 3)]) := List.mem_singleton.2 rfl
  rw [hg1] at KG
  rw [hg2] at KD
  have KO := Lib.hid (fun W => open_c l W)
  rw [ho] at KO
  have KSP := Lib.hid (fun W => spared_c l W G.status0)
  rw [hs] at KSP
  have KA := Lib.hid (fun W => c_add l.subs l.prin l.ppm d W)
  rw [ha] at KA
  have X1 : Hid (l.cells[1]? = some (.int .i64 l.prin)) := show _ = _ from rfl
  have X5 : Hid (l.cells[5]? = some (.int .i64 l.ppm)) := show _ = _ from rfl
  have X3 : Hid (l.cells[3]? = some (.int .i64 l.subs)) := show _ = _ from rfl
  clear hg hg1 hg2 ho G hs ha
  generalize aV l.subs l.prin l.ppm d = v at *
  generalize l.subs = h at *
  generalize l.prin = p at *
  generalize l.ppm = r at *
  generalize hKS : [(kd, Value.int .i64 d, 3)] = KS at *
  generalize l.cells = C at *
  go_enter Try.func35, Try.ntmps35
  go_upto_region 1 with fail
  rw [← e2, ← e1]
  clear e1 e2
  go_upto_region 7 with (first
    | (refine o_load rfl 23 _ rfl _ rfl _ _ _ HST.out.box Try.underlying23 rfl HS.out ?_)
    | (go_at_call 14; with_reducible refine (KG.out _).mono ?_; rintro e y ⟨rfl, hb⟩; replace HST := Lib.hid (HST.out.below hb); clear hb; have cd := HST.out.arg (k := kd) HM.out)
    | (go_at_call 36; with_reducible refine (KD.out _).mono ?_; rintro e w' ⟨rfl, rfl⟩)
    | (go_at_call 30; with_reducible refine (need_ok _ _).mono ?_; rintro e w' ⟨rfl, rfl⟩)
    | (go_at_call 37; with_reducible refine (KO.out _).mono ?_; rintro e y ⟨rfl, hb⟩; replace HST := Lib.hid (HST.out.below hb); clear hb)
    | (go_at_call 38; with_reducible refine (KSP.out _).mono ?_; rintro e y ⟨rfl, hb⟩; replace HST := Lib.hid (HST.out.below hb); clear hb))
  have c3 := HST.out.drawn.cell (i := 3) X3.out
  have hS0 := And.intro (HST.out.drawn.cell (i := 1) X1.out) (And.intro (HST.out.drawn.cell (i := 5) X5.out) (HST.out.drawn.arg (k := kd) HM.out))
  refine wp_region_held_drew (S := (fun W => W.cell? ⟨g, 1, none⟩ = some (.int .i64 p) ∧ W.cell? ⟨g, 5, none⟩ = some (.int .i64 r) ∧ W.cell? ⟨kd, 0, none⟩ = some (.int .i64 d))) (by kernel_rfl) hS0 (fun hHeld => ?_)
  refine ByHand.take_yes (v := ?_) 0 19 rfl rfl (by kernel_rfl) (by kernel_rfl) (by kernel_rfl) (fun _ _ _ h => h) (by rfl) ?_ (by assumption) ?_
  rotate_left
  · intro w' hSw
    (try dsimp only at hSw)
    go_simp
    all_goals with_reducible rfl
  (try simp only [Act.put, List.setIfInBounds_toArray, List.set_cons_zero, List.set_cons_succ])
  refine ByHand.take_yes (v := ?_) 1 20 rfl rfl (by kernel_rfl) (by kernel_rfl) (by kernel_rfl) (fun _ _ _ h => h) (by rfl) ?_ (by assumption) ?_
  rotate_left
  · intro w' hSw
    (try dsimp only at hSw)
    go_simp
    all_goals with_reducible rfl
  (try simp only [Act.put, List.setIfInBounds_toArray, List.set_cons_zero, List.set_cons_succ])
  refine ByHand.take_yes (v := ?_) 2 21 rfl rfl (by kernel_rfl) (by kernel_rfl) (by kernel_rfl) (fun _ _ _ h => h) (by rfl) ?_ (by assumption) ?_
  rotate_left
  · intro w' hSw
    (try dsimp only at hSw)
    go_simp
    all_goals with_reducible rfl
  (try simp only [Act.put, List.setIfInBounds_toArray, List.set_cons_zero, List.set_cons_succ])
  refine ByHand.take_yes (v := ?_) 4 23 rfl rfl (by kernel_rfl) (by kernel_rfl) (by kernel_rfl) (fun _ _ _ h => h) (by rfl) ?_ (by assumption) ?_
  rotate_left
  · intro w' hSw
    (try dsimp only at hSw)
    go_simp
    all_goals with_reducible rfl
  (try simp only [Act.put, List.setIfInBounds_toArray, List.set_cons_zero, List.set_cons_succ])
  refine ByHand.take_yes (v := ?_) 5 24 rfl rfl (by kernel_rfl) (by kernel_rfl) (by kernel_rfl) (fun _ _ _ h => h) (by rfl) ?_ (by assumption) ?_
  rotate_left
  · intro w' hSw
    (try dsimp only at hSw)
    go_simp
    all_goals with_reducible rfl
  (try simp only [Act.put, List.setIfInBounds_toArray, List.set_cons_zero, List.set_cons_succ])
  refine ByHand.take_yes (v := ?_) 6 25 rfl rfl (by kernel_rfl) (by kernel_rfl) (by kernel_rfl) (fun _ _ _ h => h) (by rfl) ?_ (by assumption) ?_
  rotate_left
  · intro w' hSw
    (try dsimp only at hSw)
    go_simp
    all_goals with_reducible rfl
  (try simp only [Act.put, List.setIfInBounds_toArray, List.set_cons_zero, List.set_cons_succ])
  refine ByHand.take_yes (v := ?_) 7 26 rfl rfl (by kernel_rfl) (by kernel_rfl) (by kernel_rfl) (fun _ _ _ h => h) (by rfl) ?_ (by assumption) ?_
  rotate_left
  · intro w' hSw
    (try dsimp only at hSw)
    go_simp
    all_goals with_reducible rfl
  (try simp only [Act.put, List.setIfInBounds_toArray, List.set_cons_zero, List.set_cons_succ])
  refine ByHand.take_yes (v := ?_) 8 27 rfl rfl (by kernel_rfl) (by kernel_rfl) (by kernel_rfl) (fun _ _ _ h => h) (by rfl) ?_ (by assumption) ?_
  rotate_left
  · intro w' hSw
    (try dsimp only at hSw)
    go_simp
    all_goals with_reducible rfl
  (try simp only [Act.put, List.setIfInBounds_toArray, List.set_cons_zero, List.set_cons_succ])
  refine wpAnyH_ready (rs := [3]) (by kernel_rfl) (by simp) (AllReadyH.cons rfl (fun K hK => ?_) AllReadyH.nil)
  go_simp
  refine hK.out _ _ ?_ (fun hHeld => ?_)
  · exact hS0
  clear hK K
  (try simp only [Act.put, List.setIfInBounds_toArray, List.set_cons_zero, List.set_cons_succ])
  refine wpAnyH_ready (rs := [9]) (by kernel_rfl) (by simp) (AllReadyH.cons rfl (fun K hK => ?_) AllReadyH.nil)
  go_simp
  refine (KA.out _).mono ?_
  rintro e y ⟨rfl, hb⟩
  replace HST := Lib.hid (HST.out.drawn.below hb)
  clear hb
  have hS1 := And.intro (HST.out.cell (i := 1) X1.out) (And.intro (HST.out.cell (i := 5) X5.out) (HST.out.arg (k := kd) HM.out))
  go_wp2_with fail
  refine hK.out _ _ ?_ (fun hHeld => ?_)
  · exact hS1
  clear hK K
  (try simp only [Act.put, List.setIfInBounds_toArray, List.set_cons_zero, List.set_cons_succ])
  refine ByHand.take_yes (v := ?_) 10 29 rfl rfl (by kernel_rfl) (by kernel_rfl) (by kernel_rfl) (fun _ _ _ h => h) (by rfl) ?_ (by assumption) ?_
  rotate_left
  · intro w' hSw
    (try dsimp only at hSw)
    go_simp
    all_goals with_reducible rfl
  (try simp only [Act.put, List.setIfInBounds_toArray, List.set_cons_zero, List.set_cons_succ])
  refine ByHand.take_yes (v := ?_) 11 30 rfl rfl (by kernel_rfl) (by kernel_rfl) (by kernel_rfl) (fun _ _ _ h => h) (by rfl) ?_ (by assumption) ?_
  rotate_left
  · intro w' hSw
    (try dsimp only at hSw)
    go_simp
    all_goals with_reducible rfl
  (try simp only [Act.put, List.setIfInBounds_toArray, List.set_cons_zero, List.set_cons_succ])
  refine wpAnyH_ready (rs := [12]) (by kernel_rfl) (by simp) (AllReadyH.cons rfl (fun K hK => ?_) AllReadyH.nil)
  go_simp
  refine (must_bad _ _ _ rfl).mono ?_
  rintro e w' ⟨rfl, rfl⟩
  go_wp2_with fail
  exact ⟨rfl, rfl, HST.out.one⟩
set_option maxRecDepth 20000 in
theorem accF_int_ok (l : Ln) (d : Int) (kd : Nat) (g : Nat) (w : World) (hB : Boxd w g l.cells 23) (q0 : Boxd w kd #[.int .i64 d] 3) (ne0 : ¬ kd = g) (hg : (goodL l && dayB d) = true) (ho : openB l = true) (hs : sparedB l = false) (ha : aE l.intr l.prin l.ppm d = 0) : Calls Try.prog 35 #[.pointer (some ⟨g, 0, none⟩), .pointer (some ⟨kd, 0, none⟩)] w fun e w' => e = .returned (.agg ({ l with intr := aV l.intr l.prin l.ppm d } : Ln).cells) ∧ One g w w' := by
  have hks : ∀ x ∈ ([(kd, .int .i64 d, 3)] : List (Nat × Value × TypeId)), Boxd w x.1 #[x.2.1] x.2.2 ∧ ¬ x.1 = g := by
    intro x hx
    simp only [List.mem_cons, List.not_mem_nil, or_false] at hx
    obtain rfl := hx
    exact ⟨q0, ne0⟩
  obtain ⟨g2, wb, e1, e2, hst⟩ := st_new hB hks
  have HST := Lib.hid hst
  clear hst hks hB q0 ne0
  have HS := Lib.hid (ln_info l)
  obtain ⟨hg1, hg2⟩ := Bool.and_eq_true_iff.1 hg
  have G : Good l := goodL_iff.1 hg1
  unfold dayB at hg2
  have KG := Lib.hid (fun W => good_c l W)
  have KD := Lib.hid (fun W => day_c d W)
  have HM : Hid ((kd, Value.int .i64 d, 3) ∈ [(kd, Value.int .i64 d, 3)]) := List.mem_singleton.2 rfl
  rw [hg1] at KG
  rw [hg2] at KD
  have KO := Lib.hid (fun W => open_c l W)
  rw [ho] at KO
  have KSP := Lib.hid (fun W => spared_c l W G.status0)
  rw [hs] at KSP
  have KA := Lib.hid (fun W => c_add l.intr l.prin l.ppm d W)
  rw [ha] at KA
  have X1 : Hid (l.cells[1]? = some (.int .i64 l.prin)) := show _ = _ from rfl
  have X5 : Hid (l.cells[5]? = some (.int .i64 l.ppm)) := show _ = _ from rfl
  have X2 : Hid (l.cells[2]? = some (.int .i64 l.intr)) := show _ = _ from rfl
  have PX : Hid (l.cells.setIfInBounds 2 (.int .i64 (aV l.intr l.prin l.ppm d)) = ({ l with intr := aV l.intr l.prin l.ppm d } : Ln).cells) := show _ = _ from rfl
  have Y1 : Hid (({ l with intr := aV l.intr l.prin l.ppm d } : Ln).cells[1]? = some (.int .i64 l.prin)) := show _ = _ from rfl
  have Y5 : Hid (({ l with intr := aV l.intr l.prin l.ppm d } : Ln).cells[5]? = some (.int .i64 l.ppm)) := show _ = _ from rfl
  have HS2 := Lib.hid (ln_info ({ l with intr := aV l.intr l.prin l.ppm d } : Ln))
  have HO := Lib.hid (ln_one ({ l with intr := aV l.intr l.prin l.ppm d } : Ln))
  have HZ : Hid (l.cells.size = 13) := ln_size l
  have HZ2 : Hid (13 = ({ l with intr := aV l.intr l.prin l.ppm d } : Ln).cells.size) := show _ = _ from rfl
  clear hg hg1 hg2 ho G hs ha
  generalize ({ l with intr := aV l.intr l.prin l.ppm d } : Ln).cells = D at *
  generalize aV l.intr l.prin l.ppm d = v at *
  generalize l.intr = h at *
  generalize l.prin = p at *
  generalize l.ppm = r at *
  generalize hKS : [(kd, Value.int .i64 d, 3)] = KS at *
  generalize l.cells = C at *
  go_enter Try.func35, Try.ntmps35
  go_upto_region 1 with fail
  rw [← e2, ← e1]
  clear e1 e2
  go_upto_region 7 with (first
    | (refine o_load rfl 23 _ rfl _ rfl _ _ _ HST.out.box Try.underlying23 rfl HS.out ?_)
    | (go_at_call 14; with_reducible refine (KG.out _).mono ?_; rintro e y ⟨rfl, hb⟩; replace HST := Lib.hid (HST.out.below hb); clear hb; have cd := HST.out.arg (k := kd) HM.out)
    | (go_at_call 36; with_reducible refine (KD.out _).mono ?_; rintro e w' ⟨rfl, rfl⟩)
    | (go_at_call 30; with_reducible refine (need_ok _ _).mono ?_; rintro e w' ⟨rfl, rfl⟩)
    | (go_at_call 37; with_reducible refine (KO.out _).mono ?_; rintro e y ⟨rfl, hb⟩; replace HST := Lib.hid (HST.out.below hb); clear hb)
    | (go_at_call 38; with_reducible refine (KSP.out _).mono ?_; rintro e y ⟨rfl, hb⟩; replace HST := Lib.hid (HST.out.below hb); clear hb))
  have c2 := HST.out.drawn.cell (i := 2) X2.out
  have hS0 := And.intro (HST.out.drawn.cell (i := 1) X1.out) (And.intro (HST.out.drawn.cell (i := 5) X5.out) (HST.out.drawn.arg (k := kd) HM.out))
  refine wp_region_held_drew (S := (fun W => W.cell? ⟨g, 1, none⟩ = some (.int .i64 p) ∧ W.cell? ⟨g, 5, none⟩ = some (.int .i64 r) ∧ W.cell? ⟨kd, 0, none⟩ = some (.int .i64 d))) (by kernel_rfl) hS0 (fun hHeld => ?_)
  refine ByHand.take_yes (v := ?_) 0 19 rfl rfl (by kernel_rfl) (by kernel_rfl) (by kernel_rfl) (fun _ _ _ h => h) (by rfl) ?_ (by assumption) ?_
  rotate_left
  · intro w' hSw
    (try dsimp only at hSw)
    go_simp
    all_goals with_reducible rfl
  (try simp only [Act.put, List.setIfInBounds_toArray, List.set_cons_zero, List.set_cons_succ])
  refine ByHand.take_yes (v := ?_) 1 20 rfl rfl (by kernel_rfl) (by kernel_rfl) (by kernel_rfl) (fun _ _ _ h => h) (by rfl) ?_ (by assumption) ?_
  rotate_left
  · intro w' hSw
    (try dsimp only at hSw)
    go_simp
    all_goals with_reducible rfl
  (try simp only [Act.put, List.setIfInBounds_toArray, List.set_cons_zero, List.set_cons_succ])
  refine ByHand.take_yes (v := ?_) 2 21 rfl rfl (by kernel_rfl) (by kernel_rfl) (by kernel_rfl) (fun _ _ _ h => h) (by rfl) ?_ (by assumption) ?_
  rotate_left
  · intro w' hSw
    (try dsimp only at hSw)
    go_simp
    all_goals with_reducible rfl
  (try simp only [Act.put, List.setIfInBounds_toArray, List.set_cons_zero, List.set_cons_succ])
  refine ByHand.take_yes (v := ?_) 4 23 rfl rfl (by kernel_rfl) (by kernel_rfl) (by kernel_rfl) (fun _ _ _ h => h) (by rfl) ?_ (by assumption) ?_
  rotate_left
  · intro w' hSw
    (try dsimp only at hSw)
    go_simp
    all_goals with_reducible rfl
  (try simp only [Act.put, List.setIfInBounds_toArray, List.set_cons_zero, List.set_cons_succ])
  refine ByHand.take_yes (v := ?_) 5 24 rfl rfl (by kernel_rfl) (by kernel_rfl) (by kernel_rfl) (fun _ _ _ h => h) (by rfl) ?_ (by assumption) ?_
  rotate_left
  · intro w' hSw
    (try dsimp only at hSw)
    go_simp
    all_goals with_reducible rfl
  (try simp only [Act.put, List.setIfInBounds_toArray, List.set_cons_zero, List.set_cons_succ])
  refine ByHand.take_yes (v := ?_) 6 25 rfl rfl (by kernel_rfl) (by kernel_rfl) (by kernel_rfl) (fun _ _ _ h => h) (by rfl) ?_ (by assumption) ?_
  rotate_left
  · intro w' hSw
    (try dsimp only at hSw)
    go_simp
    all_goals with_reducible rfl
  (try simp only [Act.put, List.setIfInBounds_toArray, List.set_cons_zero, List.set_cons_succ])
  refine ByHand.take_yes (v := ?_) 7 26 rfl rfl (by kernel_rfl) (by kernel_rfl) (by kernel_rfl) (fun _ _ _ h => h) (by rfl) ?_ (by assumption) ?_
  rotate_left
  · intro w' hSw
    (try dsimp only at hSw)
    go_simp
    all_goals with_reducible rfl
  (try simp only [Act.put, List.setIfInBounds_toArray, List.set_cons_zero, List.set_cons_succ])
  refine ByHand.take_yes (v := ?_) 8 27 rfl rfl (by kernel_rfl) (by kernel_rfl) (by kernel_rfl) (fun _ _ _ h => h) (by rfl) ?_ (by assumption) ?_
  rotate_left
  · intro w' hSw
    (try dsimp only at hSw)
    go_simp
    all_goals with_reducible rfl
  (try simp only [Act.put, List.setIfInBounds_toArray, List.set_cons_zero, List.set_cons_succ])
  refine wpAnyH_ready (rs := [3]) (by kernel_rfl) (by simp) (AllReadyH.cons rfl (fun K hK => ?_) AllReadyH.nil)
  go_simp
  refine hK.out _ _ ?_ (fun hHeld => ?_)
  · exact hS0
  clear hK K
  (try simp only [Act.put, List.setIfInBounds_toArray, List.set_cons_zero, List.set_cons_succ])
  refine wpAnyH_ready (rs := [9]) (by kernel_rfl) (by simp) (AllReadyH.cons rfl (fun K hK => ?_) AllReadyH.nil)
  go_simp
  refine (KA.out _).mono ?_
  rintro e y ⟨rfl, hb⟩
  replace HST := Lib.hid (HST.out.drawn.below hb)
  clear hb
  have hS1 := And.intro (HST.out.cell (i := 1) X1.out) (And.intro (HST.out.cell (i := 5) X5.out) (HST.out.arg (k := kd) HM.out))
  go_wp2_with fail
  refine hK.out _ _ ?_ (fun hHeld => ?_)
  · exact hS1
  clear hK K
  (try simp only [Act.put, List.setIfInBounds_toArray, List.set_cons_zero, List.set_cons_succ])
  refine ByHand.take_yes (v := ?_) 10 29 rfl rfl (by kernel_rfl) (by kernel_rfl) (by kernel_rfl) (fun _ _ _ h => h) (by rfl) ?_ (by assumption) ?_
  rotate_left
  · intro w' hSw
    (try dsimp only at hSw)
    go_simp
    all_goals with_reducible rfl
  (try simp only [Act.put, List.setIfInBounds_toArray, List.set_cons_zero, List.set_cons_succ])
  refine ByHand.take_yes (v := ?_) 11 30 rfl rfl (by kernel_rfl) (by kernel_rfl) (by kernel_rfl) (fun _ _ _ h => h) (by rfl) ?_ (by assumption) ?_
  rotate_left
  · intro w' hSw
    (try dsimp only at hSw)
    go_simp
    all_goals with_reducible rfl
  (try simp only [Act.put, List.setIfInBounds_toArray, List.set_cons_zero, List.set_cons_succ])
  refine wpAnyH_ready (rs := [12]) (by kernel_rfl) (by simp) (AllReadyH.cons rfl (fun K hK => ?_) AllReadyH.nil)
  go_simp
  refine (must_ok _ _).mono ?_
  rintro e w' ⟨rfl, rfl⟩
  go_wp2_with fail
  refine hK.out _ _ ?_ (fun hHeld => ?_)
  · exact hS1
  clear hK K
  (try simp only [Act.put, List.setIfInBounds_toArray, List.set_cons_zero, List.set_cons_succ])
  refine ByHand.take_yes (v := ?_) 13 32 rfl rfl (by kernel_rfl) (by kernel_rfl) (by kernel_rfl) (fun _ _ _ h => h) (by rfl) ?_ (by assumption) ?_
  rotate_left
  · intro w' hSw
    (try dsimp only at hSw)
    go_simp
    all_goals with_reducible rfl
  (try simp only [Act.put, List.setIfInBounds_toArray, List.set_cons_zero, List.set_cons_succ])
  refine wpAnyH_ready (rs := [14]) (by kernel_rfl) (by simp) (AllReadyH.cons rfl (fun K hK => ?_) AllReadyH.nil)
  rw [if_pos (by rfl)]
  refine wp_put 2 _ _ rfl rfl g 2 (.int .i64 v) rfl rfl rfl _ _ HST.out.box (by simp [HZ.out]) i64_one ?_
  intro y2 hr hoo
  rw [PX.out] at hr
  replace HST := Lib.hid (HST.out.put hr hoo)
  clear hr hoo
  have hS2 := And.intro (HST.out.cell (i := 1) Y1.out) (And.intro (HST.out.cell (i := 5) Y5.out) (HST.out.arg (k := kd) HM.out))
  refine hK.out _ _ ?_ (fun hHeld => ?_)
  · exact hS2
  clear hK K
  (try simp only [Act.put, List.setIfInBounds_toArray, List.set_cons_zero, List.set_cons_succ])
  refine wpAnyH_done (by kernel_rfl) ?_ _
  go_wp2_with (first
    | (refine o_load rfl 23 _ rfl _ rfl _ _ _ HST.out.box Try.underlying23 rfl HS2.out ?_)
    | (refine o_store rfl 23 _ _ rfl rfl _ _ rfl rfl _ _ HST.out.res HS2.out HZ2.out HO.out ?_; intro y hr ho; replace HST := Lib.hid (HST.out.fill hr ho); clear hr ho))
  refine bodyPost_ret (results_cell_row rfl _ _ _ _ _ _ _ rfl HST.out.res Try.underlying23 rfl HS2.out) rfl ?_
  exact ⟨rfl, HST.out.one⟩
set_option maxRecDepth 20000 in
theorem accF_int_over (l : Ln) (d : Int) (kd : Nat) (g : Nat) (w : World) (hB : Boxd w g l.cells 23) (q0 : Boxd w kd #[.int .i64 d] 3) (ne0 : ¬ kd = g) (hg : (goodL l && dayB d) = true) (ho : openB l = true) (hs : sparedB l = false) (ha : aE l.intr l.prin l.ppm d = 14) : Calls Try.prog 35 #[.pointer (some ⟨g, 0, none⟩), .pointer (some ⟨kd, 0, none⟩)] w fun e w' => e = .panicked (errL 14) ∧ One g w w' := by
  have hks : ∀ x ∈ ([(kd, .int .i64 d, 3)] : List (Nat × Value × TypeId)), Boxd w x.1 #[x.2.1] x.2.2 ∧ ¬ x.1 = g := by
    intro x hx
    simp only [List.mem_cons, List.not_mem_nil, or_false] at hx
    obtain rfl := hx
    exact ⟨q0, ne0⟩
  obtain ⟨g2, wb, e1, e2, hst⟩ := st_new hB hks
  have HST := Lib.hid hst
  clear hst hks hB q0 ne0
  have HS := Lib.hid (ln_info l)
  obtain ⟨hg1, hg2⟩ := Bool.and_eq_true_iff.1 hg
  have G : Good l := goodL_iff.1 hg1
  unfold dayB at hg2
  have KG := Lib.hid (fun W => good_c l W)
  have KD := Lib.hid (fun W => day_c d W)
  have HM : Hid ((kd, Value.int .i64 d, 3) ∈ [(kd, Value.int .i64 d, 3)]) := List.mem_singleton.2 rfl
  rw [hg1] at KG
  rw [hg2] at KD
  have KO := Lib.hid (fun W => open_c l W)
  rw [ho] at KO
  have KSP := Lib.hid (fun W => spared_c l W G.status0)
  rw [hs] at KSP
  have KA := Lib.hid (fun W => c_add l.intr l.prin l.ppm d W)
  rw [ha] at KA
  have X1 : Hid (l.cells[1]? = some (.int .i64 l.prin)) := show _ = _ from rfl
  have X5 : Hid (l.cells[5]? = some (.int .i64 l.ppm)) := show _ = _ from rfl
  have X2 : Hid (l.cells[2]? = some (.int .i64 l.intr)) := show _ = _ from rfl
  clear hg hg1 hg2 ho G hs ha
  generalize aV l.intr l.prin l.ppm d = v at *
  generalize l.intr = h at *
  generalize l.prin = p at *
  generalize l.ppm = r at *
  generalize hKS : [(kd, Value.int .i64 d, 3)] = KS at *
  generalize l.cells = C at *
  go_enter Try.func35, Try.ntmps35
  go_upto_region 1 with fail
  rw [← e2, ← e1]
  clear e1 e2
  go_upto_region 7 with (first
    | (refine o_load rfl 23 _ rfl _ rfl _ _ _ HST.out.box Try.underlying23 rfl HS.out ?_)
    | (go_at_call 14; with_reducible refine (KG.out _).mono ?_; rintro e y ⟨rfl, hb⟩; replace HST := Lib.hid (HST.out.below hb); clear hb; have cd := HST.out.arg (k := kd) HM.out)
    | (go_at_call 36; with_reducible refine (KD.out _).mono ?_; rintro e w' ⟨rfl, rfl⟩)
    | (go_at_call 30; with_reducible refine (need_ok _ _).mono ?_; rintro e w' ⟨rfl, rfl⟩)
    | (go_at_call 37; with_reducible refine (KO.out _).mono ?_; rintro e y ⟨rfl, hb⟩; replace HST := Lib.hid (HST.out.below hb); clear hb)
    | (go_at_call 38; with_reducible refine (KSP.out _).mono ?_; rintro e y ⟨rfl, hb⟩; replace HST := Lib.hid (HST.out.below hb); clear hb))
  have c2 := HST.out.drawn.cell (i := 2) X2.out
  have hS0 := And.intro (HST.out.drawn.cell (i := 1) X1.out) (And.intro (HST.out.drawn.cell (i := 5) X5.out) (HST.out.drawn.arg (k := kd) HM.out))
  refine wp_region_held_drew (S := (fun W => W.cell? ⟨g, 1, none⟩ = some (.int .i64 p) ∧ W.cell? ⟨g, 5, none⟩ = some (.int .i64 r) ∧ W.cell? ⟨kd, 0, none⟩ = some (.int .i64 d))) (by kernel_rfl) hS0 (fun hHeld => ?_)
  refine ByHand.take_yes (v := ?_) 0 19 rfl rfl (by kernel_rfl) (by kernel_rfl) (by kernel_rfl) (fun _ _ _ h => h) (by rfl) ?_ (by assumption) ?_
  rotate_left
  · intro w' hSw
    (try dsimp only at hSw)
    go_simp
    all_goals with_reducible rfl
  (try simp only [Act.put, List.setIfInBounds_toArray, List.set_cons_zero, List.set_cons_succ])
  refine ByHand.take_yes (v := ?_) 1 20 rfl rfl (by kernel_rfl) (by kernel_rfl) (by kernel_rfl) (fun _ _ _ h => h) (by rfl) ?_ (by assumption) ?_
  rotate_left
  · intro w' hSw
    (try dsimp only at hSw)
    go_simp
    all_goals with_reducible rfl
  (try simp only [Act.put, List.setIfInBounds_toArray, List.set_cons_zero, List.set_cons_succ])
  refine ByHand.take_yes (v := ?_) 2 21 rfl rfl (by kernel_rfl) (by kernel_rfl) (by kernel_rfl) (fun _ _ _ h => h) (by rfl) ?_ (by assumption) ?_
  rotate_left
  · intro w' hSw
    (try dsimp only at hSw)
    go_simp
    all_goals with_reducible rfl
  (try simp only [Act.put, List.setIfInBounds_toArray, List.set_cons_zero, List.set_cons_succ])
  refine ByHand.take_yes (v := ?_) 4 23 rfl rfl (by kernel_rfl) (by kernel_rfl) (by kernel_rfl) (fun _ _ _ h => h) (by rfl) ?_ (by assumption) ?_
  rotate_left
  · intro w' hSw
    (try dsimp only at hSw)
    go_simp
    all_goals with_reducible rfl
  (try simp only [Act.put, List.setIfInBounds_toArray, List.set_cons_zero, List.set_cons_succ])
  refine ByHand.take_yes (v := ?_) 5 24 rfl rfl (by kernel_rfl) (by kernel_rfl) (by kernel_rfl) (fun _ _ _ h => h) (by rfl) ?_ (by assumption) ?_
  rotate_left
  · intro w' hSw
    (try dsimp only at hSw)
    go_simp
    all_goals with_reducible rfl
  (try simp only [Act.put, List.setIfInBounds_toArray, List.set_cons_zero, List.set_cons_succ])
  refine ByHand.take_yes (v := ?_) 6 25 rfl rfl (by kernel_rfl) (by kernel_rfl) (by kernel_rfl) (fun _ _ _ h => h) (by rfl) ?_ (by assumption) ?_
  rotate_left
  · intro w' hSw
    (try dsimp only at hSw)
    go_simp
    all_goals with_reducible rfl
  (try simp only [Act.put, List.setIfInBounds_toArray, List.set_cons_zero, List.set_cons_succ])
  refine ByHand.take_yes (v := ?_) 7 26 rfl rfl (by kernel_rfl) (by kernel_rfl) (by kernel_rfl) (fun _ _ _ h => h) (by rfl) ?_ (by assumption) ?_
  rotate_left
  · intro w' hSw
    (try dsimp only at hSw)
    go_simp
    all_goals with_reducible rfl
  (try simp only [Act.put, List.setIfInBounds_toArray, List.set_cons_zero, List.set_cons_succ])
  refine ByHand.take_yes (v := ?_) 8 27 rfl rfl (by kernel_rfl) (by kernel_rfl) (by kernel_rfl) (fun _ _ _ h => h) (by rfl) ?_ (by assumption) ?_
  rotate_left
  · intro w' hSw
    (try dsimp only at hSw)
    go_simp
    all_goals with_reducible rfl
  (try simp only [Act.put, List.setIfInBounds_toArray, List.set_cons_zero, List.set_cons_succ])
  refine wpAnyH_ready (rs := [3]) (by kernel_rfl) (by simp) (AllReadyH.cons rfl (fun K hK => ?_) AllReadyH.nil)
  go_simp
  refine hK.out _ _ ?_ (fun hHeld => ?_)
  · exact hS0
  clear hK K
  (try simp only [Act.put, List.setIfInBounds_toArray, List.set_cons_zero, List.set_cons_succ])
  refine wpAnyH_ready (rs := [9]) (by kernel_rfl) (by simp) (AllReadyH.cons rfl (fun K hK => ?_) AllReadyH.nil)
  go_simp
  refine (KA.out _).mono ?_
  rintro e y ⟨rfl, hb⟩
  replace HST := Lib.hid (HST.out.drawn.below hb)
  clear hb
  have hS1 := And.intro (HST.out.cell (i := 1) X1.out) (And.intro (HST.out.cell (i := 5) X5.out) (HST.out.arg (k := kd) HM.out))
  go_wp2_with fail
  refine hK.out _ _ ?_ (fun hHeld => ?_)
  · exact hS1
  clear hK K
  (try simp only [Act.put, List.setIfInBounds_toArray, List.set_cons_zero, List.set_cons_succ])
  refine ByHand.take_yes (v := ?_) 10 29 rfl rfl (by kernel_rfl) (by kernel_rfl) (by kernel_rfl) (fun _ _ _ h => h) (by rfl) ?_ (by assumption) ?_
  rotate_left
  · intro w' hSw
    (try dsimp only at hSw)
    go_simp
    all_goals with_reducible rfl
  (try simp only [Act.put, List.setIfInBounds_toArray, List.set_cons_zero, List.set_cons_succ])
  refine ByHand.take_yes (v := ?_) 11 30 rfl rfl (by kernel_rfl) (by kernel_rfl) (by kernel_rfl) (fun _ _ _ h => h) (by rfl) ?_ (by assumption) ?_
  rotate_left
  · intro w' hSw
    (try dsimp only at hSw)
    go_simp
    all_goals with_reducible rfl
  (try simp only [Act.put, List.setIfInBounds_toArray, List.set_cons_zero, List.set_cons_succ])
  refine wpAnyH_ready (rs := [12]) (by kernel_rfl) (by simp) (AllReadyH.cons rfl (fun K hK => ?_) AllReadyH.nil)
  go_simp
  refine (must_bad _ _ _ rfl).mono ?_
  rintro e w' ⟨rfl, rfl⟩
  go_wp2_with fail
  exact ⟨rfl, rfl, HST.out.one⟩
end Go.Proofs.Ytkegmgjagcefhaa.Loan
