/- The program's own package loan: the closures of Turn, Owes, Close. -/
import Derived.Test.YtkegmgjagcefhaaLoanC6
namespace Go.Proofs.Ytkegmgjagcefhaa.Loan
open Go.ChangeShapes Go.WideShapes Go.ChangeAt Go.RowKit Accr Box Slice Money

set_option maxRecDepth 20000 in
theorem turnF_arg (l : Ln) (d s : Int) (kd ks : Nat) (g : Nat) (w : World) (hB : Boxd w g l.cells 23) (q0 : Boxd w kd #[.int .i64 d] 3) (ne0 : ¬ kd = g) (q1 : Boxd w ks #[.int .i64 s] 3) (ne1 : ¬ ks = g) (hg : (goodL l && dayB d) = false) : Calls Try.prog 50 #[.pointer (some ⟨g, 0, none⟩), .pointer (some ⟨kd, 0, none⟩), .pointer (some ⟨ks, 0, none⟩)] w fun e w' => e = .panicked (errL 1) ∧ One g w w' := by
  have hks : ∀ x ∈ ([(kd, .int .i64 d, 3), (ks, .int .i64 s, 3)] : List (Nat × Value × TypeId)), Boxd w x.1 #[x.2.1] x.2.2 ∧ ¬ x.1 = g := by
    intro x hx
    simp only [List.mem_cons, List.not_mem_nil, or_false] at hx
    rcases hx with rfl | rfl
    · exact ⟨q0, ne0⟩
    · exact ⟨q1, ne1⟩
  obtain ⟨g2, wb, e1, e2, hst⟩ := st_new hB hks
  have HST := Lib.hid hst
  clear hst hks hB q0 ne0 q1 ne1
  have HS := Lib.hid (ln_info l)
  have KN := Lib.hid (fun W => open_arg l (dayB d) W hg)
  clear hg
  unfold dayB at *
  have KA := Lib.hid (fun W => day_c d W)
  have HM : Hid ((kd, Value.int .i64 d, 3) ∈ [(kd, Value.int .i64 d, 3), (ks, Value.int .i64 s, 3)]) := show _ ∈ _ by simp
  have HM2 : Hid ((ks, Value.int .i64 s, 3) ∈ [(kd, Value.int .i64 d, 3), (ks, Value.int .i64 s, 3)]) := show _ ∈ _ by simp
  generalize hKS : [(kd, Value.int .i64 d, 3), (ks, Value.int .i64 s, 3)] = KS at *
  generalize wB d 0 87658 = bb at *
  generalize l.cells = C at *
  go_enter Try.func50, Try.ntmps50
  go_upto_region 1 with fail
  rw [← e2, ← e1]
  clear e1 e2
  have hS0 : wb.drew.cell? ⟨kd, 0, none⟩ = some (.int .i64 d) ∧ St w g g2 C #[.int .i64 0, .int .i64 0, .int .i64 0, .int .i64 0, .int .i64 0, .int .i64 0, .bool false, .int .i64 0, .int .i64 0, .int .i64 0, .int .i64 0, .int .i64 0, .int .i64 0] KS wb.drew := ⟨HST.out.drawn.arg (k := kd) HM.out, HST.out.drawn⟩
  refine wp_region_held_drew (S := (fun W => W.cell? ⟨kd, 0, none⟩ = some (.int .i64 d) ∧ St w g g2 C #[.int .i64 0, .int .i64 0, .int .i64 0, .int .i64 0, .int .i64 0, .int .i64 0, .bool false, .int .i64 0, .int .i64 0, .int .i64 0, .int .i64 0, .int .i64 0, .int .i64 0] KS W)) (by kernel_rfl) hS0 (fun hHeld => ?_)
  refine take_row 0 4 rfl rfl (by kernel_rfl) (by kernel_rfl) (by kernel_rfl) 23 _ rfl _ rfl _ _ Try.underlying23 rfl HS.out (fun _ h => h.2.box) (fun _ _ _ h => h) (by rfl) (by assumption) ?_
  (try simp only [Act.put, List.setIfInBounds_toArray, List.set_cons_zero, List.set_cons_succ])
  refine ByHand.take_yes (v := ?_) 1 5 rfl rfl (by kernel_rfl) (by kernel_rfl) (by kernel_rfl) (fun _ _ _ h => h) (by rfl) ?_ (by assumption) ?_
  rotate_left
  · intro w' hSw
    (try dsimp only at hSw)
    go_simp
    all_goals with_reducible rfl
  (try simp only [Act.put, List.setIfInBounds_toArray, List.set_cons_zero, List.set_cons_succ])
  refine wpAnyH_ready (rs := [2]) (by kernel_rfl) (by simp) (AllReadyH.cons rfl (fun K hK => ?_) AllReadyH.nil)
  go_simp
  refine (KA.out _).mono ?_
  rintro e w' ⟨rfl, rfl⟩
  go_wp2_with fail
  refine hK.out _ _ ?_ (fun hHeld => ?_)
  · exact hS0
  clear hK K
  (try simp only [Act.put, List.setIfInBounds_toArray, List.set_cons_zero, List.set_cons_succ])
  refine wpAnyH_ready (rs := [3]) (by kernel_rfl) (by simp) (AllReadyH.cons rfl (fun K hK => ?_) AllReadyH.nil)
  go_simp
  refine (KN.out _).mono ?_
  rintro e y ⟨rfl, hb⟩
  replace HST := Lib.hid (hS0.2.below hb)
  go_wp2_with fail
  exact ⟨rfl, rfl, HST.out.one⟩
set_option maxRecDepth 20000 in
theorem turnF_gone (l : Ln) (d s : Int) (kd ks : Nat) (g : Nat) (w : World) (hB : Boxd w g l.cells 23) (q0 : Boxd w kd #[.int .i64 d] 3) (ne0 : ¬ kd = g) (q1 : Boxd w ks #[.int .i64 s] 3) (ne1 : ¬ ks = g) (hg : (goodL l && dayB d) = true) (ho : openB l = false) : Calls Try.prog 50 #[.pointer (some ⟨g, 0, none⟩), .pointer (some ⟨kd, 0, none⟩), .pointer (some ⟨ks, 0, none⟩)] w fun e w' => e = .panicked (errL 61) ∧ One g w w' := by
  have hks : ∀ x ∈ ([(kd, .int .i64 d, 3), (ks, .int .i64 s, 3)] : List (Nat × Value × TypeId)), Boxd w x.1 #[x.2.1] x.2.2 ∧ ¬ x.1 = g := by
    intro x hx
    simp only [List.mem_cons, List.not_mem_nil, or_false] at hx
    rcases hx with rfl | rfl
    · exact ⟨q0, ne0⟩
    · exact ⟨q1, ne1⟩
  obtain ⟨g2, wb, e1, e2, hst⟩ := st_new hB hks
  have HST := Lib.hid hst
  clear hst hks hB q0 ne0 q1 ne1
  have HS := Lib.hid (ln_info l)
  have KN := Lib.hid (fun W => open_gone l (dayB d) W hg ho)
  clear hg ho
  unfold dayB at *
  have KA := Lib.hid (fun W => day_c d W)
  have HM : Hid ((kd, Value.int .i64 d, 3) ∈ [(kd, Value.int .i64 d, 3), (ks, Value.int .i64 s, 3)]) := show _ ∈ _ by simp
  have HM2 : Hid ((ks, Value.int .i64 s, 3) ∈ [(kd, Value.int .i64 d, 3), (ks, Value.int .i64 s, 3)]) := show _ ∈ _ by simp
  generalize hKS : [(kd, Value.int .i64 d, 3), (ks, Value.int .i64 s, 3)] = KS at *
  generalize wB d 0 87658 = bb at *
  generalize l.cells = C at *
  go_enter Try.func50, Try.ntmps50
  go_upto_region 1 with fail
  rw [← e2, ← e1]
  clear e1 e2
  have hS0 : wb.drew.cell? ⟨kd, 0, none⟩ = some (.int .i64 d) ∧ St w g g2 C #[.int .i64 0, .int .i64 0, .int .i64 0, .int .i64 0, .int .i64 0, .int .i64 0, .bool false, .int .i64 0, .int .i64 0, .int .i64 0, .int .i64 0, .int .i64 0, .int .i64 0] KS wb.drew := ⟨HST.out.drawn.arg (k := kd) HM.out, HST.out.drawn⟩
  refine wp_region_held_drew (S := (fun W => W.cell? ⟨kd, 0, none⟩ = some (.int .i64 d) ∧ St w g g2 C #[.int .i64 0, .int .i64 0, .int .i64 0, .int .i64 0, .int .i64 0, .int .i64 0, .bool false, .int .i64 0, .int .i64 0, .int .i64 0, .int .i64 0, .int .i64 0, .int .i64 0] KS W)) (by kernel_rfl) hS0 (fun hHeld => ?_)
  refine take_row 0 4 rfl rfl (by kernel_rfl) (by kernel_rfl) (by kernel_rfl) 23 _ rfl _ rfl _ _ Try.underlying23 rfl HS.out (fun _ h => h.2.box) (fun _ _ _ h => h) (by rfl) (by assumption) ?_
  (try simp only [Act.put, List.setIfInBounds_toArray, List.set_cons_zero, List.set_cons_succ])
  refine ByHand.take_yes (v := ?_) 1 5 rfl rfl (by kernel_rfl) (by kernel_rfl) (by kernel_rfl) (fun _ _ _ h => h) (by rfl) ?_ (by assumption) ?_
  rotate_left
  · intro w' hSw
    (try dsimp only at hSw)
    go_simp
    all_goals with_reducible rfl
  (try simp only [Act.put, List.setIfInBounds_toArray, List.set_cons_zero, List.set_cons_succ])
  refine wpAnyH_ready (rs := [2]) (by kernel_rfl) (by simp) (AllReadyH.cons rfl (fun K hK => ?_) AllReadyH.nil)
  go_simp
  refine (KA.out _).mono ?_
  rintro e w' ⟨rfl, rfl⟩
  go_wp2_with fail
  refine hK.out _ _ ?_ (fun hHeld => ?_)
  · exact hS0
  clear hK K
  (try simp only [Act.put, List.setIfInBounds_toArray, List.set_cons_zero, List.set_cons_succ])
  refine wpAnyH_ready (rs := [3]) (by kernel_rfl) (by simp) (AllReadyH.cons rfl (fun K hK => ?_) AllReadyH.nil)
  go_simp
  refine (KN.out _).mono ?_
  rintro e y ⟨rfl, hb⟩
  replace HST := Lib.hid (hS0.2.below hb)
  go_wp2_with fail
  exact ⟨rfl, rfl, HST.out.one⟩
set_option maxRecDepth 20000 in
theorem turnF_no (l : Ln) (d s : Int) (kd ks : Nat) (g : Nat) (w : World) (hB : Boxd w g l.cells 23) (q0 : Boxd w kd #[.int .i64 d] 3) (ne0 : ¬ kd = g) (q1 : Boxd w ks #[.int .i64 s] 3) (ne1 : ¬ ks = g) (hg : (goodL l && dayB d) = true) (ho : openB l = true) (hm : mayB l s = false) : Calls Try.prog 50 #[.pointer (some ⟨g, 0, none⟩), .pointer (some ⟨kd, 0, none⟩), .pointer (some ⟨ks, 0, none⟩)] w fun e w' => e = .panicked (errL 62) ∧ One g w w' := by
  have hks : ∀ x ∈ ([(kd, .int .i64 d, 3), (ks, .int .i64 s, 3)] : List (Nat × Value × TypeId)), Boxd w x.1 #[x.2.1] x.2.2 ∧ ¬ x.1 = g := by
    intro x hx
    simp only [List.mem_cons, List.not_mem_nil, or_false] at hx
    rcases hx with rfl | rfl
    · exact ⟨q0, ne0⟩
    · exact ⟨q1, ne1⟩
  obtain ⟨g2, wb, e1, e2, hst⟩ := st_new hB hks
  have HST := Lib.hid hst
  clear hst hks hB q0 ne0 q1 ne1
  have HS := Lib.hid (ln_info l)
  have KN := Lib.hid (fun W => open_ok l (dayB d) W hg ho)
  unfold dayB at *
  have KA := Lib.hid (fun W => day_c d W)
  have HM : Hid ((kd, Value.int .i64 d, 3) ∈ [(kd, Value.int .i64 d, 3), (ks, Value.int .i64 s, 3)]) := show _ ∈ _ by simp
  have HM2 : Hid ((ks, Value.int .i64 s, 3) ∈ [(kd, Value.int .i64 d, 3), (ks, Value.int .i64 s, 3)]) := show _ ∈ _ by simp
  have KM := Lib.hid (fun W => may_c l s W)
  rw [hm] at KM
  clear hg ho hm
  generalize hKS : [(kd, Value.int .i64 d, 3), (ks, Value.int .i64 s, 3)] = KS at *
  generalize wB d 0 87658 = bb at *
  generalize l.cells = C at *
  go_enter Try.func50, Try.ntmps50
  go_upto_region 1 with fail
  rw [← e2, ← e1]
  clear e1 e2
  have hS0 : wb.drew.cell? ⟨kd, 0, none⟩ = some (.int .i64 d) ∧ St w g g2 C #[.int .i64 0, .int .i64 0, .int .i64 0, .int .i64 0, .int .i64 0, .int .i64 0, .bool false, .int .i64 0, .int .i64 0, .int .i64 0, .int .i64 0, .int .i64 0, .int .i64 0] KS wb.drew := ⟨HST.out.drawn.arg (k := kd) HM.out, HST.out.drawn⟩
  refine wp_region_held_drew (S := (fun W => W.cell? ⟨kd, 0, none⟩ = some (.int .i64 d) ∧ St w g g2 C #[.int .i64 0, .int .i64 0, .int .i64 0, .int .i64 0, .int .i64 0, .int .i64 0, .bool false, .int .i64 0, .int .i64 0, .int .i64 0, .int .i64 0, .int .i64 0, .int .i64 0] KS W)) (by kernel_rfl) hS0 (fun hHeld => ?_)
  refine take_row 0 4 rfl rfl (by kernel_rfl) (by kernel_rfl) (by kernel_rfl) 23 _ rfl _ rfl _ _ Try.underlying23 rfl HS.out (fun _ h => h.2.box) (fun _ _ _ h => h) (by rfl) (by assumption) ?_
  (try simp only [Act.put, List.setIfInBounds_toArray, List.set_cons_zero, List.set_cons_succ])
  refine ByHand.take_yes (v := ?_) 1 5 rfl rfl (by kernel_rfl) (by kernel_rfl) (by kernel_rfl) (fun _ _ _ h => h) (by rfl) ?_ (by assumption) ?_
  rotate_left
  · intro w' hSw
    (try dsimp only at hSw)
    go_simp
    all_goals with_reducible rfl
  (try simp only [Act.put, List.setIfInBounds_toArray, List.set_cons_zero, List.set_cons_succ])
  refine wpAnyH_ready (rs := [2]) (by kernel_rfl) (by simp) (AllReadyH.cons rfl (fun K hK => ?_) AllReadyH.nil)
  go_simp
  refine (KA.out _).mono ?_
  rintro e w' ⟨rfl, rfl⟩
  go_wp2_with fail
  refine hK.out _ _ ?_ (fun hHeld => ?_)
  · exact hS0
  clear hK K
  (try simp only [Act.put, List.setIfInBounds_toArray, List.set_cons_zero, List.set_cons_succ])
  refine wpAnyH_ready (rs := [3]) (by kernel_rfl) (by simp) (AllReadyH.cons rfl (fun K hK => ?_) AllReadyH.nil)
  go_simp
  refine (KN.out _).mono ?_
  rintro e y ⟨rfl, hb⟩
  replace HST := Lib.hid (hS0.2.below hb)
  go_wp2_with fail
  have ca := HST.out.arg (k := kd) HM.out
  refine hK.out _ _ ?_ (fun hHeld => ?_)
  · exact ⟨ca, HST.out⟩
  clear hK K
  (try simp only [Act.put, List.setIfInBounds_toArray, List.set_cons_zero, List.set_cons_succ])
  refine wpAnyH_done (by kernel_rfl) ?_ _
  have cs := HST.out.arg (k := ks) HM2.out
  go_wp2_with (first
    | (refine o_load rfl 23 _ rfl _ rfl _ _ _ HST.out.box Try.underlying23 rfl HS.out ?_)
    | (go_at_call 51; with_reducible refine (KM.out _).mono ?_; rintro e y ⟨rfl, hb⟩; replace HST := Lib.hid (HST.out.below hb); clear hb; have cd := HST.out.arg (k := kd) HM.out; have cs := HST.out.arg (k := ks) HM2.out)
    | (go_at_call 30; with_reducible refine (need_bad _ _).mono ?_; rintro e w' ⟨rfl, rfl⟩))
  exact ⟨rfl, rfl, HST.out.one⟩
set_option maxRecDepth 20000 in
theorem turnF_ok (l : Ln) (d s : Int) (kd ks : Nat) (g : Nat) (w : World) (hB : Boxd w g l.cells 23) (q0 : Boxd w kd #[.int .i64 d] 3) (ne0 : ¬ kd = g) (q1 : Boxd w ks #[.int .i64 s] 3) (ne1 : ¬ ks = g) (hg : (goodL l && dayB d) = true) (ho : openB l = true) (hm : mayB l s = true) (h5 : (s == 5) = false) : Calls Try.prog 50 #[.pointer (some ⟨g, 0, none⟩), .pointer (some ⟨kd, 0, none⟩), .pointer (some ⟨ks, 0, none⟩)] w fun e w' => e = .returned (.agg ({ l with status := s } : Ln).cells) ∧ One g w w' := by
  have hks : ∀ x ∈ ([(kd, .int .i64 d, 3), (ks, .int .i64 s, 3)] : List (Nat × Value × TypeId)), Boxd w x.1 #[x.2.1] x.2.2 ∧ ¬ x.1 = g := by
    intro x hx
    simp only [List.mem_cons, List.not_mem_nil, or_false] at hx
    rcases hx with rfl | rfl
    · exact ⟨q0, ne0⟩
    · exact ⟨q1, ne1⟩
  obtain ⟨g2, wb, e1, e2, hst⟩ := st_new hB hks
  have HST := Lib.hid hst
  clear hst hks hB q0 ne0 q1 ne1
  have HS := Lib.hid (ln_info l)
  have KN := Lib.hid (fun W => open_ok l (dayB d) W hg ho)
  unfold dayB at *
  have KA := Lib.hid (fun W => day_c d W)
  have HM : Hid ((kd, Value.int .i64 d, 3) ∈ [(kd, Value.int .i64 d, 3), (ks, Value.int .i64 s, 3)]) := show _ ∈ _ by simp
  have HM2 : Hid ((ks, Value.int .i64 s, 3) ∈ [(kd, Value.int .i64 d, 3), (ks, Value.int .i64 s, 3)]) := show _ ∈ _ by simp
  have KM := Lib.hid (fun W => may_c l s W)
  rw [hm] at KM
  clear hg ho hm
  have HS2 := Lib.hid (ln_info ({ l with status := s } : Ln))
  have HO := Lib.hid (ln_one ({ l with status := s } : Ln))
  have HZ2 : Hid (13 = ({ l with status := s } : Ln).cells.size) := show _ = _ from rfl
  have HZ : Hid (l.cells.size = 13) := ln_size l
  have PX : Hid (l.cells.setIfInBounds 7 (.int .i64 s) = ({ l with status := s } : Ln).cells) := show _ = _ from rfl
  generalize hKS : [(kd, Value.int .i64 d, 3), (ks, Value.int .i64 s, 3)] = KS at *
  generalize wB d 0 87658 = bb at *
  generalize ({ l with status := s } : Ln).cells = D at *
  generalize l.cells = C at *
  go_enter Try.func50, Try.ntmps50
  go_upto_region 1 with fail
  rw [← e2, ← e1]
  clear e1 e2
  have hS0 : wb.drew.cell? ⟨kd, 0, none⟩ = some (.int .i64 d) ∧ St w g g2 C #[.int .i64 0, .int .i64 0, .int .i64 0, .int .i64 0, .int .i64 0, .int .i64 0, .bool false, .int .i64 0, .int .i64 0, .int .i64 0, .int .i64 0, .int .i64 0, .int .i64 0] KS wb.drew := ⟨HST.out.drawn.arg (k := kd) HM.out, HST.out.drawn⟩
  refine wp_region_held_drew (S := (fun W => W.cell? ⟨kd, 0, none⟩ = some (.int .i64 d) ∧ St w g g2 C #[.int .i64 0, .int .i64 0, .int .i64 0, .int .i64 0, .int .i64 0, .int .i64 0, .bool false, .int .i64 0, .int .i64 0, .int .i64 0, .int .i64 0, .int .i64 0, .int .i64 0] KS W)) (by kernel_rfl) hS0 (fun hHeld => ?_)
  refine take_row 0 4 rfl rfl (by kernel_rfl) (by kernel_rfl) (by kernel_rfl) 23 _ rfl _ rfl _ _ Try.underlying23 rfl HS.out (fun _ h => h.2.box) (fun _ _ _ h => h) (by rfl) (by assumption) ?_
  (try simp only [Act.put, List.setIfInBounds_toArray, List.set_cons_zero, List.set_cons_succ])
  refine ByHand.take_yes (v := ?_) 1 5 rfl rfl (by kernel_rfl) (by kernel_rfl) (by kernel_rfl) (fun _ _ _ h => h) (by rfl) ?_ (by assumption) ?_
  rotate_left
  · intro w' hSw
    (try dsimp only at hSw)
    go_simp
    all_goals with_reducible rfl
  (try simp only [Act.put, List.setIfInBounds_toArray, List.set_cons_zero, List.set_cons_succ])
  refine wpAnyH_ready (rs := [2]) (by kernel_rfl) (by simp) (AllReadyH.cons rfl (fun K hK => ?_) AllReadyH.nil)
  go_simp
  refine (KA.out _).mono ?_
  rintro e w' ⟨rfl, rfl⟩
  go_wp2_with fail
  refine hK.out _ _ ?_ (fun hHeld => ?_)
  · exact hS0
  clear hK K
  (try simp only [Act.put, List.setIfInBounds_toArray, List.set_cons_zero, List.set_cons_succ])
  refine wpAnyH_ready (rs := [3]) (by kernel_rfl) (by simp) (AllReadyH.cons rfl (fun K hK => ?_) AllReadyH.nil)
  go_simp
  refine (KN.out _).mono ?_
  rintro e y ⟨rfl, hb⟩
  replace HST := Lib.hid (hS0.2.below hb)
  go_wp2_with fail
  have ca := HST.out.arg (k := kd) HM.out
  refine hK.out _ _ ?_ (fun hHeld => ?_)
  · exact ⟨ca, HST.out⟩
  clear hK K
  (try simp only [Act.put, List.setIfInBounds_toArray, List.set_cons_zero, List.set_cons_succ])
  refine wpAnyH_done (by kernel_rfl) ?_ _
  have cs := HST.out.arg (k := ks) HM2.out
  go_wp2_with (first
    | (refine o_load rfl 23 _ rfl _ rfl _ _ _ HST.out.box Try.underlying23 rfl HS.out ?_)
    | (refine o_load rfl 23 _ rfl _ rfl _ _ _ HST.out.box Try.underlying23 rfl HS2.out ?_)
    | (go_at_call 51; with_reducible refine (KM.out _).mono ?_; rintro e y ⟨rfl, hb⟩; replace HST := Lib.hid (HST.out.below hb); clear hb; have cd := HST.out.arg (k := kd) HM.out; have cs := HST.out.arg (k := ks) HM2.out)
    | (go_at_call 30; with_reducible refine (need_ok _ _).mono ?_; rintro e w' ⟨rfl, rfl⟩)
    | (refine o_put rfl 3 _ _ rfl rfl g 7 (.int .i64 s) rfl rfl rfl _ _ HST.out.box (by simp [HZ.out]) int_one ?_; intro y hr ho; rw [PX.out] at hr; replace HST := Lib.hid (HST.out.put hr ho); clear hr ho)
    | (refine o_store rfl 23 _ _ rfl rfl _ _ rfl rfl _ _ HST.out.res HS2.out HZ2.out HO.out ?_; intro y hr ho; replace HST := Lib.hid (HST.out.fill hr ho); clear hr ho))
  refine bodyPost_ret (results_cell_row rfl _ _ _ _ _ _ _ rfl HST.out.res Try.underlying23 rfl HS2.out) rfl ?_
  exact ⟨rfl, HST.out.one⟩
set_option maxRecDepth 20000 in
theorem turnF_over (l : Ln) (d s : Int) (kd ks : Nat) (g : Nat) (w : World) (hB : Boxd w g l.cells 23) (q0 : Boxd w kd #[.int .i64 d] 3) (ne0 : ¬ kd = g) (q1 : Boxd w ks #[.int .i64 s] 3) (ne1 : ¬ ks = g) (hg : (goodL l && dayB d) = true) (ho : openB l = true) (hm : mayB l s = true) (h5 : (s == 5) = true) (hl : ¬ l.prin + centsL l ≤ 10000000000000) : Calls Try.prog 50 #[.pointer (some ⟨g, 0, none⟩), .pointer (some ⟨kd, 0, none⟩), .pointer (some ⟨ks, 0, none⟩)] w fun e w' => e = .panicked (errL 14) ∧ One g w w' := by
  have hks : ∀ x ∈ ([(kd, .int .i64 d, 3), (ks, .int .i64 s, 3)] : List (Nat × Value × TypeId)), Boxd w x.1 #[x.2.1] x.2.2 ∧ ¬ x.1 = g := by
    intro x hx
    simp only [List.mem_cons, List.not_mem_nil, or_false] at hx
    rcases hx with rfl | rfl
    · exact ⟨q0, ne0⟩
    · exact ⟨q1, ne1⟩
  obtain ⟨g2, wb, e1, e2, hst⟩ := st_new hB hks
  have HST := Lib.hid hst
  clear hst hks hB q0 ne0 q1 ne1
  have HS := Lib.hid (ln_info l)
  have G : Good l := goodL_iff.1 (Bool.and_eq_true_iff.1 hg).1
  have KN := Lib.hid (fun W => open_ok l (dayB d) W hg ho)
  unfold dayB at *
  have KA := Lib.hid (fun W => day_c d W)
  have HM : Hid ((kd, Value.int .i64 d, 3) ∈ [(kd, Value.int .i64 d, 3), (ks, Value.int .i64 s, 3)]) := show _ ∈ _ by simp
  have HM2 : Hid ((ks, Value.int .i64 s, 3) ∈ [(kd, Value.int .i64 d, 3), (ks, Value.int .i64 s, 3)]) := show _ ∈ _ by simp
  have KM := Lib.hid (fun W => may_c l s W)
  rw [hm] at KM
  have KC := Lib.hid (fun W => cap_bad l W G hl)
  clear hg ho hm hl G
  generalize hKS : [(kd, Value.int .i64 d, 3), (ks, Value.int .i64 s, 3)] = KS at *
  generalize wB d 0 87658 = bb at *
  generalize l.cells = C at *
  go_enter Try.func50, Try.ntmps50
  go_upto_region 1 with fail
  rw [← e2, ← e1]
  clear e1 e2
  have hS0 : wb.drew.cell? ⟨kd, 0, none⟩ = some (.int .i64 d) ∧ St w g g2 C #[.int .i64 0, .int .i64 0, .int .i64 0, .int .i64 0, .int .i64 0, .int .i64 0, .bool false, .int .i64 0, .int .i64 0, .int .i64 0, .int .i64 0, .int .i64 0, .int .i64 0] KS wb.drew := ⟨HST.out.drawn.arg (k := kd) HM.out, HST.out.drawn⟩
  refine wp_region_held_drew (S := (fun W => W.cell? ⟨kd, 0, none⟩ = some (.int .i64 d) ∧ St w g g2 C #[.int .i64 0, .int .i64 0, .int .i64 0, .int .i64 0, .int .i64 0, .int .i64 0, .bool false, .int .i64 0, .int .i64 0, .int .i64 0, .int .i64 0, .int .i64 0, .int .i64 0] KS W)) (by kernel_rfl) hS0 (fun hHeld => ?_)
  refine take_row 0 4 rfl rfl (by kernel_rfl) (by kernel_rfl) (by kernel_rfl) 23 _ rfl _ rfl _ _ Try.underlying23 rfl HS.out (fun _ h => h.2.box) (fun _ _ _ h => h) (by rfl) (by assumption) ?_
  (try simp only [Act.put, List.setIfInBounds_toArray, List.set_cons_zero, List.set_cons_succ])
  refine ByHand.take_yes (v := ?_) 1 5 rfl rfl (by kernel_rfl) (by kernel_rfl) (by kernel_rfl) (fun _ _ _ h => h) (by rfl) ?_ (by assumption) ?_
  rotate_left
  · intro w' hSw
    (try dsimp only at hSw)
    go_simp
    all_goals with_reducible rfl
  (try simp only [Act.put, List.setIfInBounds_toArray, List.set_cons_zero, List.set_cons_succ])
  refine wpAnyH_ready (rs := [2]) (by kernel_rfl) (by simp) (AllReadyH.cons rfl (fun K hK => ?_) AllReadyH.nil)
  go_simp
  refine (KA.out _).mono ?_
  rintro e w' ⟨rfl, rfl⟩
  go_wp2_with fail
  refine hK.out _ _ ?_ (fun hHeld => ?_)
  · exact hS0
  clear hK K
  (try simp only [Act.put, List.setIfInBounds_toArray, List.set_cons_zero, List.set_cons_succ])
  refine wpAnyH_ready (rs := [3]) (by kernel_rfl) (by simp) (AllReadyH.cons rfl (fun K hK => ?_) AllReadyH.nil)
  go_simp
  refine (KN.out _).mono ?_
  rintro e y ⟨rfl, hb⟩
  replace HST := Lib.hid (hS0.2.below hb)
  go_wp2_with fail
  have ca := HST.out.arg (k := kd) HM.out
  refine hK.out _ _ ?_ (fun hHeld => ?_)
  · exact ⟨ca, HST.out⟩
  clear hK K
  (try simp only [Act.put, List.setIfInBounds_toArray, List.set_cons_zero, List.set_cons_succ])
  refine wpAnyH_done (by kernel_rfl) ?_ _
  have cs := HST.out.arg (k := ks) HM2.out
  go_wp2_with (first
    | (refine o_load rfl 23 _ rfl _ rfl _ _ _ HST.out.box Try.underlying23 rfl HS.out ?_)
    | (go_at_call 51; with_reducible refine (KM.out _).mono ?_; rintro e y ⟨rfl, hb⟩; replace HST := Lib.hid (HST.out.below hb); clear hb; have cd := HST.out.arg (k := kd) HM.out; have cs := HST.out.arg (k := ks) HM2.out)
    | (go_at_call 30; with_reducible refine (need_ok _ _).mono ?_; rintro e w' ⟨rfl, rfl⟩)
    | (go_at_call 43; with_reducible refine (KC.out _).mono ?_; rintro e y ⟨rfl, hb⟩; replace HST := Lib.hid (HST.out.below hb); clear hb))
  exact ⟨rfl, rfl, HST.out.one⟩
set_option maxRecDepth 20000 in
theorem turnF_repay (l : Ln) (d s : Int) (kd ks : Nat) (g : Nat) (w : World) (hB : Boxd w g l.cells 23) (q0 : Boxd w kd #[.int .i64 d] 3) (ne0 : ¬ kd = g) (q1 : Boxd w ks #[.int .i64 s] 3) (ne1 : ¬ ks = g) (hg : (goodL l && dayB d) = true) (ho : openB l = true) (hm : mayB l s = true) (h5 : (s == 5) = true) (hl : l.prin + centsL l ≤ 10000000000000) : Calls Try.prog 50 #[.pointer (some ⟨g, 0, none⟩), .pointer (some ⟨kd, 0, none⟩), .pointer (some ⟨ks, 0, none⟩)] w fun e w' => e = .returned (.agg ({ capL l with entered := d, status := s } : Ln).cells) ∧ One g w w' := by
  have hks : ∀ x ∈ ([(kd, .int .i64 d, 3), (ks, .int .i64 s, 3)] : List (Nat × Value × TypeId)), Boxd w x.1 #[x.2.1] x.2.2 ∧ ¬ x.1 = g := by
    intro x hx
    simp only [List.mem_cons, List.not_mem_nil, or_false] at hx
    rcases hx with rfl | rfl
    · exact ⟨q0, ne0⟩
    · exact ⟨q1, ne1⟩
  obtain ⟨g2, wb, e1, e2, hst⟩ := st_new hB hks
  have HST := Lib.hid hst
  clear hst hks hB q0 ne0 q1 ne1
  have HS := Lib.hid (ln_info l)
  have G : Good l := goodL_iff.1 (Bool.and_eq_true_iff.1 hg).1
  have KN := Lib.hid (fun W => open_ok l (dayB d) W hg ho)
  unfold dayB at *
  have KA := Lib.hid (fun W => day_c d W)
  have HM : Hid ((kd, Value.int .i64 d, 3) ∈ [(kd, Value.int .i64 d, 3), (ks, Value.int .i64 s, 3)]) := show _ ∈ _ by simp
  have HM2 : Hid ((ks, Value.int .i64 s, 3) ∈ [(kd, Value.int .i64 d, 3), (ks, Value.int .i64 s, 3)]) := show _ ∈ _ by simp
  have KM := Lib.hid (fun W => may_c l s W)
  rw [hm] at KM
  have KC := Lib.hid (fun W => cap_ok l W G hl)
  clear hg ho hm hl G
  have HS2 := Lib.hid (ln_info ({ capL l with entered := d, status := s } : Ln))
  have HO := Lib.hid (ln_one ({ capL l with entered := d, status := s } : Ln))
  have HZ2 : Hid (13 = ({ capL l with entered := d, status := s } : Ln).cells.size) := show _ = _ from rfl
  have HS1 := Lib.hid (ln_info (capL l))
  have HO1 := Lib.hid (ln_one (capL l))
  have HZ0 : Hid (l.cells.size = (capL l).cells.size) := show _ = _ from rfl
  have HZ1 : Hid ((capL l).cells.size = 13) := ln_size _
  have HZ3 : Hid (({ capL l with entered := d } : Ln).cells.size = 13) := ln_size _
  have PX : Hid ((capL l).cells.setIfInBounds 9 (.int .i64 d) = ({ capL l with entered := d } : Ln).cells) := show _ = _ from rfl
  have PY : Hid (({ capL l with entered := d } : Ln).cells.setIfInBounds 7 (.int .i64 s) = ({ capL l with entered := d, status := s } : Ln).cells) := show _ = _ from rfl
  generalize hKS : [(kd, Value.int .i64 d, 3), (ks, Value.int .i64 s, 3)] = KS at *
  generalize wB d 0 87658 = bb at *
  generalize ({ capL l with entered := d, status := s } : Ln).cells = D3 at *
  generalize ({ capL l with entered := d } : Ln).cells = D2 at *
  generalize (capL l).cells = D1 at *
  generalize l.cells = C at *
  go_enter Try.func50, Try.ntmps50
  go_upto_region 1 with fail
  rw [← e2, ← e1]
  clear e1 e2
  have hS0 : wb.drew.cell? ⟨kd, 0, none⟩ = some (.int .i64 d) ∧ St w g g2 C #[.int .i64 0, .int .i64 0, .int .i64 0, .int .i64 0, .int .i64 0, .int .i64 0, .bool false, .int .i64 0, .int .i64 0, .int .i64 0, .int .i64 0, .int .i64 0, .int .i64 0] KS wb.drew := ⟨HST.out.drawn.arg (k := kd) HM.out, HST.out.drawn⟩
  refine wp_region_held_drew (S := (fun W => W.cell? ⟨kd, 0, none⟩ = some (.int .i64 d) ∧ St w g g2 C #[.int .i64 0, .int .i64 0, .int .i64 0, .int .i64 0, .int .i64 0, .int .i64 0, .bool false, .int .i64 0, .int .i64 0, .int .i64 0, .int .i64 0, .int .i64 0, .int .i64 0] KS W)) (by kernel_rfl) hS0 (fun hHeld => ?_)
  refine take_row 0 4 rfl rfl (by kernel_rfl) (by kernel_rfl) (by kernel_rfl) 23 _ rfl _ rfl _ _ Try.underlying23 rfl HS.out (fun _ h => h.2.box) (fun _ _ _ h => h) (by rfl) (by assumption) ?_
  (try simp only [Act.put, List.setIfInBounds_toArray, List.set_cons_zero, List.set_cons_succ])
  refine ByHand.take_yes (v := ?_) 1 5 rfl rfl (by kernel_rfl) (by kernel_rfl) (by kernel_rfl) (fun _ _ _ h => h) (by rfl) ?_ (by assumption) ?_
  rotate_left
  · intro w' hSw
    (try dsimp only at hSw)
    go_simp
    all_goals with_reducible rfl
  (try simp only [Act.put, List.setIfInBounds_toArray, List.set_cons_zero, List.set_cons_succ])
  refine wpAnyH_ready (rs := [2]) (by kernel_rfl) (by simp) (AllReadyH.cons rfl (fun K hK => ?_) AllReadyH.nil)
  go_simp
  refine (KA.out _).mono ?_
  rintro e w' ⟨rfl, rfl⟩
  go_wp2_with fail
  refine hK.out _ _ ?_ (fun hHeld => ?_)
  · exact hS0
  clear hK K
  (try simp only [Act.put, List.setIfInBounds_toArray, List.set_cons_zero, List.set_cons_succ])
  refine wpAnyH_ready (rs := [3]) (by kernel_rfl) (by simp) (AllReadyH.cons rfl (fun K hK => ?_) AllReadyH.nil)
  go_simp
  refine (KN.out _).mono ?_
  rintro e y ⟨rfl, hb⟩
  replace HST := Lib.hid (hS0.2.below hb)
  go_wp2_with fail
  have ca := HST.out.arg (k := kd) HM.out
  refine hK.out _ _ ?_ (fun hHeld => ?_)
  · exact ⟨ca, HST.out⟩
  clear hK K
  (try simp only [Act.put, List.setIfInBounds_toArray, List.set_cons_zero, List.set_cons_succ])
  refine wpAnyH_done (by kernel_rfl) ?_ _
  have cs := HST.out.arg (k := ks) HM2.out
  go_wp2_with (first
    | (refine o_load rfl 23 _ rfl _ rfl _ _ _ HST.out.box Try.underlying23 rfl HS.out ?_)
    | (refine o_load rfl 23 _ rfl _ rfl _ _ _ HST.out.box Try.underlying23 rfl HS2.out ?_)
    | (go_at_call 51; with_reducible refine (KM.out _).mono ?_; rintro e y ⟨rfl, hb⟩; replace HST := Lib.hid (HST.out.below hb); clear hb; have cd := HST.out.arg (k := kd) HM.out; have cs := HST.out.arg (k := ks) HM2.out)
    | (go_at_call 30; with_reducible refine (need_ok _ _).mono ?_; rintro e w' ⟨rfl, rfl⟩)
    | (go_at_call 43; with_reducible refine (KC.out _).mono ?_; rintro e y ⟨rfl, hb⟩; replace HST := Lib.hid (HST.out.below hb); clear hb)
    | (refine o_store rfl 23 _ _ rfl rfl _ _ rfl rfl _ _ HST.out.box HS1.out HZ0.out HO1.out ?_; intro y hr ho; replace HST := Lib.hid (HST.out.put hr ho); clear hr ho; have cd := HST.out.arg (k := kd) HM.out; have cs := HST.out.arg (k := ks) HM2.out)
    | (refine o_put rfl 3 _ _ rfl rfl g 9 (.int .i64 d) rfl rfl rfl _ _ HST.out.box (by simp [HZ1.out]) int_one ?_; intro y hr ho; rw [PX.out] at hr; replace HST := Lib.hid (HST.out.put hr ho); clear hr ho; have cd := HST.out.arg (k := kd) HM.out; have cs := HST.out.arg (k := ks) HM2.out)
    | (refine o_put rfl 3 _ _ rfl rfl g 7 (.int .i64 s) rfl rfl rfl _ _ HST.out.box (by simp [HZ3.out]) int_one ?_; intro y hr ho; rw [PY.out] at hr; replace HST := Lib.hid (HST.out.put hr ho); clear hr ho)
    | (refine o_store rfl 23 _ _ rfl rfl _ _ rfl rfl _ _ HST.out.res HS2.out HZ2.out HO.out ?_; intro y hr ho; replace HST := Lib.hid (HST.out.fill hr ho); clear hr ho))
  refine bodyPost_ret (results_cell_row rfl _ _ _ _ _ _ _ rfl HST.out.res Try.underlying23 rfl HS2.out) rfl ?_
  exact ⟨rfl, HST.out.one⟩
theorem owesF_arg (l : Ln) (g : Nat) (w : World) (hB : Boxd w g l.cells 23) (hg : goodL l = false) : Calls Try.prog 29 #[.pointer (some ⟨g, 0, none⟩)] w fun e w' => e = .panicked (errL 1) ∧ Below w.heap.size w w' := by
  have HB := Lib.hid hB
  have HW := Lib.hid (Below.refl w.heap.size w)
  clear hB
  have HS := Lib.hid (ln_info l)
  have KG := Lib.hid (fun W => good_c l W)
  rw [hg] at KG
  clear hg
  generalize l.cells = C at *
  go_enter Try.func29, Try.ntmps29
  go_wp2_with (first
    | (refine o_load rfl 23 _ rfl _ rfl _ _ _ HB.out Try.underlying23 rfl HS.out ?_)
    | (go_at_call 14; with_reducible refine (KG.out _).mono ?_; rintro e y ⟨rfl, hb⟩; replace HB := Lib.hid (HB.out.below hb); replace HW := Lib.hid (below_to HW.out hb); clear hb)
    | (go_at_call 30; with_reducible refine (need_bad _ _).mono ?_; rintro e w' ⟨rfl, rfl⟩))
  exact ⟨rfl, rfl, HW.out⟩
theorem owesF_over (l : Ln) (g : Nat) (w : World) (hB : Boxd w g l.cells 23) (G : Good l) (hl : ¬ sumL l ≤ 10000000000000) : Calls Try.prog 29 #[.pointer (some ⟨g, 0, none⟩)] w fun e w' => e = .panicked (errL 14) ∧ Below w.heap.size w w' := by
  have HB := Lib.hid hB
  have HW := Lib.hid (Below.refl w.heap.size w)
  clear hB
  have HS := Lib.hid (ln_info l)
  have KG := Lib.hid (fun W => good_c l W)
  rw [goodL_iff.2 G] at KG
  have KO := Lib.hid (fun W => owes_bad l W G hl)
  clear G hl
  generalize l.cells = C at *
  go_enter Try.func29, Try.ntmps29
  go_wp2_with (first
    | (refine o_load rfl 23 _ rfl _ rfl _ _ _ HB.out Try.underlying23 rfl HS.out ?_)
    | (go_at_call 14; with_reducible refine (KG.out _).mono ?_; rintro e y ⟨rfl, hb⟩; replace HB := Lib.hid (HB.out.below hb); replace HW := Lib.hid (below_to HW.out hb); clear hb)
    | (go_at_call 30; with_reducible refine (need_ok _ _).mono ?_; rintro e w' ⟨rfl, rfl⟩)
    | (go_at_call 31; with_reducible refine (KO.out _).mono ?_; rintro e y ⟨rfl, hb⟩; replace HB := Lib.hid (HB.out.below hb); replace HW := Lib.hid (below_to HW.out hb); clear hb))
  exact ⟨rfl, rfl, HW.out⟩
theorem owesF_ok (l : Ln) (g : Nat) (w : World) (hB : Boxd w g l.cells 23) (G : Good l) (hl : sumL l ≤ 10000000000000) : Calls Try.prog 29 #[.pointer (some ⟨g, 0, none⟩)] w fun e w' => e = .returned (.int .i64 (sumL l)) ∧ Below w.heap.size w w' := by
  have HB := Lib.hid hB
  have HW := Lib.hid (Below.refl w.heap.size w)
  clear hB
  have HS := Lib.hid (ln_info l)
  have KG := Lib.hid (fun W => good_c l W)
  rw [goodL_iff.2 G] at KG
  have KO := Lib.hid (fun W => owes_ok l W G hl)
  clear G hl
  generalize sumL l = z at *
  generalize l.cells = C at *
  go_enter Try.func29, Try.ntmps29
  go_wp2_with (first
    | (refine o_load rfl 23 _ rfl _ rfl _ _ _ HB.out Try.underlying23 rfl HS.out ?_)
    | (go_at_call 14; with_reducible refine (KG.out _).mono ?_; rintro e y ⟨rfl, hb⟩; replace HB := Lib.hid (HB.out.below hb); replace HW := Lib.hid (below_to HW.out hb); clear hb)
    | (go_at_call 30; with_reducible refine (need_ok _ _).mono ?_; rintro e w' ⟨rfl, rfl⟩)
    | (go_at_call 31; with_reducible refine (KO.out _).mono ?_; rintro e y ⟨rfl, hb⟩; replace HB := Lib.hid (HB.out.below hb); replace HW := Lib.hid (below_to HW.out hb); clear hb))
  go_ret
  exact ⟨rfl, HW.out⟩
set_option maxRecDepth 20000 in
theorem closeF_arg (l : Ln) (how : Int) (g k : Nat) (w : World) (hB : Boxd w g l.cells 23) (hK : Boxd w k #[.int .i64 how] 3) (hg : (goodL l && wB how 1 4) = false) : Calls Try.prog 62 #[.pointer (some ⟨g, 0, none⟩), .pointer (some ⟨k, 0, none⟩)] w fun e w' => e = .panicked (errL 1) ∧ Below w.heap.size w w' := by
  have hS0 : w.drew.cell? ⟨k, 0, none⟩ = some (.int .i64 how) ∧ Boxd w.drew g l.cells 23 := ⟨hK.cell, hB⟩
  have HB : Hid (Boxd w.drew g l.cells 23) := hB
  have HK : Hid (Boxd w.drew k #[.int .i64 how] 3) := hK
  have HW := Lib.hid (below_drawn (Below.refl w.heap.size w))
  clear hB hK
  have HS := Lib.hid (ln_info l)
  have KA := Lib.hid (fun W => within_i how 1 4 W)
  have KN := Lib.hid (fun W => open_arg l (wB how 1 4) W hg)
  clear hg
  generalize wB how 1 4 = bb at *
  generalize l.cells = C at *
  go_enter Try.func62, Try.ntmps62
  go_upto_region 1 with fail
  refine wp_region_held_drew (S := (fun W => W.cell? ⟨k, 0, none⟩ = some (.int .i64 how) ∧ Boxd W g C 23)) (by kernel_rfl) hS0 (fun hHeld => ?_)
  refine take_row 0 3 rfl rfl (by kernel_rfl) (by kernel_rfl) (by kernel_rfl) 23 _ rfl _ rfl _ _ Try.underlying23 rfl HS.out (fun _ h => h.2) (fun _ _ _ h => h) (by rfl) (by assumption) ?_
  (try simp only [Act.put, List.setIfInBounds_toArray, List.set_cons_zero, List.set_cons_succ])
  refine ByHand.take_yes (v := ?_) 1 4 rfl rfl (by kernel_rfl) (by kernel_rfl) (by kernel_rfl) (fun _ _ _ h => h) (by rfl) ?_ (by assumption) ?_
  rotate_left
  · intro w' hSw
    (try dsimp only at hSw)
    go_simp
    all_goals with_reducible rfl
  (try simp only [Act.put, List.setIfInBounds_toArray, List.set_cons_zero, List.set_cons_succ])
  refine wpAnyH_ready (rs := [2]) (by kernel_rfl) (by simp) (AllReadyH.cons rfl (fun K hK => ?_) AllReadyH.nil)
  go_simp
  refine (KA.out _).mono ?_
  rintro e w' ⟨rfl, rfl⟩
  go_wp2_with fail
  refine hK.out _ _ ?_ (fun hHeld => ?_)
  · exact hS0
  clear hK K
  (try simp only [Act.put, List.setIfInBounds_toArray, List.set_cons_zero, List.set_cons_succ])
  refine wpAnyH_ready (rs := [3]) (by kernel_rfl) (by simp) (AllReadyH.cons rfl (fun K hK => ?_) AllReadyH.nil)
  go_simp
  refine (KN.out _).mono ?_
  rintro e y ⟨rfl, hb⟩
  replace HB := Lib.hid (HB.out.below hb)
  replace HK := Lib.hid (HK.out.below hb)
  replace HW := Lib.hid (below_to HW.out hb)
  clear hb
  go_wp2_with fail
  exact ⟨rfl, rfl, HW.out⟩
set_option maxRecDepth 20000 in
theorem closeF_gone (l : Ln) (how : Int) (g k : Nat) (w : World) (hB : Boxd w g l.cells 23) (hK : Boxd w k #[.int .i64 how] 3) (hg : (goodL l && wB how 1 4) = true) (ho : openB l = false) : Calls Try.prog 62 #[.pointer (some ⟨g, 0, none⟩), .pointer (some ⟨k, 0, none⟩)] w fun e w' => e = .panicked (errL 61) ∧ Below w.heap.size w w' := by
  have hS0 : w.drew.cell? ⟨k, 0, none⟩ = some (.int .i64 how) ∧ Boxd w.drew g l.cells 23 := ⟨hK.cell, hB⟩
  have HB : Hid (Boxd w.drew g l.cells 23) := hB
  have HK : Hid (Boxd w.drew k #[.int .i64 how] 3) := hK
  have HW := Lib.hid (below_drawn (Below.refl w.heap.size w))
  clear hB hK
  have HS := Lib.hid (ln_info l)
  have KA := Lib.hid (fun W => within_i how 1 4 W)
  have KN := Lib.hid (fun W => open_gone l (wB how 1 4) W hg ho)
  clear hg ho
  generalize wB how 1 4 = bb at *
  generalize l.cells = C at *
  go_enter Try.func62, Try.ntmps62
  go_upto_region 1 with fail
  refine wp_region_held_drew (S := (fun W => W.cell? ⟨k, 0, none⟩ = some (.int .i64 how) ∧ Boxd W g C 23)) (by kernel_rfl) hS0 (fun hHeld => ?_)
  refine take_row 0 3 rfl rfl (by kernel_rfl) (by kernel_rfl) (by kernel_rfl) 23 _ rfl _ rfl _ _ Try.underlying23 rfl HS.out (fun _ h => h.2) (fun _ _ _ h => h) (by rfl) (by assumption) ?_
  (try simp only [Act.put, List.setIfInBounds_toArray, List.set_cons_zero, List.set_cons_succ])
  refine ByHand.take_yes (v := ?_) 1 4 rfl rfl (by kernel_rfl) (by kernel_rfl) (by kernel_rfl) (fun _ _ _ h => h) (by rfl) ?_ (by assumption) ?_
  rotate_left
  · intro w' hSw
    (try dsimp only at hSw)
    go_simp
    all_goals with_reducible rfl
  (try simp only [Act.put, List.setIfInBounds_toArray, List.set_cons_zero, List.set_cons_succ])
  refine wpAnyH_ready (rs := [2]) (by kernel_rfl) (by simp) (AllReadyH.cons rfl (fun K hK => ?_) AllReadyH.nil)
  go_simp
  refine (KA.out _).mono ?_
  rintro e w' ⟨rfl, rfl⟩
  go_wp2_with fail
  refine hK.out _ _ ?_ (fun hHeld => ?_)
  · exact hS0
  clear hK K
  (try simp only [Act.put, List.setIfInBounds_toArray, List.set_cons_zero, List.set_cons_succ])
  refine wpAnyH_ready (rs := [3]) (by kernel_rfl) (by simp) (AllReadyH.cons rfl (fun K hK => ?_) AllReadyH.nil)
  go_simp
  refine (KN.out _).mono ?_
  rintro e y ⟨rfl, hb⟩
  replace HB := Lib.hid (HB.out.below hb)
  replace HK := Lib.hid (HK.out.below hb)
  replace HW := Lib.hid (below_to HW.out hb)
  clear hb
  go_wp2_with fail
  exact ⟨rfl, rfl, HW.out⟩
set_option maxRecDepth 20000 in
theorem closeF_over (l : Ln) (how : Int) (g k : Nat) (w : World) (hB : Boxd w g l.cells 23) (hK : Boxd w k #[.int .i64 how] 3) (hg : (goodL l && wB how 1 4) = true) (ho : openB l = true) (hl : ¬ sumL l ≤ 10000000000000) : Calls Try.prog 62 #[.pointer (some ⟨g, 0, none⟩), .pointer (some ⟨k, 0, none⟩)] w fun e w' => e = .panicked (errL 14) ∧ Below w.heap.size w w' := by
  have hS0 : w.drew.cell? ⟨k, 0, none⟩ = some (.int .i64 how) ∧ Boxd w.drew g l.cells 23 := ⟨hK.cell, hB⟩
  have HB : Hid (Boxd w.drew g l.cells 23) := hB
  have HK : Hid (Boxd w.drew k #[.int .i64 how] 3) := hK
  have HW := Lib.hid (below_drawn (Below.refl w.heap.size w))
  clear hB hK
  have HS := Lib.hid (ln_info l)
  have KA := Lib.hid (fun W => within_i how 1 4 W)
  have G : Good l := goodL_iff.1 (Bool.and_eq_true_iff.1 hg).1
  have KN := Lib.hid (fun W => open_ok l (wB how 1 4) W hg ho)
  have KO := Lib.hid (fun W => owes_bad l W G hl)
  clear hg ho hl G
  generalize wB how 1 4 = bb at *
  generalize l.cells = C at *
  go_enter Try.func62, Try.ntmps62
  go_upto_region 1 with fail
  refine wp_region_held_drew (S := (fun W => W.cell? ⟨k, 0, none⟩ = some (.int .i64 how) ∧ Boxd W g C 23)) (by kernel_rfl) hS0 (fun hHeld => ?_)
  refine take_row 0 3 rfl rfl (by kernel_rfl) (by kernel_rfl) (by kernel_rfl) 23 _ rfl _ rfl _ _ Try.underlying23 rfl HS.out (fun _ h => h.2) (fun _ _ _ h => h) (by rfl) (by assumption) ?_
  (try simp only [Act.put, List.setIfInBounds_toArray, List.set_cons_zero, List.set_cons_succ])
  refine ByHand.take_yes (v := ?_) 1 4 rfl rfl (by kernel_rfl) (by kernel_rfl) (by kernel_rfl) (fun _ _ _ h => h) (by rfl) ?_ (by assumption) ?_
  rotate_left
  · intro w' hSw
    (try dsimp only at hSw)
    go_simp
    all_goals with_reducible rfl
  (try simp only [Act.put, List.setIfInBounds_toArray, List.set_cons_zero, List.set_cons_succ])
  refine wpAnyH_ready (rs := [2]) (by kernel_rfl) (by simp) (AllReadyH.cons rfl (fun K hK => ?_) AllReadyH.nil)
  go_simp
  refine (KA.out _).mono ?_
  rintro e w' ⟨rfl, rfl⟩
  go_wp2_with fail
  refine hK.out _ _ ?_ (fun hHeld => ?_)
  · exact hS0
  clear hK K
  (try simp only [Act.put, List.setIfInBounds_toArray, List.set_cons_zero, List.set_cons_succ])
  refine wpAnyH_ready (rs := [3]) (by kernel_rfl) (by simp) (AllReadyH.cons rfl (fun K hK => ?_) AllReadyH.nil)
  go_simp
  refine (KN.out _).mono ?_
  rintro e y ⟨rfl, hb⟩
  replace HB := Lib.hid (HB.out.below hb)
  replace HK := Lib.hid (HK.out.below hb)
  replace HW := Lib.hid (below_to HW.out hb)
  clear hb
  go_wp2_with fail
  refine hK.out _ _ ?_ (fun hHeld => ?_)
  · exact ⟨HK.out.cell, HB.out⟩
  clear hK K
  (try simp only [Act.put, List.setIfInBounds_toArray, List.set_cons_zero, List.set_cons_succ])
  refine wpAnyH_done (by kernel_rfl) ?_ _
  go_wp2_with (first
    | (refine o_load rfl 23 _ rfl _ rfl _ _ _ HB.out Try.underlying23 rfl HS.out ?_)
    | (go_at_call 31; with_reducible refine (KO.out _).mono ?_; rintro e y ⟨rfl, hb⟩; replace HB := Lib.hid (HB.out.below hb); replace HW := Lib.hid (below_to HW.out hb); clear hb))
  exact ⟨rfl, rfl, HW.out⟩
set_option maxRecDepth 20000 in
theorem closeF_ok (l : Ln) (how : Int) (g k : Nat) (w : World) (hB : Boxd w g l.cells 23) (hK : Boxd w k #[.int .i64 how] 3) (hg : (goodL l && wB how 1 4) = true) (ho : openB l = true) (hl : sumL l ≤ 10000000000000) : Calls Try.prog 62 #[.pointer (some ⟨g, 0, none⟩), .pointer (some ⟨k, 0, none⟩)] w fun e w' => e = .returned (.int .i64 (sumL l)) ∧ Below w.heap.size w w' := by
  have hS0 : w.drew.cell? ⟨k, 0, none⟩ = some (.int .i64 how) ∧ Boxd w.drew g l.cells 23 := ⟨hK.cell, hB⟩
  have HB : Hid (Boxd w.drew g l.cells 23) := hB
  have HK : Hid (Boxd w.drew k #[.int .i64 how] 3) := hK
  have HW := Lib.hid (below_drawn (Below.refl w.heap.size w))
  clear hB hK
  have HS := Lib.hid (ln_info l)
  have KA := Lib.hid (fun W => within_i how 1 4 W)
  have G : Good l := goodL_iff.1 (Bool.and_eq_true_iff.1 hg).1
  have KN := Lib.hid (fun W => open_ok l (wB how 1 4) W hg ho)
  have KO := Lib.hid (fun W => owes_ok l W G hl)
  clear hg ho hl G
  generalize sumL l = z at *
  generalize wB how 1 4 = bb at *
  generalize l.cells = C at *
  go_enter Try.func62, Try.ntmps62
  go_upto_region 1 with fail
  refine wp_region_held_drew (S := (fun W => W.cell? ⟨k, 0, none⟩ = some (.int .i64 how) ∧ Boxd W g C 23)) (by kernel_rfl) hS0 (fun hHeld => ?_)
  refine take_row 0 3 rfl rfl (by kernel_rfl) (by kernel_rfl) (by kernel_rfl) 23 _ rfl _ rfl _ _ Try.underlying23 rfl HS.out (fun _ h => h.2) (fun _ _ _ h => h) (by rfl) (by assumption) ?_
  (try simp only [Act.put, List.setIfInBounds_toArray, List.set_cons_zero, List.set_cons_succ])
  refine ByHand.take_yes (v := ?_) 1 4 rfl rfl (by kernel_rfl) (by kernel_rfl) (by kernel_rfl) (fun _ _ _ h => h) (by rfl) ?_ (by assumption) ?_
  rotate_left
  · intro w' hSw
    (try dsimp only at hSw)
    go_simp
    all_goals with_reducible rfl
  (try simp only [Act.put, List.setIfInBounds_toArray, List.set_cons_zero, List.set_cons_succ])
  refine wpAnyH_ready (rs := [2]) (by kernel_rfl) (by simp) (AllReadyH.cons rfl (fun K hK => ?_) AllReadyH.nil)
  go_simp
  refine (KA.out _).mono ?_
  rintro e w' ⟨rfl, rfl⟩
  go_wp2_with fail
  refine hK.out _ _ ?_ (fun hHeld => ?_)
  · exact hS0
  clear hK K
  (try simp only [Act.put, List.setIfInBounds_toArray, List.set_cons_zero, List.set_cons_succ])
  refine wpAnyH_ready (rs := [3]) (by kernel_rfl) (by simp) (AllReadyH.cons rfl (fun K hK => ?_) AllReadyH.nil)
  go_simp
  refine (KN.out _).mono ?_
  rintro e y ⟨rfl, hb⟩
  replace HB := Lib.hid (HB.out.below hb)
  replace HK := Lib.hid (HK.out.below hb)
  replace HW := Lib.hid (below_to HW.out hb)
  clear hb
  go_wp2_with fail
  refine hK.out _ _ ?_ (fun hHeld => ?_)
  · exact ⟨HK.out.cell, HB.out⟩
  clear hK K
  (try simp only [Act.put, List.setIfInBounds_toArray, List.set_cons_zero, List.set_cons_succ])
  refine wpAnyH_done (by kernel_rfl) ?_ _
  go_wp2_with (first
    | (refine o_load rfl 23 _ rfl _ rfl _ _ _ HB.out Try.underlying23 rfl HS.out ?_)
    | (go_at_call 31; with_reducible refine (KO.out _).mono ?_; rintro e y ⟨rfl, hb⟩; replace HB := Lib.hid (HB.out.below hb); replace HW := Lib.hid (below_to HW.out hb); clear hb))
  go_ret
  exact ⟨rfl, HW.out⟩
end Go.Proofs.Ytkegmgjagcefhaa.Loan
