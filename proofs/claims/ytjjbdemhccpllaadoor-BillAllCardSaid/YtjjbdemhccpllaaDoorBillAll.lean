/- What is credited is just what is less left, and what is left over; while something is left over, nothing is left; in two parts it is the same, at any good bills; no condition. -/
import Derived.Test.YtjjbdemhccpllaaDoorCards
import Derived.Test.YtjjbdemhccpllaaDoorTie
import Derived.Test.YtjjbdemhccpllaaDoorGA
import Derived.Test.YtjjbdemhccpllaaDoorBillWakes
import Derived.Test.YtjjbdemhccpllaaDoorRefBill
import Derived.Test.YtjjbdemhccpllaaDoorBillMath2
namespace Go.Proofs.YtjjbdemhccpllaaDoor.Law
open Go.ChangeShapes Go.WideShapes Go.ChangeAt Go.RowKit Loan Money Box Rws Slice Plan Bill Date Cal RBill

theorem cr_ids (d : Int) : ∀ {L : List Bl} {a : Int}, (∀ b ∈ L, b.ids.length ≤ 1000) → ∀ b ∈ (crB d L a).1, b.ids.length ≤ 1000
  | [], _, _, b, hb => by cases hb
  | x :: r, a, h, b, hb => by
    by_cases h0 : x.left = 0
    · rw [cr_skip h0] at hb
      rcases List.mem_cons.1 hb with rfl | hb
      · exact h _ List.mem_cons_self
      · exact cr_ids d (fun y hy => h y (List.mem_cons_of_mem _ hy)) b hb
    · rw [cr_take h0] at hb
      rcases List.mem_cons.1 hb with rfl | hb
      · exact h x List.mem_cons_self
      · exact cr_ids d (fun y hy => h y (List.mem_cons_of_mem _ hy)) b hb
/-- What stands while BillAll goes: the numbers' box beside it. -/
structure Al (w0 W : World) (M : List Bl) (v : Value) (g4 : Nat) (C4 : Array Value) : Prop where
  bo : Bo w0 W M v
  b4 : Boxd W g4 C4 53
theorem Al.below {w0 W W' : World} {M : List Bl} {v : Value} {g4 : Nat} {C4 : Array Value} (h : Al w0 W M v g4 C4) (hb : Below W.heap.size W W') : Al w0 W' M v g4 C4 := ⟨h.bo.below hb, h.b4.below hb⟩
theorem mod_b (x n : Int) (w : World) (h : 1 ≤ n) (h2 : n ≤ 1000000000) : Calls Tryd.prog 25 #[.int .i64 x, .int .i64 n] w fun e w' => e = .returned (.int .i64 ((x.tmod n + n).tmod n)) ∧ w = w' := by
  obtain ⟨W1, W2, W3⟩ := Mod.mod_facts x n h h2
  clear W2 W3
  have hn : (n == 0) = false := by rw [beq_eq_false_iff_ne]; omega
  have hn1 : decide (n < 1) = false := decide_eq_false (by omega)
  have hn2 : ¬ n = -1 := by omega
  have hn3 : (n == -1) = false := by rw [beq_eq_false_iff_ne]; exact hn2
  clear h2
  go_enter Tryd.func25, Tryd.ntmps25
  go_wp2
  go_ret
  exact ⟨rfl, rfl⟩
theorem mod_day (x : Int) : dayB ((x.tmod 87659 + 87659).tmod 87659) = true := by
  unfold dayB
  refine decide_eq_true ?_
  have h1 := Int.tmod_lt_of_pos (x.tmod 87659 + 87659) (show (0 : Int) < 87659 by decide)
  have h2 : 0 ≤ x.tmod 87659 + 87659 := by
    have := Int.lt_tmod_of_pos x (show (0 : Int) < 87659 by decide)
    omega
  have h3 := Int.tmod_nonneg 87659 h2
  omega
theorem cre_ok {M : List Bl} {a d : Int} (hg : goodM M = true) (ha : 0 ≤ a ∧ a ≤ 10000000000000) (hd : dayB d = true) : creE M a d = 0 := by
  unfold creE
  rw [if_pos hg, if_pos ⟨money_iff.2 ha, hd⟩]
set_option maxRecDepth 20000 in
set_option maxHeartbeats 8000000 in
theorem all_many (M : List Bl) (x y day : Int) (v : Value) (w : World) (hv : Bls w w.heap.size v M) (LD : Hid (Laid w)) (h1 : manyB M = true) : Calls Tryd.prog 6 #[v, .agg #[.int .u32 x, .int .u32 y], .int .i64 day] w fun e w' => e = .returned (.bool true) ∧ Below w.heap.size w w' := by
  obtain ⟨g4, wb, e1, e2, h4, hb4⟩ := boxd_new w #[.int .u32 x, .int .u32 y] 53
  have HM : Hid (Al w wb M v g4 #[.int .u32 x, .int .u32 y]) := ⟨⟨hb4, LD.out.of hb4, hv.below hb4⟩, h4⟩
  obtain ⟨A, k, rfl⟩ := hv.1.shape
  have lM := hv.1.len
  clear hv LD h4 hb4
  go_enter Tryd.func6, Tryd.ntmps6
  go_upto_region 1 with fail
  rw [← e2, ← e1]
  clear e1 e2
  go_wp2_with (first
    | (go_at_call 8; (with_reducible refine (large_any M _ w _ HM.out.bo).mono ?_); rintro e y1 ⟨rfl, hb⟩; rw [h1]; replace HM := Lib.hid (HM.out.below hb); clear hb)
    | (go_at_call 9; (with_reducible refine (wakes_bill _ HM.out.bo.laid).mono ?_); rintro e y9 ⟨rfl, hb⟩; replace HM := Lib.hid (HM.out.below hb); clear hb))
  go_ret
  exact ⟨rfl, HM.out.bo.low⟩
set_option maxRecDepth 20000 in
set_option maxHeartbeats 8000000 in
theorem all_bad (M : List Bl) (x y day : Int) (v : Value) (w : World) (hv : Bls w w.heap.size v M) (LD : Hid (Laid w)) (h1 : manyB M = false) (hg : goodM M = false) : Calls Tryd.prog 6 #[v, .agg #[.int .u32 x, .int .u32 y], .int .i64 day] w fun e w' => e = .returned (.bool true) ∧ Below w.heap.size w w' := by
  obtain ⟨g4, wb, e1, e2, h4, hb4⟩ := boxd_new w #[.int .u32 x, .int .u32 y] 53
  have HM : Hid (Al w wb M v g4 #[.int .u32 x, .int .u32 y]) := ⟨⟨hb4, LD.out.of hb4, hv.below hb4⟩, h4⟩
  obtain ⟨A, k, rfl⟩ := hv.1.shape
  have lM := hv.1.len
  clear hv LD h4 hb4
  have KRG := Lib.hid (fun W (h : Bo w W M (.slice A M.length k)) => r_good M (.slice A M.length k) w.heap.size W h.low.size h.bls (Nat.le_trans (many_no h1).1 (by decide)))
  rw [hg] at KRG
  clear hg
  go_enter Tryd.func6, Tryd.ntmps6
  go_upto_region 1 with fail
  rw [← e2, ← e1]
  clear e1 e2
  go_wp2_with (first
    | (go_at_call 8; (with_reducible refine (large_any M _ w _ HM.out.bo).mono ?_); rintro e y1 ⟨rfl, hb⟩; rw [h1]; replace HM := Lib.hid (HM.out.below hb); clear hb)
    | (go_at_call 14; (refine (KRG.out _ HM.out.bo).mono ?_); rintro e y2 ⟨rfl, hb⟩; replace HM := Lib.hid (HM.out.below hb); clear hb)
    | (go_at_call 9; (with_reducible refine (wakes_bill _ HM.out.bo.laid).mono ?_); rintro e y9 ⟨rfl, hb⟩; replace HM := Lib.hid (HM.out.below hb); clear hb))
  go_ret
  exact ⟨rfl, HM.out.bo.low⟩
set_option maxRecDepth 20000 in
set_option maxHeartbeats 8000000 in
theorem all_some (M : List Bl) (x y day : Int) (v : Value) (w : World) (hv : Bls w w.heap.size v M) (x0 : 0 ≤ x) (x1 : x ≤ 4294967295) (y0 : 0 ≤ y) (y1 : y ≤ 4294967295) (LD : Hid (Laid w)) (h1 : manyB M = false) (hg : goodM M = true) : Calls Tryd.prog 6 #[v, .agg #[.int .u32 x, .int .u32 y], .int .i64 day] w fun e w' => e = .returned (.bool true) ∧ Below w.heap.size w w' := by
  obtain ⟨g4, wb, e1, e2, h4, hb4⟩ := boxd_new w #[.int .u32 x, .int .u32 y] 53
  have HM : Hid (Al w wb M v g4 #[.int .u32 x, .int .u32 y]) := ⟨⟨hb4, LD.out.of hb4, hv.below hb4⟩, h4⟩
  obtain ⟨A, k, rfl⟩ := hv.1.shape
  have lM := hv.1.len
  clear hv LD h4 hb4
  have KRG := Lib.hid (fun W (h : Bo w W M (.slice A M.length k)) => r_good M (.slice A M.length k) w.heap.size W h.low.size h.bls (Nat.le_trans (many_no h1).1 (by decide)))
  have hN : M.length ≤ 400 := (many_no h1).1
  have hI : ∀ b ∈ M, b.ids.length ≤ 1000 := fun b hb => Nat.le_trans ((many_no h1).2 b hb) (by decide)
  have KCP := Lib.hid (fun W (h : Bo w W M (.slice A M.length k)) => c_cbills M (.slice A M.length k) w.heap.size W h.low.size h.bls (by omega) hI)
  have KM := Lib.hid (fun W => mod_b day 87659 W (by decide) (by decide))
  have hd := mod_day day
  generalize (day.tmod 87659 + 87659).tmod 87659 = d at *
  have hL := lefts_of hg
  have KCG : ∀ (M0 : List Bl) (z : Int), M0.length = M.length → (∀ b ∈ M0, b.ids.length ≤ 1000) → goodM M0 = true → 0 ≤ z ∧ z ≤ 10000000000000 → Hid (∀ W u M', Laid W → AlikeB M0 M' → Bls W W.heap.size u M' → Calls Tryd.prog 23 #[u, .int .i64 z, .int .i64 d] W fun e w' => ∃ A2 R c2, e = .returned (.tuple #[.slice A2 M.length c2, .int .i64 (crB d M0 z).2, .int .i64 0]) ∧ AlikeB (crB d M0 z).1 R ∧ Bls w' w'.heap.size (.slice A2 M.length c2) R ∧ Below W.heap.size W w') := fun M0 z hl hi hg0 hz W u M' hlaid ha hu => by
    have h := b_credit M' z d u W.heap.size W (Nat.le_refl _) hu (by rw [ha.1]; omega) (alike_ids ha hi) hlaid
    obtain ⟨q1, q2⟩ := creL_alike z d ha
    have he := cre_ok hg0 hz hd
    rw [creE_alike z d ha, q2, he] at h
    have e1 : creL M0 z d = (crB d M0 z).1 := by unfold creL; rw [if_pos he]
    have e2 : creK M0 z d = (crB d M0 z).2 := by unfold creK; rw [if_pos he]
    rw [e2] at h
    rw [e1] at q1
    exact h.mono fun e w' ⟨u, R, h1, h2, h3, h4⟩ => by
      obtain ⟨A2, c2, rfl⟩ := own_slice' h3.row
      have hh := alike_trans q1 h2
      have hln : R.length = M.length := by rw [hh.1, cr_len, hl]
      have hb := h3.bls
      rw [hln] at h1 hb
      exact ⟨A2, R, c2, h1, hh, hb, h4⟩
  have K1 := KCG M (x + y) rfl hI hg ⟨by omega, by omega⟩
  have K2 := KCG M x rfl hI hg ⟨by omega, by omega⟩
  have K3 := KCG (crB d M x).1 y (cr_len d M x) (fun b hb => by
    have hids : ∀ {L : List Bl} {a : Int}, (∀ b ∈ L, b.ids.length ≤ 1000) → ∀ b ∈ (crB d L a).1, b.ids.length ≤ 1000 := fun {L a} => cr_ids d
    exact hids hI b hb) (cr_good hd hg x0) ⟨by omega, by omega⟩
  obtain ⟨two1, two2⟩ := cr_two d (M := M) (a := x) (c := y) hL x0 y0
  rw [two1] at K3
  have HIN := Lib.hid (cr_in d (M := M) (a := x + y) hL (by omega))
  have HIN2 := Lib.hid (cr_in d (M := M) (a := x) hL x0)
  have HIN3 := Lib.hid (cr_in d (M := (crB d M x).1) (a := y) (cr_lefts d hL x0) y0)
  have HLE := Lib.hid (cr_le d (M := M) (a := x + y) hL (by omega))
  have HOV := Lib.hid (cr_over d (M := M) (a := x + y) hL (by omega))
  have HBE := Lib.hid (cr_behind d (M := M) (a := x + y) hL (by omega))
  have HLI := Lib.hid (less_in d (M := M) (a := x + y) hL (by omega))
  have HLA := Lib.hid (less_all d M (x + y))
  have HGA : Hid (goodM (crB d M (x + y)).1 = true) := cr_good hd hg (by omega)
  have HLN : Hid ((crB d M (x + y)).1.length = M.length) := cr_len d M (x + y)
  have HML : Hid (∀ b ∈ M, b.left ≤ 10000000000000) := fun b hb => (good_left hg b hb).2
  have HTW := Lib.hid two2
  generalize (crB d (crB d M x).1 y).2 = oo at *
  generalize (crB d M (x + y)).1 = AA at *
  generalize (crB d M (x + y)).2 = kk at *
  generalize (crB d M x).2 = mm at *
  generalize (crB d M x).1 = BB at *
  rw [hg] at KRG
  have KGA : Hid (∀ W u R, AlikeB AA R → Bls W W.heap.size u R → Calls Tryd.prog 14 #[u] W fun e w' => e = .returned (.bool true) ∧ Below W.heap.size W w') := fun W u R ha hu => by
    have h := r_good R u W.heap.size W (Nat.le_refl _) hu (by rw [ha.1, HLN.out]; omega)
    rw [good_alike ha, HGA.out] at h
    exact h
  have KSB := Lib.hid (fun R1 R2 u1 u2 W (ha : AlikeB R1 R2) h1 h2 => same_bills R1 R2 ha u1 u2 (World.heap W).size W (Nat.le_refl _) h1 h2)
  have s1 : IntKind.i64.wrap x = x := IntWalk.i64_in _ (by omega)
  have s2 : IntKind.i64.wrap y = y := IntWalk.i64_in _ (by omega)
  have s3 : IntKind.i64.wrap (x + y) = x + y := IntWalk.i64_in _ (by omega)
  have s4 : wrap64 x = x := by rw [← IntWalk.i64_left]; exact s1
  have s5 : wrap64 y = y := by rw [← IntWalk.i64_left]; exact s2
  have s6 : wrap64 (x + y) = x + y := by rw [← IntWalk.i64_left]; exact s3
  have HX := Lib.hid (And.intro x0 (And.intro x1 (And.intro y0 y1)))
  clear KCG two1 two2 hL hI hg hd x0 x1 y0 y1
  go_enter Tryd.func6, Tryd.ntmps6
  go_upto_region 1 with fail
  rw [← e2, ← e1]
  clear e1 e2
  go_upto_region 4 with (first
    | (go_at_call 8; (with_reducible refine (large_any M _ w _ HM.out.bo).mono ?_); rintro e y1 ⟨rfl, hb⟩; rw [h1]; replace HM := Lib.hid (HM.out.below hb); clear hb)
    | (go_at_call 14; (refine (KRG.out _ HM.out.bo).mono ?_); rintro e y2 ⟨rfl, hb⟩; replace HM := Lib.hid (HM.out.below hb); clear hb)
    | (go_at_call 25; (with_reducible refine (KM.out _).mono ?_); rintro e y3 ⟨rfl, rfl⟩))
  replace HM := Lib.hid (HM.out.below (W' := y2.drew) (below_drawn (Below.refl _ _)))
  have hS0 : y2.drew.cell? ⟨g4, 0, none⟩ = some (.int .u32 x) ∧ y2.drew.cell? ⟨g4, 1, none⟩ = some (.int .u32 y) := ⟨HM.out.b4.cell, HM.out.b4.cell⟩
  refine wp_region_held_drew (S := (fun W => W.cell? ⟨g4, 0, none⟩ = some (.int .u32 x) ∧ W.cell? ⟨g4, 1, none⟩ = some (.int .u32 y))) (by kernel_rfl) hS0 (fun hHeld => ?_)
  refine ByHand.take_yes (v := ?_) 0 30 rfl rfl (by kernel_rfl) (by kernel_rfl) (by kernel_rfl) (fun _ _ _ h => h) (by rfl) ?_ (by assumption) ?_
  rotate_left
  · intro w' hSw
    (try dsimp only at hSw)
    go_simp
    all_goals with_reducible rfl
  (try simp only [Act.put, List.setIfInBounds_toArray, List.set_cons_zero, List.set_cons_succ])
  refine ByHand.take_yes (v := ?_) 2 32 rfl rfl (by kernel_rfl) (by kernel_rfl) (by kernel_rfl) (fun _ _ _ h => h) (by rfl) ?_ (by assumption) ?_
  rotate_left
  · intro w' hSw
    (try dsimp only at hSw)
    go_simp
    all_goals with_reducible rfl
  (try simp only [Act.put, List.setIfInBounds_toArray, List.set_cons_zero, List.set_cons_succ])
  refine ByHand.take_yes (v := ?_) 3 33 rfl rfl (by kernel_rfl) (by kernel_rfl) (by kernel_rfl) (fun _ _ _ h => h) (by rfl) ?_ (by assumption) ?_
  rotate_left
  · intro w' hSw
    (try dsimp only at hSw)
    go_simp
    all_goals with_reducible rfl
  (try simp only [Act.put, List.setIfInBounds_toArray, List.set_cons_zero, List.set_cons_succ])
  refine ByHand.take_yes (v := ?_) 4 34 rfl rfl (by kernel_rfl) (by kernel_rfl) (by kernel_rfl) (fun _ _ _ h => h) (by rfl) ?_ (by assumption) ?_
  rotate_left
  · intro w' hSw
    (try dsimp only at hSw)
    go_simp
    all_goals with_reducible rfl
  (try simp only [Act.put, List.setIfInBounds_toArray, List.set_cons_zero, List.set_cons_succ])
  refine ByHand.take_yes (v := ?_) 5 35 rfl rfl (by kernel_rfl) (by kernel_rfl) (by kernel_rfl) (fun _ _ _ h => h) (by rfl) ?_ (by assumption) ?_
  rotate_left
  · intro w' hSw
    (try dsimp only at hSw)
    go_simp
    all_goals with_reducible rfl
  (try simp only [Act.put, List.setIfInBounds_toArray, List.set_cons_zero, List.set_cons_succ])
  refine ByHand.take_yes (v := ?_) 6 36 rfl rfl (by kernel_rfl) (by kernel_rfl) (by kernel_rfl) (fun _ _ _ h => h) (by rfl) ?_ (by assumption) ?_
  rotate_left
  · intro w' hSw
    (try dsimp only at hSw)
    go_simp
    all_goals with_reducible rfl
  (try simp only [Act.put, List.setIfInBounds_toArray, List.set_cons_zero, List.set_cons_succ])
  refine ByHand.take_yes (v := ?_) 7 37 rfl rfl (by kernel_rfl) (by kernel_rfl) (by kernel_rfl) (fun _ _ _ h => h) (by rfl) ?_ (by assumption) ?_
  rotate_left
  · intro w' hSw
    (try dsimp only at hSw)
    go_simp
    all_goals with_reducible rfl
  (try simp only [Act.put, List.setIfInBounds_toArray, List.set_cons_zero, List.set_cons_succ])
  refine ByHand.take_yes (v := ?_) 8 38 rfl rfl (by kernel_rfl) (by kernel_rfl) (by kernel_rfl) (fun _ _ _ h => h) (by rfl) ?_ (by assumption) ?_
  rotate_left
  · intro w' hSw
    (try dsimp only at hSw)
    go_simp
    all_goals with_reducible rfl
  (try simp only [Act.put, List.setIfInBounds_toArray, List.set_cons_zero, List.set_cons_succ])
  refine ByHand.take_yes (v := ?_) 9 39 rfl rfl (by kernel_rfl) (by kernel_rfl) (by kernel_rfl) (fun _ _ _ h => h) (by rfl) ?_ (by assumption) ?_
  rotate_left
  · intro w' hSw
    (try dsimp only at hSw)
    go_simp
    all_goals with_reducible rfl
  (try simp only [Act.put, List.setIfInBounds_toArray, List.set_cons_zero, List.set_cons_succ])
  refine wpAnyH_ready (rs := [1]) (by kernel_rfl) (by simp) (AllReadyH.cons rfl (fun K hK => ?_) AllReadyH.nil)
  go_simp
  refine (KCP.out _ HM.out.bo).mono ?_
  rintro e q1 ⟨u, M', rfl, ha, hc, hb⟩
  have HA := Lib.hid ha
  have HI := Lib.hid hc.bls
  replace HM := Lib.hid (HM.out.below hb)
  have hS1 := (show q1.cell? ⟨g4, 0, none⟩ = some (.int .u32 x) ∧ q1.cell? ⟨g4, 1, none⟩ = some (.int .u32 y) from ⟨HM.out.b4.cell, HM.out.b4.cell⟩)
  obtain ⟨A1, c1, rfl⟩ := own_slice' hc.row
  clear ha hc hb
  go_wp2_with fail
  refine hK.out _ _ ?_ (fun hHeld => ?_)
  · exact hS1
  clear hK K
  (try simp only [Act.put, List.setIfInBounds_toArray, List.set_cons_zero, List.set_cons_succ])
  refine wpAnyH_ready (rs := [10]) (by kernel_rfl) (by simp) (AllReadyH.cons rfl (fun K hK => ?_) AllReadyH.nil)
  go_simp
  (try simp only [s1, s2, s3, s4, s5, s6])
  refine (K1.out _ _ _ HM.out.bo.laid HA.out HI.out).mono ?_
  rintro e q2 ⟨A2, R, c2, rfl, ha, hr, hb⟩
  have HR := Lib.hid hr
  have HAR := Lib.hid ha
  replace HM := Lib.hid (HM.out.below hb)
  have hS2 := (show q2.cell? ⟨g4, 0, none⟩ = some (.int .u32 x) ∧ q2.cell? ⟨g4, 1, none⟩ = some (.int .u32 y) from ⟨HM.out.b4.cell, HM.out.b4.cell⟩)
  clear ha hr hb HA HI
  go_wp2_with fail
  refine hK.out _ _ ?_ (fun hHeld => ?_)
  · exact hS2
  clear hK K
  (try simp only [Act.put, List.setIfInBounds_toArray, List.set_cons_zero, List.set_cons_succ])
  refine ByHand.take_yes (v := ?_) 11 29 rfl rfl (by kernel_rfl) (by kernel_rfl) (by kernel_rfl) (fun _ _ _ h => h) (by rfl) ?_ (by assumption) ?_
  rotate_left
  · intro w' hSw
    (try dsimp only at hSw)
    go_simp
    all_goals with_reducible rfl
  (try simp only [Act.put, List.setIfInBounds_toArray, List.set_cons_zero, List.set_cons_succ])
  refine ByHand.take_yes (v := ?_) 12 41 rfl rfl (by kernel_rfl) (by kernel_rfl) (by kernel_rfl) (fun _ _ _ h => h) (by rfl) ?_ (by assumption) ?_
  rotate_left
  · intro w' hSw
    (try dsimp only at hSw)
    go_simp
    all_goals with_reducible rfl
  (try simp only [Act.put, List.setIfInBounds_toArray, List.set_cons_zero, List.set_cons_succ])
  refine ByHand.take_yes (v := ?_) 13 42 rfl rfl (by kernel_rfl) (by kernel_rfl) (by kernel_rfl) (fun _ _ _ h => h) (by rfl) ?_ (by assumption) ?_
  rotate_left
  · intro w' hSw
    (try dsimp only at hSw)
    go_simp
    all_goals with_reducible rfl
  (try simp only [Act.put, List.setIfInBounds_toArray, List.set_cons_zero, List.set_cons_succ])
  refine ByHand.take_yes (v := ?_) 14 43 rfl rfl (by kernel_rfl) (by kernel_rfl) (by kernel_rfl) (fun _ _ _ h => h) (by rfl) ?_ (by assumption) ?_
  rotate_left
  · intro w' hSw
    (try dsimp only at hSw)
    go_simp
    all_goals with_reducible rfl
  (try simp only [Act.put, List.setIfInBounds_toArray, List.set_cons_zero, List.set_cons_succ])
  refine ByHand.take_yes (v := ?_) 15 8 rfl rfl (by kernel_rfl) (by kernel_rfl) (by kernel_rfl) (fun _ _ _ h => h) (by rfl) ?_ (by assumption) ?_
  rotate_left
  · intro w' hSw
    (try dsimp only at hSw)
    go_simp
    all_goals with_reducible rfl
  (try simp only [Act.put, List.setIfInBounds_toArray, List.set_cons_zero, List.set_cons_succ])
  refine ByHand.take_yes (v := ?_) 16 9 rfl rfl (by kernel_rfl) (by kernel_rfl) (by kernel_rfl) (fun _ _ _ h => h) (by rfl) ?_ (by assumption) ?_
  rotate_left
  · intro w' hSw
    (try dsimp only at hSw)
    go_simp
    all_goals with_reducible rfl
  (try simp only [Act.put, List.setIfInBounds_toArray, List.set_cons_zero, List.set_cons_succ])
  refine ByHand.take_yes (v := ?_) 17 10 rfl rfl (by kernel_rfl) (by kernel_rfl) (by kernel_rfl) (fun _ _ _ h => h) (by rfl) ?_ (by assumption) ?_
  rotate_left
  · intro w' hSw
    (try dsimp only at hSw)
    go_simp
    all_goals with_reducible rfl
  (try simp only [Act.put, List.setIfInBounds_toArray, List.set_cons_zero, List.set_cons_succ])
  refine wpAnyH_done (by kernel_rfl) ?_ _
  go_upto_region 5 with fail
  clear hS0 hS1 hS2
  replace HM := Lib.hid (HM.out.below (W' := q2.drew) (below_drawn (Below.refl _ _)))
  have hS0 : q2.drew.cell? ⟨g4, 0, none⟩ = some (.int .u32 x) ∧ q2.drew.cell? ⟨g4, 1, none⟩ = some (.int .u32 y) := ⟨HM.out.b4.cell, HM.out.b4.cell⟩
  replace HR := Lib.hid (bls_below HR.out (W' := q2.drew) (below_drawn (Below.refl _ _)))
  refine wp_region_held_drew (S := (fun W => W.cell? ⟨g4, 0, none⟩ = some (.int .u32 x) ∧ W.cell? ⟨g4, 1, none⟩ = some (.int .u32 y))) (by kernel_rfl) hS0 (fun hHeld => ?_)
  refine ByHand.take_yes (v := ?_) 0 45 rfl rfl (by kernel_rfl) (by kernel_rfl) (by kernel_rfl) (fun _ _ _ h => h) (by rfl) ?_ (by assumption) ?_
  rotate_left
  · intro w' hSw
    (try dsimp only at hSw)
    go_simp
    all_goals with_reducible rfl
  (try simp only [Act.put, List.setIfInBounds_toArray, List.set_cons_zero, List.set_cons_succ])
  refine ByHand.take_yes (v := ?_) 2 47 rfl rfl (by kernel_rfl) (by kernel_rfl) (by kernel_rfl) (fun _ _ _ h => h) (by rfl) ?_ (by assumption) ?_
  rotate_left
  · intro w' hSw
    (try dsimp only at hSw)
    go_simp
    all_goals with_reducible rfl
  (try simp only [Act.put, List.setIfInBounds_toArray, List.set_cons_zero, List.set_cons_succ])
  refine ByHand.take_yes (v := ?_) 3 48 rfl rfl (by kernel_rfl) (by kernel_rfl) (by kernel_rfl) (fun _ _ _ h => h) (by rfl) ?_ (by assumption) ?_
  rotate_left
  · intro w' hSw
    (try dsimp only at hSw)
    go_simp
    all_goals with_reducible rfl
  (try simp only [Act.put, List.setIfInBounds_toArray, List.set_cons_zero, List.set_cons_succ])
  refine ByHand.take_yes (v := ?_) 4 49 rfl rfl (by kernel_rfl) (by kernel_rfl) (by kernel_rfl) (fun _ _ _ h => h) (by rfl) ?_ (by assumption) ?_
  rotate_left
  · intro w' hSw
    (try dsimp only at hSw)
    go_simp
    all_goals with_reducible rfl
  (try simp only [Act.put, List.setIfInBounds_toArray, List.set_cons_zero, List.set_cons_succ])
  refine ByHand.take_yes (v := ?_) 5 50 rfl rfl (by kernel_rfl) (by kernel_rfl) (by kernel_rfl) (fun _ _ _ h => h) (by rfl) ?_ (by assumption) ?_
  rotate_left
  · intro w' hSw
    (try dsimp only at hSw)
    go_simp
    all_goals with_reducible rfl
  (try simp only [Act.put, List.setIfInBounds_toArray, List.set_cons_zero, List.set_cons_succ])
  refine wpAnyH_ready (rs := [1]) (by kernel_rfl) (by simp) (AllReadyH.cons rfl (fun K hK => ?_) AllReadyH.nil)
  go_simp
  refine (KCP.out _ HM.out.bo).mono ?_
  rintro e q3 ⟨u, M', rfl, ha, hc, hb⟩
  have HA := Lib.hid ha
  have HI := Lib.hid hc.bls
  replace HM := Lib.hid (HM.out.below hb)
  replace HR := Lib.hid (bls_below HR.out hb)
  have hS1 := (show q3.cell? ⟨g4, 0, none⟩ = some (.int .u32 x) ∧ q3.cell? ⟨g4, 1, none⟩ = some (.int .u32 y) from ⟨HM.out.b4.cell, HM.out.b4.cell⟩)
  obtain ⟨A3, c3, rfl⟩ := own_slice' hc.row
  clear ha hc hb
  go_wp2_with fail
  refine hK.out _ _ ?_ (fun hHeld => ?_)
  · exact hS1
  clear hK K
  (try simp only [Act.put, List.setIfInBounds_toArray, List.set_cons_zero, List.set_cons_succ])
  refine wpAnyH_ready (rs := [6]) (by kernel_rfl) (by simp) (AllReadyH.cons rfl (fun K hK => ?_) AllReadyH.nil)
  go_simp
  (try simp only [s1, s2, s3, s4, s5, s6])
  refine (K2.out _ _ _ HM.out.bo.laid HA.out HI.out).mono ?_
  rintro e q4 ⟨A4, R2, c4, rfl, ha, hr, hb⟩
  have HR2 := Lib.hid hr
  have HAR2 := Lib.hid ha
  replace HM := Lib.hid (HM.out.below hb)
  replace HR := Lib.hid (bls_below HR.out hb)
  have hS2 := (show q4.cell? ⟨g4, 0, none⟩ = some (.int .u32 x) ∧ q4.cell? ⟨g4, 1, none⟩ = some (.int .u32 y) from ⟨HM.out.b4.cell, HM.out.b4.cell⟩)
  clear ha hr hb HA HI
  go_wp2_with fail
  refine hK.out _ _ ?_ (fun hHeld => ?_)
  · exact hS2
  clear hK K
  (try simp only [Act.put, List.setIfInBounds_toArray, List.set_cons_zero, List.set_cons_succ])
  refine ByHand.take_yes (v := ?_) 7 44 rfl rfl (by kernel_rfl) (by kernel_rfl) (by kernel_rfl) (fun _ _ _ h => h) (by rfl) ?_ (by assumption) ?_
  rotate_left
  · intro w' hSw
    (try dsimp only at hSw)
    go_simp
    all_goals with_reducible rfl
  (try simp only [Act.put, List.setIfInBounds_toArray, List.set_cons_zero, List.set_cons_succ])
  refine ByHand.take_yes (v := ?_) 8 52 rfl rfl (by kernel_rfl) (by kernel_rfl) (by kernel_rfl) (fun _ _ _ h => h) (by rfl) ?_ (by assumption) ?_
  rotate_left
  · intro w' hSw
    (try dsimp only at hSw)
    go_simp
    all_goals with_reducible rfl
  (try simp only [Act.put, List.setIfInBounds_toArray, List.set_cons_zero, List.set_cons_succ])
  refine ByHand.take_yes (v := ?_) 9 53 rfl rfl (by kernel_rfl) (by kernel_rfl) (by kernel_rfl) (fun _ _ _ h => h) (by rfl) ?_ (by assumption) ?_
  rotate_left
  · intro w' hSw
    (try dsimp only at hSw)
    go_simp
    all_goals with_reducible rfl
  (try simp only [Act.put, List.setIfInBounds_toArray, List.set_cons_zero, List.set_cons_succ])
  refine ByHand.take_yes (v := ?_) 10 54 rfl rfl (by kernel_rfl) (by kernel_rfl) (by kernel_rfl) (fun _ _ _ h => h) (by rfl) ?_ (by assumption) ?_
  rotate_left
  · intro w' hSw
    (try dsimp only at hSw)
    go_simp
    all_goals with_reducible rfl
  (try simp only [Act.put, List.setIfInBounds_toArray, List.set_cons_zero, List.set_cons_succ])
  refine ByHand.take_yes (v := ?_) 11 11 rfl rfl (by kernel_rfl) (by kernel_rfl) (by kernel_rfl) (fun _ _ _ h => h) (by rfl) ?_ (by assumption) ?_
  rotate_left
  · intro w' hSw
    (try dsimp only at hSw)
    go_simp
    all_goals with_reducible rfl
  (try simp only [Act.put, List.setIfInBounds_toArray, List.set_cons_zero, List.set_cons_succ])
  refine ByHand.take_yes (v := ?_) 12 12 rfl rfl (by kernel_rfl) (by kernel_rfl) (by kernel_rfl) (fun _ _ _ h => h) (by rfl) ?_ (by assumption) ?_
  rotate_left
  · intro w' hSw
    (try dsimp only at hSw)
    go_simp
    all_goals with_reducible rfl
  (try simp only [Act.put, List.setIfInBounds_toArray, List.set_cons_zero, List.set_cons_succ])
  refine ByHand.take_yes (v := ?_) 13 13 rfl rfl (by kernel_rfl) (by kernel_rfl) (by kernel_rfl) (fun _ _ _ h => h) (by rfl) ?_ (by assumption) ?_
  rotate_left
  · intro w' hSw
    (try dsimp only at hSw)
    go_simp
    all_goals with_reducible rfl
  (try simp only [Act.put, List.setIfInBounds_toArray, List.set_cons_zero, List.set_cons_succ])
  refine wpAnyH_done (by kernel_rfl) ?_ _
  clear hS0 hS1 hS2
  have d1 : q4.cell? ⟨g4, 1, none⟩ = some (.int .u32 y) := HM.out.b4.cell
  have HKB : Hid (wrap64 (mm + oo) = kk) := show _ = _ by
    have h2 := HIN2.out
    have h3 := HIN3.out
    have h4 := HX.out
    rw [← HTW.out]
    unfold wrap64
    omega
  have t7 : (kk != wrap64 (mm + oo)) = false := by rw [HKB.out]; simp
  have t8 : (kk != mm + oo) = false := by rw [HTW.out]; simp
  have HRL : Hid (R.length = M.length) := HAR.out.1.trans HLN.out
  go_upto_region 13 with (first
    | (go_at_call 23; (refine (K3.out _ _ _ HM.out.bo.laid HAR2.out HR2.out).mono ?_); rintro e q5 ⟨A5, R3, c5, rfl, ha, hr, hb⟩; have HR3 := Lib.hid hr; have HAR3 := Lib.hid (alike_trans (alike_symm HAR.out) ha); replace HM := Lib.hid (HM.out.below hb); replace HR := Lib.hid (bls_below HR.out hb); clear ha hr hb)
    | (go_at_call 20; (refine (KSB.out _ _ _ _ _ HAR3.out HR.out HR3.out).mono ?_); rintro e q6 ⟨rfl, hb⟩; replace HM := Lib.hid (HM.out.below hb); replace HR := Lib.hid (bls_below HR.out hb); clear hb))
  clear t7 t8 d1
  have HAT : Hid (∀ (j : Nat) (z : Bl), AA[j]? = some z → ∃ v', R[j]? = some { z with v := v' }) := HAR.out.2
  have HLT : Hid (∀ j, j < M.length → ∃ z, AA[j]? = some z) := fun j hj => ⟨_, List.getElem?_eq_getElem (by rw [HLN.out]; exact hj)⟩
  go_loopw [17, 18] (fun s t wr => ∃ j : Nat, j ≤ M.length ∧ s = .int .i64 (lessN M AA j) ∧ t = .int .i64 j ∧ Hid (Below q6.heap.size q6 wr)) (fun _ t _ => M.length - (intOf t).toNat)
  case atStart => exact ⟨0, Nat.zero_le _, rfl, rfl, Below.refl _ _⟩
  case round =>
    obtain ⟨j, hj, rfl, rfl, HJ⟩ := hrel
    replace HM := Lib.hid (HM.out.below HJ.out)
    replace HR := Lib.hid (bls_below HR.out HJ.out)
    by_cases hlt : j < M.length
    · obtain ⟨z, hz⟩ := HLT.out j hlt
      obtain ⟨xx, hx⟩ : ∃ q, M[j]? = some q := ⟨_, List.getElem?_eq_getElem hlt⟩
      obtain ⟨vz, hrz⟩ := HAT.out j z hz
      obtain ⟨b, off, k', e0, -, -⟩ := HM.out.bo.bls.1.open (by omega)
      injection e0 with e0 el e2
      clear el
      subst e0 e2
      have cl : wr.cell? ⟨b, off + j * 6 + 2, none⟩ = some (.int .i64 xx.left) := HM.out.bo.bls.1.at_ hx 2 _ rfl
      obtain ⟨b8, o8, k8, e0, -, -⟩ := HR.out.1.open (by rw [HRL.out]; omega)
      have hrr := HR.out.1
      injection e0 with e0 el e2
      clear el
      subst e0 e2
      rw [← HRL.out] at hrr
      have ca : wr.cell? ⟨b8, o8 + j * 6 + 2, none⟩ = some (.int .i64 z.left) := hrr.at_ hrz 2 _ rfl
      have hle := HLE.out j xx z hx hz
      have hls := HLI.out j
      have hls1 := HLI.out (j + 1)
      have hst := less_step hx hz
      have hxb := HML.out xx (List.mem_of_getElem? hx)
      have h4 := HX.out
      have t2 : decide (xx.left < z.left) = false := decide_eq_false (by omega)
      have w1 : wrap64 (xx.left - z.left) = xx.left - z.left := by unfold wrap64; omega
      have w2 : wrap64 (lessN M AA j + (xx.left - z.left)) = lessN M AA j + (xx.left - z.left) := by unfold wrap64; omega
      have HST := Lib.hid hst
      have HW2 := Lib.hid w2
      have u0 : decide ((j : Int) < M.length) = true := decide_eq_true (by omega)
      have hov : 0 < kk → z.left = 0 := fun h => HOV.out h z (List.mem_of_getElem? hz)
      cases j with
      | zero =>
        by_cases hk : 0 < kk
        · have t0 : decide (0 < kk) = true := decide_eq_true hk
          have t1 : (z.left != 0) = false := by rw [hov hk]; rfl
          clear hle hls hls1 hst hxb h4 hov hx hz hrz hrr
          generalize xx.left = xl at *
          generalize z.left = zl at *
          clear hk
          go_upto_region 15 with fail
          go_quiet (fail)
          go_wp2_with fail
          go_quiet (fail)
          go_wp2_with fail
          go_roundw
          case rel => exact ⟨0 + 1, by omega, by first | (rw [HST.out, HW2.out]) | (rw [HST.out]), rfl, belowN HJ.out _⟩
          case measure => simp [intOf]; omega
        · have t0 : decide (0 < kk) = false := decide_eq_false hk
          clear hle hls hls1 hst hxb h4 hov hx hz hrz hrr
          generalize xx.left = xl at *
          generalize z.left = zl at *
          clear hk
          go_upto_region 15 with fail
          go_quiet (fail)
          go_wp2_with fail
          go_quiet (fail)
          go_wp2_with fail
          go_roundw
          case rel => exact ⟨0 + 1, by omega, by first | (rw [HST.out, HW2.out]) | (rw [HST.out]), rfl, belowN HJ.out _⟩
          case measure => simp [intOf]; omega
      | succ i =>
        obtain ⟨pz, hpz⟩ := HLT.out i (by omega)
        obtain ⟨vp, hrp⟩ := HAT.out i pz hpz
        have cp : wr.cell? ⟨b8, o8 + i * 6 + 2, none⟩ = some (.int .i64 pz.left) := hrr.at_ hrp 2 _ rfl
        have hbe := fun h => HBE.out i xx z pz hpz h hx hz
        have v1 : wrap64 (((i + 1 : Nat) : Int) - 1) = (i : Int) := by unfold wrap64; omega
        have v2 : wrap64 ((i : Int) + 1 - 1) = (i : Int) := by unfold wrap64; omega
        have v3 : ((i : Int) + 1 - 1) = (i : Int) := by omega
        have u1 : decide ((0 : Int) < ((i + 1 : Nat) : Int)) = true := decide_eq_true (by omega)
        have u2 : decide ((0 : Int) < (i : Int) + 1) = true := decide_eq_true (by omega)
        have u3 : (i : Int) < M.length := by omega
        by_cases hp : 0 < pz.left
        · have t3 : decide (0 < pz.left) = true := decide_eq_true hp
          have t4 : (z.left != xx.left) = false := by rw [hbe hp]; simp
          by_cases hk : 0 < kk
          · have t0 : decide (0 < kk) = true := decide_eq_true hk
            have t1 : (z.left != 0) = false := by rw [hov hk]; rfl
            clear hbe hp hpz hrp
            generalize pz.left = pl at *
            clear hle hls hls1 hst hxb h4 hov hx hz hrz hrr
            generalize xx.left = xl at *
            generalize z.left = zl at *
            clear hk
            go_upto_region 15 with fail
            go_quiet (fail)
            go_wp2_with fail
            go_quiet (fail)
            go_wp2_with fail
            go_roundw
            case rel => exact ⟨i + 1 + 1, by omega, by first | (rw [HST.out, HW2.out]) | (rw [HST.out]), rfl, belowN HJ.out _⟩
            case measure => simp [intOf]; omega
          · have t0 : decide (0 < kk) = false := decide_eq_false hk
            clear hbe hp hpz hrp
            generalize pz.left = pl at *
            clear hle hls hls1 hst hxb h4 hov hx hz hrz hrr
            generalize xx.left = xl at *
            generalize z.left = zl at *
            clear hk
            go_upto_region 15 with fail
            go_quiet (fail)
            go_wp2_with fail
            go_quiet (fail)
            go_wp2_with fail
            go_roundw
            case rel => exact ⟨i + 1 + 1, by omega, by first | (rw [HST.out, HW2.out]) | (rw [HST.out]), rfl, belowN HJ.out _⟩
            case measure => simp [intOf]; omega
        · have t3 : decide (0 < pz.left) = false := decide_eq_false hp
          by_cases hk : 0 < kk
          · have t0 : decide (0 < kk) = true := decide_eq_true hk
            have t1 : (z.left != 0) = false := by rw [hov hk]; rfl
            clear hbe hp hpz hrp
            generalize pz.left = pl at *
            clear hle hls hls1 hst hxb h4 hov hx hz hrz hrr
            generalize xx.left = xl at *
            generalize z.left = zl at *
            clear hk
            go_upto_region 15 with fail
            go_quiet (fail)
            go_wp2_with fail
            go_quiet (fail)
            go_wp2_with fail
            go_roundw
            case rel => exact ⟨i + 1 + 1, by omega, by first | (rw [HST.out, HW2.out]) | (rw [HST.out]), rfl, belowN HJ.out _⟩
            case measure => simp [intOf]; omega
          · have t0 : decide (0 < kk) = false := decide_eq_false hk
            clear hbe hp hpz hrp
            generalize pz.left = pl at *
            clear hle hls hls1 hst hxb h4 hov hx hz hrz hrr
            generalize xx.left = xl at *
            generalize z.left = zl at *
            clear hk
            go_upto_region 15 with fail
            go_quiet (fail)
            go_wp2_with fail
            go_quiet (fail)
            go_wp2_with fail
            go_roundw
            case rel => exact ⟨i + 1 + 1, by omega, by first | (rw [HST.out, HW2.out]) | (rw [HST.out]), rfl, belowN HJ.out _⟩
            case measure => simp [intOf]; omega
    · obtain rfl : j = M.length := by omega
      have hla := HLA.out
      have h4 := HX.out
      have hin := HIN.out
      have hli := HLI.out M.length
      have w3 : wrap64 (lessN M AA M.length + kk) = x + y := by unfold wrap64; omega
      have t9 : (lessN M AA M.length + kk == x + y) = true := by rw [hla]; simp
      have d0 : wr.cell? ⟨g4, 0, none⟩ = some (.int .u32 x) := HM.out.b4.cell
      have d1 : wr.cell? ⟨g4, 1, none⟩ = some (.int .u32 y) := HM.out.b4.cell
      clear hla h4 hin hli
      generalize lessN M AA M.length = ls at *
      go_wp2_with (first
        | (go_at_call 14; (refine (KGA.out _ _ _ HAR.out HR.out).mono ?_); rintro e q7 ⟨rfl, hb⟩; replace HM := Lib.hid (HM.out.below hb); clear hb)
        | (go_at_call 9; (with_reducible refine (wakes_bill _ HM.out.bo.laid).mono ?_); rintro e y9 ⟨rfl, hb⟩; replace HM := Lib.hid (HM.out.below hb); clear hb))
      go_ret
      exact ⟨rfl, HM.out.bo.low⟩
theorem all_walk (M : List Bl) (x y day : Int) (v : Value) (w : World) (hv : Bls w w.heap.size v M) (x0 : 0 ≤ x) (x1 : x ≤ 4294967295) (y0 : 0 ≤ y) (y1 : y ≤ 4294967295) (LD : Hid (Laid w)) : Calls Tryd.prog 6 #[v, .agg #[.int .u32 x, .int .u32 y], .int .i64 day] w fun e w' => e = .returned (.bool true) ∧ Below w.heap.size w w' := by
  cases h1 : manyB M with
  | true => exact all_many M x y day v w hv LD h1
  | false =>
    cases hg : goodM M with
    | false => exact all_bad M x y day v w hv LD h1 hg
    | true => exact all_some M x y day v w hv x0 x1 y0 y1 LD h1 hg

set_option maxRecDepth 100000 in
theorem billAll_lifted (os : Os) (started : os.Started) (H : Type) (enc : TypeId × Value → H) :
    ReturnsInHanded {} Tryd.checked os 6 .any (fun w args => (Rows.billAllSpec.pre enc Tryd.prog Tryd.f6 Rows.billAllRow.domain false w args ∧ laidMetH Tryd.prog Rows.billAllRow.laid w) ∧ sizedMet enc Tryd.prog Tryd.f6 (OpenSpec.ofChange Rows.billAllSpec) false w args) (Rows.billAllSpec.post enc Tryd.prog Tryd.f6 false true false false) := by
  refine Door.law_lifted (C := Tryd.checked) (tb := 4) (by kernel_rfl) started (by kernel_rfl) Tryd.func6
    (ChangeSpec.witness_shaped (enc := enc) (C := Tryd.checked) (os := os) (X := fun w _ => laidMetH Tryd.prog Rows.billAllRow.laid w) false (World.laidAll Tryd.prog os Rows.billAllRow.laid) #[Value.slice none 0 0, .agg #[.int .u32 0, .int .u32 0], .int .i64 0] 8 (World.laidAll_os _ _ _)
      (World.shaped_of_ZipB (by kernel_rfl) (by kernel_rfl)) (by kernel_rfl) (by kernel_rfl) (by kernel_rfl)
      (by rw [MakeChecks.laidMetH_plain _ _ _ (by kernel_rfl)]; exact laidMet_laidAll _ (by kernel_rfl) (by kernel_rfl)))
    (by kernel_rfl) (by kernel_rfl) rfl rfl Tryd.underlying4 ?_
  intro W base args ds p hval0 hA0 hL
  have hval : ∀ (j : Nat) t v, Tryd.f6.params[j]? = some t → args[j]? = some v → Value.okWide Tryd.prog W .any base t v := hval0
  have hA : DataW.TrodAll enc Tryd.prog W 0 (fun _ => true) true Tryd.f6.params.toList args.toList ds p := hA0
  clear hval0 hA0
  rw [MakeChecks.laidMetH_plain _ _ _ (by kernel_rfl)] at hL
  rw [Tryd.params6] at hA hval
  obtain ⟨v0, vs0, d0, ds0, p0, q0, hargs, rfl, rfl, h0, r0⟩ := trodAll_cons hA
  obtain ⟨v1, vs1, d1, ds1, p1, q1, rfl, rfl, rfl, h1, r1⟩ := trodAll_cons r0
  obtain ⟨v2, vs2, d2, ds2, p2, q2, rfl, rfl, rfl, h2, r2⟩ := trodAll_cons r1
  obtain ⟨rfl, rfl, rfl⟩ := trodAll_nil r2
  obtain rfl : args = #[v0, v1, v2] := by cases args; simp_all
  refine ⟨rfl, ?_⟩
  obtain ⟨M, hv⟩ := open_bills (hval 0 22 v0 rfl rfl) h0
  obtain ⟨zs1, hzl1, rfl, hw1⟩ := Shell.open_arr Tryd.underlying53 Tryd.underlying52 (by kernel_rfl) (by kernel_rfl) (hval 1 53 v1 rfl rfl) h1
  obtain ⟨x, y, rfl⟩ := Shell.list2 zs1 hzl1
  have bx : 0 ≤ x ∧ x ≤ 4294967295 := by simpa [Lit.wf, IntKind.min, IntKind.max, IntKind.bits, IntKind.signed] using hw1 x (by simp)
  have by_ : 0 ≤ y ∧ y ≤ 4294967295 := by simpa [Lit.wf, IntKind.min, IntKind.max, IntKind.bits, IntKind.signed] using hw1 y (by simp)
  obtain ⟨day, rfl, -, -, g2⟩ := open_int Tryd.underlying3 (hval 2 3 v2 rfl rfl) h2
  have LD := Lib.hid (Date.laid_of hL (by exact List.mem_cons_self ..))
  exact all_walk M x y day v0 W hv bx.1 bx.2 by_.1 by_.2 LD

theorem billAll_over : Rows.billAllRow.holds Tryd.pinned (OpenSpec.ofChange Rows.billAllSpec) :=
  OpenClaim.holds_of_wide 6 Tryd.f6 rfl rfl rfl rfl rfl rfl rfl ⟨rfl, rfl, rfl, rfl, rfl⟩ rfl rfl rfl rfl rfl (by kernel_rfl) Tryd.func6 (by kernel_rfl)
    (of_decide_eq_true (by kernel_rfl)) (by unfold Func.isWrapper; first | (rw [if_pos (by decide +kernel)]; kernel_rfl) | (rw [if_neg (by decide +kernel)]; exact ⟨rfl, rfl⟩))
    (fun os st H enc _ => billAll_lifted os st H enc)

/-- The statement: the card. -/
theorem billAll_proved : Rows.BillAllCardSaid :=
  Claim7.holds_tied_plain_at .later [] [.data] true Rows.billAllCard.stood.harness false
    billAll_over (fun _ h => by cases h) (by kernel_rfl) (fun _ h => by cases h) billAll_row_tie rfl ⟨rfl, rfl⟩ (by kernel_rfl) rfl
    (fun f fn hf hfn => by
      obtain rfl : f = 6 := Option.some.inj ((show Tryd.prog.funcNamed "annuity/annuitylaw19.BillAll" = some 6 by kernel_rfl).symm.trans hf) |>.symm
      obtain rfl : fn = Tryd.f6 := (Option.some.inj (Tryd.func6.symm.trans hfn)).symm
      exact ⟨by kernel_rfl, fun j t ht => by
        have hall : (Tryd.f6.params.toList.all fun u => !Tryd.prog.wantsStandIn u) = true := by kernel_rfl
        exact (show Tryd.prog.wantsStandIn t = false by simpa using List.all_eq_true.1 hall t (Array.mem_def.1 (Array.mem_of_getElem? ht)))⟩)
    (by kernel_rfl)
end Go.Proofs.YtjjbdemhccpllaaDoor.Law
