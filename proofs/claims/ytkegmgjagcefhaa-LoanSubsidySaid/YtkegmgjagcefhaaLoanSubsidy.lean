/- In school, grace and deferment a loan that is subsidised owes no interest: somebody else pays just what another one would owe; in repayment and forbearance both owe the same; no condition. -/
import Derived.Test.YtkegmgjagcefhaaShell
import Derived.Test.YtkegmgjagcefhaaOpenLn
import Derived.Test.YtkegmgjagcefhaaLoanWakes
import Derived.Test.YtkegmgjagcefhaaRefLoan2
import Derived.Test.YtkegmgjagcefhaaLoanMath4
namespace Go.Proofs.Ytkegmgjagcefhaa.Law
open Go.ChangeShapes Go.WideShapes Go.ChangeAt Go.RowKit Accr Box Loan RLoan

theorem bool_one : (Try.prog.info? 4).map (·.size) = some 1 := by kernel_rfl
set_option maxRecDepth 20000 in
set_option maxHeartbeats 2000000 in
theorem subsidy_low (n p d st s : Int) (w : World) (n0 : 0 ≤ n) (n1 : n ≤ 4294967295) (p0 : 0 ≤ p) (p1 : p ≤ 65535) (d0 : 0 ≤ d) (d1 : d ≤ 65535) (t0 : 0 ≤ st) (t1 : st ≤ 255) (hs0 : 1 + st.tmod 5 = s) (h3 : s ≤ 3) : Calls Try.prog 6 #[.int .u32 n, .agg #[.int .u16 p, .int .u16 d], .int .u8 st] w fun e w' => e = .returned (.bool true) ∧ Below w.heap.size w w' := by
  obtain ⟨k, w0, e0, f0, hK, hb⟩ := boxd_new w #[.int .u16 p, .int .u16 d] 53
  have HK := Lib.hid hK
  have hS0 : w0.drew.cell? ⟨k, 0, none⟩ = some (.int .u16 p) ∧ w0.drew.cell? ⟨k, 1, none⟩ = some (.int .u16 d) := ⟨hK.cell, hK.cell⟩
  have HW0 := Lib.hid (below_drawn hb)
  clear hK hb
  have Hn : IntKind.i64.wrap n = n := IntWalk.i64_in _ (by omega)
  have Hp : IntKind.i64.wrap p = p := IntWalk.i64_in _ (by omega)
  have Hd : IntKind.i64.wrap d = d := IntWalk.i64_in _ (by omega)
  have Ht : IntKind.i64.wrap st = st := IntWalk.i64_in _ (by omega)
  have r0 : 0 ≤ st.tmod 5 := Int.tmod_nonneg _ t0
  have r1 : st.tmod 5 < 5 := Int.tmod_lt_of_pos _ (by decide)
  have S1 : wrap64 (1 + st.tmod 5) = 1 + st.tmod 5 := by unfold wrap64; omega
  have S2 : IntKind.i64.wrap (1 + st.tmod 5) = 1 + st.tmod 5 := IntWalk.i64_in _ (by omega)
  have hs : Hid (1 + st.tmod 5 = s) := hs0
  have s0 : 1 ≤ s := by omega
  have s1 : s ≤ 5 := by omega
  have K1 : Hid (∀ W, Calls Try.prog 10 #[.agg ({ ln0 with id := 1, prin := n, ppm := p, status := s, entered := -1 } : Ln).cells, .int .i64 d] W fun e w' => e = .returned (.tuple #[.agg ({ ({ ln0 with id := 1, prin := n, ppm := p, status := s, entered := -1 } : Ln) with intr := (0 + dayI n p * d) } : Ln).cells, .int .i64 0]) ∧ Below W.heap.size W w') := fun W => by
    have h := c_accrue ({ ln0 with id := 1, prin := n, ppm := p, status := s, entered := -1 } : Ln) d W
    rwa [plain_is n0 n1 p0 p1 d0 d1 s0 s1] at h
  have K2 : Hid (∀ W, Calls Try.prog 10 #[.agg ({ ln0 with id := 1, prin := n, ppm := p, subd := true, status := s, entered := -1 } : Ln).cells, .int .i64 d] W fun e w' => e = .returned (.tuple #[.agg ({ ({ ln0 with id := 1, prin := n, ppm := p, subd := true, status := s, entered := -1 } : Ln) with subs := (0 + dayI n p * d) } : Ln).cells, .int .i64 0]) ∧ Below W.heap.size W w') := fun W => by
    have h := c_accrue ({ ln0 with id := 1, prin := n, ppm := p, subd := true, status := s, entered := -1 } : Ln) d W
    rwa [spared_is n0 n1 p0 p1 d0 d1 s0 s1 h3] at h
  have K3 : Hid (∀ W, Calls Try.prog 27 #[.int .i64 0, .int .i64 n, .int .i64 p, .int .i64 d] W fun e w' => e = .returned (.tuple #[.int .i64 (0 + dayI n p * d), .int .i64 0]) ∧ Below W.heap.size W w') := fun W => by
    have h := RAccr.r_add 0 n p d W
    rwa [(ref_is n0 n1 p0 p1 d0 d1).1, (ref_is n0 n1 p0 p1 d0 d1).2] at h
  have KW := Lib.hid wakes_loan
  have b3 : decide (s ≤ 3) = true := decide_eq_true h3
  have CA : Hid ((#[.int .i64 1, .int .i64 n, .int .i64 0, .int .i64 0, .int .i64 0, .int .i64 p, .bool false, .int .i64 s, .int .i64 0, .int .i64 (-1), .int .i64 0, .int .i64 0, .int .i64 0] : Array Value) = ({ ln0 with id := 1, prin := n, ppm := p, status := s, entered := -1 } : Ln).cells) := show _ = _ from rfl
  have CB : Hid (({ ln0 with id := 1, prin := n, ppm := p, status := s, entered := -1 } : Ln).cells.setIfInBounds 6 (.bool true) = ({ ln0 with id := 1, prin := n, ppm := p, subd := true, status := s, entered := -1 } : Ln).cells) := show _ = _ from rfl
  have HZ6 : Hid (({ ln0 with id := 1, prin := n, ppm := p, status := s, entered := -1 } : Ln).cells.size = 13) := ln_size _
  have HSA := Lib.hid (ln_info ({ ln0 with id := 1, prin := n, ppm := p, status := s, entered := -1 } : Ln))
  have HOA := Lib.hid (ln_one ({ ln0 with id := 1, prin := n, ppm := p, status := s, entered := -1 } : Ln))
  have HZA : Hid (13 = (({ ln0 with id := 1, prin := n, ppm := p, status := s, entered := -1 } : Ln)).cells.size) := show _ = _ from rfl
  have HSB := Lib.hid (ln_info ({ ln0 with id := 1, prin := n, ppm := p, subd := true, status := s, entered := -1 } : Ln))
  have HOB := Lib.hid (ln_one ({ ln0 with id := 1, prin := n, ppm := p, subd := true, status := s, entered := -1 } : Ln))
  have HZB : Hid (13 = (({ ln0 with id := 1, prin := n, ppm := p, subd := true, status := s, entered := -1 } : Ln)).cells.size) := show _ = _ from rfl
  have HSX := Lib.hid (ln_info ({ ({ ln0 with id := 1, prin := n, ppm := p, status := s, entered := -1 } : Ln) with intr := (0 + dayI n p * d) } : Ln))
  have HOX := Lib.hid (ln_one ({ ({ ln0 with id := 1, prin := n, ppm := p, status := s, entered := -1 } : Ln) with intr := (0 + dayI n p * d) } : Ln))
  have HZX : Hid (13 = (({ ({ ln0 with id := 1, prin := n, ppm := p, status := s, entered := -1 } : Ln) with intr := (0 + dayI n p * d) } : Ln)).cells.size) := show _ = _ from rfl
  have HSY := Lib.hid (ln_info ({ ({ ln0 with id := 1, prin := n, ppm := p, subd := true, status := s, entered := -1 } : Ln) with subs := (0 + dayI n p * d) } : Ln))
  have HOY := Lib.hid (ln_one ({ ({ ln0 with id := 1, prin := n, ppm := p, subd := true, status := s, entered := -1 } : Ln) with subs := (0 + dayI n p * d) } : Ln))
  have HZY : Hid (13 = (({ ({ ln0 with id := 1, prin := n, ppm := p, subd := true, status := s, entered := -1 } : Ln) with subs := (0 + dayI n p * d) } : Ln)).cells.size) := show _ = _ from rfl
  have HSL : Hid ((Try.prog.info? 23).map (·.size) = some (#[.int .i64 1, .int .i64 n, .int .i64 0, .int .i64 0, .int .i64 0, .int .i64 p, .bool false, .int .i64 s, .int .i64 0, .int .i64 (-1), .int .i64 0, .int .i64 0, .int .i64 0] : Array Value).size) := ln_info ({ ln0 with id := 1, prin := n, ppm := p, status := s, entered := -1 } : Ln)
  have HOL : Hid ((#[.int .i64 1, .int .i64 n, .int .i64 0, .int .i64 0, .int .i64 0, .int .i64 p, .bool false, .int .i64 s, .int .i64 0, .int .i64 (-1), .int .i64 0, .int .i64 0, .int .i64 0] : Array Value).all (·.oneCell') = true) := ln_one ({ ln0 with id := 1, prin := n, ppm := p, status := s, entered := -1 } : Ln)
  have X2 : Hid (({ ({ ln0 with id := 1, prin := n, ppm := p, status := s, entered := -1 } : Ln) with intr := (0 + dayI n p * d) } : Ln).cells[2]? = some (.int .i64 (0 + dayI n p * d))) := show _ = _ from rfl
  have Y2 : Hid (({ ({ ln0 with id := 1, prin := n, ppm := p, subd := true, status := s, entered := -1 } : Ln) with subs := (0 + dayI n p * d) } : Ln).cells[2]? = some (.int .i64 0)) := show _ = _ from rfl
  have X3 : Hid (({ ({ ln0 with id := 1, prin := n, ppm := p, status := s, entered := -1 } : Ln) with intr := (0 + dayI n p * d) } : Ln).cells[3]? = some (.int .i64 0)) := show _ = _ from rfl
  have Y3 : Hid (({ ({ ln0 with id := 1, prin := n, ppm := p, subd := true, status := s, entered := -1 } : Ln) with subs := (0 + dayI n p * d) } : Ln).cells[3]? = some (.int .i64 (0 + dayI n p * d))) := show _ = _ from rfl
  clear h3 hs0 n0 n1 p0 p1 d0 d1 t0 t1 r0 r1 s0 s1
  generalize ({ ({ ln0 with id := 1, prin := n, ppm := p, subd := true, status := s, entered := -1 } : Ln) with subs := (0 + dayI n p * d) } : Ln).cells = DY at *
  generalize ({ ({ ln0 with id := 1, prin := n, ppm := p, status := s, entered := -1 } : Ln) with intr := (0 + dayI n p * d) } : Ln).cells = DX at *
  generalize ({ ln0 with id := 1, prin := n, ppm := p, subd := true, status := s, entered := -1 } : Ln).cells = DB at *
  generalize ({ ln0 with id := 1, prin := n, ppm := p, status := s, entered := -1 } : Ln).cells = DA at *
  generalize (0 + dayI n p * d) = v at *
  have v1 : (v == v) = true := by simp
  have v2 : (v != v) = false := by simp
  go_enter Try.func6, Try.ntmps6
  go_upto_region 1 with fail
  rw [← f0, ← e0]
  clear e0 f0
  refine wp_region_held_drew (S := (fun W => W.cell? ⟨k, 0, none⟩ = some (.int .u16 p) ∧ W.cell? ⟨k, 1, none⟩ = some (.int .u16 d))) (by kernel_rfl) hS0 (fun hHeld => ?_)
  refine ByHand.take_yes (v := ?_) 0 18 rfl rfl (by kernel_rfl) (by kernel_rfl) (by kernel_rfl) (fun _ _ _ h => h) (by rfl) ?_ (by assumption) ?_
  rotate_left
  · intro w' hSw
    (try dsimp only at hSw)
    go_simp
    all_goals with_reducible rfl
  (try simp only [Act.put, List.setIfInBounds_toArray, List.set_cons_zero, List.set_cons_succ])
  refine ByHand.take_yes (v := ?_) 1 19 rfl rfl (by kernel_rfl) (by kernel_rfl) (by kernel_rfl) (fun _ _ _ h => h) (by rfl) ?_ (by assumption) ?_
  rotate_left
  · intro w' hSw
    (try dsimp only at hSw)
    go_simp
    all_goals with_reducible rfl
  (try simp only [Act.put, List.setIfInBounds_toArray, List.set_cons_zero, List.set_cons_succ])
  refine ByHand.take_yes (v := ?_) 2 20 rfl rfl (by kernel_rfl) (by kernel_rfl) (by kernel_rfl) (fun _ _ _ h => h) (by rfl) ?_ (by assumption) ?_
  rotate_left
  · intro w' hSw
    (try dsimp only at hSw)
    go_simp
    all_goals with_reducible rfl
  (try simp only [Act.put, List.setIfInBounds_toArray, List.set_cons_zero, List.set_cons_succ])
  refine ByHand.take_yes (v := ?_) 3 21 rfl rfl (by kernel_rfl) (by kernel_rfl) (by kernel_rfl) (fun _ _ _ h => h) (by rfl) ?_ (by assumption) ?_
  rotate_left
  · intro w' hSw
    (try dsimp only at hSw)
    go_simp
    all_goals with_reducible rfl
  (try simp only [Act.put, List.setIfInBounds_toArray, List.set_cons_zero, List.set_cons_succ])
  refine ByHand.take_yes (v := ?_) 4 7 rfl rfl (by kernel_rfl) (by kernel_rfl) (by kernel_rfl) (fun _ _ _ h => h) (by rfl) ?_ (by assumption) ?_
  rotate_left
  · intro w' hSw
    (try dsimp only at hSw)
    go_simp
    all_goals with_reducible rfl
  (try simp only [Act.put, List.setIfInBounds_toArray, List.set_cons_zero, List.set_cons_succ])
  refine ByHand.take_yes (v := ?_) 5 8 rfl rfl (by kernel_rfl) (by kernel_rfl) (by kernel_rfl) (fun _ _ _ h => h) (by rfl) ?_ (by assumption) ?_
  rotate_left
  · intro w' hSw
    (try dsimp only at hSw)
    go_simp
    all_goals with_reducible rfl
  (try simp only [Act.put, List.setIfInBounds_toArray, List.set_cons_zero, List.set_cons_succ])
  refine wpAnyH_done (by kernel_rfl) ?_ _
  obtain ⟨y0, hy0⟩ : ∃ y, y = w0.drew := ⟨_, rfl⟩
  rw [← hy0]
  have HW : Hid (Below w.heap.size w y0) := by rw [hy0]; exact HW0
  clear hy0 hS0 HK HW0 hHeld
  go_upto_region 3 with fail
  rw [hs.out]
  clear hs
  go_upto_region 4 with (first
    | (refine o_store rfl 23 _ _ rfl rfl y0.heap.size _ rfl rfl _ _ (heap_alloc_last _ _) HSL.out rfl HOL.out ?_; intro z0 hr ho; rw [CA.out] at hr; have HA := Lib.hid hr; replace HW := Lib.hid (below_one_of (below_to HW.out (below_one _ _)) ho HW.out.size (below_to HW.out (below_one _ _)).size); clear hr ho))
  go_upto_region 5 with (first
    | (refine o_load rfl 23 _ rfl _ rfl _ _ _ HA.out Try.underlying23 rfl HSA.out ?_)
    | (refine o_store rfl 23 _ _ rfl rfl z0.heap.size _ rfl rfl _ _ (heap_alloc_last _ _) HSA.out HZA.out HOA.out ?_; intro z1 hr ho; have NE := Lib.hid (Nat.ne_of_lt HA.out.lt); have LB := Lib.hid HW.out.size; replace HA := Lib.hid ((HA.out.below (below_one _ _)).one ho NE.out); have HB := Lib.hid hr; replace HW := Lib.hid (below_one_of (below_to HW.out (below_one _ _)) ho LB.out (below_to HW.out (below_one _ _)).size); clear hr ho))
  go_upto_region 6 with (first
    | (refine o_put rfl 4 _ _ rfl rfl z0.heap.size 6 (.bool true) rfl rfl rfl _ _ HB.out (by simp [HZ6.out]) bool_one ?_; intro z2 hr ho; rw [CB.out] at hr; replace HB := Lib.hid hr; replace HA := Lib.hid (HA.out.one ho NE.out); replace HW := Lib.hid (below_one_of HW.out ho LB.out HW.out.size); clear hr ho))
  clear NE LB
  go_upto_region 7 with (first
    | (refine o_load rfl 23 _ rfl _ rfl _ _ _ HA.out Try.underlying23 rfl HSA.out ?_)
    | (refine o_load rfl 23 _ rfl _ rfl _ _ _ HB.out Try.underlying23 rfl HSB.out ?_)
    | (go_at_call 10; with_reducible refine (K1.out _).mono ?_; rintro e y1 ⟨rfl, hb⟩; replace HA := Lib.hid (HA.out.below hb); replace HB := Lib.hid (HB.out.below hb); replace HW := Lib.hid (below_to HW.out hb); clear hb)
    | (refine o_store rfl 23 _ _ rfl rfl y1.heap.size _ rfl rfl _ _ (heap_alloc_last _ _) HSX.out HZX.out HOX.out ?_; intro z1 hr ho; replace HA := Lib.hid ((HA.out.below (below_one _ _)).one ho (Nat.ne_of_lt HA.out.lt)); replace HB := Lib.hid ((HB.out.below (below_one _ _)).one ho (Nat.ne_of_lt HB.out.lt)); have HX := Lib.hid hr; replace HW := Lib.hid (below_one_of (below_to HW.out (below_one _ _)) ho HW.out.size (below_to HW.out (below_one _ _)).size); clear hr ho))
  go_upto_region 8 with (first
    | (refine o_load rfl 23 _ rfl _ rfl _ _ _ HA.out Try.underlying23 rfl HSA.out ?_)
    | (refine o_load rfl 23 _ rfl _ rfl _ _ _ HB.out Try.underlying23 rfl HSB.out ?_)
    | (refine o_load rfl 23 _ rfl _ rfl _ _ _ HX.out Try.underlying23 rfl HSX.out ?_)
    | (go_at_call 10; with_reducible refine (K2.out _).mono ?_; rintro e y2 ⟨rfl, hb⟩; replace HA := Lib.hid (HA.out.below hb); replace HB := Lib.hid (HB.out.below hb); replace HX := Lib.hid (HX.out.below hb); replace HW := Lib.hid (below_to HW.out hb); clear hb)
    | (refine o_store rfl 23 _ _ rfl rfl y2.heap.size _ rfl rfl _ _ (heap_alloc_last _ _) HSY.out HZY.out HOY.out ?_; intro z2 hr ho; replace HA := Lib.hid ((HA.out.below (below_one _ _)).one ho (Nat.ne_of_lt HA.out.lt)); replace HB := Lib.hid ((HB.out.below (below_one _ _)).one ho (Nat.ne_of_lt HB.out.lt)); replace HX := Lib.hid ((HX.out.below (below_one _ _)).one ho (Nat.ne_of_lt HX.out.lt)); have HY := Lib.hid hr; replace HW := Lib.hid (below_one_of (below_to HW.out (below_one _ _)) ho HW.out.size (below_to HW.out (below_one _ _)).size); clear hr ho))
  go_upto_region 9 with (first
    | (go_at_call 27; with_reducible refine (K3.out _).mono ?_; rintro e y3 ⟨rfl, hb⟩; replace HA := Lib.hid (HA.out.below hb); replace HB := Lib.hid (HB.out.below hb); replace HX := Lib.hid (HX.out.below hb); replace HY := Lib.hid (HY.out.below hb); replace HW := Lib.hid (below_to HW.out hb); clear hb))
  have x2 := (HX.out.cell (i := 2)).trans X2.out
  have y2 := (HY.out.cell (i := 2)).trans Y2.out
  have x3 := (HX.out.cell (i := 3)).trans X3.out
  have y3 := (HY.out.cell (i := 3)).trans Y3.out
  go_wp2_with (first
    | (go_at_call 17; with_reducible refine (KW.out _).mono ?_; rintro e y4 ⟨rfl, hb⟩; replace HA := Lib.hid (HA.out.below hb); replace HB := Lib.hid (HB.out.below hb); replace HX := Lib.hid (HX.out.below hb); replace HY := Lib.hid (HY.out.below hb); replace HW := Lib.hid (below_to HW.out hb); clear hb))
  go_ret
  exact ⟨rfl, HW.out⟩
set_option maxRecDepth 20000 in
set_option maxHeartbeats 2000000 in
theorem subsidy_high (n p d st s : Int) (w : World) (n0 : 0 ≤ n) (n1 : n ≤ 4294967295) (p0 : 0 ≤ p) (p1 : p ≤ 65535) (d0 : 0 ≤ d) (d1 : d ≤ 65535) (t0 : 0 ≤ st) (t1 : st ≤ 255) (hs0 : 1 + st.tmod 5 = s) (h3 : ¬ s ≤ 3) : Calls Try.prog 6 #[.int .u32 n, .agg #[.int .u16 p, .int .u16 d], .int .u8 st] w fun e w' => e = .returned (.bool true) ∧ Below w.heap.size w w' := by
  obtain ⟨k, w0, e0, f0, hK, hb⟩ := boxd_new w #[.int .u16 p, .int .u16 d] 53
  have HK := Lib.hid hK
  have hS0 : w0.drew.cell? ⟨k, 0, none⟩ = some (.int .u16 p) ∧ w0.drew.cell? ⟨k, 1, none⟩ = some (.int .u16 d) := ⟨hK.cell, hK.cell⟩
  have HW0 := Lib.hid (below_drawn hb)
  clear hK hb
  have Hn : IntKind.i64.wrap n = n := IntWalk.i64_in _ (by omega)
  have Hp : IntKind.i64.wrap p = p := IntWalk.i64_in _ (by omega)
  have Hd : IntKind.i64.wrap d = d := IntWalk.i64_in _ (by omega)
  have Ht : IntKind.i64.wrap st = st := IntWalk.i64_in _ (by omega)
  have r0 : 0 ≤ st.tmod 5 := Int.tmod_nonneg _ t0
  have r1 : st.tmod 5 < 5 := Int.tmod_lt_of_pos _ (by decide)
  have S1 : wrap64 (1 + st.tmod 5) = 1 + st.tmod 5 := by unfold wrap64; omega
  have S2 : IntKind.i64.wrap (1 + st.tmod 5) = 1 + st.tmod 5 := IntWalk.i64_in _ (by omega)
  have hs : Hid (1 + st.tmod 5 = s) := hs0
  have s0 : 1 ≤ s := by omega
  have s1 : s ≤ 5 := by omega
  have K1 : Hid (∀ W, Calls Try.prog 10 #[.agg ({ ln0 with id := 1, prin := n, ppm := p, status := s, entered := -1 } : Ln).cells, .int .i64 d] W fun e w' => e = .returned (.tuple #[.agg ({ ({ ln0 with id := 1, prin := n, ppm := p, status := s, entered := -1 } : Ln) with intr := (0 + dayI n p * d) } : Ln).cells, .int .i64 0]) ∧ Below W.heap.size W w') := fun W => by
    have h := c_accrue ({ ln0 with id := 1, prin := n, ppm := p, status := s, entered := -1 } : Ln) d W
    rwa [plain_is n0 n1 p0 p1 d0 d1 s0 s1] at h
  have K2 : Hid (∀ W, Calls Try.prog 10 #[.agg ({ ln0 with id := 1, prin := n, ppm := p, subd := true, status := s, entered := -1 } : Ln).cells, .int .i64 d] W fun e w' => e = .returned (.tuple #[.agg ({ ({ ln0 with id := 1, prin := n, ppm := p, subd := true, status := s, entered := -1 } : Ln) with intr := (0 + dayI n p * d) } : Ln).cells, .int .i64 0]) ∧ Below W.heap.size W w') := fun W => by
    have h := c_accrue ({ ln0 with id := 1, prin := n, ppm := p, subd := true, status := s, entered := -1 } : Ln) d W
    rwa [unspared_is n0 n1 p0 p1 d0 d1 s0 s1 h3] at h
  have K3 : Hid (∀ W, Calls Try.prog 27 #[.int .i64 0, .int .i64 n, .int .i64 p, .int .i64 d] W fun e w' => e = .returned (.tuple #[.int .i64 (0 + dayI n p * d), .int .i64 0]) ∧ Below W.heap.size W w') := fun W => by
    have h := RAccr.r_add 0 n p d W
    rwa [(ref_is n0 n1 p0 p1 d0 d1).1, (ref_is n0 n1 p0 p1 d0 d1).2] at h
  have KW := Lib.hid wakes_loan
  have b3 : decide (s ≤ 3) = false := decide_eq_false h3
  have CA : Hid ((#[.int .i64 1, .int .i64 n, .int .i64 0, .int .i64 0, .int .i64 0, .int .i64 p, .bool false, .int .i64 s, .int .i64 0, .int .i64 (-1), .int .i64 0, .int .i64 0, .int .i64 0] : Array Value) = ({ ln0 with id := 1, prin := n, ppm := p, status := s, entered := -1 } : Ln).cells) := show _ = _ from rfl
  have CB : Hid (({ ln0 with id := 1, prin := n, ppm := p, status := s, entered := -1 } : Ln).cells.setIfInBounds 6 (.bool true) = ({ ln0 with id := 1, prin := n, ppm := p, subd := true, status := s, entered := -1 } : Ln).cells) := show _ = _ from rfl
  have HZ6 : Hid (({ ln0 with id := 1, prin := n, ppm := p, status := s, entered := -1 } : Ln).cells.size = 13) := ln_size _
  have HSA := Lib.hid (ln_info ({ ln0 with id := 1, prin := n, ppm := p, status := s, entered := -1 } : Ln))
  have HOA := Lib.hid (ln_one ({ ln0 with id := 1, prin := n, ppm := p, status := s, entered := -1 } : Ln))
  have HZA : Hid (13 = (({ ln0 with id := 1, prin := n, ppm := p, status := s, entered := -1 } : Ln)).cells.size) := show _ = _ from rfl
  have HSB := Lib.hid (ln_info ({ ln0 with id := 1, prin := n, ppm := p, subd := true, status := s, entered := -1 } : Ln))
  have HOB := Lib.hid (ln_one ({ ln0 with id := 1, prin := n, ppm := p, subd := true, status := s, entered := -1 } : Ln))
  have HZB : Hid (13 = (({ ln0 with id := 1, prin := n, ppm := p, subd := true, status := s, entered := -1 } : Ln)).cells.size) := show _ = _ from rfl
  have HSX := Lib.hid (ln_info ({ ({ ln0 with id := 1, prin := n, ppm := p, status := s, entered := -1 } : Ln) with intr := (0 + dayI n p * d) } : Ln))
  have HOX := Lib.hid (ln_one ({ ({ ln0 with id := 1, prin := n, ppm := p, status := s, entered := -1 } : Ln) with intr := (0 + dayI n p * d) } : Ln))
  have HZX : Hid (13 = (({ ({ ln0 with id := 1, prin := n, ppm := p, status := s, entered := -1 } : Ln) with intr := (0 + dayI n p * d) } : Ln)).cells.size) := show _ = _ from rfl
  have HSY := Lib.hid (ln_info ({ ({ ln0 with id := 1, prin := n, ppm := p, subd := true, status := s, entered := -1 } : Ln) with intr := (0 + dayI n p * d) } : Ln))
  have HOY := Lib.hid (ln_one ({ ({ ln0 with id := 1, prin := n, ppm := p, subd := true, status := s, entered := -1 } : Ln) with intr := (0 + dayI n p * d) } : Ln))
  have HZY : Hid (13 = (({ ({ ln0 with id := 1, prin := n, ppm := p, subd := true, status := s, entered := -1 } : Ln) with intr := (0 + dayI n p * d) } : Ln)).cells.size) := show _ = _ from rfl
  have HSL : Hid ((Try.prog.info? 23).map (·.size) = some (#[.int .i64 1, .int .i64 n, .int .i64 0, .int .i64 0, .int .i64 0, .int .i64 p, .bool false, .int .i64 s, .int .i64 0, .int .i64 (-1), .int .i64 0, .int .i64 0, .int .i64 0] : Array Value).size) := ln_info ({ ln0 with id := 1, prin := n, ppm := p, status := s, entered := -1 } : Ln)
  have HOL : Hid ((#[.int .i64 1, .int .i64 n, .int .i64 0, .int .i64 0, .int .i64 0, .int .i64 p, .bool false, .int .i64 s, .int .i64 0, .int .i64 (-1), .int .i64 0, .int .i64 0, .int .i64 0] : Array Value).all (·.oneCell') = true) := ln_one ({ ln0 with id := 1, prin := n, ppm := p, status := s, entered := -1 } : Ln)
  have X2 : Hid (({ ({ ln0 with id := 1, prin := n, ppm := p, status := s, entered := -1 } : Ln) with intr := (0 + dayI n p * d) } : Ln).cells[2]? = some (.int .i64 (0 + dayI n p * d))) := show _ = _ from rfl
  have Y2 : Hid (({ ({ ln0 with id := 1, prin := n, ppm := p, subd := true, status := s, entered := -1 } : Ln) with intr := (0 + dayI n p * d) } : Ln).cells[2]? = some (.int .i64 (0 + dayI n p * d))) := show _ = _ from rfl
  have X3 : Hid (({ ({ ln0 with id := 1, prin := n, ppm := p, status := s, entered := -1 } : Ln) with intr := (0 + dayI n p * d) } : Ln).cells[3]? = some (.int .i64 0)) := show _ = _ from rfl
  have Y3 : Hid (({ ({ ln0 with id := 1, prin := n, ppm := p, subd := true, status := s, entered := -1 } : Ln) with intr := (0 + dayI n p * d) } : Ln).cells[3]? = some (.int .i64 0)) := show _ = _ from rfl
  clear h3 hs0 n0 n1 p0 p1 d0 d1 t0 t1 r0 r1 s0 s1
  generalize ({ ({ ln0 with id := 1, prin := n, ppm := p, subd := true, status := s, entered := -1 } : Ln) with intr := (0 + dayI n p * d) } : Ln).cells = DY at *
  generalize ({ ({ ln0 with id := 1, prin := n, ppm := p, status := s, entered := -1 } : Ln) with intr := (0 + dayI n p * d) } : Ln).cells = DX at *
  generalize ({ ln0 with id := 1, prin := n, ppm := p, subd := true, status := s, entered := -1 } : Ln).cells = DB at *
  generalize ({ ln0 with id := 1, prin := n, ppm := p, status := s, entered := -1 } : Ln).cells = DA at *
  generalize (0 + dayI n p * d) = v at *
  have v1 : (v == v) = true := by simp
  have v2 : (v != v) = false := by simp
  go_enter Try.func6, Try.ntmps6
  go_upto_region 1 with fail
  rw [← f0, ← e0]
  clear e0 f0
  refine wp_region_held_drew (S := (fun W => W.cell? ⟨k, 0, none⟩ = some (.int .u16 p) ∧ W.cell? ⟨k, 1, none⟩ = some (.int .u16 d))) (by kernel_rfl) hS0 (fun hHeld => ?_)
  refine ByHand.take_yes (v := ?_) 0 18 rfl rfl (by kernel_rfl) (by kernel_rfl) (by kernel_rfl) (fun _ _ _ h => h) (by rfl) ?_ (by assumption) ?_
  rotate_left
  · intro w' hSw
    (try dsimp only at hSw)
    go_simp
    all_goals with_reducible rfl
  (try simp only [Act.put, List.setIfInBounds_toArray, List.set_cons_zero, List.set_cons_succ])
  refine ByHand.take_yes (v := ?_) 1 19 rfl rfl (by kernel_rfl) (by kernel_rfl) (by kernel_rfl) (fun _ _ _ h => h) (by rfl) ?_ (by assumption) ?_
  rotate_left
  · intro w' hSw
    (try dsimp only at hSw)
    go_simp
    all_goals with_reducible rfl
  (try simp only [Act.put, List.setIfInBounds_toArray, List.set_cons_zero, List.set_cons_succ])
  refine ByHand.take_yes (v := ?_) 2 20 rfl rfl (by kernel_rfl) (by kernel_rfl) (by kernel_rfl) (fun _ _ _ h => h) (by rfl) ?_ (by assumption) ?_
  rotate_left
  · intro w' hSw
    (try dsimp only at hSw)
    go_simp
    all_goals with_reducible rfl
  (try simp only [Act.put, List.setIfInBounds_toArray, List.set_cons_zero, List.set_cons_succ])
  refine ByHand.take_yes (v := ?_) 3 21 rfl rfl (by kernel_rfl) (by kernel_rfl) (by kernel_rfl) (fun _ _ _ h => h) (by rfl) ?_ (by assumption) ?_
  rotate_left
  · intro w' hSw
    (try dsimp only at hSw)
    go_simp
    all_goals with_reducible rfl
  (try simp only [Act.put, List.setIfInBounds_toArray, List.set_cons_zero, List.set_cons_succ])
  refine ByHand.take_yes (v := ?_) 4 7 rfl rfl (by kernel_rfl) (by kernel_rfl) (by kernel_rfl) (fun _ _ _ h => h) (by rfl) ?_ (by assumption) ?_
  rotate_left
  · intro w' hSw
    (try dsimp only at hSw)
    go_simp
    all_goals with_reducible rfl
  (try simp only [Act.put, List.setIfInBounds_toArray, List.set_cons_zero, List.set_cons_succ])
  refine ByHand.take_yes (v := ?_) 5 8 rfl rfl (by kernel_rfl) (by kernel_rfl) (by kernel_rfl) (fun _ _ _ h => h) (by rfl) ?_ (by assumption) ?_
  rotate_left
  · intro w' hSw
    (try dsimp only at hSw)
    go_simp
    all_goals with_reducible rfl
  (try simp only [Act.put, List.setIfInBounds_toArray, List.set_cons_zero, List.set_cons_succ])
  refine wpAnyH_done (by kernel_rfl) ?_ _
  obtain ⟨y0, hy0⟩ : ∃ y, y = w0.drew := ⟨_, rfl⟩
  rw [← hy0]
  have HW : Hid (Below w.heap.size w y0) := by rw [hy0]; exact HW0
  clear hy0 hS0 HK HW0 hHeld
  go_upto_region 3 with fail
  rw [hs.out]
  clear hs
  go_upto_region 4 with (first
    | (refine o_store rfl 23 _ _ rfl rfl y0.heap.size _ rfl rfl _ _ (heap_alloc_last _ _) HSL.out rfl HOL.out ?_; intro z0 hr ho; rw [CA.out] at hr; have HA := Lib.hid hr; replace HW := Lib.hid (below_one_of (below_to HW.out (below_one _ _)) ho HW.out.size (below_to HW.out (below_one _ _)).size); clear hr ho))
  go_upto_region 5 with (first
    | (refine o_load rfl 23 _ rfl _ rfl _ _ _ HA.out Try.underlying23 rfl HSA.out ?_)
    | (refine o_store rfl 23 _ _ rfl rfl z0.heap.size _ rfl rfl _ _ (heap_alloc_last _ _) HSA.out HZA.out HOA.out ?_; intro z1 hr ho; have NE := Lib.hid (Nat.ne_of_lt HA.out.lt); have LB := Lib.hid HW.out.size; replace HA := Lib.hid ((HA.out.below (below_one _ _)).one ho NE.out); have HB := Lib.hid hr; replace HW := Lib.hid (below_one_of (below_to HW.out (below_one _ _)) ho LB.out (below_to HW.out (below_one _ _)).size); clear hr ho))
  go_upto_region 6 with (first
    | (refine o_put rfl 4 _ _ rfl rfl z0.heap.size 6 (.bool true) rfl rfl rfl _ _ HB.out (by simp [HZ6.out]) bool_one ?_; intro z2 hr ho; rw [CB.out] at hr; replace HB := Lib.hid hr; replace HA := Lib.hid (HA.out.one ho NE.out); replace HW := Lib.hid (below_one_of HW.out ho LB.out HW.out.size); clear hr ho))
  clear NE LB
  go_upto_region 7 with (first
    | (refine o_load rfl 23 _ rfl _ rfl _ _ _ HA.out Try.underlying23 rfl HSA.out ?_)
    | (refine o_load rfl 23 _ rfl _ rfl _ _ _ HB.out Try.underlying23 rfl HSB.out ?_)
    | (go_at_call 10; with_reducible refine (K1.out _).mono ?_; rintro e y1 ⟨rfl, hb⟩; replace HA := Lib.hid (HA.out.below hb); replace HB := Lib.hid (HB.out.below hb); replace HW := Lib.hid (below_to HW.out hb); clear hb)
    | (refine o_store rfl 23 _ _ rfl rfl y1.heap.size _ rfl rfl _ _ (heap_alloc_last _ _) HSX.out HZX.out HOX.out ?_; intro z1 hr ho; replace HA := Lib.hid ((HA.out.below (below_one _ _)).one ho (Nat.ne_of_lt HA.out.lt)); replace HB := Lib.hid ((HB.out.below (below_one _ _)).one ho (Nat.ne_of_lt HB.out.lt)); have HX := Lib.hid hr; replace HW := Lib.hid (below_one_of (below_to HW.out (below_one _ _)) ho HW.out.size (below_to HW.out (below_one _ _)).size); clear hr ho))
  go_upto_region 8 with (first
    | (refine o_load rfl 23 _ rfl _ rfl _ _ _ HA.out Try.underlying23 rfl HSA.out ?_)
    | (refine o_load rfl 23 _ rfl _ rfl _ _ _ HB.out Try.underlying23 rfl HSB.out ?_)
    | (refine o_load rfl 23 _ rfl _ rfl _ _ _ HX.out Try.underlying23 rfl HSX.out ?_)
    | (go_at_call 10; with_reducible refine (K2.out _).mono ?_; rintro e y2 ⟨rfl, hb⟩; replace HA := Lib.hid (HA.out.below hb); replace HB := Lib.hid (HB.out.below hb); replace HX := Lib.hid (HX.out.below hb); replace HW := Lib.hid (below_to HW.out hb); clear hb)
    | (refine o_store rfl 23 _ _ rfl rfl y2.heap.size _ rfl rfl _ _ (heap_alloc_last _ _) HSY.out HZY.out HOY.out ?_; intro z2 hr ho; replace HA := Lib.hid ((HA.out.below (below_one _ _)).one ho (Nat.ne_of_lt HA.out.lt)); replace HB := Lib.hid ((HB.out.below (below_one _ _)).one ho (Nat.ne_of_lt HB.out.lt)); replace HX := Lib.hid ((HX.out.below (below_one _ _)).one ho (Nat.ne_of_lt HX.out.lt)); have HY := Lib.hid hr; replace HW := Lib.hid (below_one_of (below_to HW.out (below_one _ _)) ho HW.out.size (below_to HW.out (below_one _ _)).size); clear hr ho))
  go_upto_region 9 with (first
    | (go_at_call 27; with_reducible refine (K3.out _).mono ?_; rintro e y3 ⟨rfl, hb⟩; replace HA := Lib.hid (HA.out.below hb); replace HB := Lib.hid (HB.out.below hb); replace HX := Lib.hid (HX.out.below hb); replace HY := Lib.hid (HY.out.below hb); replace HW := Lib.hid (below_to HW.out hb); clear hb))
  have x2 := (HX.out.cell (i := 2)).trans X2.out
  have y2 := (HY.out.cell (i := 2)).trans Y2.out
  have x3 := (HX.out.cell (i := 3)).trans X3.out
  have y3 := (HY.out.cell (i := 3)).trans Y3.out
  go_wp2_with (first
    | (go_at_call 17; with_reducible refine (KW.out _).mono ?_; rintro e y4 ⟨rfl, hb⟩; replace HA := Lib.hid (HA.out.below hb); replace HB := Lib.hid (HB.out.below hb); replace HX := Lib.hid (HX.out.below hb); replace HY := Lib.hid (HY.out.below hb); replace HW := Lib.hid (below_to HW.out hb); clear hb))
  go_ret
  exact ⟨rfl, HW.out⟩
theorem subsidy_walk (n p d st : Int) (w : World) (n0 : 0 ≤ n) (n1 : n ≤ 4294967295) (p0 : 0 ≤ p) (p1 : p ≤ 65535) (d0 : 0 ≤ d) (d1 : d ≤ 65535) (t0 : 0 ≤ st) (t1 : st ≤ 255) : Calls Try.prog 6 #[.int .u32 n, .agg #[.int .u16 p, .int .u16 d], .int .u8 st] w fun e w' => e = .returned (.bool true) ∧ Below w.heap.size w w' := by
  by_cases h3 : 1 + st.tmod 5 ≤ 3
  · exact subsidy_low n p d st _ w n0 n1 p0 p1 d0 d1 t0 t1 rfl h3
  · exact subsidy_high n p d st _ w n0 n1 p0 p1 d0 d1 t0 t1 rfl h3
theorem wf_u16 {z : Int} (h : (Lit.int .u16 z).wf = true) : 0 ≤ z ∧ z ≤ 65535 := by simpa [Lit.wf, IntKind.min, IntKind.max, IntKind.bits, IntKind.signed] using h
theorem wf_u32 {z : Int} (h : (Lit.int .u32 z).wf = true) : 0 ≤ z ∧ z ≤ 4294967295 := by simpa [Lit.wf, IntKind.min, IntKind.max, IntKind.bits, IntKind.signed] using h
theorem wf_u8 {z : Int} (h : (Lit.int .u8 z).wf = true) : 0 ≤ z ∧ z ≤ 255 := by simpa [Lit.wf, IntKind.min, IntKind.max, IntKind.bits, IntKind.signed] using h
set_option maxRecDepth 100000 in
theorem loanSubsidy_lifted (os : Os) (started : os.Started) (H : Type) (enc : TypeId × Value → H) :
    ReturnsInHanded {} Try.checked os 6 .any (Rows.loanSubsidySpec.pre6 enc Try.prog Try.f6 Rows.loanSubsidyRow.domain false) (Rows.loanSubsidySpec.post enc Try.prog Try.f6 false true false false) := by
  refine Shell.law_lifted (C := Try.checked) (tb := 4) (by kernel_rfl) started (by kernel_rfl) Try.func6
    (ChangeSpec.witness6 (enc := enc) (C := Try.checked) false ⟨#[], #[.int .u32 0, Value.agg #[.int .u16 0, .int .u16 0], .int .u8 0], []⟩ 8 (by kernel_rfl) (by kernel_rfl) (by kernel_rfl) (by kernel_rfl))
    (by kernel_rfl) (by kernel_rfl) rfl rfl Try.underlying4 ?_
  intro W base args ds p hval0 hA0
  have hval : ∀ (j : Nat) t v, Try.f6.params[j]? = some t → args[j]? = some v → Value.okWide Try.prog W .any base t v := hval0
  have hA : DataW.TrodAll enc Try.prog W 0 (fun _ => true) true Try.f6.params.toList args.toList ds p := hA0
  clear hval0 hA0
  rw [Try.params6] at hA hval
  obtain ⟨v0, vs0, d0, ds0, p0, q0, hargs, rfl, rfl, h0, r0⟩ := trodAll_cons hA
  obtain ⟨v1, vs1, d1, ds1, p1, q1, rfl, rfl, rfl, h1, r1⟩ := trodAll_cons r0
  obtain ⟨v2, vs2, d2, ds2, p2, q2, rfl, rfl, rfl, h2, r2⟩ := trodAll_cons r1
  obtain ⟨rfl, rfl, rfl⟩ := trodAll_nil r2
  obtain rfl : args = #[v0, v1, v2] := by cases args; simp_all
  refine ⟨rfl, ?_⟩
  obtain ⟨n, rfl, -, -, g0⟩ := open_int Try.underlying51 (hval 0 51 v0 rfl rfl) h0
  obtain ⟨zs1, hzl1, rfl, hz1⟩ := Shell.open_arr Try.underlying53 Try.underlying52 (by kernel_rfl) (by kernel_rfl) (hval 1 53 v1 rfl rfl) h1
  obtain ⟨n0, n1, rfl⟩ := Shell.list2 zs1 hzl1
  obtain ⟨st, rfl, -, -, g2⟩ := open_int Try.underlying5 (hval 2 5 v2 rfl rfl) h2
  have bp := wf_u16 (hz1 n0 (by simp))
  have bd := wf_u16 (hz1 n1 (by simp))
  have bn := wf_u32 g0
  have bt := wf_u8 g2
  exact subsidy_walk n n0 n1 st W bn.1 bn.2 bp.1 bp.2 bd.1 bd.2 bt.1 bt.2

theorem loanSubsidy_over : Rows.loanSubsidyRow.holds Try.pinned (OpenSpec.ofChange Rows.loanSubsidySpec) :=
  OpenClaim.holds_of_wide 6 Try.f6 rfl rfl rfl rfl rfl rfl rfl ⟨rfl, rfl, rfl, rfl, rfl⟩ rfl rfl rfl rfl rfl (by kernel_rfl) Try.func6 (by kernel_rfl)
    (of_decide_eq_true (by kernel_rfl)) (by unfold Func.isWrapper; first | (rw [if_pos (by decide +kernel)]; kernel_rfl) | (rw [if_neg (by decide +kernel)]; exact ⟨rfl, rfl⟩))
    (fun os st H enc _ => loanSubsidy_lifted os st H enc)

/-- The statement. -/
theorem loanSubsidy_proved : Rows.LoanSubsidySaid := loanSubsidy_over
end Go.Proofs.Ytkegmgjagcefhaa.Law
