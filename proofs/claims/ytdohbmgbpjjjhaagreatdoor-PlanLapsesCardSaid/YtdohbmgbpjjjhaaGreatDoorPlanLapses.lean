/- Who is asked by income is so for twelve months, and not a day longer; every other plan holds for good, at any days; no condition. -/
import Derived.Test.YtdohbmgbpjjjhaaGreatDoorCards
import Derived.Test.YtdohbmgbpjjjhaaGreatDoorTie
import Derived.Test.YtdohbmgbpjjjhaaGreatDoorGA
import Derived.Test.YtdohbmgbpjjjhaaGreatDoorPlanWakes
import Derived.Test.YtdohbmgbpjjjhaaGreatDoorPlanYear
namespace Go.Proofs.YtdohbmgbpjjjhaaGreatDoor.Law
open Go.ChangeShapes Go.WideShapes Go.ChangeAt Go.RowKit Loan Money Box Rws Slice Plan

set_option maxRecDepth 20000 in
set_option maxHeartbeats 4000000 in
theorem lapses_walk (since day how : Int) (w : World) (hw : 0 ≤ how ∧ how ≤ 255) (LD : Hid (Both w)) : Calls Tryz.prog 6 #[.int .i64 since, .int .i64 day, .int .u8 how] w fun e w' => e = .returned (.bool true) ∧ Below w.heap.size w w' := by
  have KM1 := Lib.hid (fun W => Mod.mod_any since 87258 W (by decide) (by decide))
  have KM2 := Lib.hid (fun W => Mod.mod_any day 87659 W (by decide) (by decide))
  have h0 : 0 ≤ how ∧ how ≤ 255 := hw
  obtain ⟨P, hP, p1, p4⟩ : ∃ P, 1 + how.tmod 4 = P ∧ 1 ≤ P ∧ P ≤ 4 := by
    have h1 := Int.tmod_nonneg 4 h0.1
    have h2 := Int.tmod_lt_of_pos how (show (0 : Int) < 4 by decide)
    exact ⟨_, rfl, by omega, by omega⟩
  obtain ⟨v1, v2⟩ : IntKind.i64.wrap how = how ∧ wrap64 P = P := ⟨IntWalk.i64_in _ (by omega), by unfold wrap64; omega⟩
  clear h0 hw
  have HW := Lib.hid (Below.refl w.heap.size w)
  have HL := Lib.hid LD.out
  clear LD
  go_enter Tryz.func6, Tryz.ntmps6
  go_upto_region 2 with (go_at_call 22; (refine (KM1.out _).mono ?_); rintro e y ⟨⟨a, ha, rfl⟩, rfl⟩)
  have HA : Hid (a ≤ 87257) := show a ≤ 87257 by omega
  clear ha KM1
  have HSA : Hid ((Tryz.prog.info? 38).map (·.size) = some (#[.int .i64 0, .slice none 0 0, .int .i64 P, .int .i64 (a : Int), .int .i64 0, .int .i64 0, .slice none 0 0, .int .i64 0, .int .i64 0, .int .i64 0, .int .i64 0, .int .i64 0, .int .i64 0] : Array Value).size) := show _ = some 13 by kernel_rfl
  have HZA : Hid (13 = (#[.int .i64 0, .slice none 0 0, .int .i64 P, .int .i64 (a : Int), .int .i64 0, .int .i64 0, .slice none 0 0, .int .i64 0, .int .i64 0, .int .i64 0, .int .i64 0, .int .i64 0, .int .i64 0] : Array Value).size) := show _ = _ from rfl
  have HOA : Hid ((#[.int .i64 0, .slice none 0 0, .int .i64 P, .int .i64 (a : Int), .int .i64 0, .int .i64 0, .slice none 0 0, .int .i64 0, .int .i64 0, .int .i64 0, .int .i64 0, .int .i64 0, .int .i64 0] : Array Value).all (·.oneCell') = true) := show _ = _ by simp [Value.oneCell']
  have X2 : Hid ((#[.int .i64 0, .slice none 0 0, .int .i64 P, .int .i64 (a : Int), .int .i64 0, .int .i64 0, .slice none 0 0, .int .i64 0, .int .i64 0, .int .i64 0, .int .i64 0, .int .i64 0, .int .i64 0] : Array Value)[2]? = some (.int .i64 P)) := show _ = _ from rfl
  have KH : Hid (∀ d W, Date.Laid W → Calls Tryz.prog 23 #[.agg #[.int .i64 0, .slice none 0 0, .int .i64 P, .int .i64 (a : Int), .int .i64 0, .int .i64 0, .slice none 0 0, .int .i64 0, .int .i64 0, .int .i64 0, .int .i64 0, .int .i64 0, .int .i64 0], .int .i64 d] W fun e w' => e = .returned (.int .i64 (holdsI P a d)) ∧ Below W.heap.size W w') := fun d W hL => c_holds ⟨0, P, a, 0, 0, 0, 0, 0, 0, 0, 0⟩ (.slice none 0 0) (.slice none 0 0) d W hL
  have KZ : Hid (∀ d W, Date.Laid W → Calls Tryz.prog 23 #[.agg #[.int .i64 0, .slice none 0 0, .int .i64 0, .int .i64 (a : Int), .int .i64 0, .int .i64 0, .slice none 0 0, .int .i64 0, .int .i64 0, .int .i64 0, .int .i64 0, .int .i64 0, .int .i64 0], .int .i64 d] W fun e w' => e = .returned (.int .i64 1) ∧ Below W.heap.size W w') := fun d W hL => c_holds ⟨0, 0, a, 0, 0, 0, 0, 0, 0, 0, 0⟩ (.slice none 0 0) (.slice none 0 0) d W hL
  go_upto_region 3 with (refine o_store rfl 38 _ _ rfl rfl w.heap.size #[.int .i64 0, .slice none 0 0, .int .i64 P, .int .i64 (a : Int), .int .i64 0, .int .i64 0, .slice none 0 0, .int .i64 0, .int .i64 0, .int .i64 0, .int .i64 0, .int .i64 0, .int .i64 0] (by rfl) (by rfl) _ _ (heap_alloc_last _ _) HSA.out HZA.out HOA.out ?_; intro z hr ho; have HB := Lib.hid hr; replace HL := Lib.hid (HL.out.of (below_one_of (below_one _ _) ho (Nat.le_refl _) (below_one w _).size)); replace HW := Lib.hid (below_one_of (below_to HW.out (below_one _ _)) ho HW.out.size (below_to HW.out (below_one _ _)).size); clear hr ho)
  generalize hC : (#[.int .i64 0, .slice none 0 0, .int .i64 P, .int .i64 (a : Int), .int .i64 0, .int .i64 0, .slice none 0 0, .int .i64 0, .int .i64 0, .int .i64 0, .int .i64 0, .int .i64 0, .int .i64 0] : Array Value) = C at *
  clear hC
  go_upto_region 4 with (go_at_call 22; (refine (KM2.out _).mono ?_); rintro e y ⟨⟨b, hb2, rfl⟩, rfl⟩)
  clear hb2 KM2
  have c2 := (HB.out.cell (i := 2)).trans X2.out
  by_cases hp : P = 4
  · subst hp
    have hl := lapses HA.out
    have u1 : wrap64 ((a : Int) + 364) = (a : Int) + 364 := by have := HA.out; unfold wrap64; omega
    have u2 : wrap64 ((a : Int) + 366) = (a : Int) + 366 := by have := HA.out; clear u1; unfold wrap64; omega
    have K1 := Lib.hid (fun W hL => KH.out ((a : Int) + 364) W hL)
    rw [hl.1 _ (Int.le_refl _)] at K1
    have K2 := Lib.hid (fun W hL => KH.out ((a : Int) + 366) W hL)
    rw [hl.2 _ (Int.le_refl _)] at K2
    have K3 := Lib.hid (fun W hL => KH.out (a : Int) W hL)
    rw [hl.1 _ (by omega)] at K3
    have K4 := Lib.hid (fun W hL => KH.out (b : Int) W hL)
    by_cases h1 : (b : Int) ≤ (a : Int) + 364
    · rw [hl.1 _ h1] at K4
      have t1 : decide ((b : Int) ≤ (a : Int) + 364) = true := decide_eq_true h1
      have t2 : decide ((a : Int) + 366 ≤ (b : Int)) = false := decide_eq_false (by omega)
      clear hl h1 KH KZ
      go_wp2_with (first
        | (refine o_load (by rfl) 38 _ rfl w.heap.size rfl _ _ _ HB.out Tryz.underlying38 rfl HSA.out ?_)
        | (go_at_call 23; (with_reducible refine (K1.out _ HL.out.date).mono ?_); rintro e y1 ⟨rfl, hb⟩; replace HB := Lib.hid (HB.out.below hb); replace HW := Lib.hid (below_to HW.out hb); replace HL := Lib.hid (HL.out.of hb); clear hb)
        | (go_at_call 23; (with_reducible refine (K2.out _ HL.out.date).mono ?_); rintro e y2 ⟨rfl, hb⟩; replace HB := Lib.hid (HB.out.below hb); replace HW := Lib.hid (below_to HW.out hb); replace HL := Lib.hid (HL.out.of hb); clear hb)
        | (go_at_call 23; (with_reducible refine (K3.out _ HL.out.date).mono ?_); rintro e y3 ⟨rfl, hb⟩; replace HB := Lib.hid (HB.out.below hb); replace HW := Lib.hid (below_to HW.out hb); replace HL := Lib.hid (HL.out.of hb); clear hb)
        | (go_at_call 23; (with_reducible refine (K4.out _ HL.out.date).mono ?_); rintro e y4 ⟨rfl, hb⟩; replace HB := Lib.hid (HB.out.below hb); replace HW := Lib.hid (below_to HW.out hb); replace HL := Lib.hid (HL.out.of hb); clear hb)
        | (go_at_call 10; (with_reducible refine (wakes_plan _ HL.out).mono ?_); rintro e y9 ⟨rfl, hb⟩; replace HB := Lib.hid (HB.out.below hb); replace HW := Lib.hid (below_to HW.out hb); replace HL := Lib.hid (HL.out.of hb); clear hb))
      go_ret
      exact ⟨rfl, HW.out⟩
    · have t1 : decide ((b : Int) ≤ (a : Int) + 364) = false := decide_eq_false h1
      by_cases h2 : (a : Int) + 366 ≤ (b : Int)
      · rw [hl.2 _ h2] at K4
        have t2 : decide ((a : Int) + 366 ≤ (b : Int)) = true := decide_eq_true h2
        clear hl h1 h2 KH KZ
        go_wp2_with (first
          | (refine o_load (by rfl) 38 _ rfl w.heap.size rfl _ _ _ HB.out Tryz.underlying38 rfl HSA.out ?_)
          | (go_at_call 23; (with_reducible refine (K1.out _ HL.out.date).mono ?_); rintro e y1 ⟨rfl, hb⟩; replace HB := Lib.hid (HB.out.below hb); replace HW := Lib.hid (below_to HW.out hb); replace HL := Lib.hid (HL.out.of hb); clear hb)
          | (go_at_call 23; (with_reducible refine (K2.out _ HL.out.date).mono ?_); rintro e y2 ⟨rfl, hb⟩; replace HB := Lib.hid (HB.out.below hb); replace HW := Lib.hid (below_to HW.out hb); replace HL := Lib.hid (HL.out.of hb); clear hb)
          | (go_at_call 23; (with_reducible refine (K3.out _ HL.out.date).mono ?_); rintro e y3 ⟨rfl, hb⟩; replace HB := Lib.hid (HB.out.below hb); replace HW := Lib.hid (below_to HW.out hb); replace HL := Lib.hid (HL.out.of hb); clear hb)
          | (go_at_call 23; (with_reducible refine (K4.out _ HL.out.date).mono ?_); rintro e y4 ⟨rfl, hb⟩; replace HB := Lib.hid (HB.out.below hb); replace HW := Lib.hid (below_to HW.out hb); replace HL := Lib.hid (HL.out.of hb); clear hb)
          | (go_at_call 10; (with_reducible refine (wakes_plan _ HL.out).mono ?_); rintro e y9 ⟨rfl, hb⟩; replace HB := Lib.hid (HB.out.below hb); replace HW := Lib.hid (below_to HW.out hb); replace HL := Lib.hid (HL.out.of hb); clear hb))
        go_ret
        exact ⟨rfl, HW.out⟩
      · have t2 : decide ((a : Int) + 366 ≤ (b : Int)) = false := decide_eq_false h2
        clear hl h1 h2 KH KZ K4
        go_wp2_with (first
          | (refine o_load (by rfl) 38 _ rfl w.heap.size rfl _ _ _ HB.out Tryz.underlying38 rfl HSA.out ?_)
          | (go_at_call 23; (with_reducible refine (K1.out _ HL.out.date).mono ?_); rintro e y1 ⟨rfl, hb⟩; replace HB := Lib.hid (HB.out.below hb); replace HW := Lib.hid (below_to HW.out hb); replace HL := Lib.hid (HL.out.of hb); clear hb)
          | (go_at_call 23; (with_reducible refine (K2.out _ HL.out.date).mono ?_); rintro e y2 ⟨rfl, hb⟩; replace HB := Lib.hid (HB.out.below hb); replace HW := Lib.hid (below_to HW.out hb); replace HL := Lib.hid (HL.out.of hb); clear hb)
          | (go_at_call 23; (with_reducible refine (K3.out _ HL.out.date).mono ?_); rintro e y3 ⟨rfl, hb⟩; replace HB := Lib.hid (HB.out.below hb); replace HW := Lib.hid (below_to HW.out hb); replace HL := Lib.hid (HL.out.of hb); clear hb)
          | (go_at_call 10; (with_reducible refine (wakes_plan _ HL.out).mono ?_); rintro e y9 ⟨rfl, hb⟩; replace HB := Lib.hid (HB.out.below hb); replace HW := Lib.hid (below_to HW.out hb); replace HL := Lib.hid (HL.out.of hb); clear hb))
        go_ret
        exact ⟨rfl, HW.out⟩
  · have t4 : (P != 4) = true := by rw [bne_iff_ne]; exact hp
    have K1 := Lib.hid (fun W hL => KH.out (b : Int) W hL)
    rw [holds_other p1 hp] at K1
    have K2 := Lib.hid (fun W hL => KZ.out (b : Int) W hL)
    have t5 : (P == P) = true := by simp
    clear KH KZ hp
    go_upto_region 5 with fail
    have HLd : Hid (Both z.drew) := HL.out.of (below_drawn (Below.refl _ _))
    have hS0 : Boxd z.drew w.heap.size C 38 ∧ z.drew.cell? ⟨w.heap.size, 2, none⟩ = some (.int .i64 P) := ⟨HB.out, c2⟩
    refine wp_region_held_drew (S := (fun W => Boxd W w.heap.size C 38 ∧ W.cell? ⟨w.heap.size, 2, none⟩ = some (.int .i64 P))) (by kernel_rfl) hS0 (fun hHeld => ?_)
    refine take_row 0 23 rfl rfl (by kernel_rfl) (by kernel_rfl) (by kernel_rfl) 38 _ rfl w.heap.size rfl C _ Tryz.underlying38 rfl HSA.out (fun _ h => h.1) (fun _ _ _ h => h) (by rfl) (by assumption) ?_
    (try simp only [Act.put, List.setIfInBounds_toArray, List.set_cons_zero, List.set_cons_succ])
    refine ByHand.take_yes (v := ?_) 1 24 rfl rfl (by kernel_rfl) (by kernel_rfl) (by kernel_rfl) (fun _ _ _ h => h) (by rfl) ?_ (by assumption) ?_
    rotate_left
    · intro w' hSw
      (try dsimp only at hSw)
      go_simp
      all_goals with_reducible rfl
    (try simp only [Act.put, List.setIfInBounds_toArray, List.set_cons_zero, List.set_cons_succ])
    refine ByHand.take_yes (v := ?_) 3 26 rfl rfl (by kernel_rfl) (by kernel_rfl) (by kernel_rfl) (fun _ _ _ h => h) (by rfl) ?_ (by assumption) ?_
    rotate_left
    · intro w' hSw
      (try dsimp only at hSw)
      go_simp
      all_goals with_reducible rfl
    (try simp only [Act.put, List.setIfInBounds_toArray, List.set_cons_zero, List.set_cons_succ])
    refine ByHand.take_yes (v := ?_) 4 27 rfl rfl (by kernel_rfl) (by kernel_rfl) (by kernel_rfl) (fun _ _ _ h => h) (by rfl) ?_ (by assumption) ?_
    rotate_left
    · intro w' hSw
      (try dsimp only at hSw)
      go_simp
      all_goals with_reducible rfl
    (try simp only [Act.put, List.setIfInBounds_toArray, List.set_cons_zero, List.set_cons_succ])
    refine wpAnyH_ready (rs := [2]) (by kernel_rfl) (by simp) (AllReadyH.cons rfl (fun K hK => ?_) AllReadyH.nil)
    go_simp
    refine (K1.out _ HLd.out.1).mono ?_
    rintro e y1 ⟨rfl, hb⟩
    replace hb := drawn_below hb
    replace HB := Lib.hid (HB.out.below hb)
    replace HW := Lib.hid (below_to HW.out hb)
    replace HL := Lib.hid (HL.out.of hb)
    clear hb
    have hS1 := And.intro HB.out ((HB.out.cell (i := 2)).trans X2.out)
    go_wp2_with fail
    refine hK.out _ _ ?_ (fun hHeld => ?_)
    · exact hS1
    clear hK K
    (try simp only [Act.put, List.setIfInBounds_toArray, List.set_cons_zero, List.set_cons_succ])
    refine ByHand.take_yes (v := ?_) 5 28 rfl rfl (by kernel_rfl) (by kernel_rfl) (by kernel_rfl) (fun _ _ _ h => h) (by rfl) ?_ (by assumption) ?_
    rotate_left
    · intro w' hSw
      (try dsimp only at hSw)
      go_simp
      all_goals with_reducible rfl
    (try simp only [Act.put, List.setIfInBounds_toArray, List.set_cons_zero, List.set_cons_succ])
    refine ByHand.take_yes (v := ?_) 6 29 rfl rfl (by kernel_rfl) (by kernel_rfl) (by kernel_rfl) (fun _ _ _ h => h) (by rfl) ?_ (by assumption) ?_
    rotate_left
    · intro w' hSw
      (try dsimp only at hSw)
      go_simp
      all_goals with_reducible rfl
    (try simp only [Act.put, List.setIfInBounds_toArray, List.set_cons_zero, List.set_cons_succ])
    refine ByHand.take_yes (v := ?_) 7 30 rfl rfl (by kernel_rfl) (by kernel_rfl) (by kernel_rfl) (fun _ _ _ h => h) (by rfl) ?_ (by assumption) ?_
    rotate_left
    · intro w' hSw
      (try dsimp only at hSw)
      go_simp
      all_goals with_reducible rfl
    (try simp only [Act.put, List.setIfInBounds_toArray, List.set_cons_zero, List.set_cons_succ])
    refine ByHand.take_yes (v := ?_) 8 31 rfl rfl (by kernel_rfl) (by kernel_rfl) (by kernel_rfl) (fun _ _ _ h => h) (by rfl) ?_ (by assumption) ?_
    rotate_left
    · intro w' hSw
      (try dsimp only at hSw)
      go_simp
      all_goals with_reducible rfl
    (try simp only [Act.put, List.setIfInBounds_toArray, List.set_cons_zero, List.set_cons_succ])
    refine ByHand.take_yes (v := ?_) 9 32 rfl rfl (by kernel_rfl) (by kernel_rfl) (by kernel_rfl) (fun _ _ _ h => h) (by rfl) ?_ (by assumption) ?_
    rotate_left
    · intro w' hSw
      (try dsimp only at hSw)
      go_simp
      all_goals with_reducible rfl
    (try simp only [Act.put, List.setIfInBounds_toArray, List.set_cons_zero, List.set_cons_succ])
    refine wpAnyH_ready (rs := [10]) (by kernel_rfl) (by simp) (AllReadyH.cons rfl (fun K hK => ?_) AllReadyH.nil)
    go_simp
    refine (K2.out _ HL.out.1).mono ?_
    rintro e y2 ⟨rfl, hb⟩
    replace HB := Lib.hid (HB.out.below hb)
    replace HW := Lib.hid (below_to HW.out hb)
    replace HL := Lib.hid (HL.out.of hb)
    clear hb
    have hS2 := And.intro HB.out ((HB.out.cell (i := 2)).trans X2.out)
    go_wp2_with fail
    refine hK.out _ _ ?_ (fun hHeld => ?_)
    · exact hS2
    clear hK K
    (try simp only [Act.put, List.setIfInBounds_toArray, List.set_cons_zero, List.set_cons_succ])
    refine ByHand.take_yes (v := ?_) 11 34 rfl rfl (by kernel_rfl) (by kernel_rfl) (by kernel_rfl) (fun _ _ _ h => h) (by rfl) ?_ (by assumption) ?_
    rotate_left
    · intro w' hSw
      (try dsimp only at hSw)
      go_simp
      all_goals with_reducible rfl
    (try simp only [Act.put, List.setIfInBounds_toArray, List.set_cons_zero, List.set_cons_succ])
    refine ByHand.take_yes (v := ?_) 12 35 rfl rfl (by kernel_rfl) (by kernel_rfl) (by kernel_rfl) (fun _ _ _ h => h) (by rfl) ?_ (by assumption) ?_
    rotate_left
    · intro w' hSw
      (try dsimp only at hSw)
      go_simp
      all_goals with_reducible rfl
    (try simp only [Act.put, List.setIfInBounds_toArray, List.set_cons_zero, List.set_cons_succ])
    refine ByHand.take_yes (v := ?_) 13 36 rfl rfl (by kernel_rfl) (by kernel_rfl) (by kernel_rfl) (fun _ _ _ h => h) (by rfl) ?_ (by assumption) ?_
    rotate_left
    · intro w' hSw
      (try dsimp only at hSw)
      go_simp
      all_goals with_reducible rfl
    (try simp only [Act.put, List.setIfInBounds_toArray, List.set_cons_zero, List.set_cons_succ])
    refine wpAnyH_ready (rs := [14]) (by kernel_rfl) (by simp) (AllReadyH.cons rfl (fun K hK => ?_) AllReadyH.nil)
    go_simp
    refine (wakes_plan _ HL.out).mono ?_
    rintro e y3 ⟨rfl, hb⟩
    replace HB := Lib.hid (HB.out.below hb)
    replace HW := Lib.hid (below_to HW.out hb)
    replace HL := Lib.hid (HL.out.of hb)
    clear hb
    have hS3 := And.intro HB.out ((HB.out.cell (i := 2)).trans X2.out)
    go_wp2_with fail
    refine hK.out _ _ ?_ (fun hHeld => ?_)
    · exact hS3
    clear hK K
    (try simp only [Act.put, List.setIfInBounds_toArray, List.set_cons_zero, List.set_cons_succ])
    refine ByHand.take_yes (v := ?_) 15 38 rfl rfl (by kernel_rfl) (by kernel_rfl) (by kernel_rfl) (fun _ _ _ h => h) (by rfl) ?_ (by assumption) ?_
    rotate_left
    · intro w' hSw
      (try dsimp only at hSw)
      go_simp
      all_goals with_reducible rfl
    (try simp only [Act.put, List.setIfInBounds_toArray, List.set_cons_zero, List.set_cons_succ])
    refine ByHand.take_yes (v := ?_) 16 6 rfl rfl (by kernel_rfl) (by kernel_rfl) (by kernel_rfl) (fun _ _ _ h => h) (by rfl) ?_ (by assumption) ?_
    rotate_left
    · intro w' hSw
      (try dsimp only at hSw)
      go_simp
      all_goals with_reducible rfl
    (try simp only [Act.put, List.setIfInBounds_toArray, List.set_cons_zero, List.set_cons_succ])
    refine wpAnyH_done (by kernel_rfl) ?_ _
    go_wp2_with fail
    go_ret
    exact ⟨rfl, HW.out⟩

set_option maxRecDepth 100000 in
theorem planLapses_lifted (os : Os) (started : os.Started) (H : Type) (enc : TypeId × Value → H) :
    ReturnsInHanded {} Tryz.checked os 6 .any (fun w args => (Rows.planLapsesSpec.pre enc Tryz.prog Tryz.f6 Rows.planLapsesRow.domain false w args ∧ laidMetH Tryz.prog Rows.planLapsesRow.laid w) ∧ sizedMet enc Tryz.prog Tryz.f6 (OpenSpec.ofChange Rows.planLapsesSpec) false w args) (Rows.planLapsesSpec.post enc Tryz.prog Tryz.f6 false true false false) := by
  refine Door.law_lifted (C := Tryz.checked) (tb := 4) (by kernel_rfl) started (by kernel_rfl) Tryz.func6
    (ChangeSpec.witness_shaped (enc := enc) (C := Tryz.checked) (os := os) (X := fun w _ => laidMetH Tryz.prog Rows.planLapsesRow.laid w) false (World.laidAll Tryz.prog os Rows.planLapsesRow.laid) #[.int .i64 0, .int .i64 0, .int .u8 0] 8 (World.laidAll_os _ _ _)
      (World.shaped_of_ZipB (by kernel_rfl) (by kernel_rfl)) (by kernel_rfl) (by kernel_rfl) (by kernel_rfl)
      (by rw [MakeChecks.laidMetH_plain _ _ _ (by kernel_rfl)]; exact laidMet_laidAll _ (by kernel_rfl) (by kernel_rfl)))
    (by kernel_rfl) (by kernel_rfl) rfl rfl Tryz.underlying4 ?_
  intro W base args ds p hval0 hA0 hL
  have hval : ∀ (j : Nat) t v, Tryz.f6.params[j]? = some t → args[j]? = some v → Value.okWide Tryz.prog W .any base t v := hval0
  have hA : DataW.TrodAll enc Tryz.prog W 0 (fun _ => true) true Tryz.f6.params.toList args.toList ds p := hA0
  clear hval0 hA0
  rw [MakeChecks.laidMetH_plain _ _ _ (by kernel_rfl)] at hL
  rw [Tryz.params6] at hA hval
  obtain ⟨v0, vs0, d0, ds0, p0, q0, hargs, rfl, rfl, h0, r0⟩ := trodAll_cons hA
  obtain ⟨v1, vs1, d1, ds1, p1, q1, rfl, rfl, rfl, h1, r1⟩ := trodAll_cons r0
  obtain ⟨v2, vs2, d2, ds2, p2, q2, rfl, rfl, rfl, h2, r2⟩ := trodAll_cons r1
  obtain ⟨rfl, rfl, rfl⟩ := trodAll_nil r2
  obtain rfl : args = #[v0, v1, v2] := by cases args; simp_all
  refine ⟨rfl, ?_⟩
  obtain ⟨since, rfl, -, -, g0⟩ := open_int Tryz.underlying3 (hval 0 3 v0 rfl rfl) h0
  obtain ⟨day, rfl, -, -, g1⟩ := open_int Tryz.underlying3 (hval 1 3 v1 rfl rfl) h1
  obtain ⟨how, rfl, -, -, g2⟩ := open_int Tryz.underlying5 (hval 2 5 v2 rfl rfl) h2
  have b2 : 0 ≤ how ∧ how ≤ 255 := by simpa [Lit.wf, IntKind.min, IntKind.max, IntKind.bits, IntKind.signed] using g2
  have LD : Hid (Both W) := ⟨Date.laid_of hL (by exact List.mem_cons_self ..), Step.laid_of hL (by exact List.mem_cons_of_mem _ (List.mem_cons_self ..))⟩
  exact lapses_walk since day how W b2 LD

theorem planLapses_over : Rows.planLapsesRow.holds Tryz.pinned (OpenSpec.ofChange Rows.planLapsesSpec) :=
  OpenClaim.holds_of_wide 6 Tryz.f6 rfl rfl rfl rfl rfl rfl rfl ⟨rfl, rfl, rfl, rfl, rfl⟩ rfl rfl rfl rfl rfl (by kernel_rfl) Tryz.func6 (by kernel_rfl)
    (of_decide_eq_true (by kernel_rfl)) (by unfold Func.isWrapper; first | (rw [if_pos (by decide +kernel)]; kernel_rfl) | (rw [if_neg (by decide +kernel)]; exact ⟨rfl, rfl⟩))
    (fun os st H enc _ => planLapses_lifted os st H enc)

/-- The statement: the card. -/
theorem planLapses_proved : Rows.PlanLapsesCardSaid :=
  Claim7.holds_tied_plain_at .later [] [.data, .data] true Rows.planLapsesCard.stood.harness true
    planLapses_over (fun _ h => by cases h) (by kernel_rfl) (fun _ h => by cases h) planLapses_row_tie rfl ⟨rfl, rfl⟩ (by kernel_rfl) rfl
    (fun f fn hf hfn => by
      obtain rfl : f = 6 := Option.some.inj ((show Tryz.prog.funcNamed "annuity/annuitylaw18.PlanLapses" = some 6 by kernel_rfl).symm.trans hf) |>.symm
      obtain rfl : fn = Tryz.f6 := (Option.some.inj (Tryz.func6.symm.trans hfn)).symm
      exact ⟨by kernel_rfl, fun j t ht => by
        have hall : (Tryz.f6.params.toList.all fun u => !Tryz.prog.wantsStandIn u) = true := by kernel_rfl
        exact (show Tryz.prog.wantsStandIn t = false by simpa using List.all_eq_true.1 hall t (Array.mem_def.1 (Array.mem_of_getElem? ht)))⟩)
    (by kernel_rfl)
end Go.Proofs.YtdohbmgbpjjjhaaGreatDoor.Law
