/- plan's Set answers what the document's own answer, at any loan; no condition. -/
import Derived.Test.YtdohbmgbpjjjhaaGreatDoorCards
import Derived.Test.YtdohbmgbpjjjhaaGreatDoorTie
import Derived.Test.YtdohbmgbpjjjhaaGreatDoorGA
import Derived.Test.YtdohbmgbpjjjhaaGreatDoorPlanWakes
import Derived.Test.YtdohbmgbpjjjhaaGreatDoorRefPlanSet
import Derived.Test.YtdohbmgbpjjjhaaGreatDoorGRLo
import Derived.Test.YtdohbmgbpjjjhaaGreatDoorGLo
namespace Go.Proofs.YtdohbmgbpjjjhaaGreatDoor.Law
open Go.ChangeShapes Go.WideShapes Go.ChangeAt Go.RowKit Loan Money Box Rws Slice Plan

set_option maxRecDepth 20000 in
set_option maxHeartbeats 2000000 in
theorem sets_walk (l : Ln) (w : World) (LD : Hid (Both w)) : Calls Tryz.prog 3 #[.agg l.cells] w fun e w' => e = .returned (.bool true) ∧ Below w.heap.size w w' := by
  obtain ⟨g, wb, e1, e2, hB, hb⟩ := boxd_new w l.cells 23
  have HB := Lib.hid hB
  have HW := Lib.hid hb
  have HL : Hid (Both wb) := LD.out.of hb
  clear hB hb LD
  have HS := Lib.hid (ln_info l)
  have HSD := Lib.hid (ln_info (setR l).1)
  have HOD := Lib.hid (ln_one (setR l).1)
  have HZD : Hid (13 = (setR l).1.cells.size) := show _ = _ from rfl
  have K1 := Lib.hid (fun W => c_set l W)
  have K2 := Lib.hid (fun W => r_set l W)
  have K3 := Lib.hid (fun W => RLoan.alike (setR l).1 W)
  generalize (setR l).1.cells = D at *
  generalize (setR l).2 = x at *
  have t0 : (x == x) = true := by simp
  generalize l.cells = C at *
  go_enter Tryz.func3, Tryz.ntmps3
  go_upto_region 1 with fail
  rw [← e2, ← e1]
  clear e1 e2
  go_upto_region 2 with (first
    | (refine o_load rfl 23 _ rfl _ rfl _ _ _ HB.out Tryz.underlying23 rfl HS.out ?_)
    | (go_at_call 7; (with_reducible refine (K1.out _).mono ?_); rintro e y1 ⟨rfl, hb⟩; replace HB := Lib.hid (HB.out.below hb); replace HW := Lib.hid (below_to HW.out hb); replace HL := Lib.hid (HL.out.of hb); clear hb)
    | (refine o_store rfl 23 _ _ rfl rfl y1.heap.size _ rfl rfl _ _ (heap_alloc_last _ _) HSD.out HZD.out HOD.out ?_; intro z1 hr ho; have HD := Lib.hid hr; replace HB := Lib.hid ((HB.out.below (below_one _ _)).one ho (Nat.ne_of_lt HB.out.lt)); replace HL := Lib.hid (HL.out.of (below_one_of (below_one _ _) ho (Nat.le_refl _) (below_one y1 _).size)); replace HW := Lib.hid (below_one_of (below_to HW.out (below_one _ _)) ho HW.out.size (below_to HW.out (below_one _ _)).size); clear hr ho))
  go_upto_region 3 with (first
    | (refine o_load rfl 23 _ rfl _ rfl _ _ _ HB.out Tryz.underlying23 rfl HS.out ?_)
    | (go_at_call 8; (with_reducible refine (K2.out _).mono ?_); rintro e y2 ⟨rfl, hb⟩; replace HD := Lib.hid (HD.out.below hb); replace HB := Lib.hid (HB.out.below hb); replace HW := Lib.hid (below_to HW.out hb); replace HL := Lib.hid (HL.out.of hb); clear hb)
    | (refine o_store rfl 23 _ _ rfl rfl y2.heap.size _ rfl rfl _ _ (heap_alloc_last _ _) HSD.out HZD.out HOD.out ?_; intro z2 hr ho; have HE := Lib.hid hr; replace HD := Lib.hid ((HD.out.below (below_one _ _)).one ho (Nat.ne_of_lt HD.out.lt)); replace HB := Lib.hid ((HB.out.below (below_one _ _)).one ho (Nat.ne_of_lt HB.out.lt)); replace HL := Lib.hid (HL.out.of (below_one_of (below_one _ _) ho (Nat.le_refl _) (below_one y2 _).size)); replace HW := Lib.hid (below_one_of (below_to HW.out (below_one _ _)) ho HW.out.size (below_to HW.out (below_one _ _)).size); clear hr ho))
  go_wp2_with (first
    | (refine o_load rfl 23 _ rfl _ rfl _ _ _ HD.out Tryz.underlying23 rfl HSD.out ?_)
    | (refine o_load rfl 23 _ rfl _ rfl _ _ _ HE.out Tryz.underlying23 rfl HSD.out ?_)
    | (go_at_call 9; (with_reducible refine (K3.out _).mono ?_); rintro e y3 ⟨rfl, hb⟩; replace HB := Lib.hid (HB.out.below hb); replace HW := Lib.hid (below_to HW.out hb); replace HL := Lib.hid (HL.out.of hb); clear hb)
    | (go_at_call 10; (with_reducible refine (wakes_plan _ HL.out).mono ?_); rintro e y4 ⟨rfl, hb⟩; replace HB := Lib.hid (HB.out.below hb); replace HW := Lib.hid (below_to HW.out hb); replace HL := Lib.hid (HL.out.of hb); clear hb))
  go_ret
  exact ⟨rfl, HW.out⟩

set_option maxRecDepth 100000 in
theorem planSets_lifted (os : Os) (started : os.Started) (H : Type) (enc : TypeId × Value → H) :
    ReturnsInHanded {} Tryz.checked os 3 .any (fun w args => (Rows.planSetsSpec.pre enc Tryz.prog Tryz.f3 Rows.planSetsRow.domain false w args ∧ laidMetH Tryz.prog Rows.planSetsRow.laid w) ∧ sizedMet enc Tryz.prog Tryz.f3 (OpenSpec.ofChange Rows.planSetsSpec) false w args) (Rows.planSetsSpec.post enc Tryz.prog Tryz.f3 false true false false) := by
  refine Door.law_lifted (C := Tryz.checked) (tb := 4) (by kernel_rfl) started (by kernel_rfl) Tryz.func3
    (ChangeSpec.witness_shaped (enc := enc) (C := Tryz.checked) (os := os) (X := fun w _ => laidMetH Tryz.prog Rows.planSetsRow.laid w) false (World.laidAll Tryz.prog os Rows.planSetsRow.laid) #[Value.agg #[.int .i64 0, .int .i64 0, .int .i64 0, .int .i64 0, .int .i64 0, .int .i64 0, .bool false, .int .i64 0, .int .i64 0, .int .i64 0, .int .i64 0, .int .i64 0, .int .i64 0]] 8 (World.laidAll_os _ _ _)
      (World.shaped_of_ZipB (by kernel_rfl) (by kernel_rfl)) (by kernel_rfl) (by kernel_rfl) (by kernel_rfl)
      (by rw [MakeChecks.laidMetH_plain _ _ _ (by kernel_rfl)]; exact laidMet_laidAll _ (by kernel_rfl) (by kernel_rfl)))
    (by kernel_rfl) (by kernel_rfl) rfl rfl Tryz.underlying4 ?_
  intro W base args ds p hval0 hA0 hL
  have hval : ∀ (j : Nat) t v, Tryz.f3.params[j]? = some t → args[j]? = some v → Value.okWide Tryz.prog W .any base t v := hval0
  have hA : DataW.TrodAll enc Tryz.prog W 0 (fun _ => true) true Tryz.f3.params.toList args.toList ds p := hA0
  clear hval0 hA0
  rw [MakeChecks.laidMetH_plain _ _ _ (by kernel_rfl)] at hL
  rw [Tryz.params3] at hA hval
  obtain ⟨v0, vs0, d0, ds0, p0, q0, hargs, rfl, rfl, h0, r0⟩ := trodAll_cons hA
  obtain ⟨rfl, rfl, rfl⟩ := trodAll_nil r0
  obtain rfl : args = #[v0] := by cases args; simp_all
  refine ⟨rfl, ?_⟩
  obtain ⟨l, rfl, -⟩ := open_ln (hval 0 23 v0 rfl rfl) h0
  have LD : Hid (Both W) := ⟨Date.laid_of hL (by exact List.mem_cons_self ..), Step.laid_of hL (by exact List.mem_cons_of_mem _ (List.mem_cons_self ..))⟩
  exact sets_walk l W LD

theorem planSets_over : Rows.planSetsRow.holds Tryz.pinned (OpenSpec.ofChange Rows.planSetsSpec) :=
  OpenClaim.holds_of_wide 3 Tryz.f3 rfl rfl rfl rfl rfl rfl rfl ⟨rfl, rfl, rfl, rfl, rfl⟩ rfl rfl rfl rfl rfl (by kernel_rfl) Tryz.func3 (by kernel_rfl)
    (of_decide_eq_true (by kernel_rfl)) (by unfold Func.isWrapper; first | (rw [if_pos (by decide +kernel)]; kernel_rfl) | (rw [if_neg (by decide +kernel)]; exact ⟨rfl, rfl⟩))
    (fun os st H enc _ => planSets_lifted os st H enc)

/-- The statement: the card. -/
theorem planSets_proved : Rows.PlanSetsCardSaid :=
  Claim7.holds_tied_plain_at .later [] [.data, .data] true Rows.planSetsCard.stood.harness true
    planSets_over (fun _ h => by cases h) (by kernel_rfl) (fun _ h => by cases h) planSets_row_tie rfl ⟨rfl, rfl⟩ (by kernel_rfl) rfl
    (fun f fn hf hfn => by
      obtain rfl : f = 3 := Option.some.inj ((show Tryz.prog.funcNamed "annuity/annuitylaw18.PlanSets" = some 3 by kernel_rfl).symm.trans hf) |>.symm
      obtain rfl : fn = Tryz.f3 := (Option.some.inj (Tryz.func3.symm.trans hfn)).symm
      exact ⟨by kernel_rfl, fun j t ht => by
        have hall : (Tryz.f3.params.toList.all fun u => !Tryz.prog.wantsStandIn u) = true := by kernel_rfl
        exact (show Tryz.prog.wantsStandIn t = false by simpa using List.all_eq_true.1 hall t (Array.mem_def.1 (Array.mem_of_getElem? ht)))⟩)
    (by kernel_rfl)
end Go.Proofs.YtdohbmgbpjjjhaaGreatDoor.Law
