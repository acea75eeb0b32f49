/- Any loan in any other status, with a fee, with a draw more: loan's answers are the document's own; no condition. -/
import Derived.Test.YtkegmgjagcefhaaShell
import Derived.Test.YtkegmgjagcefhaaOpenLn
import Derived.Test.YtkegmgjagcefhaaLoanWakes
import Derived.Test.YtkegmgjagcefhaaRefLoan3
import Derived.Test.YtkegmgjagcefhaaRefLoan4
namespace Go.Proofs.Ytkegmgjagcefhaa.Law
open Go.ChangeShapes Go.WideShapes Go.ChangeAt Go.RowKit Accr Box Loan RLoan

set_option maxRecDepth 20000 in
set_option maxHeartbeats 2000000 in
theorem turns_walk (l : Ln) (s d a : Int) (w : World) : Calls Try.prog 4 #[.agg l.cells, .agg #[.int .i64 s, .int .i64 d], .int .i64 a] w fun e w' => e = .returned (.bool true) ∧ Below w.heap.size w w' := by
  obtain ⟨g, w0, e0, f0, hB, hb⟩ := boxd_new w l.cells 23
  obtain ⟨k, w1, e1, f1, hK, hb2⟩ := boxd_new w0 #[.int .i64 s, .int .i64 d] 39
  have b1 : k = g + 1 := by rw [e1, f0, Deep.nblk_alloc, ← e0]
  have HL : Hid (Boxd w1 g l.cells 23) := hB.below hb2
  have HK : Hid (Boxd w1 k #[.int .i64 s, .int .i64 d] 39) := hK
  have HW : Hid (Below w.heap.size w w1) := below_to hb hb2
  clear hB hK hb hb2
  have K1 := Lib.hid (fun W => c_turn l s d W)
  have K2 := Lib.hid (fun W => r_turn l s d W)
  have K3 := Lib.hid (fun W => c_fee l a W)
  have K4 := Lib.hid (fun W => r_fee l a W)
  have K5 := Lib.hid (fun W => c_draw l a W)
  have K6 := Lib.hid (fun W => r_draw l a W)
  have KD := Lib.hid (fun W => alike (turnR l s d).1 W)
  have KE := Lib.hid (fun W => alike (feeR l a).1 W)
  have KF := Lib.hid (fun W => alike (drawR l a).1 W)
  have KW := Lib.hid wakes_loan
  have HSL := Lib.hid (ln_info l)
  have HSD := Lib.hid (ln_info (turnR l s d).1)
  have HOD := Lib.hid (ln_one (turnR l s d).1)
  have HZD : Hid (13 = ((turnR l s d).1).cells.size) := show _ = _ from rfl
  have HSE := Lib.hid (ln_info (feeR l a).1)
  have HOE := Lib.hid (ln_one (feeR l a).1)
  have HZE : Hid (13 = ((feeR l a).1).cells.size) := show _ = _ from rfl
  have HSF := Lib.hid (ln_info (drawR l a).1)
  have HOF := Lib.hid (ln_one (drawR l a).1)
  have HZF : Hid (13 = ((drawR l a).1).cells.size) := show _ = _ from rfl
  generalize (turnR l s d).1.cells = D at *
  generalize (turnR l s d).2 = x1 at *
  have t1 : (x1 == x1) = true := by simp
  generalize (feeR l a).1.cells = E at *
  generalize (feeR l a).2 = x2 at *
  have t2 : (x2 == x2) = true := by simp
  generalize (drawR l a).1.cells = F at *
  generalize (drawR l a).2 = x3 at *
  have t3 : (x3 == x3) = true := by simp
  generalize l.cells = C at *
  go_enter Try.func4, Try.ntmps4
  go_upto_region 1 with fail
  rw [← f0, ← e0]
  rw [← f1, ← b1]
  clear e0 f0 e1 f1 b1
  have k0 := (HK.out.cell (i := 0)).trans (show (#[.int .i64 s, .int .i64 d] : Array Value)[0]? = some (.int .i64 s) from rfl)
  have k1 := (HK.out.cell (i := 1)).trans (show (#[.int .i64 s, .int .i64 d] : Array Value)[1]? = some (.int .i64 d) from rfl)
  go_upto_region 2 with (first
    | (refine o_load rfl 23 _ rfl _ rfl _ _ _ HL.out Try.underlying23 rfl HSL.out ?_)
    | (go_at_call 18; with_reducible refine (K1.out _).mono ?_; rintro e y1 ⟨rfl, hb⟩; replace HL := Lib.hid (HL.out.below hb); replace HK := Lib.hid (HK.out.below hb); replace HW := Lib.hid (below_to HW.out hb); clear hb)
    | (refine o_store rfl 23 _ _ rfl rfl y1.heap.size _ rfl rfl _ _ (heap_alloc_last _ _) HSD.out HZD.out HOD.out ?_; intro z1 hr ho; replace HL := Lib.hid ((HL.out.below (below_one _ _)).one ho (Nat.ne_of_lt HL.out.lt)); replace HK := Lib.hid ((HK.out.below (below_one _ _)).one ho (Nat.ne_of_lt HK.out.lt)); have HA := Lib.hid hr; replace HW := Lib.hid (below_one_of (below_to HW.out (below_one _ _)) ho HW.out.size (below_to HW.out (below_one _ _)).size); clear hr ho))
  have k0 := (HK.out.cell (i := 0)).trans (show (#[.int .i64 s, .int .i64 d] : Array Value)[0]? = some (.int .i64 s) from rfl)
  have k1 := (HK.out.cell (i := 1)).trans (show (#[.int .i64 s, .int .i64 d] : Array Value)[1]? = some (.int .i64 d) from rfl)
  go_upto_region 3 with (first
    | (refine o_load rfl 23 _ rfl _ rfl _ _ _ HL.out Try.underlying23 rfl HSL.out ?_)
    | (refine o_load rfl 23 _ rfl _ rfl _ _ _ HA.out Try.underlying23 rfl HSD.out ?_)
    | (go_at_call 19; with_reducible refine (K2.out _).mono ?_; rintro e y2 ⟨rfl, hb⟩; replace HL := Lib.hid (HL.out.below hb); replace HK := Lib.hid (HK.out.below hb); replace HA := Lib.hid (HA.out.below hb); replace HW := Lib.hid (below_to HW.out hb); clear hb)
    | (refine o_store rfl 23 _ _ rfl rfl y2.heap.size _ rfl rfl _ _ (heap_alloc_last _ _) HSD.out HZD.out HOD.out ?_; intro z2 hr ho; replace HL := Lib.hid ((HL.out.below (below_one _ _)).one ho (Nat.ne_of_lt HL.out.lt)); replace HK := Lib.hid ((HK.out.below (below_one _ _)).one ho (Nat.ne_of_lt HK.out.lt)); replace HA := Lib.hid ((HA.out.below (below_one _ _)).one ho (Nat.ne_of_lt HA.out.lt)); have HB := Lib.hid hr; replace HW := Lib.hid (below_one_of (below_to HW.out (below_one _ _)) ho HW.out.size (below_to HW.out (below_one _ _)).size); clear hr ho))
  go_upto_region 4 with (first
    | (refine o_load rfl 23 _ rfl _ rfl _ _ _ HL.out Try.underlying23 rfl HSL.out ?_)
    | (refine o_load rfl 23 _ rfl _ rfl _ _ _ HA.out Try.underlying23 rfl HSD.out ?_)
    | (refine o_load rfl 23 _ rfl _ rfl _ _ _ HB.out Try.underlying23 rfl HSD.out ?_)
    | (go_at_call 20; with_reducible refine (K3.out _).mono ?_; rintro e y3 ⟨rfl, hb⟩; replace HL := Lib.hid (HL.out.below hb); replace HK := Lib.hid (HK.out.below hb); replace HA := Lib.hid (HA.out.below hb); replace HB := Lib.hid (HB.out.below hb); replace HW := Lib.hid (below_to HW.out hb); clear hb)
    | (refine o_store rfl 23 _ _ rfl rfl y3.heap.size _ rfl rfl _ _ (heap_alloc_last _ _) HSE.out HZE.out HOE.out ?_; intro z3 hr ho; replace HL := Lib.hid ((HL.out.below (below_one _ _)).one ho (Nat.ne_of_lt HL.out.lt)); replace HK := Lib.hid ((HK.out.below (below_one _ _)).one ho (Nat.ne_of_lt HK.out.lt)); replace HA := Lib.hid ((HA.out.below (below_one _ _)).one ho (Nat.ne_of_lt HA.out.lt)); replace HB := Lib.hid ((HB.out.below (below_one _ _)).one ho (Nat.ne_of_lt HB.out.lt)); have HP := Lib.hid hr; replace HW := Lib.hid (below_one_of (below_to HW.out (below_one _ _)) ho HW.out.size (below_to HW.out (below_one _ _)).size); clear hr ho))
  go_upto_region 5 with (first
    | (refine o_load rfl 23 _ rfl _ rfl _ _ _ HL.out Try.underlying23 rfl HSL.out ?_)
    | (refine o_load rfl 23 _ rfl _ rfl _ _ _ HA.out Try.underlying23 rfl HSD.out ?_)
    | (refine o_load rfl 23 _ rfl _ rfl _ _ _ HB.out Try.underlying23 rfl HSD.out ?_)
    | (refine o_load rfl 23 _ rfl _ rfl _ _ _ HP.out Try.underlying23 rfl HSE.out ?_)
    | (go_at_call 21; with_reducible refine (K4.out _).mono ?_; rintro e y4 ⟨rfl, hb⟩; replace HL := Lib.hid (HL.out.below hb); replace HK := Lib.hid (HK.out.below hb); replace HA := Lib.hid (HA.out.below hb); replace HB := Lib.hid (HB.out.below hb); replace HP := Lib.hid (HP.out.below hb); replace HW := Lib.hid (below_to HW.out hb); clear hb)
    | (refine o_store rfl 23 _ _ rfl rfl y4.heap.size _ rfl rfl _ _ (heap_alloc_last _ _) HSE.out HZE.out HOE.out ?_; intro z4 hr ho; replace HL := Lib.hid ((HL.out.below (below_one _ _)).one ho (Nat.ne_of_lt HL.out.lt)); replace HK := Lib.hid ((HK.out.below (below_one _ _)).one ho (Nat.ne_of_lt HK.out.lt)); replace HA := Lib.hid ((HA.out.below (below_one _ _)).one ho (Nat.ne_of_lt HA.out.lt)); replace HB := Lib.hid ((HB.out.below (below_one _ _)).one ho (Nat.ne_of_lt HB.out.lt)); replace HP := Lib.hid ((HP.out.below (below_one _ _)).one ho (Nat.ne_of_lt HP.out.lt)); have HQ := Lib.hid hr; replace HW := Lib.hid (below_one_of (below_to HW.out (below_one _ _)) ho HW.out.size (below_to HW.out (below_one _ _)).size); clear hr ho))
  go_upto_region 6 with (first
    | (refine o_load rfl 23 _ rfl _ rfl _ _ _ HL.out Try.underlying23 rfl HSL.out ?_)
    | (refine o_load rfl 23 _ rfl _ rfl _ _ _ HA.out Try.underlying23 rfl HSD.out ?_)
    | (refine o_load rfl 23 _ rfl _ rfl _ _ _ HB.out Try.underlying23 rfl HSD.out ?_)
    | (refine o_load rfl 23 _ rfl _ rfl _ _ _ HP.out Try.underlying23 rfl HSE.out ?_)
    | (refine o_load rfl 23 _ rfl _ rfl _ _ _ HQ.out Try.underlying23 rfl HSE.out ?_)
    | (go_at_call 22; with_reducible refine (K5.out _).mono ?_; rintro e y5 ⟨rfl, hb⟩; replace HL := Lib.hid (HL.out.below hb); replace HK := Lib.hid (HK.out.below hb); replace HA := Lib.hid (HA.out.below hb); replace HB := Lib.hid (HB.out.below hb); replace HP := Lib.hid (HP.out.below hb); replace HQ := Lib.hid (HQ.out.below hb); replace HW := Lib.hid (below_to HW.out hb); clear hb)
    | (refine o_store rfl 23 _ _ rfl rfl y5.heap.size _ rfl rfl _ _ (heap_alloc_last _ _) HSF.out HZF.out HOF.out ?_; intro z5 hr ho; replace HL := Lib.hid ((HL.out.below (below_one _ _)).one ho (Nat.ne_of_lt HL.out.lt)); replace HK := Lib.hid ((HK.out.below (below_one _ _)).one ho (Nat.ne_of_lt HK.out.lt)); replace HA := Lib.hid ((HA.out.below (below_one _ _)).one ho (Nat.ne_of_lt HA.out.lt)); replace HB := Lib.hid ((HB.out.below (below_one _ _)).one ho (Nat.ne_of_lt HB.out.lt)); replace HP := Lib.hid ((HP.out.below (below_one _ _)).one ho (Nat.ne_of_lt HP.out.lt)); replace HQ := Lib.hid ((HQ.out.below (below_one _ _)).one ho (Nat.ne_of_lt HQ.out.lt)); have HU := Lib.hid hr; replace HW := Lib.hid (below_one_of (below_to HW.out (below_one _ _)) ho HW.out.size (below_to HW.out (below_one _ _)).size); clear hr ho))
  go_upto_region 7 with (first
    | (refine o_load rfl 23 _ rfl _ rfl _ _ _ HL.out Try.underlying23 rfl HSL.out ?_)
    | (refine o_load rfl 23 _ rfl _ rfl _ _ _ HA.out Try.underlying23 rfl HSD.out ?_)
    | (refine o_load rfl 23 _ rfl _ rfl _ _ _ HB.out Try.underlying23 rfl HSD.out ?_)
    | (refine o_load rfl 23 _ rfl _ rfl _ _ _ HP.out Try.underlying23 rfl HSE.out ?_)
    | (refine o_load rfl 23 _ rfl _ rfl _ _ _ HQ.out Try.underlying23 rfl HSE.out ?_)
    | (refine o_load rfl 23 _ rfl _ rfl _ _ _ HU.out Try.underlying23 rfl HSF.out ?_)
    | (go_at_call 23; with_reducible refine (K6.out _).mono ?_; rintro e y6 ⟨rfl, hb⟩; replace HL := Lib.hid (HL.out.below hb); replace HK := Lib.hid (HK.out.below hb); replace HA := Lib.hid (HA.out.below hb); replace HB := Lib.hid (HB.out.below hb); replace HP := Lib.hid (HP.out.below hb); replace HQ := Lib.hid (HQ.out.below hb); replace HU := Lib.hid (HU.out.below hb); replace HW := Lib.hid (below_to HW.out hb); clear hb)
    | (refine o_store rfl 23 _ _ rfl rfl y6.heap.size _ rfl rfl _ _ (heap_alloc_last _ _) HSF.out HZF.out HOF.out ?_; intro z6 hr ho; replace HL := Lib.hid ((HL.out.below (below_one _ _)).one ho (Nat.ne_of_lt HL.out.lt)); replace HK := Lib.hid ((HK.out.below (below_one _ _)).one ho (Nat.ne_of_lt HK.out.lt)); replace HA := Lib.hid ((HA.out.below (below_one _ _)).one ho (Nat.ne_of_lt HA.out.lt)); replace HB := Lib.hid ((HB.out.below (below_one _ _)).one ho (Nat.ne_of_lt HB.out.lt)); replace HP := Lib.hid ((HP.out.below (below_one _ _)).one ho (Nat.ne_of_lt HP.out.lt)); replace HQ := Lib.hid ((HQ.out.below (below_one _ _)).one ho (Nat.ne_of_lt HQ.out.lt)); replace HU := Lib.hid ((HU.out.below (below_one _ _)).one ho (Nat.ne_of_lt HU.out.lt)); have HV := Lib.hid hr; replace HW := Lib.hid (below_one_of (below_to HW.out (below_one _ _)) ho HW.out.size (below_to HW.out (below_one _ _)).size); clear hr ho))
  go_wp2_with (first
    | (refine o_load rfl 23 _ rfl _ rfl _ _ _ HL.out Try.underlying23 rfl HSL.out ?_)
    | (refine o_load rfl 23 _ rfl _ rfl _ _ _ HA.out Try.underlying23 rfl HSD.out ?_)
    | (refine o_load rfl 23 _ rfl _ rfl _ _ _ HB.out Try.underlying23 rfl HSD.out ?_)
    | (refine o_load rfl 23 _ rfl _ rfl _ _ _ HP.out Try.underlying23 rfl HSE.out ?_)
    | (refine o_load rfl 23 _ rfl _ rfl _ _ _ HQ.out Try.underlying23 rfl HSE.out ?_)
    | (refine o_load rfl 23 _ rfl _ rfl _ _ _ HU.out Try.underlying23 rfl HSF.out ?_)
    | (refine o_load rfl 23 _ rfl _ rfl _ _ _ HV.out Try.underlying23 rfl HSF.out ?_)
    | (go_at_call 16; with_reducible refine (KD.out _).mono ?_; rintro e y7 ⟨rfl, hb⟩; replace HL := Lib.hid (HL.out.below hb); replace HK := Lib.hid (HK.out.below hb); replace HA := Lib.hid (HA.out.below hb); replace HB := Lib.hid (HB.out.below hb); replace HP := Lib.hid (HP.out.below hb); replace HQ := Lib.hid (HQ.out.below hb); replace HU := Lib.hid (HU.out.below hb); replace HV := Lib.hid (HV.out.below hb); replace HW := Lib.hid (below_to HW.out hb); clear hb)
    | (go_at_call 16; with_reducible refine (KE.out _).mono ?_; rintro e y8 ⟨rfl, hb⟩; replace HL := Lib.hid (HL.out.below hb); replace HK := Lib.hid (HK.out.below hb); replace HA := Lib.hid (HA.out.below hb); replace HB := Lib.hid (HB.out.below hb); replace HP := Lib.hid (HP.out.below hb); replace HQ := Lib.hid (HQ.out.below hb); replace HU := Lib.hid (HU.out.below hb); replace HV := Lib.hid (HV.out.below hb); replace HW := Lib.hid (below_to HW.out hb); clear hb)
    | (go_at_call 16; with_reducible refine (KF.out _).mono ?_; rintro e y9 ⟨rfl, hb⟩; replace HL := Lib.hid (HL.out.below hb); replace HK := Lib.hid (HK.out.below hb); replace HA := Lib.hid (HA.out.below hb); replace HB := Lib.hid (HB.out.below hb); replace HP := Lib.hid (HP.out.below hb); replace HQ := Lib.hid (HQ.out.below hb); replace HU := Lib.hid (HU.out.below hb); replace HV := Lib.hid (HV.out.below hb); replace HW := Lib.hid (below_to HW.out hb); clear hb)
    | (go_at_call 17; with_reducible refine (KW.out _).mono ?_; rintro e y10 ⟨rfl, hb⟩; replace HL := Lib.hid (HL.out.below hb); replace HK := Lib.hid (HK.out.below hb); replace HA := Lib.hid (HA.out.below hb); replace HB := Lib.hid (HB.out.below hb); replace HP := Lib.hid (HP.out.below hb); replace HQ := Lib.hid (HQ.out.below hb); replace HU := Lib.hid (HU.out.below hb); replace HV := Lib.hid (HV.out.below hb); replace HW := Lib.hid (below_to HW.out hb); clear hb))
  go_ret
  exact ⟨rfl, HW.out⟩
set_option maxRecDepth 100000 in
theorem loanTurns_lifted (os : Os) (started : os.Started) (H : Type) (enc : TypeId × Value → H) :
    ReturnsInHanded {} Try.checked os 4 .any (Rows.loanTurnsSpec.pre6 enc Try.prog Try.f4 Rows.loanTurnsRow.domain false) (Rows.loanTurnsSpec.post enc Try.prog Try.f4 false true false false) := by
  refine Shell.law_lifted (C := Try.checked) (tb := 4) (by kernel_rfl) started (by kernel_rfl) Try.func4
    (ChangeSpec.witness6 (enc := enc) (C := Try.checked) false ⟨#[], #[Value.agg #[.int .i64 0, .int .i64 0, .int .i64 0, .int .i64 0, .int .i64 0, .int .i64 0, .bool false, .int .i64 0, .int .i64 0, .int .i64 0, .int .i64 0, .int .i64 0, .int .i64 0], Value.agg #[.int .i64 0, .int .i64 0], .int .i64 0], []⟩ 8 (by kernel_rfl) (by kernel_rfl) (by kernel_rfl) (by kernel_rfl))
    (by kernel_rfl) (by kernel_rfl) rfl rfl Try.underlying4 ?_
  intro W base args ds p hval0 hA0
  have hval : ∀ (j : Nat) t v, Try.f4.params[j]? = some t → args[j]? = some v → Value.okWide Try.prog W .any base t v := hval0
  have hA : DataW.TrodAll enc Try.prog W 0 (fun _ => true) true Try.f4.params.toList args.toList ds p := hA0
  clear hval0 hA0
  rw [Try.params4] at hA hval
  obtain ⟨v0, vs0, d0, ds0, p0, q0, hargs, rfl, rfl, h0, r0⟩ := trodAll_cons hA
  obtain ⟨v1, vs1, d1, ds1, p1, q1, rfl, rfl, rfl, h1, r1⟩ := trodAll_cons r0
  obtain ⟨v2, vs2, d2, ds2, p2, q2, rfl, rfl, rfl, h2, r2⟩ := trodAll_cons r1
  obtain ⟨rfl, rfl, rfl⟩ := trodAll_nil r2
  obtain rfl : args = #[v0, v1, v2] := by cases args; simp_all
  refine ⟨rfl, ?_⟩
  obtain ⟨l, rfl, hf0⟩ := open_ln (hval 0 23 v0 rfl rfl) h0
  obtain ⟨zs1, hzl1, rfl, hz1⟩ := Shell.open_arr Try.underlying39 Try.underlying3 (by kernel_rfl) (by kernel_rfl) (hval 1 39 v1 rfl rfl) h1
  obtain ⟨n0, n1, rfl⟩ := Shell.list2 zs1 hzl1
  obtain ⟨a, rfl, -, -, g2⟩ := open_int Try.underlying2 (hval 2 2 v2 rfl rfl) h2
  exact turns_walk l n0 n1 a W

theorem loanTurns_over : Rows.loanTurnsRow.holds Try.pinned (OpenSpec.ofChange Rows.loanTurnsSpec) :=
  OpenClaim.holds_of_wide 4 Try.f4 rfl rfl rfl rfl rfl rfl rfl ⟨rfl, rfl, rfl, rfl, rfl⟩ rfl rfl rfl rfl rfl (by kernel_rfl) Try.func4 (by kernel_rfl)
    (of_decide_eq_true (by kernel_rfl)) (by unfold Func.isWrapper; first | (rw [if_pos (by decide +kernel)]; kernel_rfl) | (rw [if_neg (by decide +kernel)]; exact ⟨rfl, rfl⟩))
    (fun os st H enc _ => loanTurns_lifted os st H enc)

/-- The statement. -/
theorem loanTurns_proved : Rows.LoanTurnsSaid := loanTurns_over
end Go.Proofs.Ytkegmgjagcefhaa.Law
