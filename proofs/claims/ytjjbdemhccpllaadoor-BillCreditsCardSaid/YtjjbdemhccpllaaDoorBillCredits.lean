/- bill's Credit answers what the document's own answer, at any bills, amount and day, and leaves the bills as they were; no condition. -/
import Derived.Test.YtjjbdemhccpllaaDoorCards
import Derived.Test.YtjjbdemhccpllaaDoorTie
import Derived.Test.YtjjbdemhccpllaaDoorGA
import Derived.Test.YtjjbdemhccpllaaDoorBillWakes
import Derived.Test.YtjjbdemhccpllaaDoorRefBill2
namespace Go.Proofs.YtjjbdemhccpllaaDoor.Law
open Go.ChangeShapes Go.WideShapes Go.ChangeAt Go.RowKit Loan Money Box Rws Slice Plan Bill Date Cal RBill

set_option maxRecDepth 20000 in
set_option maxHeartbeats 4000000 in
theorem credits_many (M : List Bl) (a d : Int) (v : Value) (w : World) (hv : Bls w w.heap.size v M) (LD : Hid (Laid w)) (h1 : manyB M = true) : Calls Tryd.prog 5 #[v, .int .i64 a, .int .i64 d] w fun e w' => e = .returned (.bool true) ∧ Below w.heap.size w w' := by
  have HM : Hid (Bo w w M v) := ⟨Below.refl _ _, LD.out, hv⟩
  obtain ⟨A, k, rfl⟩ := hv.1.shape
  clear hv LD
  go_enter Tryd.func5, Tryd.ntmps5
  go_wp2_with (first
    | (go_at_call 8; (with_reducible refine (large_any M _ w _ HM.out).mono ?_); rintro e y ⟨rfl, hb⟩; rw [h1]; replace HM := Lib.hid (HM.out.below hb); clear hb)
    | (go_at_call 9; (with_reducible refine (wakes_bill _ HM.out.laid).mono ?_); rintro e y9 ⟨rfl, hb⟩; replace HM := Lib.hid (HM.out.below hb); clear hb))
  go_ret
  exact ⟨rfl, HM.out.low⟩
set_option maxRecDepth 20000 in
set_option maxHeartbeats 4000000 in
theorem credits_some (M : List Bl) (a d : Int) (v : Value) (w : World) (hv : Bls w w.heap.size v M) (LD : Hid (Laid w)) (h1 : manyB M = false) : Calls Tryd.prog 5 #[v, .int .i64 a, .int .i64 d] w fun e w' => e = .returned (.bool true) ∧ Below w.heap.size w w' := by
  have HM : Hid (Bo w w M v) := ⟨Below.refl _ _, LD.out, hv⟩
  obtain ⟨A, k, rfl⟩ := hv.1.shape
  clear hv LD
  have KCP := Lib.hid (fun W (h : Bo w W M (.slice A M.length k)) => c_cbills M (.slice A M.length k) w.heap.size W h.low.size h.bls (Nat.le_trans (many_no h1).1 (by decide)) (fun b hb => Nat.le_trans ((many_no h1).2 b hb) (by decide)))
  have KSB := Lib.hid (fun R1 R2 u1 u2 W (ha : AlikeB R1 R2) h1 h2 => same_bills R1 R2 ha u1 u2 (World.heap W).size W (Nat.le_refl _) h1 h2)
  have hN : M.length ≤ 1000 := Nat.le_trans (many_no h1).1 (by decide)
  have hI : ∀ b ∈ M, b.ids.length ≤ 1000 := fun b hb => Nat.le_trans ((many_no h1).2 b hb) (by decide)
  have KCR : Hid (∀ W u M', Laid W → AlikeB M M' → Bls W W.heap.size u M' → Calls Tryd.prog 23 #[u, .int .i64 a, .int .i64 d] W fun e w' => ∃ A2 R c2, e = .returned (.tuple #[.slice A2 (List.length R) c2, .int .i64 (creK M a d), .int .i64 (creE M a d)]) ∧ AlikeB (creL M a d) R ∧ Bls w' w'.heap.size (.slice A2 R.length c2) R ∧ Below W.heap.size W w') := fun W u M' hl ha hu => by
    have h := b_credit M' a d u W.heap.size W (Nat.le_refl _) hu (by rw [ha.1]; exact hN) (alike_ids ha hI) hl
    obtain ⟨q1, q2⟩ := creL_alike a d ha
    rw [creE_alike a d ha, q2] at h
    exact h.mono fun e w' ⟨u, R, h1, h2, h3, h4⟩ => by
      obtain ⟨A2, c2, rfl⟩ := own_slice' h3.row
      exact ⟨A2, R, c2, h1, alike_trans q1 h2, h3.bls, h4⟩
  have KRC : Hid (∀ W, Bo w W M (.slice A M.length k) → Calls Tryd.prog 24 #[.slice A M.length k, .int .i64 a, .int .i64 d] W fun e w' => ∃ A2 R c2, e = .returned (.tuple #[.agg #[.slice A2 (List.length R) c2, .int .i64 (creK M a d)], .int .i64 (creE M a d)]) ∧ AlikeB (creL M a d) R ∧ Bls w' w'.heap.size (.slice A2 R.length c2) R ∧ Below W.heap.size W w') := fun W h => by
    have h := r_credit M a d (.slice A M.length k) w.heap.size W h.low.size h.bls hN hI
    exact h.mono fun e w' ⟨u, R, h1, h2, h3, h4⟩ => by
      obtain ⟨A2, c2, rfl⟩ := own_slice' h3.row
      exact ⟨A2, R, c2, h1, h2, h3.bls, h4⟩
  generalize creK M a d = kk at *
  generalize creE M a d = xe at *
  generalize creL M a d = RR at *
  have t1 : (kk == kk) = true := by simp
  have t2 : (xe == xe) = true := by simp
  clear hN hI
  go_enter Tryd.func5, Tryd.ntmps5
  go_upto_region 6 with (first
    | (go_at_call 8; (with_reducible refine (large_any M _ w _ HM.out).mono ?_); rintro e y ⟨rfl, hb⟩; rw [h1]; replace HM := Lib.hid (HM.out.below hb); clear hb)
    | (go_at_call 10; (refine (KCP.out _ HM.out).mono ?_); rintro e y1 ⟨u, M', rfl, ha, hc, hb⟩; have HA := Lib.hid ha; replace HM := Lib.hid (HM.out.below hb); have HI := Lib.hid hc.bls; obtain ⟨A1, c1, rfl⟩ := own_slice' hc.row; clear ha hc hb)
    | (go_at_call 23; (refine (KCR.out _ _ _ HM.out.laid HA.out HI.out).mono ?_); rintro e y2 ⟨A2, R, c2, rfl, ha, hr, hb⟩; have HA2 := Lib.hid ha; have HR := Lib.hid hr; replace HM := Lib.hid (HM.out.below hb); replace HI := Lib.hid (bls_below HI.out hb); clear ha hr hb)
    | (go_at_call 24; (refine (KRC.out _ HM.out).mono ?_); rintro e y3 ⟨A3, R3, c3, rfl, ha, hr, hb⟩; have HA3 := Lib.hid (alike_trans (alike_symm HA2.out) ha); have HR3 := Lib.hid hr; replace HM := Lib.hid (HM.out.below hb); replace HI := Lib.hid (bls_below HI.out hb); replace HR := Lib.hid (bls_below HR.out hb); clear ha hr hb)
    | (refine o_store rfl 45 _ _ rfl rfl y3.heap.size #[.slice A3 R3.length c3, .int .i64 kk] rfl rfl _ _ (heap_alloc_last _ _) (ch_info _ _) rfl (ch_one _ _ _ _) ?_; intro z hr ho; have hb := below_one_of (below_one y3 _) ho (Nat.le_refl _) (below_one y3 _).size; have HG := Lib.hid hr; replace HM := Lib.hid (HM.out.below hb); replace HI := Lib.hid (bls_below HI.out hb); replace HR := Lib.hid (bls_below HR.out hb); replace HR3 := Lib.hid (bls_below HR3.out hb); clear hr ho hb))
  obtain ⟨gb, hgb⟩ : ∃ g, g = y3.heap.size := ⟨_, rfl⟩
  rw [← hgb]
  rw [← hgb] at HG
  clear hgb
  have d0 : z.cell? ⟨gb, 0, none⟩ = some (.slice A3 R3.length c3) := HG.out.cell
  go_wp2_with (first
    | (go_at_call 20; (with_reducible refine (KSB.out _ _ _ _ _ HA3.out HR.out HR3.out).mono ?_); rintro e y4 ⟨rfl, hb⟩; replace HM := Lib.hid (HM.out.below hb); replace HI := Lib.hid (bls_below HI.out hb); have d1 : y4.cell? ⟨gb, 1, none⟩ = some (.int .i64 kk) := (HG.out.below hb).cell; clear hb)
    | (go_at_call 20; (with_reducible refine (KSB.out _ _ _ _ _ (alike_symm HA.out) HI.out (bls_up HM.out.bls HM.out.low.size)).mono ?_); rintro e y5 ⟨rfl, hb⟩; replace HM := Lib.hid (HM.out.below hb); clear hb)
    | (go_at_call 9; (with_reducible refine (wakes_bill _ HM.out.laid).mono ?_); rintro e y9 ⟨rfl, hb⟩; replace HM := Lib.hid (HM.out.below hb); clear hb))
  go_ret
  exact ⟨rfl, HM.out.low⟩
theorem credits_walk (M : List Bl) (a d : Int) (v : Value) (w : World) (hv : Bls w w.heap.size v M) (LD : Hid (Laid w)) : Calls Tryd.prog 5 #[v, .int .i64 a, .int .i64 d] w fun e w' => e = .returned (.bool true) ∧ Below w.heap.size w w' := by
  cases h1 : manyB M with
  | true => exact credits_many M a d v w hv LD h1
  | false => exact credits_some M a d v w hv LD h1

set_option maxRecDepth 100000 in
theorem billCredits_lifted (os : Os) (started : os.Started) (H : Type) (enc : TypeId × Value → H) :
    ReturnsInHanded {} Tryd.checked os 5 .any (fun w args => (Rows.billCreditsSpec.pre enc Tryd.prog Tryd.f5 Rows.billCreditsRow.domain false w args ∧ laidMetH Tryd.prog Rows.billCreditsRow.laid w) ∧ sizedMet enc Tryd.prog Tryd.f5 (OpenSpec.ofChange Rows.billCreditsSpec) false w args) (Rows.billCreditsSpec.post enc Tryd.prog Tryd.f5 false true false false) := by
  refine Door.law_lifted (C := Tryd.checked) (tb := 4) (by kernel_rfl) started (by kernel_rfl) Tryd.func5
    (ChangeSpec.witness_shaped (enc := enc) (C := Tryd.checked) (os := os) (X := fun w _ => laidMetH Tryd.prog Rows.billCreditsRow.laid w) false (World.laidAll Tryd.prog os Rows.billCreditsRow.laid) #[Value.slice none 0 0, .int .i64 0, .int .i64 0] 8 (World.laidAll_os _ _ _)
      (World.shaped_of_ZipB (by kernel_rfl) (by kernel_rfl)) (by kernel_rfl) (by kernel_rfl) (by kernel_rfl)
      (by rw [MakeChecks.laidMetH_plain _ _ _ (by kernel_rfl)]; exact laidMet_laidAll _ (by kernel_rfl) (by kernel_rfl)))
    (by kernel_rfl) (by kernel_rfl) rfl rfl Tryd.underlying4 ?_
  intro W base args ds p hval0 hA0 hL
  have hval : ∀ (j : Nat) t v, Tryd.f5.params[j]? = some t → args[j]? = some v → Value.okWide Tryd.prog W .any base t v := hval0
  have hA : DataW.TrodAll enc Tryd.prog W 0 (fun _ => true) true Tryd.f5.params.toList args.toList ds p := hA0
  clear hval0 hA0
  rw [MakeChecks.laidMetH_plain _ _ _ (by kernel_rfl)] at hL
  rw [Tryd.params5] at hA hval
  obtain ⟨v0, vs0, d0, ds0, p0, q0, hargs, rfl, rfl, h0, r0⟩ := trodAll_cons hA
  obtain ⟨v1, vs1, d1, ds1, p1, q1, rfl, rfl, rfl, h1, r1⟩ := trodAll_cons r0
  obtain ⟨v2, vs2, d2, ds2, p2, q2, rfl, rfl, rfl, h2, r2⟩ := trodAll_cons r1
  obtain ⟨rfl, rfl, rfl⟩ := trodAll_nil r2
  obtain rfl : args = #[v0, v1, v2] := by cases args; simp_all
  refine ⟨rfl, ?_⟩
  obtain ⟨M, hv⟩ := open_bills (hval 0 22 v0 rfl rfl) h0
  obtain ⟨a, rfl, -, -, g1⟩ := open_int Tryd.underlying2 (hval 1 2 v1 rfl rfl) h1
  obtain ⟨d, rfl, -, -, g2⟩ := open_int Tryd.underlying3 (hval 2 3 v2 rfl rfl) h2
  have LD := Lib.hid (Date.laid_of hL (by exact List.mem_cons_self ..))
  exact credits_walk M a d v0 W hv LD

theorem billCredits_over : Rows.billCreditsRow.holds Tryd.pinned (OpenSpec.ofChange Rows.billCreditsSpec) :=
  OpenClaim.holds_of_wide 5 Tryd.f5 rfl rfl rfl rfl rfl rfl rfl ⟨rfl, rfl, rfl, rfl, rfl⟩ rfl rfl rfl rfl rfl (by kernel_rfl) Tryd.func5 (by kernel_rfl)
    (of_decide_eq_true (by kernel_rfl)) (by unfold Func.isWrapper; first | (rw [if_pos (by decide +kernel)]; kernel_rfl) | (rw [if_neg (by decide +kernel)]; exact ⟨rfl, rfl⟩))
    (fun os st H enc _ => billCredits_lifted os st H enc)

/-- The statement: the card. -/
theorem billCredits_proved : Rows.BillCreditsCardSaid :=
  Claim7.holds_tied_plain_at .later [] [.data] true Rows.billCreditsCard.stood.harness false
    billCredits_over (fun _ h => by cases h) (by kernel_rfl) (fun _ h => by cases h) billCredits_row_tie rfl ⟨rfl, rfl⟩ (by kernel_rfl) rfl
    (fun f fn hf hfn => by
      obtain rfl : f = 5 := Option.some.inj ((show Tryd.prog.funcNamed "annuity/annuitylaw19.BillCredits" = some 5 by kernel_rfl).symm.trans hf) |>.symm
      obtain rfl : fn = Tryd.f5 := (Option.some.inj (Tryd.func5.symm.trans hfn)).symm
      exact ⟨by kernel_rfl, fun j t ht => by
        have hall : (Tryd.f5.params.toList.all fun u => !Tryd.prog.wantsStandIn u) = true := by kernel_rfl
        exact (show Tryd.prog.wantsStandIn t = false by simpa using List.all_eq_true.1 hall t (Array.mem_def.1 (Array.mem_of_getElem? ht)))⟩)
    (by kernel_rfl)
end Go.Proofs.YtjjbdemhccpllaaDoor.Law
