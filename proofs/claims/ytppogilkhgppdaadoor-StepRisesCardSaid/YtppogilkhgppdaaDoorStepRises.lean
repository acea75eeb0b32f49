/- What is asked never falls from month to month; it is more than half the level, and at most half as much again, and a cent, at any numbers; no condition. -/
import Derived.Test.YtppogilkhgppdaaDoorCards
import Derived.Test.YtppogilkhgppdaaDoorTie
import Derived.Test.YtppogilkhgppdaaDoorDoor
import Derived.Test.YtppogilkhgppdaaDoorStepC
namespace Go.Proofs.YtppogilkhgppdaaDoor.Law
open Go.ChangeShapes Go.WideShapes Go.ChangeAt Go.RowKit Step Money

theorem w64_in (x : Int) (h : -9223372036854775808 ≤ x ∧ x ≤ 9223372036854775807) : wrap64 x = x := by unfold wrap64; omega
theorem rises_walk (l m k : Int) (w : World) (l0 : 0 ≤ l) (l1 : l ≤ 4294967295) (m0 : 0 ≤ m) (m1 : m ≤ 65535) (k0 : 0 ≤ k) (k1 : k ≤ 255) (LD : Hid (Laid w)) :
    Calls Tryd.prog 4 #[.int .u32 l, .int .u16 m, .int .u8 k] w fun e w' => e = .returned (.bool true) ∧ Below w.heap.size w w' := by
  obtain ⟨a1, a2, a3, a4⟩ := o_small l0 l1 m0
  obtain ⟨c1, c2, c3, c4⟩ := o_small l0 l1 (show 0 ≤ m + k by omega)
  have rr := o_more l0 m0 (show m ≤ m + k by omega)
  have a0 := rnd_ge l (shI (m.tdiv 24)) 100 1
  generalize rnd l (shI (m.tdiv 24)) 100 1 = p at *
  generalize rnd l (shI ((m + k).tdiv 24)) 100 1 = q at *
  have K1 := Lib.hid (fun W L => of_at l m p 0 W (by omega) L a1 a2)
  have K2 := Lib.hid (fun W L => of_at l (m + k) q 0 W (by omega) L c1 c2)
  clear a0 a1 a2 c1 c2
  have KW := Lib.hid wakes_step
  have BB := Lib.hid (Below.refl w.heap.size w)
  obtain ⟨w1, w2, w3, w4, w5, w6, w7, w8⟩ : IntKind.i64.wrap l = l ∧ IntKind.i64.wrap m = m ∧ IntKind.i64.wrap k = k ∧ wrap64 (m + k) = m + k ∧ wrap64 (100 * p) = 100 * p ∧ wrap64 (60 * l) = 60 * l ∧ wrap64 (100 * q) = 100 * q ∧ wrap64 (150 * l) = 150 * l :=
    ⟨IntWalk.i64_in _ (by omega), IntWalk.i64_in _ (by omega), IntWalk.i64_in _ (by omega), w64_in _ (by omega), w64_in _ (by omega), w64_in _ (by omega), w64_in _ (by omega), w64_in _ (by omega)⟩
  have w9 : wrap64 (150 * l + 99) = 150 * l + 99 := by clear w1 w2 w3 w4 w5 w6 w7 w8; exact w64_in _ (by omega)
  have t1 : decide (p ≤ q) = true := decide_eq_true rr
  have t2 : decide (60 * l ≤ 100 * p) = true := decide_eq_true a3
  have t3 : decide (100 * q ≤ 150 * l + 99) = true := decide_eq_true c4
  clear l0 l1 m0 m1 k0 k1 a3 a4 c3 c4 rr
  go_enter Tryd.func4, Tryd.ntmps4
  go_wp2_with fail
  refine (K1.out _ (LD.out.of BB.out)).mono ?_
  rintro e y1 ⟨rfl, n, rfl⟩
  replace BB := Lib.hid (below_drewN BB.out n)
  go_wp2_with fail
  refine (K2.out _ (LD.out.drewN _)).mono ?_
  rintro e y2 ⟨rfl, i, rfl⟩
  replace BB := Lib.hid (below_drewN BB.out i)
  go_wp2_with fail
  refine (KW.out _ (LD.out.drewN _)).mono ?_
  rintro e y5 ⟨rfl, j, rfl⟩
  replace BB := Lib.hid (below_drewN BB.out j)
  go_wp2_with fail
  go_ret
  exact ⟨rfl, below_drewN (Below.refl _ _) _⟩

set_option maxRecDepth 100000 in
theorem stepRises_lifted (os : Os) (started : os.Started) (H : Type) (enc : TypeId × Value → H) :
    ReturnsInHanded {} Tryd.checked os 4 .any (fun w args => (Rows.stepRisesSpec.pre enc Tryd.prog Tryd.f4 Rows.stepRisesRow.domain false w args ∧ laidMetH Tryd.prog Rows.stepRisesRow.laid w) ∧ sizedMet enc Tryd.prog Tryd.f4 (OpenSpec.ofChange Rows.stepRisesSpec) false w args) (Rows.stepRisesSpec.post enc Tryd.prog Tryd.f4 false true false false) := by
  refine Door.law_lifted (C := Tryd.checked) (tb := 4) (by kernel_rfl) started (by kernel_rfl) Tryd.func4
    (ChangeSpec.witness_shaped (enc := enc) (C := Tryd.checked) (os := os) (X := fun w _ => laidMetH Tryd.prog Rows.stepRisesRow.laid w) false (World.laidAll Tryd.prog os Rows.stepRisesRow.laid) #[.int .u32 0, .int .u16 0, .int .u8 0] 8 (World.laidAll_os _ _ _)
      (World.shaped_of_ZipB (by kernel_rfl) (by kernel_rfl)) (by kernel_rfl) (by kernel_rfl) (by kernel_rfl)
      (by rw [MakeChecks.laidMetH_plain _ _ _ (by kernel_rfl)]; exact laidMet_laidAll _ (by kernel_rfl) (by kernel_rfl)))
    (by kernel_rfl) (by kernel_rfl) rfl rfl Tryd.underlying4 ?_
  intro W base args ds p hval0 hA0 hL
  have hval : ∀ (j : Nat) t v, Tryd.f4.params[j]? = some t → args[j]? = some v → Value.okWide Tryd.prog W .any base t v := hval0
  have hA : DataW.TrodAll enc Tryd.prog W 0 (fun _ => true) true Tryd.f4.params.toList args.toList ds p := hA0
  clear hval0 hA0
  rw [MakeChecks.laidMetH_plain _ _ _ (by kernel_rfl)] at hL
  rw [Tryd.params4] at hA hval
  obtain ⟨v0, vs0, d0, ds0, p0, q0, hargs, rfl, rfl, h0, r0⟩ := trodAll_cons hA
  obtain ⟨v1, vs1, d1, ds1, p1, q1, rfl, rfl, rfl, h1, r1⟩ := trodAll_cons r0
  obtain ⟨v2, vs2, d2, ds2, p2, q2, rfl, rfl, rfl, h2, r2⟩ := trodAll_cons r1
  obtain ⟨rfl, rfl, rfl⟩ := trodAll_nil r2
  obtain rfl : args = #[v0, v1, v2] := by cases args; simp_all
  refine ⟨rfl, ?_⟩
  obtain ⟨l, rfl, -, -, g0⟩ := open_int Tryd.underlying30 (hval 0 30 v0 rfl rfl) h0
  obtain ⟨m, rfl, -, -, g1⟩ := open_int Tryd.underlying31 (hval 1 31 v1 rfl rfl) h1
  obtain ⟨k, rfl, -, -, g2⟩ := open_int Tryd.underlying5 (hval 2 5 v2 rfl rfl) h2
  have b0 : 0 ≤ l ∧ l ≤ 4294967295 := by simpa [Lit.wf, IntKind.min, IntKind.max, IntKind.bits, IntKind.signed] using g0
  have b1 : 0 ≤ m ∧ m ≤ 65535 := by simpa [Lit.wf, IntKind.min, IntKind.max, IntKind.bits, IntKind.signed] using g1
  have b2 : 0 ≤ k ∧ k ≤ 255 := by simpa [Lit.wf, IntKind.min, IntKind.max, IntKind.bits, IntKind.signed] using g2
  have LD := Lib.hid (Step.laid_of hL (by exact List.mem_cons_self ..))
  exact rises_walk l m k W b0.1 b0.2 b1.1 b1.2 b2.1 b2.2 LD

theorem stepRises_over : Rows.stepRisesRow.holds Tryd.pinned (OpenSpec.ofChange Rows.stepRisesSpec) :=
  OpenClaim.holds_of_wide 4 Tryd.f4 rfl rfl rfl rfl rfl rfl rfl ⟨rfl, rfl, rfl, rfl, rfl⟩ rfl rfl rfl rfl rfl (by kernel_rfl) Tryd.func4 (by kernel_rfl)
    (of_decide_eq_true (by kernel_rfl)) (by unfold Func.isWrapper; first | (rw [if_pos (by decide +kernel)]; kernel_rfl) | (rw [if_neg (by decide +kernel)]; exact ⟨rfl, rfl⟩))
    (fun os st H enc _ => stepRises_lifted os st H enc)

/-- The statement: the card. -/
theorem stepRises_proved : Rows.StepRisesCardSaid :=
  Claim7.holds_tied_plain_at .later [] [.data] true Rows.stepRisesCard.stood.harness false
    stepRises_over (fun _ h => by cases h) (by kernel_rfl) (fun _ h => by cases h) stepRises_row_tie rfl ⟨rfl, rfl⟩ (by kernel_rfl) rfl
    (fun f fn hf hfn => by
      obtain rfl : f = 4 := Option.some.inj ((show Tryd.prog.funcNamed "annuity/annuitylaw16.StepRises" = some 4 by kernel_rfl).symm.trans hf) |>.symm
      obtain rfl : fn = Tryd.f4 := (Option.some.inj (Tryd.func4.symm.trans hfn)).symm
      exact ⟨by kernel_rfl, fun j t ht => by
        have hall : (Tryd.f4.params.toList.all fun u => !Tryd.prog.wantsStandIn u) = true := by kernel_rfl
        exact (show Tryd.prog.wantsStandIn t = false by simpa using List.all_eq_true.1 hall t (Array.mem_def.1 (Array.mem_of_getElem? ht)))⟩)
    (by kernel_rfl)
end Go.Proofs.YtppogilkhgppdaaDoor.Law
