/- step's Of and Share answer what the document's own answer, at any numbers; no condition. -/
import Derived.Test.YtppogilkhgppdaaDoorCards
import Derived.Test.YtppogilkhgppdaaDoorTie
import Derived.Test.YtppogilkhgppdaaDoorDoor
import Derived.Test.YtppogilkhgppdaaDoorStepC
namespace Go.Proofs.YtppogilkhgppdaaDoor.Law
open Go.ChangeShapes Go.WideShapes Go.ChangeAt Go.RowKit Step Money

theorem tells_walk (l m k : Int) (w : World) (m1 : m ≤ 9223372036854775807) (LD : Hid (Laid w)) :
    Calls Tryd.prog 3 #[.int .i64 l, .int .i64 m, .int .i64 k] w fun e w' => e = .returned (.bool true) ∧ Below w.heap.size w w' := by
  have K1 := Lib.hid (fun W L => p_of l m W m1 L)
  have K2 := Lib.hid (fun W => r_of l m W m1)
  have K3 := Lib.hid (fun W L => p_share k W L)
  have K4 := Lib.hid (fun W => r_share k W)
  have KW := Lib.hid wakes_step
  have BB := Lib.hid (Below.refl w.heap.size w)
  generalize oV l m = v at *
  generalize oE l m = x at *
  generalize shI k = s at *
  have t1 : (v == v) = true := by simp
  have t2 : (x == x) = true := by simp
  have t3 : (s == s) = true := by simp
  clear m1
  go_enter Tryd.func3, Tryd.ntmps3
  go_wp2_with fail
  refine (K1.out _ (LD.out.of BB.out)).mono ?_
  rintro e w1 ⟨rfl, n, rfl⟩
  replace BB := Lib.hid (below_drewN BB.out n)
  go_wp2_with fail
  refine (K2.out _).mono ?_
  rintro e w2 ⟨rfl, hb⟩
  replace BB := Lib.hid (below_via BB.out hb)
  clear hb
  go_wp2_with fail
  refine (K3.out _ (LD.out.of BB.out)).mono ?_
  rintro e w3 ⟨rfl, rfl⟩
  go_wp2_with fail
  refine (K4.out _).mono ?_
  rintro e w4 ⟨rfl, rfl⟩
  go_wp2_with fail
  refine (KW.out _ (LD.out.of BB.out)).mono ?_
  rintro e w5 ⟨rfl, k, rfl⟩
  replace BB := Lib.hid (below_drewN BB.out k)
  go_wp2_with fail
  go_ret
  exact ⟨rfl, BB.out⟩

set_option maxRecDepth 100000 in
theorem stepTells_lifted (os : Os) (started : os.Started) (H : Type) (enc : TypeId × Value → H) :
    ReturnsInHanded {} Tryd.checked os 3 .any (fun w args => (Rows.stepTellsSpec.pre enc Tryd.prog Tryd.f3 Rows.stepTellsRow.domain false w args ∧ laidMetH Tryd.prog Rows.stepTellsRow.laid w) ∧ sizedMet enc Tryd.prog Tryd.f3 (OpenSpec.ofChange Rows.stepTellsSpec) false w args) (Rows.stepTellsSpec.post enc Tryd.prog Tryd.f3 false true false false) := by
  refine Door.law_lifted (C := Tryd.checked) (tb := 4) (by kernel_rfl) started (by kernel_rfl) Tryd.func3
    (ChangeSpec.witness_shaped (enc := enc) (C := Tryd.checked) (os := os) (X := fun w _ => laidMetH Tryd.prog Rows.stepTellsRow.laid w) false (World.laidAll Tryd.prog os Rows.stepTellsRow.laid) #[.int .i64 0, .int .i64 0, .int .i64 0] 8 (World.laidAll_os _ _ _)
      (World.shaped_of_ZipB (by kernel_rfl) (by kernel_rfl)) (by kernel_rfl) (by kernel_rfl) (by kernel_rfl)
      (by rw [MakeChecks.laidMetH_plain _ _ _ (by kernel_rfl)]; exact laidMet_laidAll _ (by kernel_rfl) (by kernel_rfl)))
    (by kernel_rfl) (by kernel_rfl) rfl rfl Tryd.underlying4 ?_
  intro W base args ds p hval0 hA0 hL
  have hval : ∀ (j : Nat) t v, Tryd.f3.params[j]? = some t → args[j]? = some v → Value.okWide Tryd.prog W .any base t v := hval0
  have hA : DataW.TrodAll enc Tryd.prog W 0 (fun _ => true) true Tryd.f3.params.toList args.toList ds p := hA0
  clear hval0 hA0
  rw [MakeChecks.laidMetH_plain _ _ _ (by kernel_rfl)] at hL
  rw [Tryd.params3] at hA hval
  obtain ⟨v0, vs0, d0, ds0, p0, q0, hargs, rfl, rfl, h0, r0⟩ := trodAll_cons hA
  obtain ⟨v1, vs1, d1, ds1, p1, q1, rfl, rfl, rfl, h1, r1⟩ := trodAll_cons r0
  obtain ⟨v2, vs2, d2, ds2, p2, q2, rfl, rfl, rfl, h2, r2⟩ := trodAll_cons r1
  obtain ⟨rfl, rfl, rfl⟩ := trodAll_nil r2
  obtain rfl : args = #[v0, v1, v2] := by cases args; simp_all
  refine ⟨rfl, ?_⟩
  obtain ⟨l, rfl, -, -, g0⟩ := open_int Tryd.underlying2 (hval 0 2 v0 rfl rfl) h0
  obtain ⟨m, rfl, -, -, g1⟩ := open_int Tryd.underlying3 (hval 1 3 v1 rfl rfl) h1
  obtain ⟨k, rfl, -, -, g2⟩ := open_int Tryd.underlying3 (hval 2 3 v2 rfl rfl) h2
  have b1 : -9223372036854775808 ≤ m ∧ m ≤ 9223372036854775807 := by simpa [Lit.wf, IntKind.min, IntKind.max, IntKind.bits, IntKind.signed] using g1
  have LD := Lib.hid (Step.laid_of hL (by exact List.mem_cons_self ..))
  exact tells_walk l m k W b1.2 LD

theorem stepTells_over : Rows.stepTellsRow.holds Tryd.pinned (OpenSpec.ofChange Rows.stepTellsSpec) :=
  OpenClaim.holds_of_wide 3 Tryd.f3 rfl rfl rfl rfl rfl rfl rfl ⟨rfl, rfl, rfl, rfl, rfl⟩ rfl rfl rfl rfl rfl (by kernel_rfl) Tryd.func3 (by kernel_rfl)
    (of_decide_eq_true (by kernel_rfl)) (by unfold Func.isWrapper; first | (rw [if_pos (by decide +kernel)]; kernel_rfl) | (rw [if_neg (by decide +kernel)]; exact ⟨rfl, rfl⟩))
    (fun os st H enc _ => stepTells_lifted os st H enc)

/-- The statement: the card. -/
theorem stepTells_proved : Rows.StepTellsCardSaid :=
  Claim7.holds_tied_plain_at .later [] [.data] true Rows.stepTellsCard.stood.harness false
    stepTells_over (fun _ h => by cases h) (by kernel_rfl) (fun _ h => by cases h) stepTells_row_tie rfl ⟨rfl, rfl⟩ (by kernel_rfl) rfl
    (fun f fn hf hfn => by
      obtain rfl : f = 3 := Option.some.inj ((show Tryd.prog.funcNamed "annuity/annuitylaw16.StepTells" = some 3 by kernel_rfl).symm.trans hf) |>.symm
      obtain rfl : fn = Tryd.f3 := (Option.some.inj (Tryd.func3.symm.trans hfn)).symm
      exact ⟨by kernel_rfl, fun j t ht => by
        have hall : (Tryd.f3.params.toList.all fun u => !Tryd.prog.wantsStandIn u) = true := by kernel_rfl
        exact (show Tryd.prog.wantsStandIn t = false by simpa using List.all_eq_true.1 hall t (Array.mem_def.1 (Array.mem_of_getElem? ht)))⟩)
    (by kernel_rfl)
end Go.Proofs.YtppogilkhgppdaaDoor.Law
