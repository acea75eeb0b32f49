/- Months answers what the document's own Months answers, at any two numbers; no condition. -/
import Derived.Test.YthmmlgfechkohaaDoorCards
import Derived.Test.YthmmlgfechkohaaDoorTie
import Derived.Test.YthmmlgfechkohaaDoorDoor
import Derived.Test.YthmmlgfechkohaaDoorDueWakes
namespace Go.Proofs.YthmmlgfechkohaaDoor.Law
open Go.ChangeShapes Go.WideShapes Go.ChangeAt Go.RowKit Cal Date Due Slice

theorem months_walk (a b : Int) (w : World) (LD : Laid w) :
    Calls Tryd.prog 3 #[.int .i64 a, .int .i64 b] w fun e w' => e = .returned (.bool true) ∧ Below w.heap.size w w' := by
  have h1 := u_months a b
  have h2 := r_months a b
  generalize monL a b = zs at *
  go_enter Tryd.func3, Tryd.ntmps3
  go_wp2_with fail
  refine (h1 _ LD).mono ?_
  rintro e w1 ⟨v, rfl, iv, b1⟩
  obtain ⟨A, c, rfl, -, -, -⟩ := id iv
  have IV := Lib.hid iv
  clear iv
  go_wp2_with fail
  refine (h2 _).mono ?_
  rintro e w2 ⟨u, rfl, iu, b2⟩
  obtain ⟨A2, c2, rfl, -, -, -⟩ := id iu
  have IU := Lib.hid iu
  clear iu
  go_wp2_with fail
  refine (ints_same zs _ _ w2.heap.size _ ((IV.out.below b2).more b2.size) IU.out).mono ?_
  rintro e w3 ⟨rfl, n, rfl⟩
  replace LD := ((LD.of b1).of b2).drewN n
  go_wp2_with fail
  refine (wakes_due _ LD).mono ?_
  rintro e wk ⟨rfl, bk⟩
  go_wp2_with fail
  go_ret
  exact ⟨rfl, below_via (below_drewN (below_via b1 b2) n) bk⟩

set_option maxRecDepth 100000 in
theorem dueMonths_lifted (os : Os) (started : os.Started) (H : Type) (enc : TypeId × Value → H) :
    ReturnsInHanded {} Tryd.checked os 3 .any (fun w args => (Rows.dueMonthsSpec.pre enc Tryd.prog Tryd.f3 Rows.dueMonthsRow.domain false w args ∧ laidMetH Tryd.prog Rows.dueMonthsRow.laid w) ∧ sizedMet enc Tryd.prog Tryd.f3 (OpenSpec.ofChange Rows.dueMonthsSpec) false w args) (Rows.dueMonthsSpec.post enc Tryd.prog Tryd.f3 false true false false) := by
  refine Door.law_lifted (C := Tryd.checked) (tb := 4) (by kernel_rfl) started (by kernel_rfl) Tryd.func3
    (ChangeSpec.witness_shaped (enc := enc) (C := Tryd.checked) (os := os) (X := fun w _ => laidMetH Tryd.prog Rows.dueMonthsRow.laid w) false (World.laidAll Tryd.prog os Rows.dueMonthsRow.laid) #[.int .i64 0, .int .i64 0] 8 (World.laidAll_os _ _ _)
      (World.shaped_of_ZipB (by kernel_rfl) (by kernel_rfl)) (by kernel_rfl) (by kernel_rfl) (by kernel_rfl)
      (by rw [MakeChecks.laidMetH_plain _ _ _ (by kernel_rfl)]; exact laidMet_laidAll _ (by kernel_rfl) (by kernel_rfl)))
    (by kernel_rfl) (by kernel_rfl) rfl rfl Tryd.underlying4 ?_
  intro W base args ds p hval0 hA0 hL
  have hval : ∀ (j : Nat) t v, Tryd.f3.params[j]? = some t → args[j]? = some v → Value.okWide Tryd.prog W .any base t v := hval0
  have hA : DataW.TrodAll enc Tryd.prog W 0 (fun _ => true) true Tryd.f3.params.toList args.toList ds p := hA0
  clear hval0 hA0
  rw [MakeChecks.laidMetH_plain _ _ _ (by kernel_rfl)] at hL
  rw [Tryd.params3] at hA hval
  obtain ⟨v0, vs0, d0, ds0, p0, q0, hargs, rfl, rfl, h0, r0⟩ := trodAll_cons hA
  obtain ⟨v1, vs1, d1, ds1, p1, q1, rfl, rfl, rfl, h1, r1⟩ := trodAll_cons r0
  obtain ⟨rfl, rfl, rfl⟩ := trodAll_nil r1
  obtain rfl : args = #[v0, v1] := by cases args; simp_all
  refine ⟨rfl, ?_⟩
  obtain ⟨a, rfl, -, -, ha⟩ := open_int Tryd.underlying3 (hval 0 3 v0 rfl rfl) h0
  obtain ⟨b, rfl, -, -, hb⟩ := open_int Tryd.underlying3 (hval 1 3 v1 rfl rfl) h1
  have LD := Date.laid_of hL (by exact List.mem_cons_self ..)
  exact months_walk a b W LD

theorem dueMonths_over : Rows.dueMonthsRow.holds Tryd.pinned (OpenSpec.ofChange Rows.dueMonthsSpec) :=
  OpenClaim.holds_of_wide 3 Tryd.f3 rfl rfl rfl rfl rfl rfl rfl ⟨rfl, rfl, rfl, rfl, rfl⟩ rfl rfl rfl rfl rfl (by kernel_rfl) Tryd.func3 (by kernel_rfl)
    (of_decide_eq_true (by kernel_rfl)) (by unfold Func.isWrapper; first | (rw [if_pos (by decide +kernel)]; kernel_rfl) | (rw [if_neg (by decide +kernel)]; exact ⟨rfl, rfl⟩))
    (fun os st H enc _ => dueMonths_lifted os st H enc)

/-- The statement: the card. -/
theorem dueMonths_proved : Rows.DueMonthsCardSaid :=
  Claim7.holds_tied_plain_at .later [] [.data] true Rows.dueMonthsCard.stood.harness false
    dueMonths_over (fun _ h => by cases h) (by kernel_rfl) (fun _ h => by cases h) dueMonths_row_tie rfl ⟨rfl, rfl⟩ (by kernel_rfl) rfl
    (fun f fn hf hfn => by
      obtain rfl : f = 3 := Option.some.inj ((show Tryd.prog.funcNamed "annuity/annuitylaw05.DueMonths" = some 3 by kernel_rfl).symm.trans hf) |>.symm
      obtain rfl : fn = Tryd.f3 := (Option.some.inj (Tryd.func3.symm.trans hfn)).symm
      exact ⟨by kernel_rfl, fun j t ht => by
        have hall : (Tryd.f3.params.toList.all fun u => !Tryd.prog.wantsStandIn u) = true := by kernel_rfl
        exact (show Tryd.prog.wantsStandIn t = false by simpa using List.all_eq_true.1 hall t (Array.mem_def.1 (Array.mem_of_getElem? ht)))⟩)
    (by kernel_rfl)
end Go.Proofs.YthmmlgfechkohaaDoor.Law
