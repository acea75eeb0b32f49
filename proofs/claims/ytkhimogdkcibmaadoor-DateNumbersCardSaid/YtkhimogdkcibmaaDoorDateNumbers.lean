/- Of, Long and Days answer what the document's own answer, at any year, month and day; no condition. -/
import Derived.Test.YtkhimogdkcibmaaDoorCards
import Derived.Test.YtkhimogdkcibmaaDoorTie
import Derived.Test.YtkhimogdkcibmaaDoorDoor
import Derived.Test.YtkhimogdkcibmaaDoorDateWakes
namespace Go.Proofs.YtkhimogdkcibmaaDoor.Law
open Go.ChangeShapes Go.WideShapes Go.ChangeAt Go.RowKit Cal Date

theorem numbers_walk (y m d : Int) (w : World) (LD : Laid w) :
    Calls Tryd.prog 3 #[.int .i64 y, .int .i64 m, .int .i64 d] w fun e w' => e = .returned (.bool true) ∧ Below w.heap.size w w' := by
  have h1 := d_of y m d
  have h2 := rof_any y m d
  have h3 := d_long y
  have h4 := rlong_any y
  have h5 := d_days y m
  have h6 := rdays_any y m
  generalize ofV y m d = a at *
  generalize ofE y m d = x at *
  generalize longB y = g at *
  generalize daysI y m = q at *
  have e1 : (a == a) = true := by simp
  have e2 : (x == x) = true := by simp
  have e3 : (g == g) = true := by cases g <;> rfl
  have e4 : (q == q) = true := by simp
  go_enter Tryd.func3, Tryd.ntmps3
  go_wp2_with fail
  refine (h1 _ LD).mono ?_
  rintro e w1 ⟨rfl, b1⟩
  replace LD := LD.of b1
  go_wp2_with fail
  refine (h2 _).mono ?_
  rintro e w0 ⟨rfl, rfl⟩
  go_wp2_with fail
  refine (h3 _ LD).mono ?_
  rintro e w2 ⟨rfl, b2⟩
  replace LD := LD.of b2
  go_wp2_with fail
  refine (h4 _).mono ?_
  rintro e w0 ⟨rfl, rfl⟩
  go_wp2_with fail
  refine (h5 _ LD).mono ?_
  rintro e w3 ⟨rfl, b3⟩
  replace LD := LD.of b3
  go_wp2_with fail
  refine (h6 _).mono ?_
  rintro e w0 ⟨rfl, rfl⟩
  go_wp2_with fail
  refine (wakes_date _ LD).mono ?_
  rintro e w4 ⟨rfl, b4⟩
  replace LD := LD.of b4
  go_wp2_with fail
  go_ret
  exact ⟨rfl, below_via (below_via (below_via b1 b2) b3) b4⟩

set_option maxRecDepth 100000 in
theorem dateNumbers_lifted (os : Os) (started : os.Started) (H : Type) (enc : TypeId × Value → H) :
    ReturnsInHanded {} Tryd.checked os 3 .any (fun w args => (Rows.dateNumbersSpec.pre enc Tryd.prog Tryd.f3 Rows.dateNumbersRow.domain false w args ∧ laidMetH Tryd.prog Rows.dateNumbersRow.laid w) ∧ sizedMet enc Tryd.prog Tryd.f3 (OpenSpec.ofChange Rows.dateNumbersSpec) false w args) (Rows.dateNumbersSpec.post enc Tryd.prog Tryd.f3 false true false false) := by
  refine Door.law_lifted (C := Tryd.checked) (tb := 4) (by kernel_rfl) started (by kernel_rfl) Tryd.func3
    (ChangeSpec.witness_shaped (enc := enc) (C := Tryd.checked) (os := os) (X := fun w _ => laidMetH Tryd.prog Rows.dateNumbersRow.laid w) false (World.laidAll Tryd.prog os Rows.dateNumbersRow.laid) #[.int .i64 0, .int .i64 0, .int .i64 0] 8 (World.laidAll_os _ _ _)
      (World.shaped_of_ZipB (by kernel_rfl) (by kernel_rfl)) (by kernel_rfl) (by kernel_rfl) (by kernel_rfl)
      (by rw [MakeChecks.laidMetH_plain _ _ _ (by kernel_rfl)]; exact laidMet_laidAll _ (by kernel_rfl) (by kernel_rfl)))
    (by kernel_rfl) (by kernel_rfl) rfl rfl Tryd.underlying4 ?_
  intro W base args ds p hval0 hA0 hL
  have hval : ∀ (j : Nat) t v, Tryd.f3.params[j]? = some t → args[j]? = some v → Value.okWide Tryd.prog W .any base t v := hval0
  have hA : DataW.TrodAll enc Tryd.prog W 0 (fun _ => true) true Tryd.f3.params.toList args.toList ds p := hA0
  clear hval0 hA0
  rw [MakeChecks.laidMetH_plain _ _ _ (by kernel_rfl)] at hL
  rw [Tryd.params3] at hA hval
  obtain ⟨v0, vs0, d0, ds0, p0, q0, hargs, rfl, rfl, h0, r0⟩ := trodAll_cons hA
  obtain ⟨v1, vs1, d1, ds1, p1, q1, rfl, rfl, rfl, h1, r1⟩ := trodAll_cons r0
  obtain ⟨v2, vs2, d2, ds2, p2, q2, rfl, rfl, rfl, h2, r2⟩ := trodAll_cons r1
  obtain ⟨rfl, rfl, rfl⟩ := trodAll_nil r2
  obtain rfl : args = #[v0, v1, v2] := by cases args; simp_all
  refine ⟨rfl, ?_⟩
  obtain ⟨y, rfl, -, -, hy⟩ := open_int Tryd.underlying3 (hval 0 3 v0 rfl rfl) h0
  obtain ⟨m, rfl, -, -, hm⟩ := open_int Tryd.underlying3 (hval 1 3 v1 rfl rfl) h1
  obtain ⟨d, rfl, -, -, hd⟩ := open_int Tryd.underlying3 (hval 2 3 v2 rfl rfl) h2
  have LD := Date.laid_of hL (by exact List.mem_cons_self ..)
  exact numbers_walk y m d W LD

theorem dateNumbers_over : Rows.dateNumbersRow.holds Tryd.pinned (OpenSpec.ofChange Rows.dateNumbersSpec) :=
  OpenClaim.holds_of_wide 3 Tryd.f3 rfl rfl rfl rfl rfl rfl rfl ⟨rfl, rfl, rfl, rfl, rfl⟩ rfl rfl rfl rfl rfl (by kernel_rfl) Tryd.func3 (by kernel_rfl)
    (of_decide_eq_true (by kernel_rfl)) (by unfold Func.isWrapper; first | (rw [if_pos (by decide +kernel)]; kernel_rfl) | (rw [if_neg (by decide +kernel)]; exact ⟨rfl, rfl⟩))
    (fun os st H enc _ => dateNumbers_lifted os st H enc)

/-- The statement: the card. -/
theorem dateNumbers_proved : Rows.DateNumbersCardSaid :=
  Claim7.holds_tied_plain_at .later [] [.data] true Rows.dateNumbersCard.stood.harness false
    dateNumbers_over (fun _ h => by cases h) (by kernel_rfl) (fun _ h => by cases h) dateNumbers_row_tie rfl ⟨rfl, rfl⟩ (by kernel_rfl) rfl
    (fun f fn hf hfn => by
      obtain rfl : f = 3 := Option.some.inj ((show Tryd.prog.funcNamed "annuity/annuitylaw04.DateNumbers" = some 3 by kernel_rfl).symm.trans hf) |>.symm
      obtain rfl : fn = Tryd.f3 := (Option.some.inj (Tryd.func3.symm.trans hfn)).symm
      exact ⟨by kernel_rfl, fun j t ht => by
        have hall : (Tryd.f3.params.toList.all fun u => !Tryd.prog.wantsStandIn u) = true := by kernel_rfl
        exact (show Tryd.prog.wantsStandIn t = false by simpa using List.all_eq_true.1 hall t (Array.mem_def.1 (Array.mem_of_getElem? ht)))⟩)
    (by kernel_rfl)
end Go.Proofs.YtkhimogdkcibmaaDoor.Law
