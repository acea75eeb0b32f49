/- Civil, Month, Week, First and Good answer what the document's own answer, at any number and any month; no condition. -/
import Derived.Test.YtkhimogdkcibmaaDoorCards
import Derived.Test.YtkhimogdkcibmaaDoorTie
import Derived.Test.YtkhimogdkcibmaaDoorDoor
import Derived.Test.YtkhimogdkcibmaaDoorDateWakes
namespace Go.Proofs.YtkhimogdkcibmaaDoor.Law
open Go.ChangeShapes Go.WideShapes Go.ChangeAt Go.RowKit Cal Date

theorem civil_walk (n m : Int) (w : World) (LD : Laid w) :
    Calls Tryd.prog 4 #[.int .i64 n, .int .i64 m] w fun e w' => e = .returned (.bool true) ∧ Below w.heap.size w w' := by
  have h1 := d_civil n
  have h2 := rcivil_any n
  have h3 := d_month n
  have h4 := rmonth_any n
  have h5 := d_week n
  have h6 := rweek_any n
  have h7 := d_first m
  have h8 := rfirst_any m
  have h9 := d_good n
  have h0 := rday_any n
  generalize cY n = y at *
  generalize cM n = mm at *
  generalize cD n = d at *
  generalize civE n = e1 at *
  generalize monV n = a at *
  generalize monE n = e2 at *
  generalize wekV n = u at *
  generalize wekE n = e3 at *
  generalize firV m = f at *
  generalize firE m = e4 at *
  generalize dayB n = g at *
  have s : ∀ x : Int, (x == x) = true := fun x => by simp
  have s1 := s y
  have s2 := s mm
  have s3 := s d
  have s4 := s e1
  have s5 := s a
  have s6 := s e2
  have s7 := s u
  have s8 := s e3
  have s9 := s f
  have s0 := s e4
  have sg : (g == g) = true := by cases g <;> rfl
  clear s
  go_enter Tryd.func4, Tryd.ntmps4
  go_wp2_with fail
  refine (h1 _ LD).mono ?_
  rintro e w1 ⟨rfl, b1⟩
  replace LD := LD.of b1
  go_wp2_with fail
  refine (h2 _).mono ?_
  rintro e w2 ⟨rfl, b2⟩
  replace LD := LD.of b2
  have LA := fun o => LD.alloc o
  go_wp2_with fail
  refine (h3 _ (LA _)).mono ?_
  rintro e w3 ⟨rfl, b3⟩; replace LD := (LA _).of b3; clear LA
  go_wp2_with fail
  refine (h4 _).mono ?_
  rintro e w4 ⟨rfl, b4⟩
  replace LD := LD.of b4
  go_wp2_with fail
  refine (h5 _ LD).mono ?_
  rintro e w5 ⟨rfl, b5⟩
  replace LD := LD.of b5
  go_wp2_with fail
  refine (h6 _).mono ?_
  rintro e w0 ⟨rfl, rfl⟩
  go_wp2_with fail
  refine (h7 _ LD).mono ?_
  rintro e w7 ⟨rfl, b7⟩
  replace LD := LD.of b7
  go_wp2_with fail
  refine (h8 _).mono ?_
  rintro e w0 ⟨rfl, rfl⟩
  go_wp2_with fail
  refine (h9 _ LD).mono ?_
  rintro e w9 ⟨rfl, b9⟩
  replace LD := LD.of b9
  have B := below_via (below_via (below_via (below_via b3 b4) b5) b7) b9
  have c0 : w9.cell? ⟨w2.heap.size, 0, none⟩ = some (.int .i64 y) := fresh_cell B 0
  have c1 : w9.cell? ⟨w2.heap.size, 1, none⟩ = some (.int .i64 mm) := fresh_cell B 1
  have c2 : w9.cell? ⟨w2.heap.size, 2, none⟩ = some (.int .i64 d) := fresh_cell B 2
  go_wp2_with fail
  refine (h0 _).mono ?_
  rintro e w0 ⟨rfl, rfl⟩
  go_wp2_with fail
  refine (wakes_date _ LD).mono ?_
  rintro e wk ⟨rfl, bk⟩
  replace LD := LD.of bk
  go_wp2_with fail
  go_ret
  exact ⟨rfl, below_via (below_via (below_new (below_via b1 b2) _) B) bk⟩

set_option maxRecDepth 100000 in
theorem dateCivil_lifted (os : Os) (started : os.Started) (H : Type) (enc : TypeId × Value → H) :
    ReturnsInHanded {} Tryd.checked os 4 .any (fun w args => (Rows.dateCivilSpec.pre enc Tryd.prog Tryd.f4 Rows.dateCivilRow.domain false w args ∧ laidMetH Tryd.prog Rows.dateCivilRow.laid w) ∧ sizedMet enc Tryd.prog Tryd.f4 (OpenSpec.ofChange Rows.dateCivilSpec) false w args) (Rows.dateCivilSpec.post enc Tryd.prog Tryd.f4 false true false false) := by
  refine Door.law_lifted (C := Tryd.checked) (tb := 4) (by kernel_rfl) started (by kernel_rfl) Tryd.func4
    (ChangeSpec.witness_shaped (enc := enc) (C := Tryd.checked) (os := os) (X := fun w _ => laidMetH Tryd.prog Rows.dateCivilRow.laid w) false (World.laidAll Tryd.prog os Rows.dateCivilRow.laid) #[.int .i64 0, .int .i64 0] 8 (World.laidAll_os _ _ _)
      (World.shaped_of_ZipB (by kernel_rfl) (by kernel_rfl)) (by kernel_rfl) (by kernel_rfl) (by kernel_rfl)
      (by rw [MakeChecks.laidMetH_plain _ _ _ (by kernel_rfl)]; exact laidMet_laidAll _ (by kernel_rfl) (by kernel_rfl)))
    (by kernel_rfl) (by kernel_rfl) rfl rfl Tryd.underlying4 ?_
  intro W base args ds p hval0 hA0 hL
  have hval : ∀ (j : Nat) t v, Tryd.f4.params[j]? = some t → args[j]? = some v → Value.okWide Tryd.prog W .any base t v := hval0
  have hA : DataW.TrodAll enc Tryd.prog W 0 (fun _ => true) true Tryd.f4.params.toList args.toList ds p := hA0
  clear hval0 hA0
  rw [MakeChecks.laidMetH_plain _ _ _ (by kernel_rfl)] at hL
  rw [Tryd.params4] at hA hval
  obtain ⟨v0, vs0, d0, ds0, p0, q0, hargs, rfl, rfl, h0, r0⟩ := trodAll_cons hA
  obtain ⟨v1, vs1, d1, ds1, p1, q1, rfl, rfl, rfl, h1, r1⟩ := trodAll_cons r0
  obtain ⟨rfl, rfl, rfl⟩ := trodAll_nil r1
  obtain rfl : args = #[v0, v1] := by cases args; simp_all
  refine ⟨rfl, ?_⟩
  obtain ⟨n, rfl, -, -, hn⟩ := open_int Tryd.underlying3 (hval 0 3 v0 rfl rfl) h0
  obtain ⟨m, rfl, -, -, hm⟩ := open_int Tryd.underlying3 (hval 1 3 v1 rfl rfl) h1
  have LD := Date.laid_of hL (by exact List.mem_cons_self ..)
  exact civil_walk n m W LD

theorem dateCivil_over : Rows.dateCivilRow.holds Tryd.pinned (OpenSpec.ofChange Rows.dateCivilSpec) :=
  OpenClaim.holds_of_wide 4 Tryd.f4 rfl rfl rfl rfl rfl rfl rfl ⟨rfl, rfl, rfl, rfl, rfl⟩ rfl rfl rfl rfl rfl (by kernel_rfl) Tryd.func4 (by kernel_rfl)
    (of_decide_eq_true (by kernel_rfl)) (by unfold Func.isWrapper; first | (rw [if_pos (by decide +kernel)]; kernel_rfl) | (rw [if_neg (by decide +kernel)]; exact ⟨rfl, rfl⟩))
    (fun os st H enc _ => dateCivil_lifted os st H enc)

/-- The statement: the card. -/
theorem dateCivil_proved : Rows.DateCivilCardSaid :=
  Claim7.holds_tied_plain_at .later [] [.data] true Rows.dateCivilCard.stood.harness false
    dateCivil_over (fun _ h => by cases h) (by kernel_rfl) (fun _ h => by cases h) dateCivil_row_tie rfl ⟨rfl, rfl⟩ (by kernel_rfl) rfl
    (fun f fn hf hfn => by
      obtain rfl : f = 4 := Option.some.inj ((show Tryd.prog.funcNamed "annuity/annuitylaw04.DateCivil" = some 4 by kernel_rfl).symm.trans hf) |>.symm
      obtain rfl : fn = Tryd.f4 := (Option.some.inj (Tryd.func4.symm.trans hfn)).symm
      exact ⟨by kernel_rfl, fun j t ht => by
        have hall : (Tryd.f4.params.toList.all fun u => !Tryd.prog.wantsStandIn u) = true := by kernel_rfl
        exact (show Tryd.prog.wantsStandIn t = false by simpa using List.all_eq_true.1 hall t (Array.mem_def.1 (Array.mem_of_getElem? ht)))⟩)
    (by kernel_rfl)
end Go.Proofs.YtkhimogdkcibmaaDoor.Law
