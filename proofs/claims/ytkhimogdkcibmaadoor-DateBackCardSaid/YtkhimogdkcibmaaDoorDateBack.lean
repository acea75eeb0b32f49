/- The number of a number's date is it; the next day is the same month's next one, or the next month's first one; weeks go on, at any number; no condition. -/
import Derived.Test.YtkhimogdkcibmaaDoorCards
import Derived.Test.YtkhimogdkcibmaaDoorTie
import Derived.Test.YtkhimogdkcibmaaDoorDoor
import Derived.Test.YtkhimogdkcibmaaDoorDateWakes
import Derived.Test.YtkhimogdkcibmaaDoorMod
namespace Go.Proofs.YtkhimogdkcibmaaDoor.Law
open Go.ChangeShapes Go.WideShapes Go.ChangeAt Go.RowKit Cal Date

theorem back_facts (k : Nat) (h : k ≤ 87657) : (cY (k : Int) = yr k ∧ cM (k : Int) = mn k ∧ cD (k : Int) = dy k ∧ civE (k : Int) = 0) ∧ (cY ((k : Int) + 1) = yr (k + 1) ∧ cM ((k : Int) + 1) = mn (k + 1) ∧ cD ((k : Int) + 1) = dy (k + 1) ∧ civE ((k : Int) + 1) = 0) ∧
    (wekV (k : Int) = ((k : Int) + 5) % 7 ∧ wekE (k : Int) = 0) ∧ (wekV ((k : Int) + 1) = ((k : Int) + 1 + 5) % 7 ∧ wekE ((k : Int) + 1) = 0) := by
  obtain ⟨g1, h1⟩ := civ_good k (by omega)
  obtain ⟨g2, h2⟩ := civ_good (k + 1) (by omega)
  have e : ((k + 1 : Nat) : Int) = (k : Int) + 1 := rfl
  rw [e] at g2 h2
  refine ⟨h1, h2, ?_, ?_⟩
  · unfold wekV wekE; rw [g1]; exact ⟨rfl, rfl⟩
  · unfold wekV wekE; rw [g2]; exact ⟨rfl, rfl⟩
theorem small {k : Nat} (h : (k : Int) < 87658) : k ≤ 87657 := by omega
theorem weeks (k : Nat) : ((k : Int) + 1 + 5) % 7 = (((k : Int) + 5) % 7 + 1) % 7 ∧ (0 ≤ ((k : Int) + 5) % 7 ∧ ((k : Int) + 5) % 7 < 7) := by omega
theorem back_walk (n : Int) (w : World) (LD : Laid w) :
    Calls Tryd.prog 6 #[.int .i64 n] w fun e w' => e = .returned (.bool true) ∧ Below w.heap.size w w' := by
  go_enter Tryd.func6, Tryd.ntmps6
  go_wp2_with fail
  refine (Mod.mod_any _ 87658 _ (by decide) (by decide)).mono ?_
  rintro e w0 ⟨⟨k, hk0, rfl⟩, rfl⟩
  have hk := small hk0
  clear hk0
  obtain ⟨f1, f2, f3, f4⟩ := back_facts k hk
  have F1 := Lib.hid f1
  have F2 := Lib.hid f2
  have F3 := Lib.hid f3
  have F4 := Lib.hid f4
  have O := Lib.hid (of_civ k (Nat.le_succ_of_le hk))
  have N := Lib.hid (next_day k)
  obtain ⟨V, U⟩ := weeks k
  have k1 : (k : Int) ≤ 87657 := Int.ofNat_le.2 hk
  rw [V] at F4
  have B2 := Lib.hid (civ_month k (Nat.le_succ_of_le hk)).2
  clear f1 f2 f3 f4 hk V
  generalize hu : ((k : Int) + 5) % 7 = u at *
  clear hu
  obtain ⟨u0, u1⟩ := U
  have W7 : wrap64 (u + 1) = u + 1 := by unfold wrap64; omega
  have W8 : (u + 1).tmod 7 = (u + 1) % 7 := Int.tmod_eq_emod_of_nonneg (by omega)
  go_wp2_with fail
  refine (d_civil _ _ LD).mono ?_
  rw [F1.out.1, F1.out.2.1, F1.out.2.2.1, F1.out.2.2.2]
  rintro e w1 ⟨rfl, b1⟩
  replace LD := LD.of b1
  go_wp2_with fail
  refine (d_of _ _ _ _ LD).mono ?_
  rw [O.out.1, O.out.2]
  rintro e w2 ⟨rfl, b2⟩
  replace LD := LD.of b2
  go_wp2_with fail
  refine (d_civil _ _ LD).mono ?_
  rw [F2.out.1, F2.out.2.1, F2.out.2.2.1, F2.out.2.2.2]
  rintro e w3 ⟨rfl, b3⟩
  replace LD := LD.of b3
  go_wp2_with fail
  refine (d_week _ _ LD).mono ?_
  rw [F3.out.1, F3.out.2]
  rintro e w4 ⟨rfl, b4⟩
  replace LD := LD.of b4
  go_wp2_with fail
  refine (d_week _ _ LD).mono ?_
  rw [F4.out.1, F4.out.2]
  rintro e w5 ⟨rfl, b5⟩
  replace LD := LD.of b5
  have B := Lib.hid (below_via (below_via (below_via (below_via b1 b2) b3) b4) b5)
  clear b1 b2 b3 b4 b5 F1 F2 F3 F4 O
  have kk : ((k : Int) == (k : Int)) = true := by simp
  have vv : ((u + 1) % 7 == (u + 1) % 7) = true := by simp
  have N := N.out
  obtain ⟨y0, y1, m0, m1⟩ := B2.out
  have D := Lib.hid (dy_range (n := k))
  generalize yr (k + 1) = y' at *
  generalize mn (k + 1) = m' at *
  generalize dy (k + 1) = d' at *
  generalize yr k = y at *
  generalize mn k = m at *
  generalize dy k = d at *
  obtain ⟨d0, d1⟩ := D.out
  rcases N with ⟨h1, rfl, rfl, rfl⟩ | ⟨rfl, rfl, ⟨rfl, rfl⟩ | ⟨rfl, rfl, rfl⟩⟩
  · have ne : (d + 1 == 1) = false := by rw [beq_eq_false_iff_ne]; exact h1
    have yy : ∀ x : Int, (x == x) = true := fun x => by simp
    go_wp2_with fail
    refine (wakes_date _ LD).mono ?_
    rintro e wk ⟨rfl, bk⟩
    replace LD := LD.of bk
    go_wp2_with fail
    go_ret
    exact ⟨rfl, below_via B.out bk⟩
  · have yy : ∀ x : Int, (x == x) = true := fun x => by simp
    go_wp2_with fail
    refine (d_days _ _ _ LD).mono ?_
    rintro e w6 ⟨rfl, b6⟩
    replace LD := LD.of b6
    go_wp2_with fail
    refine (wakes_date _ LD).mono ?_
    rintro e wk ⟨rfl, bk⟩
    replace LD := LD.of bk
    go_wp2_with fail
    go_ret
    exact ⟨rfl, below_via (below_via B.out b6) bk⟩
  · have yy : ∀ x : Int, (x == x) = true := fun x => by simp
    have y3 : ∀ x : Int, (x + 1 == x) = false := fun x => by rw [beq_eq_false_iff_ne]; omega
    go_wp2_with fail
    refine (d_days _ _ _ LD).mono ?_
    rintro e w6 ⟨rfl, b6⟩
    replace LD := LD.of b6
    go_wp2_with fail
    refine (wakes_date _ LD).mono ?_
    rintro e wk ⟨rfl, bk⟩
    replace LD := LD.of bk
    go_wp2_with fail
    go_ret
    exact ⟨rfl, below_via (below_via B.out b6) bk⟩

set_option maxRecDepth 100000 in
theorem dateBack_lifted (os : Os) (started : os.Started) (H : Type) (enc : TypeId × Value → H) :
    ReturnsInHanded {} Tryd.checked os 6 .any (fun w args => (Rows.dateBackSpec.pre enc Tryd.prog Tryd.f6 Rows.dateBackRow.domain false w args ∧ laidMetH Tryd.prog Rows.dateBackRow.laid w) ∧ sizedMet enc Tryd.prog Tryd.f6 (OpenSpec.ofChange Rows.dateBackSpec) false w args) (Rows.dateBackSpec.post enc Tryd.prog Tryd.f6 false true false false) := by
  refine Door.law_lifted (C := Tryd.checked) (tb := 4) (by kernel_rfl) started (by kernel_rfl) Tryd.func6
    (ChangeSpec.witness_shaped (enc := enc) (C := Tryd.checked) (os := os) (X := fun w _ => laidMetH Tryd.prog Rows.dateBackRow.laid w) false (World.laidAll Tryd.prog os Rows.dateBackRow.laid) #[.int .i64 0] 8 (World.laidAll_os _ _ _)
      (World.shaped_of_ZipB (by kernel_rfl) (by kernel_rfl)) (by kernel_rfl) (by kernel_rfl) (by kernel_rfl)
      (by rw [MakeChecks.laidMetH_plain _ _ _ (by kernel_rfl)]; exact laidMet_laidAll _ (by kernel_rfl) (by kernel_rfl)))
    (by kernel_rfl) (by kernel_rfl) rfl rfl Tryd.underlying4 ?_
  intro W base args ds p hval0 hA0 hL
  have hval : ∀ (j : Nat) t v, Tryd.f6.params[j]? = some t → args[j]? = some v → Value.okWide Tryd.prog W .any base t v := hval0
  have hA : DataW.TrodAll enc Tryd.prog W 0 (fun _ => true) true Tryd.f6.params.toList args.toList ds p := hA0
  clear hval0 hA0
  rw [MakeChecks.laidMetH_plain _ _ _ (by kernel_rfl)] at hL
  rw [Tryd.params6] at hA hval
  obtain ⟨v0, vs0, d0, ds0, p0, q0, hargs, rfl, rfl, h0, r0⟩ := trodAll_cons hA
  obtain ⟨rfl, rfl, rfl⟩ := trodAll_nil r0
  obtain rfl : args = #[v0] := by cases args; simp_all
  refine ⟨rfl, ?_⟩
  obtain ⟨n, rfl, -, -, hn⟩ := open_int Tryd.underlying3 (hval 0 3 v0 rfl rfl) h0
  have LD := Date.laid_of hL (by exact List.mem_cons_self ..)
  exact back_walk n W LD

theorem dateBack_over : Rows.dateBackRow.holds Tryd.pinned (OpenSpec.ofChange Rows.dateBackSpec) :=
  OpenClaim.holds_of_wide 6 Tryd.f6 rfl rfl rfl rfl rfl rfl rfl ⟨rfl, rfl, rfl, rfl, rfl⟩ rfl rfl rfl rfl rfl (by kernel_rfl) Tryd.func6 (by kernel_rfl)
    (of_decide_eq_true (by kernel_rfl)) (by unfold Func.isWrapper; first | (rw [if_pos (by decide +kernel)]; kernel_rfl) | (rw [if_neg (by decide +kernel)]; exact ⟨rfl, rfl⟩))
    (fun os st H enc _ => dateBack_lifted os st H enc)

/-- The statement: the card. -/
theorem dateBack_proved : Rows.DateBackCardSaid :=
  Claim7.holds_tied_plain_at .later [] [.data] true Rows.dateBackCard.stood.harness false
    dateBack_over (fun _ h => by cases h) (by kernel_rfl) (fun _ h => by cases h) dateBack_row_tie rfl ⟨rfl, rfl⟩ (by kernel_rfl) rfl
    (fun f fn hf hfn => by
      obtain rfl : f = 6 := Option.some.inj ((show Tryd.prog.funcNamed "annuity/annuitylaw04.DateBack" = some 6 by kernel_rfl).symm.trans hf) |>.symm
      obtain rfl : fn = Tryd.f6 := (Option.some.inj (Tryd.func6.symm.trans hfn)).symm
      exact ⟨by kernel_rfl, fun j t ht => by
        have hall : (Tryd.f6.params.toList.all fun u => !Tryd.prog.wantsStandIn u) = true := by kernel_rfl
        exact (show Tryd.prog.wantsStandIn t = false by simpa using List.all_eq_true.1 hall t (Array.mem_def.1 (Array.mem_of_getElem? ht)))⟩)
    (by kernel_rfl)
end Go.Proofs.YtkhimogdkcibmaaDoor.Law
