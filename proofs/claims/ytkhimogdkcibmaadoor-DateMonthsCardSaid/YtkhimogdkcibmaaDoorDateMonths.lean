/- A day lies in its month, from the month's first one on; so many months on, and back from a day up to the 28th, is the day itself, at any two numbers; no condition. -/
import Derived.Test.YtkhimogdkcibmaaDoorCards
import Derived.Test.YtkhimogdkcibmaaDoorTie
import Derived.Test.YtkhimogdkcibmaaDoorDoor
import Derived.Test.YtkhimogdkcibmaaDoorDateWakes
import Derived.Test.YtkhimogdkcibmaaDoorMod
namespace Go.Proofs.YtkhimogdkcibmaaDoor.Law
open Go.ChangeShapes Go.WideShapes Go.ChangeAt Go.RowKit Cal Date

theorem months_facts (k : Nat) (h : k ≤ 87658) : monV (k : Int) = (mo k : Int) ∧ monE (k : Int) = 0 ∧ firV (mo k : Int) = (st (mo k) : Nat) ∧ firE (mo k : Int) = 0 ∧ cD (k : Int) = dy k ∧ civE (k : Int) = 0 ∧ (mo k : Int) ≤ 2879 ∧ ((st (mo k) : Nat) : Int) ≤ 87658 := by
  obtain ⟨g, h1, h2, h3, h4⟩ := civ_good k h
  have hm := mo_lt h
  have hs := st_in (m := mo k) (by omega)
  refine ⟨?_, ?_, ?_, ?_, h3, h4, by omega, by omega⟩
  · unfold monV; rw [g]; rfl
  · unfold monE; rw [g]; rfl
  · unfold firV; rw [if_pos (by omega)]; rfl
  · unfold firE; rw [if_pos (by omega)]
theorem months_add (k q : Nat) (h : k ≤ 87658) : (2879 < mo k + q ∧ addE (k : Int) (q : Int) = 15 ∧ addV (k : Int) (q : Int) = 0) ∨
    (mo k + q ≤ 2879 ∧ addE (k : Int) (q : Int) = 0 ∧ ∃ a : Nat, addV (k : Int) (q : Int) = (a : Int) ∧ monV (a : Int) = ((mo k + q : Nat) : Int) ∧ monE (a : Int) = 0 ∧ addE (a : Int) (-(q : Int)) = 0 ∧ a ≤ 87658 ∧
      ∃ b : Nat, addV (a : Int) (-(q : Int)) = (b : Int) ∧ (b = k ∨ (28 < dy k ∧ b < k ∧ k - b ≤ 3))) := by
  by_cases hq : mo k + q ≤ 2879
  · right
    obtain ⟨e1, a, ha, ha1, ha2, ha3⟩ := add_in (x := k) (T := mo k + q) (k := (q : Int)) h (by omega) hq
    obtain ⟨e2, b, hb, hb1⟩ := add_back h ha1 ha2 ha3
    obtain ⟨m1, m2, -⟩ := months_facts a ha1
    rw [ha2] at m1
    exact ⟨hq, e1, a, ha, m1, m2, e2, ha1, b, hb, hb1⟩
  · left
    obtain ⟨e1, e2⟩ := add_out (x := k) (k := (q : Int)) (by omega)
    exact ⟨by omega, e1, e2⟩
theorem small2 {k : Nat} (h : (k : Int) < 87659) : k ≤ 87658 := by omega
theorem small3 {k : Nat} (h : (k : Int) < 2880) : k ≤ 2879 := by omega
theorem months_tests {j q : Nat} (h : j + q ≤ 2879) : ((j + q : Nat) : Int) = (j : Int) + (q : Int) ∧ decide ((2879 : Int) < (j : Int) + (q : Int)) = false ∧ ¬ ((2879 : Int) < (j : Int) + (q : Int)) := ⟨rfl, decide_eq_false (by omega), by omega⟩
theorem months_over {j q : Nat} (h : 2879 < j + q) : decide ((2879 : Int) < (j : Int) + (q : Int)) = true ∧ ((2879 : Int) < (j : Int) + (q : Int)) := ⟨decide_eq_true (by omega), by omega⟩
theorem months_wraps {j q : Nat} (h1 : (j : Int) ≤ 2879) (h2 : q ≤ 2879) : wrap64 ((j : Int) + (q : Int)) = (j : Int) + (q : Int) ∧ wrap64 (-(q : Int)) = -(q : Int) := by
  unfold wrap64; omega
theorem sub_wraps {k b : Nat} (h1 : k ≤ 87658) (h2 : b < k) (h3 : k - b ≤ 3) : wrap64 ((k : Int) - (b : Int)) = (k : Int) - (b : Int) ∧ decide ((k : Int) - (b : Int) ≤ 3) = true ∧ ((k : Int) - (b : Int) ≤ 3) ∧ ((b : Int) == (k : Int)) = false ∧ decide (b < k) = true ∧ ¬ ((b : Int) = (k : Int)) := by
  refine ⟨by unfold wrap64; omega, decide_eq_true (by omega), by omega, by rw [beq_eq_false_iff_ne]; omega, decide_eq_true h2, by omega⟩
theorem months_walk (n m : Int) (w : World) (LD : Laid w) :
    Calls Tryd.prog 7 #[.int .i64 n, .int .i64 m] w fun e w' => e = .returned (.bool true) ∧ Below w.heap.size w w' := by
  go_enter Tryd.func7, Tryd.ntmps7
  go_wp2_with fail
  refine (Mod.mod_any _ 87659 _ (by decide) (by decide)).mono ?_
  rintro e w0 ⟨⟨k, hk0, rfl⟩, rfl⟩
  have hk := small2 hk0
  clear hk0
  go_wp2_with fail
  refine (Mod.mod_any _ 2880 _ (by decide) (by decide)).mono ?_
  rintro e w0 ⟨⟨q, hq0, rfl⟩, rfl⟩
  have hq := small3 hq0
  clear hq0
  obtain ⟨f1, f2, f3, f4, f5, f6, f7, f8⟩ := months_facts k hk
  have F1 := Lib.hid f1
  have F2 := Lib.hid f2
  have F3 := Lib.hid f3
  have F4 := Lib.hid f4
  have F5 := Lib.hid f5
  have F6 := Lib.hid f6
  have A := Lib.hid (months_add k q hk)
  have DI := Lib.hid (day_is k)
  have DR := Lib.hid (dy_range (n := k))
  obtain ⟨W1, W2⟩ := months_wraps f7 hq
  have HK := Lib.hid hk
  have HW1 := Lib.hid W1
  have HW2 := Lib.hid W2
  have F8 := Lib.hid f8
  clear f1 f2 f3 f4 f5 f6 f7 f8 hk hq W1 W2
  go_wp2_with fail
  refine (d_month _ _ LD).mono ?_
  rw [F1.out, F2.out]
  rintro e w1 ⟨rfl, b1⟩
  replace LD := LD.of b1
  go_wp2_with fail
  refine (d_first _ _ LD).mono ?_
  rw [F3.out, F4.out]
  rintro e w2 ⟨rfl, b2⟩
  replace LD := LD.of b2
  go_wp2_with fail
  refine (d_civil _ _ LD).mono ?_
  rw [F5.out, F6.out]
  rintro e w3 ⟨rfl, b3⟩
  replace LD := LD.of b3
  have B := Lib.hid (below_via (below_via b1 b2) b3)
  clear b1 b2 b3 F1 F2 F3 F4 F5 F6
  generalize cY (k : Int) = cy at *
  generalize cM (k : Int) = cm at *
  have di := DI.out
  obtain ⟨d0, d1⟩ := DR.out
  have s1 := F8.out
  generalize dy k = d at *
  generalize st (mo k) = s at *
  generalize mo k = j at *
  have kk : ((k : Int) == (k : Int)) = true := by simp
  go_wp2_with fail
  refine (d_add _ _ _ LD).mono ?_
  clear di d0 d1 s1
  rcases A.out with ⟨a1, a2, a3⟩ | ⟨a1, a2, a, a3, a4, a5, a6, a7, b, a8, a9⟩
  · rw [a2, a3]
    rintro e w4 ⟨rfl, b4⟩
    replace LD := LD.of b4
    obtain ⟨o1, o2⟩ := months_over a1
    have W1 := HW1.out
    clear a1 a2 a3 A
    go_wp2_with fail
    refine (wakes_date _ LD).mono ?_
    rintro e wk ⟨rfl, bk⟩
    replace LD := LD.of bk
    go_wp2_with fail
    go_ret
    exact ⟨rfl, below_via (below_via B.out b4) bk⟩
  · rw [a2, a3]
    rintro e w4 ⟨rfl, b4⟩
    replace LD := LD.of b4
    obtain ⟨o1, o2, o3⟩ := months_tests a1
    have W2 := HW2.out
    have A4 := Lib.hid a4
    have A5 := Lib.hid a5
    have A6 := Lib.hid a6
    have A8 := Lib.hid a8
    clear A a1 a2 a3 a4 a5 a6 a8
    go_wp2_with fail
    refine (d_month _ _ LD).mono ?_
    rw [A4.out, A5.out, o1]
    rintro e w5 ⟨rfl, b5⟩
    replace LD := LD.of b5
    go_wp2_with fail
    refine (d_add _ _ _ LD).mono ?_
    rw [A6.out, A8.out]
    rintro e w6 ⟨rfl, b6⟩
    replace LD := LD.of b6
    have B6 := Lib.hid (below_via (below_via (below_via B.out b4) b5) b6)
    clear b4 b5 b6 o1 W2 A4 A5 A6 A8
    have W1 := HW1.out
    have jj : ((j : Int) + (q : Int) == (j : Int) + (q : Int)) = true := by simp
    rcases a9 with rfl | ⟨h1, h2, h3⟩
    · go_wp2_with fail
      refine (wakes_date _ LD).mono ?_
      rintro e wk ⟨rfl, bk⟩
      replace LD := LD.of bk
      go_wp2_with fail
      go_ret
      exact ⟨rfl, below_via B6.out bk⟩
    · obtain ⟨x1, x2, x3, x4, x5, x6⟩ := sub_wraps HK.out h2 h3
      have x7 : decide ((28 : Int) < d) = true := decide_eq_true h1
      clear h2 h3
      go_wp2_with fail
      refine (wakes_date _ LD).mono ?_
      rintro e wk ⟨rfl, bk⟩
      replace LD := LD.of bk
      go_wp2_with fail
      go_ret
      exact ⟨rfl, below_via B6.out bk⟩

set_option maxRecDepth 100000 in
theorem dateMonths_lifted (os : Os) (started : os.Started) (H : Type) (enc : TypeId × Value → H) :
    ReturnsInHanded {} Tryd.checked os 7 .any (fun w args => (Rows.dateMonthsSpec.pre enc Tryd.prog Tryd.f7 Rows.dateMonthsRow.domain false w args ∧ laidMetH Tryd.prog Rows.dateMonthsRow.laid w) ∧ sizedMet enc Tryd.prog Tryd.f7 (OpenSpec.ofChange Rows.dateMonthsSpec) false w args) (Rows.dateMonthsSpec.post enc Tryd.prog Tryd.f7 false true false false) := by
  refine Door.law_lifted (C := Tryd.checked) (tb := 4) (by kernel_rfl) started (by kernel_rfl) Tryd.func7
    (ChangeSpec.witness_shaped (enc := enc) (C := Tryd.checked) (os := os) (X := fun w _ => laidMetH Tryd.prog Rows.dateMonthsRow.laid w) false (World.laidAll Tryd.prog os Rows.dateMonthsRow.laid) #[.int .i64 0, .int .i64 0] 8 (World.laidAll_os _ _ _)
      (World.shaped_of_ZipB (by kernel_rfl) (by kernel_rfl)) (by kernel_rfl) (by kernel_rfl) (by kernel_rfl)
      (by rw [MakeChecks.laidMetH_plain _ _ _ (by kernel_rfl)]; exact laidMet_laidAll _ (by kernel_rfl) (by kernel_rfl)))
    (by kernel_rfl) (by kernel_rfl) rfl rfl Tryd.underlying4 ?_
  intro W base args ds p hval0 hA0 hL
  have hval : ∀ (j : Nat) t v, Tryd.f7.params[j]? = some t → args[j]? = some v → Value.okWide Tryd.prog W .any base t v := hval0
  have hA : DataW.TrodAll enc Tryd.prog W 0 (fun _ => true) true Tryd.f7.params.toList args.toList ds p := hA0
  clear hval0 hA0
  rw [MakeChecks.laidMetH_plain _ _ _ (by kernel_rfl)] at hL
  rw [Tryd.params7] at hA hval
  obtain ⟨v0, vs0, d0, ds0, p0, q0, hargs, rfl, rfl, h0, r0⟩ := trodAll_cons hA
  obtain ⟨v1, vs1, d1, ds1, p1, q1, rfl, rfl, rfl, h1, r1⟩ := trodAll_cons r0
  obtain ⟨rfl, rfl, rfl⟩ := trodAll_nil r1
  obtain rfl : args = #[v0, v1] := by cases args; simp_all
  refine ⟨rfl, ?_⟩
  obtain ⟨n, rfl, -, -, hn⟩ := open_int Tryd.underlying3 (hval 0 3 v0 rfl rfl) h0
  obtain ⟨m, rfl, -, -, hm⟩ := open_int Tryd.underlying3 (hval 1 3 v1 rfl rfl) h1
  have LD := Date.laid_of hL (by exact List.mem_cons_self ..)
  exact months_walk n m W LD

theorem dateMonths_over : Rows.dateMonthsRow.holds Tryd.pinned (OpenSpec.ofChange Rows.dateMonthsSpec) :=
  OpenClaim.holds_of_wide 7 Tryd.f7 rfl rfl rfl rfl rfl rfl rfl ⟨rfl, rfl, rfl, rfl, rfl⟩ rfl rfl rfl rfl rfl (by kernel_rfl) Tryd.func7 (by kernel_rfl)
    (of_decide_eq_true (by kernel_rfl)) (by unfold Func.isWrapper; first | (rw [if_pos (by decide +kernel)]; kernel_rfl) | (rw [if_neg (by decide +kernel)]; exact ⟨rfl, rfl⟩))
    (fun os st H enc _ => dateMonths_lifted os st H enc)

/-- The statement: the card. -/
theorem dateMonths_proved : Rows.DateMonthsCardSaid :=
  Claim7.holds_tied_plain_at .later [] [.data] true Rows.dateMonthsCard.stood.harness false
    dateMonths_over (fun _ h => by cases h) (by kernel_rfl) (fun _ h => by cases h) dateMonths_row_tie rfl ⟨rfl, rfl⟩ (by kernel_rfl) rfl
    (fun f fn hf hfn => by
      obtain rfl : f = 7 := Option.some.inj ((show Tryd.prog.funcNamed "annuity/annuitylaw04.DateMonths" = some 7 by kernel_rfl).symm.trans hf) |>.symm
      obtain rfl : fn = Tryd.f7 := (Option.some.inj (Tryd.func7.symm.trans hfn)).symm
      exact ⟨by kernel_rfl, fun j t ht => by
        have hall : (Tryd.f7.params.toList.all fun u => !Tryd.prog.wantsStandIn u) = true := by kernel_rfl
        exact (show Tryd.prog.wantsStandIn t = false by simpa using List.all_eq_true.1 hall t (Array.mem_def.1 (Array.mem_of_getElem? ht)))⟩)
    (by kernel_rfl)
end Go.Proofs.YtkhimogdkcibmaaDoor.Law
