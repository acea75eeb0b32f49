/- So many whole months on is not above the day, one more is; a day is late just if it is not in time, at any three numbers; no condition. -/
import Derived.Test.YthmmlgfechkohaaDoorCards
import Derived.Test.YthmmlgfechkohaaDoorTie
import Derived.Test.YthmmlgfechkohaaDoorDoor
import Derived.Test.YthmmlgfechkohaaDoorDueWakes
import Derived.Test.YthmmlgfechkohaaDoorMod
namespace Go.Proofs.YthmmlgfechkohaaDoor.Law
open Go.ChangeShapes Go.WideShapes Go.ChangeAt Go.RowKit Cal Date Due Slice

theorem small1 {k : Nat} (h : (k : Int) < 87659) : k ≤ 87658 := by omega
theorem month_in {k : Nat} (h : (k : Int) < 2880) : monB (k : Int) = true := decide_eq_true (by omega)
theorem whole_back {x y : Nat} (h : x < y) : whoV (y : Int) (x : Int) = 0 := who_no (by
  unfold whoB
  rw [decide_eq_false (show ¬ (y : Int) ≤ (x : Int) by omega), Bool.and_false])
theorem ne_test {x y : Nat} (h : x < y) : (x == y) = false := by rw [beq_eq_false_iff_ne]; omega
theorem whole_wrap {k : Int} (h0 : 0 ≤ k) (h1 : k ≤ 2879) : wrap64 (k + 1) = k + 1 ∧ decide (k < 0) = false ∧ ¬ k < 0 := by
  refine ⟨by unfold wrap64; omega, decide_eq_false (by omega), by omega⟩
theorem le_test {n h : Int} (k : n ≤ h) : decide (h < n) = false ∧ ¬ h < n := ⟨decide_eq_false (by omega), by omega⟩
theorem gt_test {n h : Int} (k : ¬ n ≤ h) : decide (n ≤ h) = false ∧ ¬ n ≤ h := ⟨decide_eq_false (by omega), by omega⟩
set_option maxHeartbeats 4000000 in
theorem whole_walk (a b m : Int) (w : World) (LD : Laid w) :
    Calls Tryd.prog 6 #[.int .i64 a, .int .i64 b, .int .i64 m] w fun e w' => e = .returned (.bool true) ∧ Below w.heap.size w w' := by
  go_enter Tryd.func6, Tryd.ntmps6
  go_wp2_with fail
  refine (Mod.mod_any _ 87659 _ (by decide) (by decide)).mono ?_
  rintro e w0 ⟨⟨x, x0, rfl⟩, rfl⟩
  have hx := small1 x0
  clear x0
  go_wp2_with fail
  refine (Mod.mod_any _ 87659 _ (by decide) (by decide)).mono ?_
  rintro e w0 ⟨⟨y, y0, rfl⟩, rfl⟩
  have hy := small1 y0
  clear y0
  rcases Nat.lt_trichotomy x y with h | h | h
  · have HLT := Lib.hid h
    have HU := u_whole (x : Int) (y : Int)
    obtain ⟨q1, q2, q3, q4, q5⟩ := who_is (x := x) (y := y) (by omega) (by omega)
    have HD : Hid (dayB (y : Int) = true) := decide_eq_true (by omega)
    generalize hk : whoV (x : Int) (y : Int) = k at *
    clear hk
    obtain ⟨k1, k2, k3⟩ := whole_wrap q1 q2
    have A1 := radd_any (x : Int) k
    have A2 := radd_any (x : Int) (k + 1)
    rw [q3] at A1
    generalize addV (x : Int) k = n at *
    obtain ⟨n1, n2⟩ := le_test q4
    have hf : addE (x : Int) (k + 1) = 0 ∨ addE (x : Int) (k + 1) = 15 := by unfold addE; split <;> simp
    generalize addV (x : Int) (k + 1) = n' at *
    generalize addE (x : Int) (k + 1) = f at *
    clear q1 q2 q3 q4 hx hy
    go_wp2_with fail
    refine (HU _ LD).mono ?_
    rintro e w1 ⟨rfl, b1⟩
    replace LD := LD.of b1
    go_wp2_with fail
    refine (A1 _).mono ?_
    rintro e w2 ⟨rfl, b2⟩
    replace LD := LD.of b2
    go_wp2_with fail
    refine (A2 _).mono ?_
    rintro e w3 ⟨rfl, b3⟩
    replace LD := LD.of b3
    have B3 := Lib.hid (below_via (below_via b1 b2) b3)
    clear b1 b2 b3
    rcases hf with rfl | rfl
    · obtain ⟨g1, g2⟩ := gt_test (fun h => q5 ⟨rfl, h⟩)
      clear q5
      go_wp2_with fail
      refine (Mod.mod_any _ 2880 _ (by decide) (by decide)).mono ?_
      rintro e w0 ⟨⟨i, i0, rfl⟩, rfl⟩
      have hm : monB (i : Int) = true := month_in i0
      have hg := in_late hm HD.out
      clear i0
      go_wp2_with fail
      refine (u_in _ _ _ LD).mono ?_
      rw [hg]
      rintro e w4 ⟨rfl, b4⟩
      replace LD := LD.of b4
      go_wp2_with fail
      refine (u_late _ _ _ LD).mono ?_
      rintro e w5 ⟨rfl, b5⟩
      replace LD := LD.of b5
      clear hg hm
      generalize lateV (i : Int) (y : Int) = l at *
      have B5 := Lib.hid (below_via (below_via B3.out b4) b5)
      clear b4 b5
      have ss := ne_test HLT.out
      have hn := whole_back HLT.out
      go_wp2_with fail
      refine (u_whole _ _ _ LD).mono ?_
      rw [hn]
      rintro e w6 ⟨rfl, b6⟩
      replace LD := LD.of b6
      go_wp2_with fail
      refine (wakes_due _ LD).mono ?_
      rintro e wk ⟨rfl, bk⟩
      go_wp2_with fail
      go_ret
      exact ⟨rfl, below_via (below_via B5.out b6) bk⟩
    · clear q5
      go_wp2_with fail
      refine (Mod.mod_any _ 2880 _ (by decide) (by decide)).mono ?_
      rintro e w0 ⟨⟨i, i0, rfl⟩, rfl⟩
      have hm : monB (i : Int) = true := month_in i0
      have hg := in_late hm HD.out
      clear i0
      go_wp2_with fail
      refine (u_in _ _ _ LD).mono ?_
      rw [hg]
      rintro e w4 ⟨rfl, b4⟩
      replace LD := LD.of b4
      go_wp2_with fail
      refine (u_late _ _ _ LD).mono ?_
      rintro e w5 ⟨rfl, b5⟩
      replace LD := LD.of b5
      clear hg hm
      generalize lateV (i : Int) (y : Int) = l at *
      have B5 := Lib.hid (below_via (below_via B3.out b4) b5)
      clear b4 b5
      have ss := ne_test HLT.out
      have hn := whole_back HLT.out
      go_wp2_with fail
      refine (u_whole _ _ _ LD).mono ?_
      rw [hn]
      rintro e w6 ⟨rfl, b6⟩
      replace LD := LD.of b6
      go_wp2_with fail
      refine (wakes_due _ LD).mono ?_
      rintro e wk ⟨rfl, bk⟩
      go_wp2_with fail
      go_ret
      exact ⟨rfl, below_via (below_via B5.out b6) bk⟩
  · subst h
    have HU := u_whole (x : Int) (x : Int)
    obtain ⟨q1, q2, q3, q4, q5⟩ := who_is (x := x) (y := x) (by omega) (by omega)
    have HD : Hid (dayB (x : Int) = true) := decide_eq_true (by omega)
    generalize hk : whoV (x : Int) (x : Int) = k at *
    clear hk
    obtain ⟨k1, k2, k3⟩ := whole_wrap q1 q2
    have A1 := radd_any (x : Int) k
    have A2 := radd_any (x : Int) (k + 1)
    rw [q3] at A1
    generalize addV (x : Int) k = n at *
    obtain ⟨n1, n2⟩ := le_test q4
    have hf : addE (x : Int) (k + 1) = 0 ∨ addE (x : Int) (k + 1) = 15 := by unfold addE; split <;> simp
    generalize addV (x : Int) (k + 1) = n' at *
    generalize addE (x : Int) (k + 1) = f at *
    clear q1 q2 q3 q4 hx hy
    go_wp2_with fail
    refine (HU _ LD).mono ?_
    rintro e w1 ⟨rfl, b1⟩
    replace LD := LD.of b1
    go_wp2_with fail
    refine (A1 _).mono ?_
    rintro e w2 ⟨rfl, b2⟩
    replace LD := LD.of b2
    go_wp2_with fail
    refine (A2 _).mono ?_
    rintro e w3 ⟨rfl, b3⟩
    replace LD := LD.of b3
    have B3 := Lib.hid (below_via (below_via b1 b2) b3)
    clear b1 b2 b3
    rcases hf with rfl | rfl
    · obtain ⟨g1, g2⟩ := gt_test (fun h => q5 ⟨rfl, h⟩)
      clear q5
      go_wp2_with fail
      refine (Mod.mod_any _ 2880 _ (by decide) (by decide)).mono ?_
      rintro e w0 ⟨⟨i, i0, rfl⟩, rfl⟩
      have hm : monB (i : Int) = true := month_in i0
      have hg := in_late hm HD.out
      clear i0
      go_wp2_with fail
      refine (u_in _ _ _ LD).mono ?_
      rw [hg]
      rintro e w4 ⟨rfl, b4⟩
      replace LD := LD.of b4
      go_wp2_with fail
      refine (u_late _ _ _ LD).mono ?_
      rintro e w5 ⟨rfl, b5⟩
      replace LD := LD.of b5
      clear hg hm
      generalize lateV (i : Int) (x : Int) = l at *
      have B5 := Lib.hid (below_via (below_via B3.out b4) b5)
      clear b4 b5
      have ss : ((x : Int) == (x : Int)) = true := by simp
      go_wp2_with fail
      refine (wakes_due _ LD).mono ?_
      rintro e wk ⟨rfl, bk⟩
      go_wp2_with fail
      go_ret
      exact ⟨rfl, below_via B5.out bk⟩
    · clear q5
      go_wp2_with fail
      refine (Mod.mod_any _ 2880 _ (by decide) (by decide)).mono ?_
      rintro e w0 ⟨⟨i, i0, rfl⟩, rfl⟩
      have hm : monB (i : Int) = true := month_in i0
      have hg := in_late hm HD.out
      clear i0
      go_wp2_with fail
      refine (u_in _ _ _ LD).mono ?_
      rw [hg]
      rintro e w4 ⟨rfl, b4⟩
      replace LD := LD.of b4
      go_wp2_with fail
      refine (u_late _ _ _ LD).mono ?_
      rintro e w5 ⟨rfl, b5⟩
      replace LD := LD.of b5
      clear hg hm
      generalize lateV (i : Int) (x : Int) = l at *
      have B5 := Lib.hid (below_via (below_via B3.out b4) b5)
      clear b4 b5
      have ss : ((x : Int) == (x : Int)) = true := by simp
      go_wp2_with fail
      refine (wakes_due _ LD).mono ?_
      rintro e wk ⟨rfl, bk⟩
      go_wp2_with fail
      go_ret
      exact ⟨rfl, below_via B5.out bk⟩
  · have HLT := Lib.hid h
    have HU := u_whole (y : Int) (x : Int)
    obtain ⟨q1, q2, q3, q4, q5⟩ := who_is (x := y) (y := x) (by omega) (by omega)
    have HD : Hid (dayB (x : Int) = true) := decide_eq_true (by omega)
    generalize hk : whoV (y : Int) (x : Int) = k at *
    clear hk
    obtain ⟨k1, k2, k3⟩ := whole_wrap q1 q2
    have A1 := radd_any (y : Int) k
    have A2 := radd_any (y : Int) (k + 1)
    rw [q3] at A1
    generalize addV (y : Int) k = n at *
    obtain ⟨n1, n2⟩ := le_test q4
    have hf : addE (y : Int) (k + 1) = 0 ∨ addE (y : Int) (k + 1) = 15 := by unfold addE; split <;> simp
    generalize addV (y : Int) (k + 1) = n' at *
    generalize addE (y : Int) (k + 1) = f at *
    clear q1 q2 q3 q4 hx hy
    go_wp2_with fail
    refine (HU _ LD).mono ?_
    rintro e w1 ⟨rfl, b1⟩
    replace LD := LD.of b1
    go_wp2_with fail
    refine (A1 _).mono ?_
    rintro e w2 ⟨rfl, b2⟩
    replace LD := LD.of b2
    go_wp2_with fail
    refine (A2 _).mono ?_
    rintro e w3 ⟨rfl, b3⟩
    replace LD := LD.of b3
    have B3 := Lib.hid (below_via (below_via b1 b2) b3)
    clear b1 b2 b3
    rcases hf with rfl | rfl
    · obtain ⟨g1, g2⟩ := gt_test (fun h => q5 ⟨rfl, h⟩)
      clear q5
      go_wp2_with fail
      refine (Mod.mod_any _ 2880 _ (by decide) (by decide)).mono ?_
      rintro e w0 ⟨⟨i, i0, rfl⟩, rfl⟩
      have hm : monB (i : Int) = true := month_in i0
      have hg := in_late hm HD.out
      clear i0
      go_wp2_with fail
      refine (u_in _ _ _ LD).mono ?_
      rw [hg]
      rintro e w4 ⟨rfl, b4⟩
      replace LD := LD.of b4
      go_wp2_with fail
      refine (u_late _ _ _ LD).mono ?_
      rintro e w5 ⟨rfl, b5⟩
      replace LD := LD.of b5
      clear hg hm
      generalize lateV (i : Int) (x : Int) = l at *
      have B5 := Lib.hid (below_via (below_via B3.out b4) b5)
      clear b4 b5
      have ss := ne_test HLT.out
      have hn := whole_back HLT.out
      go_wp2_with fail
      refine (u_whole _ _ _ LD).mono ?_
      rw [hn]
      rintro e w6 ⟨rfl, b6⟩
      replace LD := LD.of b6
      go_wp2_with fail
      refine (wakes_due _ LD).mono ?_
      rintro e wk ⟨rfl, bk⟩
      go_wp2_with fail
      go_ret
      exact ⟨rfl, below_via (below_via B5.out b6) bk⟩
    · clear q5
      go_wp2_with fail
      refine (Mod.mod_any _ 2880 _ (by decide) (by decide)).mono ?_
      rintro e w0 ⟨⟨i, i0, rfl⟩, rfl⟩
      have hm : monB (i : Int) = true := month_in i0
      have hg := in_late hm HD.out
      clear i0
      go_wp2_with fail
      refine (u_in _ _ _ LD).mono ?_
      rw [hg]
      rintro e w4 ⟨rfl, b4⟩
      replace LD := LD.of b4
      go_wp2_with fail
      refine (u_late _ _ _ LD).mono ?_
      rintro e w5 ⟨rfl, b5⟩
      replace LD := LD.of b5
      clear hg hm
      generalize lateV (i : Int) (x : Int) = l at *
      have B5 := Lib.hid (below_via (below_via B3.out b4) b5)
      clear b4 b5
      have ss := ne_test HLT.out
      have hn := whole_back HLT.out
      go_wp2_with fail
      refine (u_whole _ _ _ LD).mono ?_
      rw [hn]
      rintro e w6 ⟨rfl, b6⟩
      replace LD := LD.of b6
      go_wp2_with fail
      refine (wakes_due _ LD).mono ?_
      rintro e wk ⟨rfl, bk⟩
      go_wp2_with fail
      go_ret
      exact ⟨rfl, below_via (below_via B5.out b6) bk⟩

set_option maxRecDepth 100000 in
theorem dueWhole_lifted (os : Os) (started : os.Started) (H : Type) (enc : TypeId × Value → H) :
    ReturnsInHanded {} Tryd.checked os 6 .any (fun w args => (Rows.dueWholeSpec.pre enc Tryd.prog Tryd.f6 Rows.dueWholeRow.domain false w args ∧ laidMetH Tryd.prog Rows.dueWholeRow.laid w) ∧ sizedMet enc Tryd.prog Tryd.f6 (OpenSpec.ofChange Rows.dueWholeSpec) false w args) (Rows.dueWholeSpec.post enc Tryd.prog Tryd.f6 false true false false) := by
  refine Door.law_lifted (C := Tryd.checked) (tb := 4) (by kernel_rfl) started (by kernel_rfl) Tryd.func6
    (ChangeSpec.witness_shaped (enc := enc) (C := Tryd.checked) (os := os) (X := fun w _ => laidMetH Tryd.prog Rows.dueWholeRow.laid w) false (World.laidAll Tryd.prog os Rows.dueWholeRow.laid) #[.int .i64 0, .int .i64 0, .int .i64 0] 8 (World.laidAll_os _ _ _)
      (World.shaped_of_ZipB (by kernel_rfl) (by kernel_rfl)) (by kernel_rfl) (by kernel_rfl) (by kernel_rfl)
      (by rw [MakeChecks.laidMetH_plain _ _ _ (by kernel_rfl)]; exact laidMet_laidAll _ (by kernel_rfl) (by kernel_rfl)))
    (by kernel_rfl) (by kernel_rfl) rfl rfl Tryd.underlying4 ?_
  intro W base args ds p hval0 hA0 hL
  have hval : ∀ (j : Nat) t v, Tryd.f6.params[j]? = some t → args[j]? = some v → Value.okWide Tryd.prog W .any base t v := hval0
  have hA : DataW.TrodAll enc Tryd.prog W 0 (fun _ => true) true Tryd.f6.params.toList args.toList ds p := hA0
  clear hval0 hA0
  rw [MakeChecks.laidMetH_plain _ _ _ (by kernel_rfl)] at hL
  rw [Tryd.params6] at hA hval
  obtain ⟨v0, vs0, d0, ds0, p0, q0, hargs, rfl, rfl, h0, r0⟩ := trodAll_cons hA
  obtain ⟨v1, vs1, d1, ds1, p1, q1, rfl, rfl, rfl, h1, r1⟩ := trodAll_cons r0
  obtain ⟨v2, vs2, d2, ds2, p2, q2, rfl, rfl, rfl, h2, r2⟩ := trodAll_cons r1
  obtain ⟨rfl, rfl, rfl⟩ := trodAll_nil r2
  obtain rfl : args = #[v0, v1, v2] := by cases args; simp_all
  refine ⟨rfl, ?_⟩
  obtain ⟨a, rfl, -, -, ha⟩ := open_int Tryd.underlying3 (hval 0 3 v0 rfl rfl) h0
  obtain ⟨b, rfl, -, -, hb⟩ := open_int Tryd.underlying3 (hval 1 3 v1 rfl rfl) h1
  obtain ⟨m, rfl, -, -, hm⟩ := open_int Tryd.underlying3 (hval 2 3 v2 rfl rfl) h2
  have LD := Date.laid_of hL (by exact List.mem_cons_self ..)
  exact whole_walk a b m W LD

theorem dueWhole_over : Rows.dueWholeRow.holds Tryd.pinned (OpenSpec.ofChange Rows.dueWholeSpec) :=
  OpenClaim.holds_of_wide 6 Tryd.f6 rfl rfl rfl rfl rfl rfl rfl ⟨rfl, rfl, rfl, rfl, rfl⟩ rfl rfl rfl rfl rfl (by kernel_rfl) Tryd.func6 (by kernel_rfl)
    (of_decide_eq_true (by kernel_rfl)) (by unfold Func.isWrapper; first | (rw [if_pos (by decide +kernel)]; kernel_rfl) | (rw [if_neg (by decide +kernel)]; exact ⟨rfl, rfl⟩))
    (fun os st H enc _ => dueWhole_lifted os st H enc)

/-- The statement: the card. -/
theorem dueWhole_proved : Rows.DueWholeCardSaid :=
  Claim7.holds_tied_plain_at .later [] [.data] true Rows.dueWholeCard.stood.harness false
    dueWhole_over (fun _ h => by cases h) (by kernel_rfl) (fun _ h => by cases h) dueWhole_row_tie rfl ⟨rfl, rfl⟩ (by kernel_rfl) rfl
    (fun f fn hf hfn => by
      obtain rfl : f = 6 := Option.some.inj ((show Tryd.prog.funcNamed "annuity/annuitylaw05.DueWhole" = some 6 by kernel_rfl).symm.trans hf) |>.symm
      obtain rfl : fn = Tryd.f6 := (Option.some.inj (Tryd.func6.symm.trans hfn)).symm
      exact ⟨by kernel_rfl, fun j t ht => by
        have hall : (Tryd.f6.params.toList.all fun u => !Tryd.prog.wantsStandIn u) = true := by kernel_rfl
        exact (show Tryd.prog.wantsStandIn t = false by simpa using List.all_eq_true.1 hall t (Array.mem_def.1 (Array.mem_of_getElem? ht)))⟩)
    (by kernel_rfl)
end Go.Proofs.YthmmlgfechkohaaDoor.Law
