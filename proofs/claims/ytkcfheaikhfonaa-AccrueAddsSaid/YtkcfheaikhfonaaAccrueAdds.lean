/- Days and days more are as much interest as all at once, in whatever order, at any numbers; no condition. -/
import Derived.Test.YtkcfheaikhfonaaAccrueWakes
import Derived.Deep.QuietTactic
import Derived.BigQuiet
namespace Go.Proofs.Ytkcfheaikhfonaa.Law
open Go.ChangeShapes Go.WideShapes Go.ChangeAt Go.RowKit Accr RAccr

theorem day_sum (d x y : Int) : d * (x + y) = d * x + d * y := Int.mul_add d x y
/-- What three sums of a law's numbers tell. -/
theorem adds_facts (h p r x y : Int) (h0 : 0 ≤ h) (h1 : h ≤ 1000000000000000000) (hg : okD p r = true) (x0 : 0 ≤ x) (x1 : x < 43829) (y0 : 0 ≤ y) (y1 : y < 43829) :
    (aE h p r (x + y) = 14 ∧ aV h p r (x + y) = 0) ∨ ∃ s b c, h ≤ s ∧ aV h p r (x + y) = s ∧ aE h p r (x + y) = 0 ∧ aV h p r x = b ∧ aE h p r x = 0 ∧ aV h p r y = c ∧ aE h p r y = 0 ∧ aV b p r y = s ∧ aE b p r y = 0 ∧ aV c p r x = s ∧ aE c p r x = 0 := by
  have d0 := (dayI_le hg).1
  have mx := Int.mul_nonneg d0 x0
  have my := Int.mul_nonneg d0 y0
  have e := day_sum (dayI p r) x y
  have k := okA_iff.2 (show 0 ≤ h ∧ h ≤ 1000000000000000000 ∧ okD p r = true ∧ 0 ≤ x + y ∧ x + y ≤ 87658 from ⟨h0, h1, hg, by omega, by omega⟩)
  by_cases hs : h + dayI p r * (x + y) ≤ 1000000000000000000
  · right
    have kx := okA_iff.2 (show 0 ≤ h ∧ h ≤ 1000000000000000000 ∧ okD p r = true ∧ 0 ≤ x ∧ x ≤ 87658 from ⟨h0, h1, hg, by omega, by omega⟩)
    have ky := okA_iff.2 (show 0 ≤ h ∧ h ≤ 1000000000000000000 ∧ okD p r = true ∧ 0 ≤ y ∧ y ≤ 87658 from ⟨h0, h1, hg, by omega, by omega⟩)
    have kb := okA_iff.2 (show 0 ≤ h + dayI p r * x ∧ h + dayI p r * x ≤ 1000000000000000000 ∧ okD p r = true ∧ 0 ≤ y ∧ y ≤ 87658 from ⟨by omega, by omega, hg, by omega, by omega⟩)
    have kc := okA_iff.2 (show 0 ≤ h + dayI p r * y ∧ h + dayI p r * y ≤ 1000000000000000000 ∧ okD p r = true ∧ 0 ≤ x ∧ x ≤ 87658 from ⟨by omega, by omega, hg, by omega, by omega⟩)
    refine ⟨h + dayI p r * (x + y), h + dayI p r * x, h + dayI p r * y, by omega, (aV_yes k hs).1, (aV_yes k hs).2, (aV_yes kx (by omega)).1, (aV_yes kx (by omega)).2, (aV_yes ky (by omega)).1, (aV_yes ky (by omega)).2, ?_, (aV_yes kb (by omega)).2, ?_, (aV_yes kc (by omega)).2⟩
    · rw [(aV_yes kb (by omega)).1]; omega
    · rw [(aV_yes kc (by omega)).1]; omega
  · left
    exact ⟨(aV_over k hs).2, (aV_over k hs).1⟩
theorem cut_range (z n : Int) (h : 0 < n) : ∃ (p : Int) (b : Bool), 0 ≤ p ∧ p < n ∧ decide (z.tmod n < 0) = b ∧ (b = true → -(z.tmod n) = p) ∧ (b = false → z.tmod n = p) := by
  obtain ⟨h1, h2⟩ := Mod.tmod_range z n h
  by_cases h3 : z.tmod n < 0
  · exact ⟨-(z.tmod n), true, by omega, by omega, decide_eq_true h3, fun _ => rfl, fun e => (by cases e)⟩
  · exact ⟨z.tmod n, false, by omega, h2, decide_eq_false h3, fun e => (by cases e), fun _ => rfl⟩
theorem neg_in (z n p : Int) (h : -(z.tmod n) = p) (h0 : 0 ≤ p) (h1 : p < 9223372036854775807) : wrap64 (-(z.tmod n)) = p := by
  rw [h]; unfold wrap64; omega
theorem sum_in (x y : Int) (h0 : 0 ≤ x) (h1 : 0 ≤ y) (h2 : x < 43829) (h3 : y < 43829) : wrap64 (x + y) = x + y := by unfold wrap64; omega

set_option maxHeartbeats 16000000 in
set_option maxRecDepth 20000 in
theorem adds_walk (z0 z1 r0 x0 y0 : Int) (w : World) :
    Calls Try.prog 5 #[.agg #[.int .i64 z0, .int .i64 z1], .int .i64 r0, .agg #[.int .i64 x0, .int .i64 y0]] w fun e w' => e = .returned (.bool true) ∧ Below w.heap.size w w' := by
  obtain ⟨p, b0, p0, p1, tb0, hpt, hpf⟩ := cut_range z0 10000000000001 (by decide)
  obtain ⟨h, b1, h0, h1, tb1, hht, hhf⟩ := cut_range z1 1000000000000000000 (by decide)
  have n1 := Lib.hid (fun e => neg_in z0 10000000000001 p (hpt e) p0 (by omega))
  have n2 := Lib.hid (fun e => neg_in z1 1000000000000000000 h (hht e) h0 (by omega))
  obtain ⟨-, r1, r2⟩ := Mod.mod_facts r0 1000001 (by decide) (by decide)
  obtain ⟨-, x1, x2⟩ := Mod.mod_facts x0 43829 (by decide) (by decide)
  obtain ⟨-, y1, y2⟩ := Mod.mod_facts y0 43829 (by decide) (by decide)
  have KR := Lib.hid (fun W => mod_is r0 1000001 W (by decide) (by decide))
  have KX := Lib.hid (fun W => mod_is x0 43829 W (by decide) (by decide))
  have KY := Lib.hid (fun W => mod_is y0 43829 W (by decide) (by decide))
  generalize (r0.tmod 1000001 + 1000001).tmod 1000001 = r at *
  generalize (x0.tmod 43829 + 43829).tmod 43829 = x at *
  generalize (y0.tmod 43829 + 43829).tmod 43829 = y at *
  have hg : okD p r = true := okD_iff.2 (by omega)
  have hxy := sum_in x y x1 y1 x2 y2
  have F := Lib.hid (adds_facts h p r x y h0 (by omega) hg x1 x2 y1 y2)
  have K2' := Lib.hid (fun W => c_add h p r x W)
  have K3' := Lib.hid (fun W => c_add h p r y W)
  have KW := Lib.hid wakes_accrue
  clear p0 p1 h0 h1 r1 r2 x1 x2 y1 y2 hg hpt hht
  obtain ⟨xy, hxy2⟩ : ∃ xy, x + y = xy := ⟨_, rfl⟩
  replace hxy := hxy.trans hxy2
  rw [hxy2] at F
  clear hxy2
  go_enter Try.func5, Try.ntmps5
  go_wp2_with fail
  have BN := Lib.hid (below_new (below_new (Below.refl _ w) (.cells #[.int .i64 z0, .int .i64 z1] 22)) (.cells #[.int .i64 x0, .int .i64 y0] 36))
  have HN : Hid ((((w.alloc (.cells #[.int .i64 z0, .int .i64 z1] 22)).alloc (.cells #[.int .i64 x0, .int .i64 y0] 36)).cell? ⟨w.heap.size, 0, none⟩ = some (.int .i64 z0) ∧ ((w.alloc (.cells #[.int .i64 z0, .int .i64 z1] 22)).alloc (.cells #[.int .i64 x0, .int .i64 y0] 36)).cell? ⟨w.heap.size, 1, none⟩ = some (.int .i64 z1) ∧ ((w.alloc (.cells #[.int .i64 z0, .int .i64 z1] 22)).alloc (.cells #[.int .i64 x0, .int .i64 y0] 36)).cell? ⟨w.heap.size + 1, 0, none⟩ = some (.int .i64 x0) ∧ ((w.alloc (.cells #[.int .i64 z0, .int .i64 z1] 22)).alloc (.cells #[.int .i64 x0, .int .i64 y0] 36)).cell? ⟨w.heap.size + 1, 1, none⟩ = some (.int .i64 y0)) ∧ w.heap.size + 1 < ((w.alloc (.cells #[.int .i64 z0, .int .i64 z1] 22)).alloc (.cells #[.int .i64 x0, .int .i64 y0] 36)).heap.size) := ⟨⟨by simp [go_sem], by simp [go_sem], by simp [go_sem], by simp [go_sem]⟩, by simp⟩
  generalize hW0 : ((w.alloc (.cells #[.int .i64 z0, .int .i64 z1] 22)).alloc (.cells #[.int .i64 x0, .int .i64 y0] 36)) = W0 at *
  generalize hg : w.heap.size = g at *
  have BW0 := Lib.hid (Below.refl W0.heap.size W0)
  have HC : Hid (∀ W, Below W0.heap.size W0 W → W.cell? ⟨g, 0, none⟩ = some (.int .i64 z0) ∧ W.cell? ⟨g, 1, none⟩ = some (.int .i64 z1) ∧ W.cell? ⟨g + 1, 0, none⟩ = some (.int .i64 x0) ∧ W.cell? ⟨g + 1, 1, none⟩ = some (.int .i64 y0)) := fun W hW => ⟨(hW.cell (p := ⟨g, 0, none⟩) (Nat.lt_of_succ_lt HN.out.2)).trans HN.out.1.1, (hW.cell (p := ⟨g, 1, none⟩) (Nat.lt_of_succ_lt HN.out.2)).trans HN.out.1.2.1, (hW.cell (p := ⟨g + 1, 0, none⟩) HN.out.2).trans HN.out.1.2.2.1, (hW.cell (p := ⟨g + 1, 1, none⟩) HN.out.2).trans HN.out.1.2.2.2⟩
  clear hW0
  obtain ⟨c0, c1, c2, c3⟩ := HC.out _ BW0.out
  cases b0 with
  | false =>
    obtain rfl := hpf rfl
    clear n1
    cases b1 with
    | false =>
      obtain rfl := hhf rfl
      clear n2
      rcases F.out with ⟨f1, f2⟩ | ⟨s, b, c, f0, f1, f2, f3, f4, f5, f6, f7, f8, f9, f10⟩
      · have K1 := Lib.hid (fun W => add_is (z1.tmod 1000000000000000000) (z0.tmod 10000000000001) r xy 0 14 W f2 f1)
        clear f1 f2
        obtain ⟨v2, e2, K2⟩ : ∃ v2 e2, Hid (∀ W, Calls Try.prog 9 #[.int .i64 (z1.tmod 1000000000000000000), .int .i64 (z0.tmod 10000000000001), .int .i64 r, .int .i64 x] W fun e w' => e = .returned (.tuple #[.int .i64 v2, .int .i64 e2]) ∧ Below W.heap.size W w') := ⟨_, _, K2'⟩
        obtain ⟨v3, e3, K3⟩ : ∃ v2 e2, Hid (∀ W, Calls Try.prog 9 #[.int .i64 (z1.tmod 1000000000000000000), .int .i64 (z0.tmod 10000000000001), .int .i64 r, .int .i64 y] W fun e w' => e = .returned (.tuple #[.int .i64 v2, .int .i64 e2]) ∧ Below W.heap.size W w') := ⟨_, _, K3'⟩
        clear K2' K3'
        clear F
        go_quiet (fail)
        clear c0 c1 c2 c3
        try generalize z0.tmod 10000000000001 = t0 at *
        try generalize z1.tmod 1000000000000000000 = t1 at *
        go_wp2_with fail
        refine (KR.out _).mono ?_
        rintro e w' ⟨rfl, rfl⟩
        have B1 : Hid (Below W0.heap.size W0 (W0.drewN nq)) := show Below _ _ _ from below_drewN BW0.out _
        generalize W0.drewN nq = W1 at *
        obtain ⟨c0, c1, c2, c3⟩ := HC.out _ B1.out
        go_wp2_with fail
        go_quiet (first | with_reducible exact quiet_of KX.out | with_reducible exact quiet_of KY.out)
        go_wp2_with fail
        have B2 : Hid (Below W0.heap.size W0 (W1.drewN nq)) := show Below _ _ _ from below_drewN B1.out _
        clear c0 c1 c2 c3
        generalize W1.drewN nq = W2 at *
        go_wp2_with fail
        refine (K1.out _).mono ?_
        rintro e w1 ⟨rfl, hw1⟩
        have Bw1 : Hid (Below W0.heap.size W0 w1) := show Below _ _ _ from B2.out.trans (hw1.mono B2.out.size)
        clear hw1
        go_wp2_with fail
        refine (K2.out _).mono ?_
        rintro e w2 ⟨rfl, hw2⟩
        have Bw2 : Hid (Below W0.heap.size W0 w2) := show Below _ _ _ from Bw1.out.trans (hw2.mono Bw1.out.size)
        clear hw2
        go_wp2_with fail
        refine (K3.out _).mono ?_
        rintro e w3 ⟨rfl, hw3⟩
        have Bw3 : Hid (Below W0.heap.size W0 w3) := show Below _ _ _ from Bw2.out.trans (hw3.mono Bw2.out.size)
        clear hw3
        go_wp2_with fail
        refine (KW.out _).mono ?_
        rintro e w4 ⟨rfl, hw4⟩
        have Bw4 : Hid (Below W0.heap.size W0 w4) := show Below _ _ _ from Bw3.out.trans (hw4.mono Bw3.out.size)
        clear hw4
        go_wp2_with fail
        go_ret
        exact ⟨rfl, by rw [← hg] at *; exact below_via BN.out Bw4.out⟩
      · have K1 := Lib.hid (fun W => add_is (z1.tmod 1000000000000000000) (z0.tmod 10000000000001) r xy s 0 W f1 f2)
        have K2 := Lib.hid (fun W => add_is (z1.tmod 1000000000000000000) (z0.tmod 10000000000001) r x b 0 W f3 f4)
        have K3 := Lib.hid (fun W => add_is (z1.tmod 1000000000000000000) (z0.tmod 10000000000001) r y c 0 W f5 f6)
        have K4 := Lib.hid (fun W => add_is b (z0.tmod 10000000000001) r y s 0 W f7 f8)
        have K5 := Lib.hid (fun W => add_is c (z0.tmod 10000000000001) r x s 0 W f9 f10)
        have tl : decide ((z1.tmod 1000000000000000000) ≤ s) = true := decide_eq_true f0
        have tq : (s == s) = true := by simp
        clear f0 f1 f2 f3 f4 f5 f6 f7 f8 f9 f10 K2' K3'
        clear F
        go_quiet (fail)
        clear c0 c1 c2 c3
        try generalize z0.tmod 10000000000001 = t0 at *
        try generalize z1.tmod 1000000000000000000 = t1 at *
        go_wp2_with fail
        refine (KR.out _).mono ?_
        rintro e w' ⟨rfl, rfl⟩
        have B1 : Hid (Below W0.heap.size W0 (W0.drewN nq)) := show Below _ _ _ from below_drewN BW0.out _
        generalize W0.drewN nq = W1 at *
        obtain ⟨c0, c1, c2, c3⟩ := HC.out _ B1.out
        go_wp2_with fail
        go_quiet (first | with_reducible exact quiet_of KX.out | with_reducible exact quiet_of KY.out)
        go_wp2_with fail
        have B2 : Hid (Below W0.heap.size W0 (W1.drewN nq)) := show Below _ _ _ from below_drewN B1.out _
        clear c0 c1 c2 c3
        generalize W1.drewN nq = W2 at *
        go_wp2_with fail
        refine (K1.out _).mono ?_
        rintro e w1 ⟨rfl, hw1⟩
        have Bw1 : Hid (Below W0.heap.size W0 w1) := show Below _ _ _ from B2.out.trans (hw1.mono B2.out.size)
        clear hw1
        go_wp2_with fail
        refine (K2.out _).mono ?_
        rintro e w2 ⟨rfl, hw2⟩
        have Bw2 : Hid (Below W0.heap.size W0 w2) := show Below _ _ _ from Bw1.out.trans (hw2.mono Bw1.out.size)
        clear hw2
        go_wp2_with fail
        refine (K3.out _).mono ?_
        rintro e w3 ⟨rfl, hw3⟩
        have Bw3 : Hid (Below W0.heap.size W0 w3) := show Below _ _ _ from Bw2.out.trans (hw3.mono Bw2.out.size)
        clear hw3
        go_wp2_with fail
        refine (K4.out _).mono ?_
        rintro e w4 ⟨rfl, hw4⟩
        have Bw4 : Hid (Below W0.heap.size W0 w4) := show Below _ _ _ from Bw3.out.trans (hw4.mono Bw3.out.size)
        clear hw4
        go_wp2_with fail
        refine (K5.out _).mono ?_
        rintro e w5 ⟨rfl, hw5⟩
        have Bw5 : Hid (Below W0.heap.size W0 w5) := show Below _ _ _ from Bw4.out.trans (hw5.mono Bw4.out.size)
        clear hw5
        go_wp2_with fail
        refine (KW.out _).mono ?_
        rintro e w6 ⟨rfl, hw6⟩
        have Bw6 : Hid (Below W0.heap.size W0 w6) := show Below _ _ _ from Bw5.out.trans (hw6.mono Bw5.out.size)
        clear hw6
        go_wp2_with fail
        go_ret
        exact ⟨rfl, by rw [← hg] at *; exact below_via BN.out Bw6.out⟩
    | true =>
      have n2 := n2.out rfl
      clear hhf
      rcases F.out with ⟨f1, f2⟩ | ⟨s, b, c, f0, f1, f2, f3, f4, f5, f6, f7, f8, f9, f10⟩
      · have K1 := Lib.hid (fun W => add_is h (z0.tmod 10000000000001) r xy 0 14 W f2 f1)
        clear f1 f2
        obtain ⟨v2, e2, K2⟩ : ∃ v2 e2, Hid (∀ W, Calls Try.prog 9 #[.int .i64 h, .int .i64 (z0.tmod 10000000000001), .int .i64 r, .int .i64 x] W fun e w' => e = .returned (.tuple #[.int .i64 v2, .int .i64 e2]) ∧ Below W.heap.size W w') := ⟨_, _, K2'⟩
        obtain ⟨v3, e3, K3⟩ : ∃ v2 e2, Hid (∀ W, Calls Try.prog 9 #[.int .i64 h, .int .i64 (z0.tmod 10000000000001), .int .i64 r, .int .i64 y] W fun e w' => e = .returned (.tuple #[.int .i64 v2, .int .i64 e2]) ∧ Below W.heap.size W w') := ⟨_, _, K3'⟩
        clear K2' K3'
        clear F
        go_quiet (fail)
        clear c0 c1 c2 c3
        try generalize z0.tmod 10000000000001 = t0 at *
        try generalize z1.tmod 1000000000000000000 = t1 at *
        go_wp2_with fail
        refine (KR.out _).mono ?_
        rintro e w' ⟨rfl, rfl⟩
        have B1 : Hid (Below W0.heap.size W0 (W0.drewN nq)) := show Below _ _ _ from below_drewN BW0.out _
        generalize W0.drewN nq = W1 at *
        obtain ⟨c0, c1, c2, c3⟩ := HC.out _ B1.out
        go_wp2_with fail
        go_quiet (first | with_reducible exact quiet_of KX.out | with_reducible exact quiet_of KY.out)
        go_wp2_with fail
        have B2 : Hid (Below W0.heap.size W0 (W1.drewN nq)) := show Below _ _ _ from below_drewN B1.out _
        clear c0 c1 c2 c3
        generalize W1.drewN nq = W2 at *
        go_wp2_with fail
        refine (K1.out _).mono ?_
        rintro e w1 ⟨rfl, hw1⟩
        have Bw1 : Hid (Below W0.heap.size W0 w1) := show Below _ _ _ from B2.out.trans (hw1.mono B2.out.size)
        clear hw1
        go_wp2_with fail
        refine (K2.out _).mono ?_
        rintro e w2 ⟨rfl, hw2⟩
        have Bw2 : Hid (Below W0.heap.size W0 w2) := show Below _ _ _ from Bw1.out.trans (hw2.mono Bw1.out.size)
        clear hw2
        go_wp2_with fail
        refine (K3.out _).mono ?_
        rintro e w3 ⟨rfl, hw3⟩
        have Bw3 : Hid (Below W0.heap.size W0 w3) := show Below _ _ _ from Bw2.out.trans (hw3.mono Bw2.out.size)
        clear hw3
        go_wp2_with fail
        refine (KW.out _).mono ?_
        rintro e w4 ⟨rfl, hw4⟩
        have Bw4 : Hid (Below W0.heap.size W0 w4) := show Below _ _ _ from Bw3.out.trans (hw4.mono Bw3.out.size)
        clear hw4
        go_wp2_with fail
        go_ret
        exact ⟨rfl, by rw [← hg] at *; exact below_via BN.out Bw4.out⟩
      · have K1 := Lib.hid (fun W => add_is h (z0.tmod 10000000000001) r xy s 0 W f1 f2)
        have K2 := Lib.hid (fun W => add_is h (z0.tmod 10000000000001) r x b 0 W f3 f4)
        have K3 := Lib.hid (fun W => add_is h (z0.tmod 10000000000001) r y c 0 W f5 f6)
        have K4 := Lib.hid (fun W => add_is b (z0.tmod 10000000000001) r y s 0 W f7 f8)
        have K5 := Lib.hid (fun W => add_is c (z0.tmod 10000000000001) r x s 0 W f9 f10)
        have tl : decide (h ≤ s) = true := decide_eq_true f0
        have tq : (s == s) = true := by simp
        clear f0 f1 f2 f3 f4 f5 f6 f7 f8 f9 f10 K2' K3'
        clear F
        go_quiet (fail)
        clear c0 c1 c2 c3
        try generalize z0.tmod 10000000000001 = t0 at *
        try generalize z1.tmod 1000000000000000000 = t1 at *
        go_wp2_with fail
        refine (KR.out _).mono ?_
        rintro e w' ⟨rfl, rfl⟩
        have B1 : Hid (Below W0.heap.size W0 (W0.drewN nq)) := show Below _ _ _ from below_drewN BW0.out _
        generalize W0.drewN nq = W1 at *
        obtain ⟨c0, c1, c2, c3⟩ := HC.out _ B1.out
        go_wp2_with fail
        go_quiet (first | with_reducible exact quiet_of KX.out | with_reducible exact quiet_of KY.out)
        go_wp2_with fail
        have B2 : Hid (Below W0.heap.size W0 (W1.drewN nq)) := show Below _ _ _ from below_drewN B1.out _
        clear c0 c1 c2 c3
        generalize W1.drewN nq = W2 at *
        go_wp2_with fail
        refine (K1.out _).mono ?_
        rintro e w1 ⟨rfl, hw1⟩
        have Bw1 : Hid (Below W0.heap.size W0 w1) := show Below _ _ _ from B2.out.trans (hw1.mono B2.out.size)
        clear hw1
        go_wp2_with fail
        refine (K2.out _).mono ?_
        rintro e w2 ⟨rfl, hw2⟩
        have Bw2 : Hid (Below W0.heap.size W0 w2) := show Below _ _ _ from Bw1.out.trans (hw2.mono Bw1.out.size)
        clear hw2
        go_wp2_with fail
        refine (K3.out _).mono ?_
        rintro e w3 ⟨rfl, hw3⟩
        have Bw3 : Hid (Below W0.heap.size W0 w3) := show Below _ _ _ from Bw2.out.trans (hw3.mono Bw2.out.size)
        clear hw3
        go_wp2_with fail
        refine (K4.out _).mono ?_
        rintro e w4 ⟨rfl, hw4⟩
        have Bw4 : Hid (Below W0.heap.size W0 w4) := show Below _ _ _ from Bw3.out.trans (hw4.mono Bw3.out.size)
        clear hw4
        go_wp2_with fail
        refine (K5.out _).mono ?_
        rintro e w5 ⟨rfl, hw5⟩
        have Bw5 : Hid (Below W0.heap.size W0 w5) := show Below _ _ _ from Bw4.out.trans (hw5.mono Bw4.out.size)
        clear hw5
        go_wp2_with fail
        refine (KW.out _).mono ?_
        rintro e w6 ⟨rfl, hw6⟩
        have Bw6 : Hid (Below W0.heap.size W0 w6) := show Below _ _ _ from Bw5.out.trans (hw6.mono Bw5.out.size)
        clear hw6
        go_wp2_with fail
        go_ret
        exact ⟨rfl, by rw [← hg] at *; exact below_via BN.out Bw6.out⟩
  | true =>
    have n1 := n1.out rfl
    clear hpf
    cases b1 with
    | false =>
      obtain rfl := hhf rfl
      clear n2
      rcases F.out with ⟨f1, f2⟩ | ⟨s, b, c, f0, f1, f2, f3, f4, f5, f6, f7, f8, f9, f10⟩
      · have K1 := Lib.hid (fun W => add_is (z1.tmod 1000000000000000000) p r xy 0 14 W f2 f1)
        clear f1 f2
        obtain ⟨v2, e2, K2⟩ : ∃ v2 e2, Hid (∀ W, Calls Try.prog 9 #[.int .i64 (z1.tmod 1000000000000000000), .int .i64 p, .int .i64 r, .int .i64 x] W fun e w' => e = .returned (.tuple #[.int .i64 v2, .int .i64 e2]) ∧ Below W.heap.size W w') := ⟨_, _, K2'⟩
        obtain ⟨v3, e3, K3⟩ : ∃ v2 e2, Hid (∀ W, Calls Try.prog 9 #[.int .i64 (z1.tmod 1000000000000000000), .int .i64 p, .int .i64 r, .int .i64 y] W fun e w' => e = .returned (.tuple #[.int .i64 v2, .int .i64 e2]) ∧ Below W.heap.size W w') := ⟨_, _, K3'⟩
        clear K2' K3'
        clear F
        go_quiet (fail)
        clear c0 c1 c2 c3
        try generalize z0.tmod 10000000000001 = t0 at *
        try generalize z1.tmod 1000000000000000000 = t1 at *
        go_wp2_with fail
        refine (KR.out _).mono ?_
        rintro e w' ⟨rfl, rfl⟩
        have B1 : Hid (Below W0.heap.size W0 (W0.drewN nq)) := show Below _ _ _ from below_drewN BW0.out _
        generalize W0.drewN nq = W1 at *
        obtain ⟨c0, c1, c2, c3⟩ := HC.out _ B1.out
        go_wp2_with fail
        go_quiet (first | with_reducible exact quiet_of KX.out | with_reducible exact quiet_of KY.out)
        go_wp2_with fail
        have B2 : Hid (Below W0.heap.size W0 (W1.drewN nq)) := show Below _ _ _ from below_drewN B1.out _
        clear c0 c1 c2 c3
        generalize W1.drewN nq = W2 at *
        go_wp2_with fail
        refine (K1.out _).mono ?_
        rintro e w1 ⟨rfl, hw1⟩
        have Bw1 : Hid (Below W0.heap.size W0 w1) := show Below _ _ _ from B2.out.trans (hw1.mono B2.out.size)
        clear hw1
        go_wp2_with fail
        refine (K2.out _).mono ?_
        rintro e w2 ⟨rfl, hw2⟩
        have Bw2 : Hid (Below W0.heap.size W0 w2) := show Below _ _ _ from Bw1.out.trans (hw2.mono Bw1.out.size)
        clear hw2
        go_wp2_with fail
        refine (K3.out _).mono ?_
        rintro e w3 ⟨rfl, hw3⟩
        have Bw3 : Hid (Below W0.heap.size W0 w3) := show Below _ _ _ from Bw2.out.trans (hw3.mono Bw2.out.size)
        clear hw3
        go_wp2_with fail
        refine (KW.out _).mono ?_
        rintro e w4 ⟨rfl, hw4⟩
        have Bw4 : Hid (Below W0.heap.size W0 w4) := show Below _ _ _ from Bw3.out.trans (hw4.mono Bw3.out.size)
        clear hw4
        go_wp2_with fail
        go_ret
        exact ⟨rfl, by rw [← hg] at *; exact below_via BN.out Bw4.out⟩
      · have K1 := Lib.hid (fun W => add_is (z1.tmod 1000000000000000000) p r xy s 0 W f1 f2)
        have K2 := Lib.hid (fun W => add_is (z1.tmod 1000000000000000000) p r x b 0 W f3 f4)
        have K3 := Lib.hid (fun W => add_is (z1.tmod 1000000000000000000) p r y c 0 W f5 f6)
        have K4 := Lib.hid (fun W => add_is b p r y s 0 W f7 f8)
        have K5 := Lib.hid (fun W => add_is c p r x s 0 W f9 f10)
        have tl : decide ((z1.tmod 1000000000000000000) ≤ s) = true := decide_eq_true f0
        have tq : (s == s) = true := by simp
        clear f0 f1 f2 f3 f4 f5 f6 f7 f8 f9 f10 K2' K3'
        clear F
        go_quiet (fail)
        clear c0 c1 c2 c3
        try generalize z0.tmod 10000000000001 = t0 at *
        try generalize z1.tmod 1000000000000000000 = t1 at *
        go_wp2_with fail
        refine (KR.out _).mono ?_
        rintro e w' ⟨rfl, rfl⟩
        have B1 : Hid (Below W0.heap.size W0 (W0.drewN nq)) := show Below _ _ _ from below_drewN BW0.out _
        generalize W0.drewN nq = W1 at *
        obtain ⟨c0, c1, c2, c3⟩ := HC.out _ B1.out
        go_wp2_with fail
        go_quiet (first | with_reducible exact quiet_of KX.out | with_reducible exact quiet_of KY.out)
        go_wp2_with fail
        have B2 : Hid (Below W0.heap.size W0 (W1.drewN nq)) := show Below _ _ _ from below_drewN B1.out _
        clear c0 c1 c2 c3
        generalize W1.drewN nq = W2 at *
        go_wp2_with fail
        refine (K1.out _).mono ?_
        rintro e w1 ⟨rfl, hw1⟩
        have Bw1 : Hid (Below W0.heap.size W0 w1) := show Below _ _ _ from B2.out.trans (hw1.mono B2.out.size)
        clear hw1
        go_wp2_with fail
        refine (K2.out _).mono ?_
        rintro e w2 ⟨rfl, hw2⟩
        have Bw2 : Hid (Below W0.heap.size W0 w2) := show Below _ _ _ from Bw1.out.trans (hw2.mono Bw1.out.size)
        clear hw2
        go_wp2_with fail
        refine (K3.out _).mono ?_
        rintro e w3 ⟨rfl, hw3⟩
        have Bw3 : Hid (Below W0.heap.size W0 w3) := show Below _ _ _ from Bw2.out.trans (hw3.mono Bw2.out.size)
        clear hw3
        go_wp2_with fail
        refine (K4.out _).mono ?_
        rintro e w4 ⟨rfl, hw4⟩
        have Bw4 : Hid (Below W0.heap.size W0 w4) := show Below _ _ _ from Bw3.out.trans (hw4.mono Bw3.out.size)
        clear hw4
        go_wp2_with fail
        refine (K5.out _).mono ?_
        rintro e w5 ⟨rfl, hw5⟩
        have Bw5 : Hid (Below W0.heap.size W0 w5) := show Below _ _ _ from Bw4.out.trans (hw5.mono Bw4.out.size)
        clear hw5
        go_wp2_with fail
        refine (KW.out _).mono ?_
        rintro e w6 ⟨rfl, hw6⟩
        have Bw6 : Hid (Below W0.heap.size W0 w6) := show Below _ _ _ from Bw5.out.trans (hw6.mono Bw5.out.size)
        clear hw6
        go_wp2_with fail
        go_ret
        exact ⟨rfl, by rw [← hg] at *; exact below_via BN.out Bw6.out⟩
    | true =>
      have n2 := n2.out rfl
      clear hhf
      rcases F.out with ⟨f1, f2⟩ | ⟨s, b, c, f0, f1, f2, f3, f4, f5, f6, f7, f8, f9, f10⟩
      · have K1 := Lib.hid (fun W => add_is h p r xy 0 14 W f2 f1)
        clear f1 f2
        obtain ⟨v2, e2, K2⟩ : ∃ v2 e2, Hid (∀ W, Calls Try.prog 9 #[.int .i64 h, .int .i64 p, .int .i64 r, .int .i64 x] W fun e w' => e = .returned (.tuple #[.int .i64 v2, .int .i64 e2]) ∧ Below W.heap.size W w') := ⟨_, _, K2'⟩
        obtain ⟨v3, e3, K3⟩ : ∃ v2 e2, Hid (∀ W, Calls Try.prog 9 #[.int .i64 h, .int .i64 p, .int .i64 r, .int .i64 y] W fun e w' => e = .returned (.tuple #[.int .i64 v2, .int .i64 e2]) ∧ Below W.heap.size W w') := ⟨_, _, K3'⟩
        clear K2' K3'
        clear F
        go_quiet (fail)
        clear c0 c1 c2 c3
        try generalize z0.tmod 10000000000001 = t0 at *
        try generalize z1.tmod 1000000000000000000 = t1 at *
        go_wp2_with fail
        refine (KR.out _).mono ?_
        rintro e w' ⟨rfl, rfl⟩
        have B1 : Hid (Below W0.heap.size W0 (W0.drewN nq)) := show Below _ _ _ from below_drewN BW0.out _
        generalize W0.drewN nq = W1 at *
        obtain ⟨c0, c1, c2, c3⟩ := HC.out _ B1.out
        go_wp2_with fail
        go_quiet (first | with_reducible exact quiet_of KX.out | with_reducible exact quiet_of KY.out)
        go_wp2_with fail
        have B2 : Hid (Below W0.heap.size W0 (W1.drewN nq)) := show Below _ _ _ from below_drewN B1.out _
        clear c0 c1 c2 c3
        generalize W1.drewN nq = W2 at *
        go_wp2_with fail
        refine (K1.out _).mono ?_
        rintro e w1 ⟨rfl, hw1⟩
        have Bw1 : Hid (Below W0.heap.size W0 w1) := show Below _ _ _ from B2.out.trans (hw1.mono B2.out.size)
        clear hw1
        go_wp2_with fail
        refine (K2.out _).mono ?_
        rintro e w2 ⟨rfl, hw2⟩
        have Bw2 : Hid (Below W0.heap.size W0 w2) := show Below _ _ _ from Bw1.out.trans (hw2.mono Bw1.out.size)
        clear hw2
        go_wp2_with fail
        refine (K3.out _).mono ?_
        rintro e w3 ⟨rfl, hw3⟩
        have Bw3 : Hid (Below W0.heap.size W0 w3) := show Below _ _ _ from Bw2.out.trans (hw3.mono Bw2.out.size)
        clear hw3
        go_wp2_with fail
        refine (KW.out _).mono ?_
        rintro e w4 ⟨rfl, hw4⟩
        have Bw4 : Hid (Below W0.heap.size W0 w4) := show Below _ _ _ from Bw3.out.trans (hw4.mono Bw3.out.size)
        clear hw4
        go_wp2_with fail
        go_ret
        exact ⟨rfl, by rw [← hg] at *; exact below_via BN.out Bw4.out⟩
      · have K1 := Lib.hid (fun W => add_is h p r xy s 0 W f1 f2)
        have K2 := Lib.hid (fun W => add_is h p r x b 0 W f3 f4)
        have K3 := Lib.hid (fun W => add_is h p r y c 0 W f5 f6)
        have K4 := Lib.hid (fun W => add_is b p r y s 0 W f7 f8)
        have K5 := Lib.hid (fun W => add_is c p r x s 0 W f9 f10)
        have tl : decide (h ≤ s) = true := decide_eq_true f0
        have tq : (s == s) = true := by simp
        clear f0 f1 f2 f3 f4 f5 f6 f7 f8 f9 f10 K2' K3'
        clear F
        go_quiet (fail)
        clear c0 c1 c2 c3
        try generalize z0.tmod 10000000000001 = t0 at *
        try generalize z1.tmod 1000000000000000000 = t1 at *
        go_wp2_with fail
        refine (KR.out _).mono ?_
        rintro e w' ⟨rfl, rfl⟩
        have B1 : Hid (Below W0.heap.size W0 (W0.drewN nq)) := show Below _ _ _ from below_drewN BW0.out _
        generalize W0.drewN nq = W1 at *
        obtain ⟨c0, c1, c2, c3⟩ := HC.out _ B1.out
        go_wp2_with fail
        go_quiet (first | with_reducible exact quiet_of KX.out | with_reducible exact quiet_of KY.out)
        go_wp2_with fail
        have B2 : Hid (Below W0.heap.size W0 (W1.drewN nq)) := show Below _ _ _ from below_drewN B1.out _
        clear c0 c1 c2 c3
        generalize W1.drewN nq = W2 at *
        go_wp2_with fail
        refine (K1.out _).mono ?_
        rintro e w1 ⟨rfl, hw1⟩
        have Bw1 : Hid (Below W0.heap.size W0 w1) := show Below _ _ _ from B2.out.trans (hw1.mono B2.out.size)
        clear hw1
        go_wp2_with fail
        refine (K2.out _).mono ?_
        rintro e w2 ⟨rfl, hw2⟩
        have Bw2 : Hid (Below W0.heap.size W0 w2) := show Below _ _ _ from Bw1.out.trans (hw2.mono Bw1.out.size)
        clear hw2
        go_wp2_with fail
        refine (K3.out _).mono ?_
        rintro e w3 ⟨rfl, hw3⟩
        have Bw3 : Hid (Below W0.heap.size W0 w3) := show Below _ _ _ from Bw2.out.trans (hw3.mono Bw2.out.size)
        clear hw3
        go_wp2_with fail
        refine (K4.out _).mono ?_
        rintro e w4 ⟨rfl, hw4⟩
        have Bw4 : Hid (Below W0.heap.size W0 w4) := show Below _ _ _ from Bw3.out.trans (hw4.mono Bw3.out.size)
        clear hw4
        go_wp2_with fail
        refine (K5.out _).mono ?_
        rintro e w5 ⟨rfl, hw5⟩
        have Bw5 : Hid (Below W0.heap.size W0 w5) := show Below _ _ _ from Bw4.out.trans (hw5.mono Bw4.out.size)
        clear hw5
        go_wp2_with fail
        refine (KW.out _).mono ?_
        rintro e w6 ⟨rfl, hw6⟩
        have Bw6 : Hid (Below W0.heap.size W0 w6) := show Below _ _ _ from Bw5.out.trans (hw6.mono Bw5.out.size)
        clear hw6
        go_wp2_with fail
        go_ret
        exact ⟨rfl, by rw [← hg] at *; exact below_via BN.out Bw6.out⟩

set_option maxRecDepth 100000 in
theorem accrueAdds_lifted (os : Os) (started : os.Started) (H : Type) (enc : TypeId × Value → H) :
    ReturnsInHanded {} Try.checked os 5 .any (Rows.accrueAddsSpec.pre6 enc Try.prog Try.f5 Rows.accrueAddsRow.domain false) (Rows.accrueAddsSpec.post enc Try.prog Try.f5 false true false false) := by
  refine Shell.law_lifted (C := Try.checked) (tb := 4) (by kernel_rfl) started (by kernel_rfl) Try.func5
    (ChangeSpec.witness6 (enc := enc) (C := Try.checked) false ⟨#[], #[Value.agg #[.int .i64 0, .int .i64 0], .int .i64 0, Value.agg #[.int .i64 0, .int .i64 0]], []⟩ 8 (by kernel_rfl) (by kernel_rfl) (by kernel_rfl) (by kernel_rfl))
    (by kernel_rfl) (by kernel_rfl) rfl rfl Try.underlying4 ?_
  intro W base args ds p hval0 hA0
  have hval : ∀ (j : Nat) t v, Try.f5.params[j]? = some t → args[j]? = some v → Value.okWide Try.prog W .any base t v := hval0
  have hA : DataW.TrodAll enc Try.prog W 0 (fun _ => true) true Try.f5.params.toList args.toList ds p := hA0
  clear hval0 hA0
  rw [Try.params5] at hA hval
  obtain ⟨v0, vs0, d0, ds0, p0, q0, hargs, rfl, rfl, h0, r0⟩ := trodAll_cons hA
  obtain ⟨v1, vs1, d1, ds1, p1, q1, rfl, rfl, rfl, h1, r1⟩ := trodAll_cons r0
  obtain ⟨v2, vs2, d2, ds2, p2, q2, rfl, rfl, rfl, h2, r2⟩ := trodAll_cons r1
  obtain ⟨rfl, rfl, rfl⟩ := trodAll_nil r2
  obtain rfl : args = #[v0, v1, v2] := by cases args; simp_all
  refine ⟨rfl, ?_⟩
  obtain ⟨zs0, hzl0, rfl, hz0⟩ := Shell.open_arr Try.underlying22 Try.underlying2 (by kernel_rfl) (by kernel_rfl) (hval 0 22 v0 rfl rfl) h0
  obtain ⟨n0, n1, rfl⟩ := Shell.list2 zs0 hzl0
  obtain ⟨ppm, rfl, -, -, g1⟩ := open_int Try.underlying3 (hval 1 3 v1 rfl rfl) h1
  obtain ⟨zs2, hzl2, rfl, hz2⟩ := Shell.open_arr Try.underlying36 Try.underlying3 (by kernel_rfl) (by kernel_rfl) (hval 2 36 v2 rfl rfl) h2
  obtain ⟨d0, d1, rfl⟩ := Shell.list2 zs2 hzl2
  exact adds_walk n0 n1 ppm d0 d1 W

theorem accrueAdds_over : Rows.accrueAddsRow.holds Try.pinned (OpenSpec.ofChange Rows.accrueAddsSpec) :=
  OpenClaim.holds_of_wide 5 Try.f5 rfl rfl rfl rfl rfl rfl rfl ⟨rfl, rfl, rfl, rfl, rfl⟩ rfl rfl rfl rfl rfl (by kernel_rfl) Try.func5 (by kernel_rfl)
    (of_decide_eq_true (by kernel_rfl)) (by unfold Func.isWrapper; first | (rw [if_pos (by decide +kernel)]; kernel_rfl) | (rw [if_neg (by decide +kernel)]; exact ⟨rfl, rfl⟩))
    (fun os st H enc _ => accrueAdds_lifted os st H enc)

/-- The statement. -/
theorem accrueAdds_proved : Rows.AccrueAddsSaid := accrueAdds_over
end Go.Proofs.Ytkcfheaikhfonaa.Law
