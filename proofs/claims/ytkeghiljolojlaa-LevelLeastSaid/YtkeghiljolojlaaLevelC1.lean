/- level's tests, a balance with its interest, and a month, at every input that is one. -/
import Derived.Test.YtkeghiljolojlaaLevelMath
import Derived.Test.YtkeghiljolojlaaWakes
namespace Go.Proofs.Ytkeghiljolojlaa.Level
open Go.ChangeShapes Go.WideShapes Go.ChangeAt Go.RowKit Bits Law

theorem ret_b {a b : Bool} (h : a = b) : Ending.returned (.bool a) = .returned (.bool b) := by rw [h]

theorem within_any (n m : Int) (w : World) : Calls Try.prog 23 #[.int .i64 n, .int .i64 m] w fun e w' => e = .returned (.bool (decide (0 ≤ n ∧ n ≤ m))) ∧ w = w' := by
  obtain ⟨B, hB⟩ : ∃ B : Bool, B = decide (0 ≤ n ∧ n ≤ m) := ⟨_, rfl⟩
  rw [← hB]
  by_cases h1 : 0 ≤ n
  · by_cases h2 : n ≤ m
    · have H : Hid (B = true) := hB.trans (decide_eq_true (And.intro h1 h2))
      clear hB
      go_enter Try.func23, Try.ntmps23
      go_wp2
      go_ret
      exact ⟨ret_b H.out.symm, rfl⟩
    · have H : Hid (B = false) := hB.trans (decide_eq_false (fun h => h2 h.2))
      clear hB
      go_enter Try.func23, Try.ntmps23
      go_wp2
      go_ret
      exact ⟨ret_b H.out.symm, rfl⟩
  · have H : Hid (B = false) := hB.trans (decide_eq_false (fun h => h1 h.1))
    clear hB
    go_enter Try.func23, Try.ntmps23
    go_wp2
    go_ret
    exact ⟨ret_b H.out.symm, rfl⟩
theorem within_is (n m : Int) (b : Bool) (w : World) (h : Hid (decide (0 ≤ n ∧ n ≤ m) = b)) : Calls Try.prog 23 #[.int .i64 n, .int .i64 m] w fun e w' => e = .returned (.bool b) ∧ w = w' := by
  have t := within_any n m w
  rw [h.out] at t; exact t

theorem good_any (b p r : Int) (w : World) : Calls Try.prog 18 #[.int .i64 b, .int .i64 p, .int .i64 r] w fun e w' => e = .returned (.bool (okL b p r)) ∧ w = w' := by
  have H : okL b p r = (decide (0 ≤ b ∧ b ≤ 10000000000000) && decide (0 ≤ p ∧ p ≤ 10000000000000) && decide (0 ≤ r ∧ r ≤ 1000000)) := by
    unfold okL
    rw [Bool.eq_iff_iff]
    simp only [Bool.and_eq_true, decide_eq_true_eq]
    omega
  rw [H]
  clear H
  have K1 := Lib.hid (fun W => within_any b 10000000000000 W)
  have K2 := Lib.hid (fun W => within_any p 10000000000000 W)
  have K3 := Lib.hid (fun W => within_any r 1000000 W)
  generalize decide (0 ≤ b ∧ b ≤ 10000000000000) = x at *
  generalize decide (0 ≤ p ∧ p ≤ 10000000000000) = y at *
  generalize decide (0 ≤ r ∧ r ≤ 1000000) = z at *
  go_enter Try.func18, Try.ntmps18
  cases x with
  | false =>
    go_wp2_with fail
    refine (K1.out _).mono ?_
    rintro e w' ⟨rfl, rfl⟩
    go_wp2_with fail
    go_ret
    exact ⟨rfl, rfl⟩
  | true =>
    cases y with
    | false =>
      go_wp2_with fail
      refine (K1.out _).mono ?_
      rintro e w' ⟨rfl, rfl⟩
      go_wp2_with fail
      refine (K2.out _).mono ?_
      rintro e w' ⟨rfl, rfl⟩
      go_wp2_with fail
      go_ret
      exact ⟨rfl, rfl⟩
    | true =>
      go_wp2_with fail
      refine (K1.out _).mono ?_
      rintro e w' ⟨rfl, rfl⟩
      go_wp2_with fail
      refine (K2.out _).mono ?_
      rintro e w' ⟨rfl, rfl⟩
      go_wp2_with fail
      refine (K3.out _).mono ?_
      rintro e w' ⟨rfl, rfl⟩
      go_wp2_with fail
      go_ret
      exact ⟨rfl, rfl⟩
theorem good_is (b p r : Int) (x : Bool) (w : World) (h : Hid (okL b p r = x)) : Calls Try.prog 18 #[.int .i64 b, .int .i64 p, .int .i64 r] w fun e w' => e = .returned (.bool x) ∧ w = w' := by
  have t := good_any b p r w
  rw [h.out] at t; exact t

/-- the interest of a month is money. -/
theorem interest (b r : Int) (w : World) (h : okL b 0 r = true) : Calls Try.prog 33 #[.int .i64 b, .int .i64 r, .int .i64 12000000, .int .i64 1] w fun e w' => e = .returned (.tuple #[.int .i64 (Money.rnd b r 12000000 1), .int .i64 0]) ∧ ∃ n, w' = w.drewN n := by
  obtain ⟨b0, b1, -, -, r0, r1⟩ := okL_iff.1 h
  have t := Money.muldiv_any b r 12000000 1 w (by omega) (by omega) (by omega)
  obtain ⟨e1, e2⟩ := Money.md_in (a := b) (b := r) (c := 12000000) (how := 1) (by unfold Money.mdBad; omega) (by have := int_le b1 r0 r1; omega)
  rw [e1, e2] at t
  exact t
/-- what a balance with its interest is told as. -/
def grO (b r : Int) : Option Int := if gr b r ≤ 10000000000000 then some (gr b r) else none
theorem gr_plus {b r : Int} (h : okL b 0 r = true) : Money.plusO b (Money.rnd b r 12000000 1) = grO b r := by
  obtain ⟨b0, b1, -, -, r0, r1⟩ := okL_iff.1 h
  have i0 := int_ge b0 r0
  have i1 := int_le b1 r0 r1
  unfold grO gr
  by_cases g : b + Money.rnd b r 12000000 1 ≤ 10000000000000
  · rw [if_pos g]
    exact Money.plusO_some ⟨(Money.goodB_iff _).2 (by omega), (Money.goodB_iff _).2 (by omega), (Money.goodB_iff _).2 (by omega)⟩
  · rw [if_neg g]
    exact Money.plusO_none (fun k => g ((Money.goodB_iff _).1 k.2.2).2)
theorem grown_any (b r : Int) (w : World) (h : okL b 0 r = true) : Calls Try.prog 26 #[.int .i64 b, .int .i64 r] w fun e w' => e = .returned (.tuple #[.int .i64 (Money.valO (grO b r)), .int .i64 (Money.errO (grO b r))]) ∧ Below w.heap.size w w' := by
  have K1 := Lib.hid (fun W => interest b r W h)
  have K2 := Lib.hid (fun W => Money.add_tells b (Money.rnd b r 12000000 1) W)
  rw [gr_plus h] at K2
  clear h
  generalize Money.rnd b r 12000000 1 = q at *
  generalize Money.valO (grO b r) = v at *
  generalize Money.errO (grO b r) = x at *
  go_enter Try.func26, Try.ntmps26
  go_wp2_with fail
  refine (K1.out _).mono ?_
  rintro e w1 ⟨rfl, n, rfl⟩
  go_wp2_with fail
  refine (K2.out _).mono ?_
  rintro e w1 ⟨rfl, hb⟩
  have HB := Lib.hid hb
  clear hb
  go_wp2_with fail
  go_ret2
  exact ⟨rfl, below_via (below_drewN (Below.refl _ _) n) HB.out⟩
theorem grown_in (b r v : Int) (w : World) (h : okL b 0 r = true) (hv : gr b r = v) (g : v ≤ 10000000000000) : Calls Try.prog 26 #[.int .i64 b, .int .i64 r] w fun e w' => e = .returned (.tuple #[.int .i64 v, .int .i64 0]) ∧ Below w.heap.size w w' := by
  have t := grown_any b r w h
  have e1 : grO b r = some v := by unfold grO; rw [hv]; exact if_pos g
  rw [e1] at t; exact t
theorem grown_over (b r : Int) (w : World) (h : okL b 0 r = true) (g : ¬ gr b r ≤ 10000000000000) : Calls Try.prog 26 #[.int .i64 b, .int .i64 r] w fun e w' => e = .returned (.tuple #[.int .i64 0, .int .i64 14]) ∧ Below w.heap.size w w' := by
  have t := grown_any b r w h
  have e1 : grO b r = none := by unfold grO; exact if_neg g
  rw [e1] at t; exact t
theorem okL_less {b p r : Int} (h : okL b p r = true) : okL b 0 r = true := by
  obtain ⟨b0, b1, -, -, r0, r1⟩ := okL_iff.1 h
  exact okL_iff.2 ⟨b0, b1, by omega, by omega, r0, r1⟩
theorem okL_next {b p r c : Int} (h : okL b p r = true) (k : moO b p r = some c) : okL c p r = true := by
  obtain ⟨b0, b1, p0, p1, r0, r1⟩ := okL_iff.1 h
  obtain ⟨c0, c1⟩ := mo_in p0 k
  exact okL_iff.2 ⟨c0, c1, p0, p1, r0, r1⟩

theorem month_some (b p r c : Int) (w : World) (h : okL b p r = true) (k : moO b p r = some c) : Calls Try.prog 19 #[.int .i64 b, .int .i64 p, .int .i64 r] w fun e w' => e = .returned (.tuple #[.int .i64 c, .int .i64 0]) ∧ Below w.heap.size w w' := by
  obtain ⟨b0, b1, p0, p1, r0, r1⟩ := okL_iff.1 h
  obtain ⟨k1, k2⟩ := mo_is k
  have k0 := gr_ge b0 r0
  have K1 := Lib.hid (fun W => grown_in b r _ W (okL_less h) rfl k1)
  clear k h
  generalize gr b r = g at *
  have hw : IntKind.i64.wrap (g - p) = g - p := IntWalk.i64_in _ (by omega)
  by_cases hg : g - p < 0
  · have hc : c = 0 := by omega
    subst hc
    clear k2 k0 b0 b1 p0 p1 r0 r1
    go_enter Try.func19, Try.ntmps19
    go_wp2_with fail
    refine (K1.out _).mono ?_
    rintro e w1 ⟨rfl, hb⟩
    have HB := Lib.hid hb
    clear hb
    go_wp2_with fail
    go_ret2
    exact ⟨rfl, HB.out⟩
  · have hc : g - p = c := by omega
    rw [hc] at hw hg
    clear k2 k0 b0 b1 p0 p1 r0 r1
    go_enter Try.func19, Try.ntmps19
    go_wp2_with fail
    refine (K1.out _).mono ?_
    rintro e w1 ⟨rfl, hb⟩
    have HB := Lib.hid hb
    clear hb
    go_wp2_with fail
    go_ret2
    exact ⟨rfl, HB.out⟩
theorem month_none (b p r : Int) (w : World) (h : okL b p r = true) (k : moO b p r = none) : Calls Try.prog 19 #[.int .i64 b, .int .i64 p, .int .i64 r] w fun e w' => e = .returned (.tuple #[.int .i64 0, .int .i64 14]) ∧ Below w.heap.size w w' := by
  have k1 : ¬ gr b r ≤ 10000000000000 := fun g => by rw [mo_some g] at k; cases k
  have K1 := Lib.hid (fun W => grown_over b r W (okL_less h) k1)
  clear k1 k h
  go_enter Try.func19, Try.ntmps19
  go_wp2_with fail
  refine (K1.out _).mono ?_
  rintro e w1 ⟨rfl, hb⟩
  have HB := Lib.hid hb
  clear hb
  go_wp2_with fail
  go_ret2
  exact ⟨rfl, HB.out⟩
end Go.Proofs.Ytkeghiljolojlaa.Level
