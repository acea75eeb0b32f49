/- The document's own Month, Table and Left, at every input. -/
import Derived.Test.YtkeghiljolojlaaLevelMath
import Derived.Test.YtkeghiljolojlaaRefMulDiv
import Derived.Test.YtkeghiljolojlaaRefAdd
import Derived.Test.YtkeghiljolojlaaAppend
import Derived.Test.YtkeghiljolojlaaWakes
namespace Go.Proofs.Ytkeghiljolojlaa.RLevel
open Go.ChangeShapes Go.WideShapes Go.ChangeAt Go.RowKit Bits Law Slice Level Money

def monB (a : Int) : Bool := decide (0 ≤ a ∧ a ≤ 10000000000000)
theorem money_any (a : Int) (w : World) : Calls Try.prog 20 #[.int .i64 a] w fun e w' => e = .returned (.bool (monB a)) ∧ w = w' := by
  have K := Lib.hid (fun W => Ref.good_any a W)
  by_cases h : 0 ≤ a
  · have HE : Hid (goodB a = monB a) := show goodB a = monB a by
      unfold monB; rw [Bool.eq_iff_iff, goodB_iff]; simp only [decide_eq_true_eq]; omega
    rw [HE.out] at K
    generalize monB a = x at *
    go_enter Try.func20, Try.ntmps20
    go_wp2_with fail
    refine (K.out _).mono ?_
    rintro e w' ⟨rfl, rfl⟩
    go_wp2_with fail
    go_ret
    exact ⟨rfl, rfl⟩
  · have HE : Hid (monB a = false) := decide_eq_false (fun k => h k.1)
    go_enter Try.func20, Try.ntmps20
    go_wp2_with fail
    go_ret
    exact ⟨by rw [HE.out]; rfl, rfl⟩
theorem money_is (a : Int) (x : Bool) (w : World) (h : Hid (monB a = x)) : Calls Try.prog 20 #[.int .i64 a] w fun e w' => e = .returned (.bool x) ∧ w = w' := by
  have t := money_any a w
  rw [h.out] at t; exact t
theorem okL_mon {b p r : Int} : okL b p r = (monB b && monB p && !decide (r < 0) && !decide (1000000 < r)) := by
  unfold okL monB
  rw [Bool.eq_iff_iff]
  simp only [Bool.and_eq_true, Bool.not_eq_true', decide_eq_true_eq, decide_eq_false_iff_not]
  omega

theorem r_month_no (b p r : Int) (w : World) (x y z t : Bool) (h : (x && y && !z && !t) = false) (h1 : Hid (monB b = x)) (h2 : Hid (monB p = y)) (h3 : decide (r < 0) = z) (h4 : decide (1000000 < r) = t) :
    Calls Try.prog 9 #[.int .i64 b, .int .i64 p, .int .i64 r] w fun e w' => e = .returned (.tuple #[.int .i64 0, .int .i64 1]) ∧ Below w.heap.size w w' := by
  have K1 := Lib.hid (fun W => money_is b x W h1)
  have K2 := Lib.hid (fun W => money_is p y W h2)
  clear h1 h2
  go_enter Try.func9, Try.ntmps9
  cases x with
  | false =>
    go_wp2_with fail
    refine (K1.out _).mono ?_
    rintro e w' ⟨rfl, rfl⟩
    go_wp2_with fail
    go_ret2
    exact ⟨rfl, Below.refl _ _⟩
  | true =>
    cases y with
    | false =>
      go_wp2_with fail
      refine (K1.out _).mono ?_
      rintro e w' ⟨rfl, rfl⟩
      go_wp2_with fail
      refine (K2.out _).mono ?_
      rintro e w' ⟨rfl, rfl⟩
      go_wp2_with fail
      go_ret2
      exact ⟨rfl, Below.refl _ _⟩
    | true =>
      cases z with
      | true =>
        go_wp2_with fail
        refine (K1.out _).mono ?_
        rintro e w' ⟨rfl, rfl⟩
        go_wp2_with fail
        refine (K2.out _).mono ?_
        rintro e w' ⟨rfl, rfl⟩
        go_wp2_with fail
        go_ret2
        exact ⟨rfl, Below.refl _ _⟩
      | false =>
        cases t with
        | true =>
          go_wp2_with fail
          refine (K1.out _).mono ?_
          rintro e w' ⟨rfl, rfl⟩
          go_wp2_with fail
          refine (K2.out _).mono ?_
          rintro e w' ⟨rfl, rfl⟩
          go_wp2_with fail
          go_ret2
          exact ⟨rfl, Below.refl _ _⟩
        | false => cases h
theorem mon_yes {a : Int} (h0 : 0 ≤ a) (h1 : a ≤ 10000000000000) : monB a = true := decide_eq_true ⟨h0, h1⟩
/-- the interest of a month is money. -/
theorem interest (b r : Int) (w : World) (h : okL b 0 r = true) : Calls Try.prog 21 #[.int .i64 b, .int .i64 r, .int .i64 12000000, .int .i64 1] w fun e w' => e = .returned (.tuple #[.int .i64 (rnd b r 12000000 1), .int .i64 0]) ∧ Below w.heap.size w w' := by
  obtain ⟨b0, b1, -, -, r0, r1⟩ := okL_iff.1 h
  have t := Ref.muldiv_any b r 12000000 1 w (by omega) (by omega) (by omega)
  obtain ⟨e1, e2⟩ := md_in (a := b) (b := r) (c := 12000000) (how := 1) (by unfold mdBad; omega) (by have := int_le b1 r0 r1; omega)
  rw [e1, e2] at t
  exact t
theorem okL_less {b p r : Int} (h : okL b p r = true) : okL b 0 r = true := by
  obtain ⟨b0, b1, -, -, r0, r1⟩ := okL_iff.1 h
  exact okL_iff.2 ⟨b0, b1, by omega, by omega, r0, r1⟩
theorem okL_next {b p r c : Int} (h : okL b p r = true) (k : moO b p r = some c) : okL c p r = true := by
  obtain ⟨b0, b1, p0, p1, r0, r1⟩ := okL_iff.1 h
  obtain ⟨c0, c1⟩ := mo_in p0 k
  exact okL_iff.2 ⟨c0, c1, p0, p1, r0, r1⟩
theorem r_month_none (b p r : Int) (w : World) (h : okL b p r = true) (k : moO b p r = none) : Calls Try.prog 9 #[.int .i64 b, .int .i64 p, .int .i64 r] w fun e w' => e = .returned (.tuple #[.int .i64 0, .int .i64 14]) ∧ Below w.heap.size w w' := by
  obtain ⟨b0, b1, p0, p1, r0, r1⟩ := okL_iff.1 h
  have k1 : ¬ gr b r ≤ 10000000000000 := fun g => by rw [mo_some g] at k; cases k
  have K1 := Lib.hid (fun W => money_is b true W (mon_yes b0 b1))
  have K2 := Lib.hid (fun W => money_is p true W (mon_yes p0 p1))
  have K3 := Lib.hid (fun W => interest b r W (okL_less h))
  have K4 := Lib.hid (fun W => Ref.radd_none b (rnd b r 12000000 1) W (plusO_none (fun q => k1 ((goodB_iff _).1 q.2.2).2)))
  have t3 : decide (r < 0) = false := decide_eq_false (by omega)
  have t4 : decide (1000000 < r) = false := decide_eq_false (by omega)
  clear h k k1 b0 b1 p0 p1 r0 r1
  generalize rnd b r 12000000 1 = q at *
  go_enter Try.func9, Try.ntmps9
  go_wp2_with fail
  refine (K1.out _).mono ?_
  rintro e w' ⟨rfl, rfl⟩
  go_wp2_with fail
  refine (K2.out _).mono ?_
  rintro e w' ⟨rfl, rfl⟩
  go_wp2_with fail
  refine (K3.out _).mono ?_
  rintro e w1 ⟨rfl, hb⟩
  have HB := Lib.hid hb
  clear hb
  go_wp2_with fail
  refine (K4.out _).mono ?_
  rintro e w' ⟨rfl, rfl⟩
  go_wp2_with fail
  go_ret2
  exact ⟨rfl, HB.out⟩
theorem r_month_some (b p r c : Int) (w : World) (h : okL b p r = true) (k : moO b p r = some c) : Calls Try.prog 9 #[.int .i64 b, .int .i64 p, .int .i64 r] w fun e w' => e = .returned (.tuple #[.int .i64 c, .int .i64 0]) ∧ Below w.heap.size w w' := by
  obtain ⟨b0, b1, p0, p1, r0, r1⟩ := okL_iff.1 h
  obtain ⟨k1, k2⟩ := mo_is k
  have i0 := int_ge b0 r0
  have i1 := int_le b1 r0 r1
  have hs : b + rnd b r 12000000 1 = gr b r := rfl
  have K1 := Lib.hid (fun W => money_is b true W (mon_yes b0 b1))
  have K2 := Lib.hid (fun W => money_is p true W (mon_yes p0 p1))
  have K3 := Lib.hid (fun W => interest b r W (okL_less h))
  have K4 := Lib.hid (fun W => Ref.radd_some b (rnd b r 12000000 1) (gr b r) W (show plusO _ _ = _ from plusO_some ⟨(goodB_iff _).2 (by omega), (goodB_iff _).2 (by omega), (goodB_iff _).2 (by omega)⟩))
  have t3 : decide (r < 0) = false := decide_eq_false (by omega)
  have t4 : decide (1000000 < r) = false := decide_eq_false (by omega)
  have k0 := gr_ge b0 r0
  clear h k hs i0 i1
  generalize rnd b r 12000000 1 = q at *
  generalize gr b r = g at *
  have hw : IntKind.i64.wrap (g - p) = g - p := IntWalk.i64_in _ (by omega)
  by_cases hg : 0 < g - p
  · have hc : g - p = c := by omega
    rw [hc] at hw hg
    clear k1 k2 k0 b0 b1 p0 p1 r0 r1
    go_enter Try.func9, Try.ntmps9
    go_wp2_with fail
    refine (K1.out _).mono ?_
    rintro e w' ⟨rfl, rfl⟩
    go_wp2_with fail
    refine (K2.out _).mono ?_
    rintro e w' ⟨rfl, rfl⟩
    go_wp2_with fail
    refine (K3.out _).mono ?_
    rintro e w1 ⟨rfl, hb⟩
    have HB := Lib.hid hb
    clear hb
    go_wp2_with fail
    refine (K4.out _).mono ?_
    rintro e w' ⟨rfl, rfl⟩
    go_wp2_with fail
    go_ret2
    exact ⟨rfl, HB.out⟩
  · have hc : c = 0 := by omega
    subst hc
    clear k1 k2 k0 b0 b1 p0 p1 r0 r1
    go_enter Try.func9, Try.ntmps9
    go_wp2_with fail
    refine (K1.out _).mono ?_
    rintro e w' ⟨rfl, rfl⟩
    go_wp2_with fail
    refine (K2.out _).mono ?_
    rintro e w' ⟨rfl, rfl⟩
    go_wp2_with fail
    refine (K3.out _).mono ?_
    rintro e w1 ⟨rfl, hb⟩
    have HB := Lib.hid hb
    clear hb
    go_wp2_with fail
    refine (K4.out _).mono ?_
    rintro e w' ⟨rfl, rfl⟩
    go_wp2_with fail
    go_ret2
    exact ⟨rfl, HB.out⟩
theorem r_month (b p r : Int) (w : World) : Calls Try.prog 9 #[.int .i64 b, .int .i64 p, .int .i64 r] w fun e w' => e = .returned (.tuple #[.int .i64 (mV b p r), .int .i64 (mE b p r)]) ∧ Below w.heap.size w w' := by
  cases h : okL b p r with
  | false =>
    rw [(mV_no h).1, (mV_no h).2]
    exact r_month_no b p r w _ _ _ _ (by rw [← okL_mon]; exact h) (Lib.hid rfl) (Lib.hid rfl) rfl rfl
  | true =>
    rw [(mV_yes h).1, (mV_yes h).2]
    cases k : moO b p r with
    | none => exact r_month_none b p r w h k
    | some c => exact r_month_some b p r c w h k
end Go.Proofs.Ytkeghiljolojlaa.RLevel
