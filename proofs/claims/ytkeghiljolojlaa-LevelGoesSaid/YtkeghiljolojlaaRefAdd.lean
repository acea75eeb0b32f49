/- What the document's own Good, Add and Sub of layer 1 come to, at any numbers. -/
import Derived.Test.YtkeghiljolojlaaAddSub
namespace Go.Proofs.Ytkeghiljolojlaa.Ref
open Go.ChangeShapes Go.WideShapes Go.ChangeAt Go.RowKit Bits Money

theorem good_any (a : Int) (w : World) : Calls Try.prog 30 #[.int .i64 a] w fun e w' => e = .returned (.bool (goodB a)) ∧ w = w' := by
  by_cases h1 : -10000000000000 ≤ a
  · by_cases h2 : a ≤ 10000000000000
    · have H : Hid (goodB a = true) := (goodB_iff a).2 ⟨h1, h2⟩
      go_enter Try.func30, Try.ntmps30
      go_wp2
      go_ret
      exact ⟨ret_bool H.out.symm, rfl⟩
    · have H : Hid (goodB a = false) := by show goodB a = false; rw [Bool.eq_false_iff]; intro h; exact h2 ((goodB_iff a).1 h).2
      go_enter Try.func30, Try.ntmps30
      go_wp2
      go_ret
      exact ⟨ret_bool H.out.symm, rfl⟩
  · have H : Hid (goodB a = false) := by show goodB a = false; rw [Bool.eq_false_iff]; intro h; exact h1 ((goodB_iff a).1 h).1
    go_enter Try.func30, Try.ntmps30
    go_wp2
    go_ret
    exact ⟨ret_bool H.out.symm, rfl⟩

theorem good_neg (b : Int) : goodB (-b) = goodB b := by
  rw [Bool.eq_iff_iff, goodB_iff, goodB_iff]; omega

theorem add_tells (a b : Int) (w : World) :
    Calls Try.prog 22 #[.int .i64 a, .int .i64 b] w fun e w' => e = .returned (.tuple #[.int .i64 (valO (plusO a (b))), .int .i64 (errO (plusO a (b)))]) ∧ w = w' := by
  cases ha : goodB a
  · rw [plusO_none (fun h => by rw [ha] at h; exact Bool.noConfusion h.1)]
    have HA := Lib.hid ha
    clear ha
    go_enter Try.func22, Try.ntmps22
    go_wp2_with fail
    refine (good_any _ _).mono ?_
    rw [HA.out]
    rintro e w' ⟨rfl, rfl⟩
    go_wp2_with fail
    go_ret2
    exact ⟨rfl, rfl⟩
  · cases hb : goodB b
    · rw [plusO_none (fun h => by rw [hb] at h; exact Bool.noConfusion h.2.1)]
      have HA := Lib.hid ha
      have HB := Lib.hid hb
      clear ha hb
      go_enter Try.func22, Try.ntmps22
      go_wp2_with fail
      refine (good_any _ _).mono ?_
      rw [HA.out]
      rintro e w' ⟨rfl, rfl⟩
      go_wp2_with fail
      refine (good_any _ _).mono ?_
      rw [HB.out]
      rintro e w' ⟨rfl, rfl⟩
      go_wp2_with fail
      go_ret2
      exact ⟨rfl, rfl⟩
    · have HA := Lib.hid ha
      have HB := Lib.hid hb
      obtain ⟨a0, a1⟩ := (goodB_iff _).1 ha
      obtain ⟨b0, b1⟩ := (goodB_iff _).1 hb
      cases hc : goodB (a + b)
      · rw [plusO_none (fun h => by rw [hc] at h; exact Bool.noConfusion h.2.2)]
        have HC := Lib.hid hc
        clear ha hb hc
        go_enter Try.func22, Try.ntmps22
        go_wp2_with fail
        refine (good_any _ _).mono ?_
        rw [HA.out]
        rintro e w' ⟨rfl, rfl⟩
        go_wp2_with fail
        refine (good_any _ _).mono ?_
        rw [HB.out]
        rintro e w' ⟨rfl, rfl⟩
        go_wp2_with fail
        refine (good_any _ _).mono ?_
        rw [HC.out]
        rintro e w' ⟨rfl, rfl⟩
        go_wp2_with fail
        go_ret2
        exact ⟨rfl, rfl⟩
      · rw [plusO_some ⟨ha, hb, hc⟩]
        have HC := Lib.hid hc
        clear ha hb hc
        go_enter Try.func22, Try.ntmps22
        go_wp2_with fail
        refine (good_any _ _).mono ?_
        rw [HA.out]
        rintro e w' ⟨rfl, rfl⟩
        go_wp2_with fail
        refine (good_any _ _).mono ?_
        rw [HB.out]
        rintro e w' ⟨rfl, rfl⟩
        go_wp2_with fail
        refine (good_any _ _).mono ?_
        rw [HC.out]
        rintro e w' ⟨rfl, rfl⟩
        go_wp2_with fail
        go_ret2
        exact ⟨rfl, rfl⟩

theorem radd_some (a b c : Int) (w : World) (h : Hid (plusO a b = some c)) : Calls Try.prog 22 #[.int .i64 a, .int .i64 b] w fun e w' => e = .returned (.tuple #[.int .i64 c, .int .i64 0]) ∧ w = w' := by
  have t := add_tells a b w
  rw [h.out] at t; exact t
theorem radd_none (a b : Int) (w : World) (h : Hid (plusO a b = none)) : Calls Try.prog 22 #[.int .i64 a, .int .i64 b] w fun e w' => e = .returned (.tuple #[.int .i64 0, .int .i64 14]) ∧ w = w' := by
  have t := add_tells a b w
  rw [h.out] at t; exact t
end Go.Proofs.Ytkeghiljolojlaa.Ref
