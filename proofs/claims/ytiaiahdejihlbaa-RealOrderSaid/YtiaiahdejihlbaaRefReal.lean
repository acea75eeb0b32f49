/- What the document's own Take, Cents and Ppm answer, at every input. -/
import Derived.Test.YtiaiahdejihlbaaRefTake
namespace Go.Proofs.Ytiaiahdejihlbaa.Fl
open Go.ChangeShapes Go.WideShapes Go.ChangeAt Go.RowKit Bits Money Flo Law

theorem rtake_any (b : Nat) (k : Int) (w : World) (hb : b < 18446744073709551616) :
    Calls Try.prog 10 #[.float .f64 b, .int .i64 k] w fun e w' => e = .returned (.tuple #[.int .i64 (tV b k), .int .i64 (tE b k)]) ∧ Below w.heap.size w w' := by
  cases hg : goodF b with
  | false =>
    have e1 := tE_bad (k := k) hg
    have H1 : Hid (tV b k = 0) := tV_no e1 (by decide)
    have H2 := Lib.hid e1
    clear e1
    go_enter Try.func10, Try.ntmps10
    go_wp2_with (go_at_call 12; refine (good_ref _ _ hb).mono ?_; rintro e w' ⟨rfl, rfl⟩)
    go_ret2
    exact ⟨ret_two H1.out.symm H2.out.symm, by go_grown⟩
  | true =>
    by_cases hk : 1 ≤ k ∧ k ≤ 1000000
    · obtain ⟨n, rfl⟩ := Int.eq_ofNat_of_zero_le (show 0 ≤ k by omega)
      have hn : 1 ≤ n ∧ n ≤ 1000000 := by omega
      by_cases e0 : b % 9223372036854775808 / 4503599627370496 = 0
      · exact rtake_zero b n w hb hg hn e0
      · by_cases e1 : b % 9223372036854775808 / 4503599627370496 < 875
        · exact rtake_low b n w hb hg hn ⟨by omega, e1⟩
        · by_cases e2 : b % 9223372036854775808 / 4503599627370496 < 1075
          · exact rtake_mid b n w hb hg hn ⟨by omega, e2⟩
          · exact rtake_high b n w hb hg hn (by omega)
    · have e1 := tE_arg hg hk
      have H1 : Hid (tV b k = 0) := tV_no e1 (by decide)
      have H2 := Lib.hid e1
      clear e1
      by_cases k1 : k < 1
      · clear hk
        go_enter Try.func10, Try.ntmps10
        go_wp2_with (go_at_call 12; refine (good_ref _ _ hb).mono ?_; rintro e w' ⟨rfl, rfl⟩)
        go_ret2
        exact ⟨ret_two H1.out.symm H2.out.symm, by go_grown⟩
      · have k2 : 1000000 < k := by omega
        clear hk
        go_enter Try.func10, Try.ntmps10
        go_wp2_with (go_at_call 12; refine (good_ref _ _ hb).mono ?_; rintro e w' ⟨rfl, rfl⟩)
        go_ret2
        exact ⟨ret_two H1.out.symm H2.out.symm, by go_grown⟩

theorem rcents_any (b : Nat) (w : World) (hb : b < 18446744073709551616) :
    Calls Try.prog 15 #[.float .f64 b] w fun e w' => e = .returned (.tuple #[.int .i64 (tV b 100), .int .i64 (tE b 100)]) ∧ Below w.heap.size w w' := by
  go_enter Try.func15, Try.ntmps15
  go_wp2_with (go_at_call 10; refine (rtake_any _ _ _ hb).mono ?_; rintro e w' ⟨rfl, hw⟩)
  go_ret2
  exact ⟨rfl, hw⟩

theorem rppm_any (b : Nat) (w : World) (hb : b < 18446744073709551616) :
    Calls Try.prog 17 #[.float .f64 b] w fun e w' => e = .returned (.tuple #[.int .i64 (pV b), .int .i64 (pE b)]) ∧ Below w.heap.size w w' := by
  have hr := tV_range b 10000
  by_cases h0 : tE b 10000 = 0
  · by_cases h1 : tV b 10000 ≤ 1000000
    · have H2 : Hid (pE b = 0) := show pE b = 0 by unfold pE; rw [if_pos h0, if_pos h1]
      have H1 : Hid (pV b = tV b 10000) := show pV b = tV b 10000 by unfold pV; rw [if_pos H2.out]
      have hc := rtake_any b 10000
      generalize tV b 10000 = v at *
      generalize tE b 10000 = e at *
      subst h0
      go_enter Try.func17, Try.ntmps17
      go_wp2_with (go_at_call 10; refine (hc _ hb).mono ?_; rintro e w' ⟨rfl, hw⟩)
      go_ret2
      exact ⟨ret_two H1.out.symm H2.out.symm, hw⟩
    · have H2 : Hid (pE b = 14) := show pE b = 14 by unfold pE; rw [if_pos h0, if_neg h1]
      have H1 : Hid (pV b = 0) := show pV b = 0 by unfold pV; rw [if_neg (by rw [H2.out]; decide)]
      have hc := rtake_any b 10000
      generalize tV b 10000 = v at *
      generalize tE b 10000 = e at *
      subst h0
      go_enter Try.func17, Try.ntmps17
      go_wp2_with (go_at_call 10; refine (hc _ hb).mono ?_; rintro e w' ⟨rfl, hw⟩)
      go_ret2
      exact ⟨ret_two H1.out.symm H2.out.symm, hw⟩
  · have hd : (tE b 10000 == 0) = false := by rw [beq_eq_false_iff_ne]; exact h0
    have hv : tV b 10000 = 0 := tV_no rfl h0
    have H2 : Hid (pE b = tE b 10000) := show pE b = tE b 10000 by unfold pE; rw [if_neg h0]
    have H1 : Hid (pV b = 0) := show pV b = 0 by unfold pV; rw [if_neg (by rw [H2.out]; exact h0)]
    have hc := rtake_any b 10000
    generalize tV b 10000 = v at *
    generalize tE b 10000 = e at *
    subst hv
    go_enter Try.func17, Try.ntmps17
    go_wp2_with (go_at_call 10; refine (hc _ hb).mono ?_; rintro e w' ⟨rfl, hw⟩)
    go_ret2
    exact ⟨ret_two H1.out.symm H2.out.symm, hw⟩
end Go.Proofs.Ytiaiahdejihlbaa.Fl
