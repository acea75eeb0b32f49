/- What money.MulDiv answers, at every input. -/
import Derived.Test.YtldcocckfemgbaaMoney
namespace Go.Proofs.Ytldcocckfemgbaa.Money
open Go.ChangeShapes Go.WideShapes Go.ChangeAt Go.RowKit Bits

/-- a * b by c, rounded. -/
def rnd (a b c how : Int) : Int := a * b / c + if risesB (a * b / c) (a * b % c) c how = true then 1 else 0
def mdBad (a b c how : Int) : Prop := a < 0 ∨ b < 0 ∨ c ≤ 0 ∨ how < 0 ∨ 2 < how
instance (a b c how : Int) : Decidable (mdBad a b c how) := by unfold mdBad; exact inferInstance
def mdV (a b c how : Int) : Int := if mdBad a b c how then 0 else if 10000000000000 < rnd a b c how then 0 else rnd a b c how
def mdE (a b c how : Int) : Int := if mdBad a b c how then 1 else if 10000000000000 < rnd a b c how then 14 else 0

theorem md_bad {a b c how : Int} (h : mdBad a b c how) : mdV a b c how = 0 ∧ mdE a b c how = 1 := by unfold mdV mdE; rw [if_pos h, if_pos h]; exact ⟨rfl, rfl⟩
theorem md_out {a b c how : Int} (h : ¬ mdBad a b c how) (g : 10000000000000 < rnd a b c how) : mdV a b c how = 0 ∧ mdE a b c how = 14 := by unfold mdV mdE; rw [if_neg h, if_neg h, if_pos g, if_pos g]; exact ⟨rfl, rfl⟩
theorem md_in {a b c how : Int} (h : ¬ mdBad a b c how) (g : ¬ 10000000000000 < rnd a b c how) : mdV a b c how = rnd a b c how ∧ mdE a b c how = 0 := by unfold mdV mdE; rw [if_neg h, if_neg h, if_neg g, if_neg g]; exact ⟨rfl, rfl⟩
theorem rnd_yes {a b c how : Int} (h : risesB (a * b / c) (a * b % c) c how = true) : rnd a b c how = a * b / c + 1 := by unfold rnd; rw [if_pos h]
theorem rnd_no {a b c how : Int} (h : risesB (a * b / c) (a * b % c) c how = false) : rnd a b c how = a * b / c := by unfold rnd; rw [if_neg (by rw [h]; exact Bool.false_ne_true)]; omega
theorem rnd_ge (a b c how : Int) : a * b / c ≤ rnd a b c how := by unfold rnd; split <;> omega
theorem rnd_le (a b c how : Int) : rnd a b c how ≤ a * b / c + 1 := by unfold rnd; split <;> omega

/-- The product in two words, and what is known of them. -/
theorem words (a b c : Int) (a0 : 0 ≤ a) (a1 : a ≤ 9223372036854775807) (b0 : 0 ≤ b) (b1 : b ≤ 9223372036854775807) (c0 : 0 < c) :
    0 ≤ a * b / 18446744073709551616 ∧ a * b / 18446744073709551616 ≤ 9223372036854775807 ∧ 0 ≤ a * b % 18446744073709551616 ∧ a * b % 18446744073709551616 ≤ 18446744073709551615 ∧
    a * b / 18446744073709551616 * 18446744073709551616 + a * b % 18446744073709551616 = a * b ∧ 0 ≤ a * b / c ∧ 0 ≤ a * b % c ∧ a * b % c < c ∧ (c ≤ a * b / 18446744073709551616 → 18446744073709551616 ≤ a * b / c) := by
  have p0 : 0 ≤ a * b := Int.mul_nonneg a0 b0
  have p1 : a * b ≤ 9223372036854775807 * 9223372036854775807 := Int.mul_le_mul a1 b1 b0 (by omega)
  refine ⟨by omega, by omega, by omega, by omega, by omega, Int.ediv_nonneg p0 (by omega), Int.emod_nonneg _ (by omega), Int.emod_lt_of_pos _ c0, fun h => ?_⟩
  rw [Int.le_ediv_iff_mul_le c0]
  have : 18446744073709551616 * c ≤ 18446744073709551616 * (a * b / 18446744073709551616) := Int.mul_le_mul_of_nonneg_left h (by omega)
  omega
theorem quot_lt (a b c : Int) (h : a * b / 18446744073709551616 < c) (a0 : 0 ≤ a * b / 18446744073709551616) : a * b / c < 18446744073709551616 := by
  rw [Int.ediv_lt_iff_lt_mul (by omega)]; omega

theorem muldiv_bad (a b c how : Int) (w : World) (h : mdBad a b c how) :
    Calls Try.prog 15 #[.int .i64 a, .int .i64 b, .int .i64 c, .int .i64 how] w fun e w' => e = .returned (.tuple #[.int .i64 0, .int .i64 1]) ∧ w = w' := by
  unfold mdBad at h
  by_cases h1 : a < 0
  · clear h
    go_enter Try.func15, Try.ntmps15
    go_wp2_with fail
    go_ret2
    exact ⟨rfl, rfl⟩
  · by_cases h2 : b < 0
    · clear h
      go_enter Try.func15, Try.ntmps15
      go_wp2_with fail
      go_ret2
      exact ⟨rfl, rfl⟩
    · by_cases h3 : c ≤ 0
      · clear h
        go_enter Try.func15, Try.ntmps15
        go_wp2_with fail
        go_ret2
        exact ⟨rfl, rfl⟩
      · by_cases h4 : how < 0
        · clear h
          go_enter Try.func15, Try.ntmps15
          go_wp2_with fail
          go_ret2
          exact ⟨rfl, rfl⟩
        · have h5 : 2 < how := by omega
          clear h
          go_enter Try.func15, Try.ntmps15
          go_wp2_with fail
          go_ret2
          exact ⟨rfl, rfl⟩

set_option maxHeartbeats 1000000 in
theorem muldiv_good (a b c how : Int) (w : World) (a0 : 0 ≤ a) (a1 : a ≤ 9223372036854775807) (b0 : 0 ≤ b) (b1 : b ≤ 9223372036854775807) (c0 : 0 < c) (c1 : c ≤ 9223372036854775807) (m0 : 0 ≤ how) (m1 : how ≤ 2) :
    Calls Try.prog 15 #[.int .i64 a, .int .i64 b, .int .i64 c, .int .i64 how] w fun e w' => e = .returned (.tuple #[.int .i64 (mdV a b c how), .int .i64 (mdE a b c how)]) ∧ ∃ n, w' = w.drewN n := by
  have hb : ¬ mdBad a b c how := by unfold mdBad; omega
  obtain ⟨i0, i1, i2, i3, i4, i5, i6, i7, i8⟩ := words a b c a0 a1 b0 b1 c0
  have i9 := quot_lt a b c
  have ge := rnd_ge a b c how
  by_cases hc : c ≤ a * b / 18446744073709551616
  · have H := Lib.hid (md_out (a := a) (b := b) (c := c) (how := how) hb (by omega))
    clear i4 i8 i9 ge hb i5 i6 i7
    go_enter Try.func15, Try.ntmps15
    go_wp2_with (first
      | (go_at_call 19; refine (mul_any _ _ _ (by omega) (by omega) (by omega) (by omega)).mono ?_; rintro e w' ⟨rfl, rfl⟩)
      | (go_at_call 20; refine (div_no _ _ _ _ (by omega)).mono ?_; rintro e w' ⟨rfl, rfl⟩))
    go_ret2
    exact ⟨ret_two H.out.1.symm H.out.2.symm, 0, rfl⟩
  · have i10 := i9 (by omega) i0
    have H4 := Lib.hid i4
    clear i4 i8 i9
    generalize hq : a * b / c = q at *
    generalize hr : a * b % c = r at *
    have HQ := Lib.hid hq
    have HR := Lib.hid hr
    clear hq hr
    by_cases hq1 : 10000000000000 < q
    · have H := Lib.hid (md_out (a := a) (b := b) (c := c) (how := how) hb (by omega))
      clear hb ge
      go_enter Try.func15, Try.ntmps15
      go_wp2_with (first
        | (go_at_call 19; refine (mul_any _ _ _ (by omega) (by omega) (by omega) (by omega)).mono ?_; rintro e w' ⟨rfl, rfl⟩)
        | (go_at_call 20; refine (div_ok _ _ _ _ (by omega) (by omega) (by omega) (by omega) (by omega)).mono ?_; rw [H4.out, HQ.out, HR.out]; rintro e w' ⟨rfl, n, rfl⟩))
      go_ret2
      exact ⟨ret_two H.out.1.symm H.out.2.symm, n, rfl⟩
    · cases hrs : risesB q r c how
      · have hv := rnd_no (a := a) (b := b) (c := c) (how := how) (by rw [HQ.out, HR.out]; exact hrs)
        rw [HQ.out] at hv
        have H := Lib.hid (md_in (a := a) (b := b) (c := c) (how := how) hb (by omega))
        have HV := Lib.hid hv
        have RS := Lib.hid hrs
        clear hb ge hv hrs
        go_enter Try.func15, Try.ntmps15
        go_wp2_with (first
          | (go_at_call 19; refine (mul_any _ _ _ (by omega) (by omega) (by omega) (by omega)).mono ?_; rintro e w' ⟨rfl, rfl⟩)
          | (go_at_call 20; refine (div_ok _ _ _ _ (by omega) (by omega) (by omega) (by omega) (by omega)).mono ?_; rw [H4.out, HQ.out, HR.out]; rintro e w' ⟨rfl, n, rfl⟩)
          | (go_at_call 21; refine (rises_any _ _ _ _ _ (by omega) (by omega) (by omega) (by omega) (by omega)).mono ?_; rw [RS.out]; rintro e w' ⟨rfl, rfl⟩))
        go_ret2
        exact ⟨ret_two (by rw [H.out.1, HV.out]) H.out.2.symm, n, rfl⟩
      · have hv := rnd_yes (a := a) (b := b) (c := c) (how := how) (by rw [HQ.out, HR.out]; exact hrs)
        rw [HQ.out] at hv
        have HV := Lib.hid hv
        have RS := Lib.hid hrs
        by_cases hq2 : 10000000000000 < q + 1
        · have H := Lib.hid (md_out (a := a) (b := b) (c := c) (how := how) hb (by omega))
          clear hb ge hv hrs
          go_enter Try.func15, Try.ntmps15
          go_wp2_with (first
            | (go_at_call 19; refine (mul_any _ _ _ (by omega) (by omega) (by omega) (by omega)).mono ?_; rintro e w' ⟨rfl, rfl⟩)
            | (go_at_call 20; refine (div_ok _ _ _ _ (by omega) (by omega) (by omega) (by omega) (by omega)).mono ?_; rw [H4.out, HQ.out, HR.out]; rintro e w' ⟨rfl, n, rfl⟩)
            | (go_at_call 21; refine (rises_any _ _ _ _ _ (by omega) (by omega) (by omega) (by omega) (by omega)).mono ?_; rw [RS.out]; rintro e w' ⟨rfl, rfl⟩))
          go_ret2
          exact ⟨ret_two H.out.1.symm H.out.2.symm, n, rfl⟩
        · have H := Lib.hid (md_in (a := a) (b := b) (c := c) (how := how) hb (by omega))
          clear hb ge hv hrs
          go_enter Try.func15, Try.ntmps15
          go_wp2_with (first
            | (go_at_call 19; refine (mul_any _ _ _ (by omega) (by omega) (by omega) (by omega)).mono ?_; rintro e w' ⟨rfl, rfl⟩)
            | (go_at_call 20; refine (div_ok _ _ _ _ (by omega) (by omega) (by omega) (by omega) (by omega)).mono ?_; rw [H4.out, HQ.out, HR.out]; rintro e w' ⟨rfl, n, rfl⟩)
            | (go_at_call 21; refine (rises_any _ _ _ _ _ (by omega) (by omega) (by omega) (by omega) (by omega)).mono ?_; rw [RS.out]; rintro e w' ⟨rfl, rfl⟩))
          go_ret2
          exact ⟨ret_two (by rw [H.out.1, HV.out]) H.out.2.symm, n, rfl⟩

theorem muldiv_any (a b c how : Int) (w : World) (a1 : a ≤ 9223372036854775807) (b1 : b ≤ 9223372036854775807) (c1 : c ≤ 9223372036854775807) :
    Calls Try.prog 15 #[.int .i64 a, .int .i64 b, .int .i64 c, .int .i64 how] w fun e w' => e = .returned (.tuple #[.int .i64 (mdV a b c how), .int .i64 (mdE a b c how)]) ∧ ∃ n, w' = w.drewN n := by
  by_cases h : mdBad a b c how
  · rw [(md_bad h).1, (md_bad h).2]
    exact (muldiv_bad a b c how w h).mono fun _ _ h => ⟨h.1, 0, h.2.symm⟩
  · unfold mdBad at h
    exact muldiv_good a b c how w (by omega) a1 (by omega) b1 (by omega) c1 (by omega) (by omega)
end Go.Proofs.Ytldcocckfemgbaa.Money
