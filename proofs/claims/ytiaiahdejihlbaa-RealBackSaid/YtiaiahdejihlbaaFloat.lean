/- The functions of package math that the model gives itself, as laws of the walk; NaN, Inf, Good. -/
import Derived.Test.YtiaiahdejihlbaaFloWord
import Derived.Test.YtiaiahdejihlbaaWakes
import Derived.WalkLawsBesides
import Derived.Laws.Externs
import Derived.Laws.BitsAllLaws
namespace Go.Proofs.Ytiaiahdejihlbaa.Fl
open Go.ChangeShapes Go.WideShapes Go.ChangeAt Go.RowKit Bits Money Flo

@[go_sem] theorem call_bits (b : Nat) (w : World) : (callFunc 34 #[.float .f64 b]).run Try.prog w = .ok (.value (.int .u64 b)) w := by
  rw [run_callFunc_extern Try.func34 (by kernel_rfl) (by kernel_rfl) (by kernel_rfl) (e := Extern.MathFloatBits.float64bits) (by kernel_rfl)]
  rfl
@[go_sem] theorem call_from (n : Int) (w : World) : (callFunc 39 #[.int .u64 n]).run Try.prog w = .ok (.value (.float .f64 n.toNat)) w := by
  rw [run_callFunc_extern Try.func39 (by kernel_rfl) (by kernel_rfl) (by kernel_rfl) (e := Extern.MathFloatBits.float64frombits) (by kernel_rfl)]
  rfl


/-! The order of any words. -/
theorem not_nan {r : Nat} (h : ¬ 9218868437227405312 < r % 9223372036854775808) (s : Bool) (t : Nat) : D.read r ≠ .nan s t := by
  unfold Ieee.Format.read
  rw [D_sign, D_binade, D_infRung, D_least]
  simp only
  by_cases h1 : r % 9223372036854775808 < 4503599627370496
  · rw [if_pos h1]; exact fun h => nomatch h
  · rw [if_neg h1]
    by_cases h2 : r % 9223372036854775808 < 9218868437227405312
    · rw [if_pos h2]; exact fun h => nomatch h
    · rw [if_neg h2, if_pos (by omega)]; exact fun h => nomatch h
theorem order_same {r : Nat} (h : ¬ 9218868437227405312 < r % 9223372036854775808) : D.order r r = some .eq := by
  have hn := not_nan h
  unfold Ieee.Format.order
  generalize D.read r = d at *
  cases d with
  | number s m e => simp [Ieee.Datum.order]
  | infinity s => simp [Ieee.Datum.order]
  | nan s t => exact absurd rfl (hn s t)
theorem ne_self (b : Nat) : (FloatKind.f64.format.order b b != some .eq) = decide (9218868437227405312 < b % 9223372036854775808) := by
  show (D.order b b != some .eq) = _
  by_cases h : 9218868437227405312 < b % 9223372036854775808
  · rw [order_nan_left b h, decide_eq_true h]; rfl
  · rw [order_same h, decide_eq_false h]; rfl
theorem gt_max (r : Nat) (hr : r < 9223372036854775808) : (FloatKind.f64.format.order r 9218868437227405311 == some .gt) = decide (r = 9218868437227405312) := by
  show (D.order r 9218868437227405311 == some .gt) = _
  by_cases h : 9218868437227405312 < r
  · rw [order_nan_left _ (by omega : 9218868437227405312 < r % 9223372036854775808), decide_eq_false (by omega)]; rfl
  · rw [order_pos (by omega) (by omega)]
    by_cases h2 : r = 9218868437227405312
    · subst h2; rfl
    · rw [decide_eq_false h2]
      have : compare r 9218868437227405311 ≠ .gt := by rw [Ne, Nat.compare_eq_gt]; omega
      rw [beq_eq_false_iff_ne]; intro h'; injection h' with h'; exact this h'
/-- Below 0: -0 is not. -/
theorem lt_zero (b : Nat) (hb : b < 18446744073709551616) : (FloatKind.f64.format.order b 0 == some .lt) = decide (9223372036854775808 < b ∧ b ≤ 18442240474082181120) := by
  show (D.order b 0 == some .lt) = _
  by_cases h : 9218868437227405312 < b % 9223372036854775808
  · rw [order_nan_left _ h, decide_eq_false (by omega)]; rfl
  · by_cases h1 : b ≤ 9218868437227405312
    · rw [order_pos h1 (by omega), decide_eq_false (by omega)]
      have : compare b 0 ≠ .lt := by rw [Ne, Nat.compare_eq_lt]; omega
      rw [beq_eq_false_iff_ne]; intro h'; injection h' with h'; exact this h'
    · by_cases h2 : b = 9223372036854775808
      · subst h2; rw [order_nzero (by omega)]; rfl
      · obtain ⟨r, rfl⟩ : ∃ r, b = 9223372036854775808 + r := ⟨b - 9223372036854775808, by omega⟩
        rw [order_neg (by omega) (by omega) (by omega), decide_eq_true (by omega)]; rfl
theorem ge_zero (b : Nat) (hb : b < 18446744073709551616) : (FloatKind.f64.format.order b 0 == some .gt || FloatKind.f64.format.order b 0 == some .eq) = decide (b ≤ 9218868437227405312 ∨ b = 9223372036854775808) := by
  show (D.order b 0 == some .gt || D.order b 0 == some .eq) = _
  by_cases h : 9218868437227405312 < b % 9223372036854775808
  · rw [order_nan_left _ h, decide_eq_false (by omega)]; rfl
  · by_cases h1 : b ≤ 9218868437227405312
    · rw [order_pos h1 (by omega), decide_eq_true (Or.inl h1)]
      by_cases h0 : b = 0
      · subst h0; rfl
      · have : compare b 0 = .gt := by rw [Nat.compare_eq_gt]; omega
        rw [this]; rfl
    · by_cases h2 : b = 9223372036854775808
      · subst h2; rw [order_nzero (by omega)]; rfl
      · obtain ⟨r, rfl⟩ : ∃ r, b = 9223372036854775808 + r := ⟨b - 9223372036854775808, by omega⟩
        rw [order_neg (by omega) (by omega) (by omega), decide_eq_false (by omega)]; rfl

theorem and_not (b : Nat) (hb : b < 18446744073709551616) : bits .andNot .u64 (b : Int) 9223372036854775808 = ((b % 9223372036854775808 : Nat) : Int) := by
  have h := u64_andNot_nat b 9223372036854775808 hb (by omega)
  rw [show (((9223372036854775808 : Nat)) : Int) = 9223372036854775808 from rfl] at h
  rw [h, show 18446744073709551615 - 9223372036854775808 = 2 ^ 63 - 1 from rfl, Nat.and_two_pow_sub_one_eq_mod]

theorem isNaN_any (b : Nat) (w : World) : Calls Try.prog 36 #[.float .f64 b] w fun e w' => e = .returned (.bool (decide (9218868437227405312 < b % 9223372036854775808))) ∧ w = w' := by
  go_enter Try.func36, Try.ntmps36
  go_wp2
  go_ret
  exact ⟨ret_bool (ne_self b), rfl⟩

theorem isInf_any (b : Nat) (w : World) (hb : b < 18446744073709551616) : Calls Try.prog 37 #[.float .f64 b, .int .i64 0] w fun e w' => e = .returned (.bool (decide (b % 9223372036854775808 = 9218868437227405312))) ∧ w = w' := by
  go_enter Try.func37, Try.ntmps37
  go_wp2
  go_ret
  refine ⟨ret_bool ?_, rfl⟩
  rw [and_not b hb, Int.toNat_natCast]
  exact gt_max _ (Nat.mod_lt _ (by omega))

/-- A number, not endless, not below 0. -/
def goodF (b : Nat) : Bool := decide (b < 9218868437227405312 ∨ b = 9223372036854775808)

theorem good_f (b : Nat) (w : World) (hb : b < 18446744073709551616) : Calls Try.prog 11 #[.float .f64 b] w fun e w' => e = .returned (.bool (goodF b)) ∧ w = w' := by
  have hl := lt_zero b hb
  by_cases h1 : 9218868437227405312 < b % 9223372036854775808
  · have H : Hid (goodF b = false) := decide_eq_false (by omega)
    have hn := decide_eq_true h1
    clear hl h1
    go_enter Try.func11, Try.ntmps11
    go_wp2_with (go_at_call 36; refine (isNaN_any _ _).mono ?_; rintro e w' ⟨rfl, rfl⟩)
    go_ret
    exact ⟨ret_bool H.out.symm, rfl⟩
  · have hn := decide_eq_false h1
    by_cases h2 : b % 9223372036854775808 = 9218868437227405312
    · have H : Hid (goodF b = false) := decide_eq_false (by omega)
      have hi := decide_eq_true h2
      clear hl h1 h2
      go_enter Try.func11, Try.ntmps11
      go_wp2_with first | (go_at_call 36; refine (isNaN_any _ _).mono ?_; rintro e w' ⟨rfl, rfl⟩) | (go_at_call 37; refine (isInf_any _ _ hb).mono ?_; rintro e w' ⟨rfl, rfl⟩)
      go_ret
      exact ⟨ret_bool H.out.symm, rfl⟩
    · have hi := decide_eq_false h2
      by_cases h3 : 9223372036854775808 < b ∧ b ≤ 18442240474082181120
      · have H : Hid (goodF b = false) := decide_eq_false (by omega)
        rw [decide_eq_true h3] at hl
        clear h1 h2 h3
        go_enter Try.func11, Try.ntmps11
        go_wp2_with first | (go_at_call 36; refine (isNaN_any _ _).mono ?_; rintro e w' ⟨rfl, rfl⟩) | (go_at_call 37; refine (isInf_any _ _ hb).mono ?_; rintro e w' ⟨rfl, rfl⟩)
        go_ret
        exact ⟨ret_bool H.out.symm, rfl⟩
      · have H : Hid (goodF b = true) := decide_eq_true (by omega)
        rw [decide_eq_false h3] at hl
        clear h1 h2 h3
        go_enter Try.func11, Try.ntmps11
        go_wp2_with first | (go_at_call 36; refine (isNaN_any _ _).mono ?_; rintro e w' ⟨rfl, rfl⟩) | (go_at_call 37; refine (isInf_any _ _ hb).mono ?_; rintro e w' ⟨rfl, rfl⟩)
        go_ret
        exact ⟨ret_bool H.out.symm, rfl⟩

theorem good_ref (b : Nat) (w : World) (hb : b < 18446744073709551616) : Calls Try.prog 12 #[.float .f64 b] w fun e w' => e = .returned (.bool (goodF b)) ∧ w = w' := by
  have hg := ge_zero b hb
  by_cases h1 : b ≤ 9218868437227405312 ∨ b = 9223372036854775808
  · rw [decide_eq_true h1] at hg
    by_cases h2 : b % 9223372036854775808 = 9218868437227405312
    · have H : Hid (goodF b = false) := decide_eq_false (by omega)
      have hi := decide_eq_true h2
      clear h1 h2
      go_enter Try.func12, Try.ntmps12
      go_wp2_with (go_at_call 37; refine (isInf_any _ _ hb).mono ?_; rintro e w' ⟨rfl, rfl⟩)
      go_ret
      exact ⟨ret_bool H.out.symm, rfl⟩
    · have H : Hid (goodF b = true) := decide_eq_true (by omega)
      have hi := decide_eq_false h2
      clear h1 h2
      go_enter Try.func12, Try.ntmps12
      go_wp2_with (go_at_call 37; refine (isInf_any _ _ hb).mono ?_; rintro e w' ⟨rfl, rfl⟩)
      go_ret
      exact ⟨ret_bool H.out.symm, rfl⟩
  · rw [decide_eq_false h1] at hg
    have H : Hid (goodF b = false) := decide_eq_false (by omega)
    clear h1
    go_enter Try.func12, Try.ntmps12
    go_wp2_with fail
    go_ret
    exact ⟨ret_bool H.out.symm, rfl⟩
end Go.Proofs.Ytiaiahdejihlbaa.Fl
