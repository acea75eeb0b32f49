/- The edges: what is none; halves, and what is next above them. -/
import Derived.Test.YtiaiahdejihlbaaFloBack
namespace Go.Proofs.Ytiaiahdejihlbaa.Fl
open Go.ChangeShapes Go.WideShapes Go.ChangeAt Go.RowKit Bits Money Flo Law

/-- NaN, the two endless ones, -1, and the greatest number below 0. -/
def badF (i : Nat) : Nat := if i = 0 then 9221120237041090561 else if i = 1 then 9218868437227405312 else if i = 2 then 18442240474082181120 else if i = 3 then 13830554455654793216 else 9223372036854775809
theorem bad_none (i : Nat) : goodF (badF i) = false ∧ badF i < 18446744073709551616 := by
  unfold badF goodF
  split
  · decide
  · split
    · decide
    · split
      · decide
      · split <;> decide
theorem bad_tells (i : Nat) : tE (badF i) 100 = 13 ∧ tV (badF i) 100 = 0 := by
  have h := tE_bad (k := 100) (bad_none i).1
  exact ⟨h, tV_no h (by decide)⟩

/-- n and a half. -/
def halfF (n : Nat) : Nat := rung ((2 * n + 1) * 2 ^ T)
theorem pow_U : 2 ^ U = 2 ^ T * 2 := by rw [U_T, Nat.pow_succ]
theorem val_halfF {n : Nat} (h : n < 65536) : val (halfF n) = (2 * n + 1) * 2 ^ T := val_rung T (by omega)
theorem halfF_lt {n : Nat} (h : n < 65536) : halfF n < 4845873199050653696 ∧ 0 < halfF n := by
  have h1 : (2 * n + 1) * 2 ^ T ≤ 65536 * 2 ^ U := by
    rw [pow_U, ← Nat.mul_assoc, Nat.mul_right_comm]
    exact Nat.mul_le_mul_right _ (by omega)
  have h2 := rung_mono h1
  have h3 : rung (65536 * 2 ^ U) < 4845873199050653696 := by
    have hw := wholeW_eq (n := 65536) (by omega)
    have ho := wholeW_eq (n := 9007199254740992) (by omega)
    rw [whole_most] at ho
    rw [← hw, ← ho, ← val_lt_iff, val_wholeW (by omega)]
    have : val (wholeW 9007199254740992) = 9007199254740992 * 2 ^ U := by
      rw [wholeW_eq (by omega), show 9007199254740992 * 2 ^ U = 1 * 2 ^ (53 + U) by rw [Nat.one_mul, Nat.pow_add], val_rung _ (by omega)]
    rw [this]
    exact Nat.mul_lt_mul_of_pos_right (by omega) (two_pos _)
  refine ⟨Nat.lt_of_le_of_lt h2 h3, rung_pos (Nat.mul_pos (by omega) (two_pos _))⟩
theorem half_add {n : Nat} (h : n < 65536) : D.add (floatOfInt .f64 (n : Int)) 4602678819172646912 = some (halfF n) := by
  have hl := (halfF_lt h).1
  rw [floatOfInt_nat, add_pos (wholeW_lt (by omega)) (by omega), val_wholeW (by omega), val_half]
  have e : n * 2 ^ U + 2 ^ T = (2 * n + 1) * 2 ^ T := by rw [pow_U, Nat.add_mul, Nat.one_mul, ← Nat.mul_assoc, Nat.mul_right_comm, Nat.mul_comm n 2]
  rw [e]
  unfold halfF at *
  rw [Nat.min_eq_left (by omega)]
theorem half_taken {n : Nat} (h : n < 65536) : taken (halfF n) 1 = n + n % 2 := by
  have hl := (halfF_lt h).1
  unfold taken
  rw [show halfF n % 9223372036854775808 = halfF n by omega, val_halfF h, Nat.mul_one, U_T, rne_tie]
theorem above_taken {n : Nat} (h : n < 65536) : taken (halfF n + 1) 1 = n + 1 := by
  have hl := (halfF_lt h).1
  unfold taken
  rw [show (halfF n + 1) % 9223372036854775808 = halfF n + 1 by omega, Nat.mul_one]
  have h1 : (2 * n + 1) * 2 ^ T < val (halfF n + 1) := by rw [← val_halfF h]; exact val_lt (by omega)
  have h2 : val (halfF n + 1) ≤ (2 * n + 2) * 2 ^ T := by
    have hv : val (rung ((2 * n + 2) * 2 ^ T)) = (2 * n + 2) * 2 ^ T := val_rung T (by omega)
    rw [← hv]
    refine val_mono ?_
    have : val (halfF n) < val (rung ((2 * n + 2) * 2 ^ T)) := by
      rw [hv, val_halfF h]
      exact Nat.mul_lt_mul_of_pos_right (by omega) (two_pos _)
    exact val_lt_iff.1 this
  have hp := two_pos T
  have e1 : 2 * (n + 1) * 2 ^ U = 2 * ((2 * n + 1) * 2 ^ T) + 2 * 2 ^ T := by
    rw [pow_U, Nat.add_mul (2 * n), Nat.one_mul, ← Nat.mul_assoc, Nat.mul_comm _ 2, ← Nat.mul_assoc]
    rw [show 2 * (2 * (n + 1)) = 2 * (2 * n) + 4 by omega, Nat.add_mul, Nat.mul_add, Nat.mul_assoc 2 (2 * n)]
    omega
  have e2 : (2 * (n + 1) + 1) * 2 ^ U = 2 * ((2 * n + 2) * 2 ^ T) + 2 * 2 ^ T := by
    rw [Nat.add_mul, e1, pow_U, Nat.one_mul, Nat.add_mul (2 * n), Nat.add_mul (2 * n), Nat.one_mul]
    omega
  refine rne_near ?_ ?_
  · rw [e1, pow_U]; omega
  · rw [e2]; omega
theorem tiny_taken : taken 1 1000000 = 0 := by
  unfold taken
  rw [show 1 % 9223372036854775808 = 1 from rfl, show val 1 = 1 by unfold val sig ex; rfl]
  have := big_unit
  exact rne_small (by omega)
theorem most_taken : 10000000000000 < taken 9218868437227405311 1 := by
  have h := taken_far 9218868437227405311 1 (by rw [U_eq]; decide) (by omega)
  have : sig (9218868437227405311 % 9223372036854775808) = 9007199254740991 := by decide
  rw [this] at h
  omega

/-- The next one above. -/
theorem next_any (x : Nat) (w : World) (h0 : 0 < x) (h1 : x < 9218868437227405312) : Calls Try.prog 30 #[.float .f64 x, .float .f64 9218868437227405312] w fun e w' => e = .returned (.float .f64 (x + 1)) ∧ w = w' := by
  have a1 : (FloatKind.f64.format.order x 9218868437227405312 == some .eq) = false := by
    rw [ord_eq, order_pos (by omega) (by omega), beq_eq_false_iff_ne]
    intro h; injection h with h
    rw [Nat.compare_eq_eq] at h; omega
  have a2 : (FloatKind.f64.format.order x 0 == some .eq) = false := by
    rw [ord_eq, order_pos (by omega) (by omega), beq_eq_false_iff_ne]
    intro h; injection h with h
    rw [Nat.compare_eq_eq] at h; omega
  have a3 : (FloatKind.f64.format.order 9218868437227405312 x == some .gt) = true := by
    rw [ord_eq, order_pos (by omega) (by omega), Nat.compare_eq_gt.2 h1]; rfl
  have a4 : (FloatKind.f64.format.order x 0 == some .gt) = true := by
    rw [ord_eq, order_pos (by omega) (by omega), Nat.compare_eq_gt.2 h0]; rfl
  have n1 : decide (9218868437227405312 < x % 9223372036854775808) = false := decide_eq_false (by omega)
  have n2 : decide (9218868437227405312 < 9218868437227405312 % 9223372036854775808) = false := by decide
  have W : IntKind.u64.wrap ((x : Int) + 1) = ((x + 1 : Nat) : Int) := by rw [IntKind.wrap_u64]; omega
  go_enter Try.func30, Try.ntmps30
  go_wp2_with fail
  refine (isNaN_any _ _).mono ?_
  rw [n1]
  rintro e w' ⟨rfl, rfl⟩
  go_wp2_with fail
  refine (isNaN_any _ _).mono ?_
  rw [n2]
  rintro e w' ⟨rfl, rfl⟩
  clear n1 n2
  go_wp2_with fail
  go_ret
  refine ⟨ret_float ?_, rfl⟩
  omega
end Go.Proofs.Ytiaiahdejihlbaa.Fl
