/- Floor, RoundToEven, FMA, float64(n), int64(f) by rungs; the words that the code names; what the rounded product and its rest come to. Of no one law. -/
import Derived.Test.YtiaiahdejihlbaaFloNear
namespace Go.Proofs.Ytiaiahdejihlbaa.Flo
open Ieee

/-- The word of a whole number, or endless. -/
def wholeW (n : Nat) : Nat := min (rung (n * 2 ^ U)) 9218868437227405312

theorem wholeW_le (n : Nat) : wholeW n ≤ 9218868437227405312 := Nat.min_le_right ..
theorem wholeW_mono {n m : Nat} (h : n ≤ m) : wholeW n ≤ wholeW m := by
  have := rung_mono (Nat.mul_le_mul_right (2 ^ U) h)
  unfold wholeW; omega

/-- A rung that is known by its two parts. -/
theorem rung_at (e m : Nat) (hm : m < 9007199254740992) (h : e = 0 ∨ 4503599627370496 ≤ m) : rung (m * 2 ^ e) = e * 4503599627370496 + m := by
  rw [← val_of hm h, rung_val]

theorem whole_most : rung (9007199254740992 * 2 ^ U) = 4845873199050653696 := by
  have : 9007199254740992 * 2 ^ U = 4503599627370496 * 2 ^ (1 + U) := by rw [Nat.pow_add, ← Nat.mul_assoc]
  rw [this, rung_at (1 + U) 4503599627370496 (by omega) (Or.inr (by omega)), U_eq]
theorem rung_whole_lt {n : Nat} (h : n ≤ 9007199254740992) : rung (n * 2 ^ U) ≤ 4845873199050653696 := by
  rw [← whole_most]; exact rung_mono (Nat.mul_le_mul_right _ h)
theorem wholeW_eq {n : Nat} (h : n ≤ 9007199254740992) : wholeW n = rung (n * 2 ^ U) := by
  have := rung_whole_lt h
  unfold wholeW; omega
theorem wholeW_lt {n : Nat} (h : n ≤ 9007199254740992) : wholeW n < 9218868437227405312 := by
  have := rung_whole_lt h
  rw [wholeW_eq h]; omega
theorem val_wholeW {n : Nat} (h : n < 9007199254740992) : val (wholeW n) = n * 2 ^ U := by
  rw [wholeW_eq (by omega), val_rung _ h]
theorem wholeW_top : wholeW 10000000000000 = 4801453603149578240 := by
  rw [wholeW_eq (by omega)]
  obtain ⟨k, hk⟩ : ∃ k, U = 9 + k := ⟨1065, by rw [U_eq]⟩
  have : 10000000000000 * 2 ^ U = 5120000000000000 * 2 ^ k := by rw [hk, Nat.pow_add, ← Nat.mul_assoc]
  rw [this, rung_at k 5120000000000000 (by omega) (Or.inr (by omega))]
  rw [U_eq] at hk
  omega
theorem rung_half : rung (2 ^ T) = 4602678819172646912 := by
  obtain ⟨k, hk⟩ : ∃ k, T = 52 + k := ⟨1021, by unfold T; rfl⟩
  have : 2 ^ T = 4503599627370496 * 2 ^ k := by rw [hk, Nat.pow_add]
  rw [this, rung_at k 4503599627370496 (by omega) (Or.inr (by omega))]
  have := U_T
  rw [U_eq] at this
  omega
theorem val_half : val 4602678819172646912 = 2 ^ T := by
  rw [← rung_half]
  have := val_rung (m := 1) T (by omega)
  rwa [Nat.one_mul] at this
theorem wholeW_one : wholeW 1 = 4607182418800017408 := by
  rw [wholeW_eq (by omega), Nat.one_mul]
  obtain ⟨k, hk⟩ : ∃ k, U = 52 + k := ⟨1022, by rw [U_eq]⟩
  have : 2 ^ U = 4503599627370496 * 2 ^ k := by rw [hk, Nat.pow_add]
  rw [this, rung_at k 4503599627370496 (by omega) (Or.inr (by omega))]
  rw [U_eq] at hk
  omega
theorem above_top {n : Nat} (h : 10000000000000 < n) : 4801453603149578240 < wholeW n := by
  have h1 : wholeW 10000000000001 ≤ wholeW n := wholeW_mono h
  have h2 : wholeW 10000000000000 < wholeW 10000000000001 := by
    rw [← val_lt_iff, val_wholeW (by omega), val_wholeW (by omega)]
    exact Nat.mul_lt_mul_of_pos_right (by omega) (two_pos _)
  rw [wholeW_top] at h2
  omega
theorem not_above {n : Nat} (h : n ≤ 10000000000000) : wholeW n ≤ 4801453603149578240 := by
  rw [← wholeW_top]; exact wholeW_mono h

/-! float64(n), for n from 0. -/
theorem nearest_nat (n : Nat) : D.nearest false n 0 = wholeW n := by
  rw [nearest_units false n 0 (n * 2 ^ U) 1074 (by omega) (by omega), word_pos]
  · rfl
  · rw [show (0 + ((1074 : Nat) : Int)).toNat = U by rw [U_eq]; rfl, Nat.sub_self, Nat.pow_zero, Nat.mul_one]
theorem floatOfInt_nat (n : Nat) : floatOfInt .f64 (n : Int) = wholeW n := by
  unfold floatOfInt FloatKind.nearest FloatKind.encode
  show D.nearest (decide ((n : Int) < 0)) ((n : Int).natAbs) 0 = _
  rw [decide_eq_false (by omega), show ((n : Int).natAbs) = n by omega, nearest_nat]

/-! Floor and RoundToEven. -/
theorem up_toNat (e : Nat) : (-1074 + (e : Int)).toNat = e - U := by rw [U_eq]; omega
theorem down_toNat (e : Nat) : (-(-1074 + (e : Int))).toNat = U - e := by rw [U_eq]; omega
theorem write_number (n : Nat) : D.write (.number false n 0) = wholeW n := nearest_nat n
theorem floor_word {r : Nat} (h : r < 9218868437227405312) : D.write ((D.read r).integral .down) = wholeW (val r / 2 ^ U) := by
  rw [read_pos h]
  simp only [Datum.integral, cut_down, Nat.shiftLeft_eq, up_toNat, down_toNat]
  rw [(cut_units r U).1, write_number]
theorem even_word {r : Nat} (h : r < 9218868437227405312) : D.write ((D.read r).integral .even) = wholeW (rne (val r) U) := by
  rw [read_pos h]
  simp only [Datum.integral, cut_even, Nat.shiftLeft_eq, up_toNat, down_toNat]
  rw [(cut_units r U).2, write_number]

theorem cut_zero_gen (n drop : Nat) : Toward.zero.cut false n drop = n / 2 ^ drop := by
  rw [← cut_down]
  unfold Toward.cut
  simp
theorem toInt_word {n : Nat} (h : n < 9007199254740992) : (D.read (wholeW n)).toInt .zero = some (n : Int) := by
  rw [read_pos (wholeW_lt (by omega))]
  simp only [Datum.toInt, Datum.integral, cut_zero_gen, Nat.shiftLeft_eq, up_toNat, down_toNat]
  rw [(cut_units (wholeW n) U).1, val_wholeW h, Nat.mul_div_cancel _ (two_pos U), signed_pos]
  simp

/-! The rest of a product. -/
theorem rung_pos {v : Nat} (h : 0 < v) : 0 < rung v := by
  have := rung_mono (v := 1) (w := v) h
  rw [rung_small (by omega)] at this
  omega

theorem fma_rest {r s q k : Nat} (hr : r < 9218868437227405312) (hs : s < 9218868437227405312) (hq : q < 9218868437227405312) (hk : val s = k * 2 ^ U) :
    (val r * k < val q → ∃ y, 0 < y ∧ y ≤ 9218868437227405312 ∧ D.fma r s (9223372036854775808 + q) = some (9223372036854775808 + y)) ∧
    (val q < val r * k → ∃ y, 0 < y ∧ y ≤ 9218868437227405312 ∧ D.fma r s (9223372036854775808 + q) = some y) ∧
    (val r * k = val q → D.fma r s (9223372036854775808 + q) = some 0) := by
  unfold Format.fma
  rw [read_pos hr, read_pos hs, read_neg hq]
  simp only [Datum.product, Option.bind_some, Datum.sum, Option.map_some, Bool.false_xor, signed_pos, signed_neg]
  obtain ⟨base, hb⟩ : ∃ base : Nat, min (-1074 + (ex r : Int) + (-1074 + (ex s : Int))) (-1074 + (ex q : Int)) = -2148 + (base : Int) := by
    refine ⟨min (ex r + ex s) (ex q + 1074), ?_⟩
    omega
  rw [hb]
  have b1 : base ≤ ex r + ex s := by omega
  have b2 : base ≤ ex q + U := by rw [U_eq]; omega
  have e1 : (-1074 + (ex r : Int) + (-1074 + (ex s : Int)) - (-2148 + (base : Int))).toNat = ex r + ex s - base := by omega
  have e2 : (-1074 + (ex q : Int) - (-2148 + (base : Int))).toNat = ex q + U - base := by rw [U_eq]; omega
  rw [e1, e2]
  have u1 : sig r * sig s * 2 ^ (ex r + ex s - base) * 2 ^ base = val r * k * 2 ^ U := by
    rw [Nat.mul_assoc (sig r * sig s), ← Nat.pow_add, Nat.sub_add_cancel b1, Nat.mul_assoc (val r), ← hk]
    unfold val
    rw [Nat.pow_add]
    generalize 2 ^ ex r = a
    generalize 2 ^ ex s = b
    simp only [Nat.mul_assoc, Nat.mul_left_comm, Nat.mul_comm]
  have u2 : sig q * 2 ^ (ex q + U - base) * 2 ^ base = val q * 2 ^ U := by
    rw [Nat.mul_assoc (sig q), ← Nat.pow_add, Nat.sub_add_cancel b2, Nat.pow_add]
    unfold val
    rw [Nat.mul_assoc]
  have hb0 : (-2148 + (base : Int) + ((2148 : Nat) : Int)).toNat = base := by omega
  have pb := two_pos base
  have pu := two_pos U
  generalize sig r * sig s * 2 ^ (ex r + ex s - base) = a at *
  generalize sig q * 2 ^ (ex q + U - base) = b at *
  generalize val r * k = p at *
  generalize val q = w at *
  have lt1 : p < w → a < b := fun h => by
    have := Nat.mul_lt_mul_of_pos_right h pu
    rw [← u1, ← u2] at this
    exact Nat.lt_of_mul_lt_mul_right this
  have lt2 : w < p → b < a := fun h => by
    have := Nat.mul_lt_mul_of_pos_right h pu
    rw [← u1, ← u2] at this
    exact Nat.lt_of_mul_lt_mul_right this
  have eq1 : p = w → a = b := fun h => by
    subst h
    rw [← u2] at u1
    exact Nat.eq_of_mul_eq_mul_right pb u1
  refine ⟨fun h => ?_, fun h => ?_, fun h => ?_⟩
  · have hab := lt1 h
    have hpos : 0 < w - p := Nat.sub_pos_of_lt h
    refine ⟨min (rung (w - p)) 9218868437227405312, Nat.lt_min.2 ⟨rung_pos hpos, by decide⟩, Nat.min_le_right .., ?_⟩
    clear lt1 lt2 eq1 hpos
    rw [if_neg (by omega), show ((a : Int) + -(b : Int)).natAbs = b - a by omega, decide_eq_true (by omega : (a : Int) + -(b : Int) < 0)]
    simp only [Format.write]
    rw [nearest_units true _ _ (w - p) 2148 (by omega) (by omega), word_neg]
    rw [hb0, show 2148 - 1074 = U by rw [U_eq], Nat.sub_mul, Nat.sub_mul, u1, u2]
  · have hab := lt2 h
    have hpos : 0 < p - w := Nat.sub_pos_of_lt h
    refine ⟨min (rung (p - w)) 9218868437227405312, Nat.lt_min.2 ⟨rung_pos hpos, by decide⟩, Nat.min_le_right .., ?_⟩
    clear lt1 lt2 eq1 hpos
    rw [if_neg (by omega), show ((a : Int) + -(b : Int)).natAbs = a - b by omega, decide_eq_false (by omega : ¬ (a : Int) + -(b : Int) < 0)]
    simp only [Format.write]
    rw [nearest_units false _ _ (p - w) 2148 (by omega) (by omega), word_pos]
    rw [hb0, show 2148 - 1074 = U by rw [U_eq], Nat.sub_mul, Nat.sub_mul, u1, u2]
  · have hab := eq1 h
    subst hab
    rw [if_pos (by omega), show ((a : Int) + -(a : Int)).natAbs = 0 by omega]
    simp only [Format.write, Format.nearest, if_true]
    rfl

/-! What the product is held against: below, p is the rounded product's rung. -/
theorem low_le {p : Nat} (h : p < 9218868437227405312) : wholeW (val p / 2 ^ U) ≤ p ∧ val (wholeW (val p / 2 ^ U)) = val p / 2 ^ U * 2 ^ U := by
  have hm : rung (val p / 2 ^ U * 2 ^ U) ≤ p := by
    have := rung_mono (Nat.div_mul_le_self (val p) (2 ^ U))
    rwa [rung_val] at this
  have e : wholeW (val p / 2 ^ U) = rung (val p / 2 ^ U * 2 ^ U) := by unfold wholeW; omega
  rw [e]
  exact ⟨hm, floor_exact p U⟩

/-- 'product - low == 0.5'. -/
theorem rest_sub {p : Nat} (h : p < 9218868437227405312) : ∃ x, D.sub p (wholeW (val p / 2 ^ U)) = some x ∧ (D.order x 4602678819172646912 == some .eq) = decide (val p % 2 ^ U = 2 ^ T) := by
  obtain ⟨h1, h2⟩ := low_le h
  have hd := Nat.div_add_mod (val p) (2 ^ U)
  have hr : val p - val (wholeW (val p / 2 ^ U)) = val p % 2 ^ U := by rw [h2, Nat.mul_comm]; omega
  have hx : rung (val p % 2 ^ U) ≤ 9218868437227405312 := by
    have := rung_mono (Nat.le_of_lt (Nat.mod_lt (val p) (two_pos U)))
    have h1 := rung_whole_lt (n := 1) (by omega)
    rw [Nat.one_mul] at h1
    omega
  refine ⟨rung (val p % 2 ^ U), ?_, ?_⟩
  · rw [sub_pos h h1, hr, Nat.min_eq_left hx]
  · rw [order_pos hx (by omega)]
    have he := rest_exact p U
    by_cases hh : val p % 2 ^ U = 2 ^ T
    · rw [decide_eq_true hh, hh, rung_half]
      simp
    · rw [decide_eq_false hh]
      have : rung (val p % 2 ^ U) ≠ 4602678819172646912 := fun h' => hh (by rw [h', val_half] at he; exact he.symm)
      rw [beq_eq_false_iff_ne]
      intro h'
      injection h' with h'
      exact this (Nat.compare_eq_eq.1 h')

/-- 'low + 1'. -/
theorem low_one {p : Nat} (h : p < 9218868437227405312) : D.add (wholeW (val p / 2 ^ U)) 4607182418800017408 = some (wholeW (val p / 2 ^ U + 1)) := by
  obtain ⟨h1, h2⟩ := low_le h
  rw [add_pos (by omega) (by omega), h2, ← wholeW_one, val_wholeW (by omega), Nat.one_mul, ← Nat.succ_mul]
  rfl

/-- What nearest answers: of the product v, in units. -/
def nearW (v : Nat) : Nat := if rung v < 9218868437227405312 then wholeW (side T v (val (rung v))) else 9218868437227405312

theorem nearW_le (v : Nat) : nearW v ≤ 9218868437227405312 := by
  unfold nearW; split
  · exact wholeW_le _
  · omega

theorem nearW_spec (v : Nat) : (rne v U ≤ 10000000000000 ∧ nearW v = wholeW (rne v U)) ∨ (10000000000000 < rne v U ∧ 4801453603149578240 < nearW v) := by
  unfold nearW
  by_cases h : rung v < 9218868437227405312
  · rw [if_pos h]
    have hs := side_spec T v
    rw [← U_T] at hs
    rcases hs with e | ⟨h1, h2⟩
    · rw [e]
      by_cases hn : rne v U ≤ 10000000000000
      · exact Or.inl ⟨hn, rfl⟩
      · exact Or.inr ⟨by omega, above_top (by omega)⟩
    · exact Or.inr ⟨h2, above_top h1⟩
  · rw [if_neg h]
    refine Or.inr ⟨?_, by omega⟩
    have hv : 10000000000001 * 2 ^ U < v := by
      refine Nat.lt_of_not_le fun hle => ?_
      have := rung_mono hle
      have h1 := rung_whole_lt (n := 10000000000001) (by omega)
      omega
    have := rne_mono U (Nat.le_of_lt hv)
    rw [rne_whole] at this
    omega
end Go.Proofs.Ytiaiahdejihlbaa.Flo
