/- What IEEE's operations give at float64s that are not below 0, by their rungs. Of no one law. -/
import Derived.Test.YtiaiahdejihlbaaFlo
namespace Go.Proofs.Ytiaiahdejihlbaa.Flo
open Ieee

abbrev D : Format := Ieee.double
/-- The places behind the point, named so that nothing reckons with the powers themselves. -/
@[irreducible] def T : Nat := 1073
@[irreducible] def U : Nat := 1074
theorem U_eq : U = 1074 := by unfold U; rfl
theorem U_T : U = T + 1 := by unfold U T; rfl

theorem D_infRung : D.infRung = 9218868437227405312 := by decide
theorem D_binade : D.binade = 4503599627370496 := by decide
theorem D_sign : D.signWeight = 9223372036854775808 := by decide
theorem D_least : D.leastPlace = -1074 := by decide
theorem D_frac : D.fractionBits = 52 := rfl

theorem cut_even (neg : Bool) (n drop : Nat) : Toward.even.cut neg n drop = rne n drop := by
  unfold Toward.cut
  simp only [Nat.shiftLeft_eq, Nat.one_mul]
  by_cases h : drop ≤ n.log2 + 2
  · rw [Nat.min_eq_left h]
    unfold rne
    by_cases a : 2 ^ drop < 2 * (n % 2 ^ drop)
    · simp [a]
    · by_cases b : 2 ^ drop = 2 * (n % 2 ^ drop)
      · by_cases c : n / 2 ^ drop % 2 = 1
        · simp [b.symm, c]
        · simp [b.symm, c]
      · simp [a, b]
  · rw [Nat.min_eq_right (by omega)]
    have h1 : n < 2 ^ (n.log2 + 1) := Nat.lt_log2_self
    have h2 : (2:Nat) ^ (n.log2 + 2) = 2 * 2 ^ (n.log2 + 1) := by rw [Nat.pow_succ]; omega
    have h3 : (2:Nat) ^ (n.log2 + 2) ≤ 2 ^ drop := Nat.pow_le_pow_right (by omega) (by omega)
    unfold rne
    rw [Nat.div_eq_of_lt (by omega), Nat.mod_eq_of_lt (by omega), Nat.div_eq_of_lt (by omega : n < 2 ^ drop), Nat.mod_eq_of_lt (by omega : n < 2 ^ drop)]
    have e1 : ¬ 2 ^ (n.log2 + 2) < 2 * n := by omega
    have e2 : ¬ 2 ^ drop < 2 * n := by omega
    simp [e1, e2]

theorem cut_down (n drop : Nat) : Toward.down.cut false n drop = n / 2 ^ drop := by
  unfold Toward.cut
  simp only [Nat.shiftLeft_eq, Nat.one_mul, Bool.false_and, Bool.toNat_false, Nat.add_zero]
  by_cases h : drop ≤ n.log2 + 2
  · rw [Nat.min_eq_left h]
  · rw [Nat.min_eq_right (by omega)]
    have h1 : n < 2 ^ (n.log2 + 1) := Nat.lt_log2_self
    have h2 : (2:Nat) ^ (n.log2 + 2) = 2 * 2 ^ (n.log2 + 1) := by rw [Nat.pow_succ]; omega
    have h3 : (2:Nat) ^ (n.log2 + 2) ≤ 2 ^ drop := Nat.pow_le_pow_right (by omega) (by omega)
    rw [Nat.div_eq_of_lt (by omega), Nat.div_eq_of_lt (by omega)]

theorem cut_zero (neg : Bool) (n : Nat) : Toward.zero.cut neg n 0 = n := by
  unfold Toward.cut
  simp

/-- The word nearest to a number told in units of 2 to the -g. -/
theorem nearest_units (neg : Bool) (mag : Nat) (place : Int) (v g : Nat) (hp : 0 ≤ place + g) (hg : 1074 ≤ g) (hv : mag * 2 ^ (place + g).toNat = v * 2 ^ (g - 1074)) :
    D.nearest neg mag place = D.word neg (min (rung v) 9218868437227405312) := by
  have p1 := two_pos (place + g).toNat
  have p2 := two_pos (g - 1074)
  by_cases hm : mag = 0
  · subst hm
    have : v = 0 := by
      rw [Nat.zero_mul] at hv
      rcases Nat.mul_eq_zero.1 hv.symm with h | h
      · exact h
      · omega
    subst this
    rw [rung_small (by omega)]
    simp [Format.nearest]
  · have hv0 : v ≠ 0 := by
      intro h; subst h
      rw [Nat.zero_mul] at hv
      rcases Nat.mul_eq_zero.1 hv with h | h <;> omega
    have hl := congrArg Nat.log2 hv
    rw [log2_mul_pow _ hm, log2_mul_pow _ hv0] at hl
    have hlast : max (place + mag.log2 - 52) (-1074 : Int) = (deep v : Int) - 1074 := by
      unfold deep; omega
    unfold Format.nearest
    rw [if_neg hm]
    dsimp only
    rw [D_frac, D_least, D_infRung, D_binade, show ((52 : Nat) : Int) = 52 from rfl, hlast, cut_even, Nat.shiftLeft_eq]
    have hk : rne (mag * 2 ^ (place - ((deep v : Int) - 1074)).toNat) ((deep v : Int) - 1074 - place).toNat = rne v (deep v) := by
      rw [← rne_shift (mag * 2 ^ (place - ((deep v : Int) - 1074)).toNat) _ (place + g).toNat, ← rne_shift v (deep v) (g - 1074 + (place - ((deep v : Int) - 1074)).toNat)]
      congr 1
      · rw [Nat.mul_assoc, Nat.mul_comm (2 ^ (place - ((deep v : Int) - 1074)).toNat), ← Nat.mul_assoc, hv, Nat.mul_assoc, ← Nat.pow_add]
      · omega
    rw [hk, show ((deep v : Int) - 1074 - -1074).toNat = deep v by omega]
    unfold rung
    rfl

/-- What a finite word stands for. -/
theorem read_pos {r : Nat} (h : r < 9218868437227405312) : D.read r = .number false (sig r) (-1074 + (ex r : Int)) := by
  unfold Format.read
  rw [D_sign, D_binade, D_infRung, D_least]
  have h1 : r / 9223372036854775808 = 0 := by omega
  have h2 : r % 9223372036854775808 = r := by omega
  rw [h1, h2]
  unfold sig ex
  have e0 : ((0 % 2 == 1) : Bool) = false := by decide
  by_cases hs : r < 4503599627370496
  · rw [if_pos hs, if_pos hs, show r / 4503599627370496 = 0 by omega, e0]
    simp only [Nat.zero_sub, Int.ofNat_zero, Int.add_zero]
  · rw [if_neg hs, if_neg hs, if_pos h, e0]
theorem read_neg {r : Nat} (h : r < 9218868437227405312) : D.read (9223372036854775808 + r) = .number true (sig r) (-1074 + (ex r : Int)) := by
  unfold Format.read
  rw [D_sign, D_binade, D_infRung, D_least]
  have h1 : (9223372036854775808 + r) / 9223372036854775808 = 1 := by omega
  have h2 : (9223372036854775808 + r) % 9223372036854775808 = r := by omega
  rw [h1, h2]
  unfold sig ex
  have e0 : ((1 % 2 == 1) : Bool) = true := by decide
  by_cases hs : r < 4503599627370496
  · rw [if_pos hs, if_pos hs, show r / 4503599627370496 = 0 by omega, e0]
    simp only [Nat.zero_sub, Int.ofNat_zero, Int.add_zero]
  · rw [if_neg hs, if_neg hs, if_pos h, e0]
theorem read_inf : D.read 9218868437227405312 = .infinity false := by decide
theorem read_ninf : D.read 18442240474082181120 = .infinity true := by decide
theorem read_nan {r : Nat} (h : 9218868437227405312 < r % 9223372036854775808) : ∃ s t, D.read r = .nan s t := by
  unfold Format.read
  rw [D_sign, D_binade, D_infRung, D_least]
  refine ⟨r / 9223372036854775808 % 2 == 1, r % 9223372036854775808 - 9218868437227405312, ?_⟩
  simp only
  rw [if_neg (by omega), if_neg (by omega), if_neg (by omega)]

theorem word_pos (r : Nat) : D.word false r = r := rfl
theorem word_neg (r : Nat) : D.word true r = 9223372036854775808 + r := by
  unfold Format.word; rw [D_sign]; rfl

/-! Order. -/
theorem units_at (r : Nat) (base : Nat) (h : base ≤ ex r) : sig r * 2 ^ (ex r - base) * 2 ^ base = val r := by
  unfold val
  rw [Nat.mul_assoc, ← Nat.pow_add, Nat.sub_add_cancel h]

theorem signed_pos (m u : Nat) : signed false m u = ((m * 2 ^ u : Nat) : Int) := by simp [signed, Nat.shiftLeft_eq]
theorem signed_neg (m u : Nat) : signed true m u = -((m * 2 ^ u : Nat) : Int) := by simp [signed, Nat.shiftLeft_eq]

theorem compare_nat_mul (a b p : Nat) (hp : 0 < p) : compare (a * p) (b * p) = compare a b := by
  have h1 : (a * p < b * p) ↔ a < b := Nat.mul_lt_mul_right hp
  have h2 : (a * p = b * p) ↔ a = b := Nat.mul_right_cancel_iff hp
  simp only [compare, compareOfLessAndEq, h1, h2]
theorem compare_cast (a b : Nat) : compare (a : Int) (b : Int) = compare a b := by
  simp only [compare, compareOfLessAndEq, Int.ofNat_lt, Int.ofNat_inj]
theorem compare_val (r s : Nat) : compare (val r) (val s) = compare r s := by
  have h2 : val r = val s ↔ r = s := ⟨fun h => by have := congrArg rung h; rwa [rung_val, rung_val] at this, fun h => by rw [h]⟩
  simp only [compare, compareOfLessAndEq, val_lt_iff, h2]

theorem base_of (i j : Nat) : min (-1074 + (i : Int)) (-1074 + (j : Int)) = -1074 + ((min i j : Nat) : Int) := by omega
theorem up_of (i k : Nat) : (-1074 + (i : Int) - (-1074 + (k : Int))).toNat = i - k := by omega

theorem order_pos {r s : Nat} (hr : r ≤ 9218868437227405312) (hs : s ≤ 9218868437227405312) : D.order r s = some (compare r s) := by
  unfold Format.order
  by_cases h1 : r = 9218868437227405312
  · subst h1
    by_cases h2 : s = 9218868437227405312
    · subst h2; rw [read_inf]; simp [Datum.order]
    · rw [read_inf, read_pos (by omega)]
      have : compare 9218868437227405312 s = .gt := by rw [Nat.compare_eq_gt]; omega
      rw [this]; rfl
  · by_cases h2 : s = 9218868437227405312
    · subst h2
      rw [read_inf, read_pos (by omega)]
      have : compare r 9218868437227405312 = .lt := by rw [Nat.compare_eq_lt]; omega
      rw [this]; rfl
    · rw [read_pos (by omega), read_pos (by omega)]
      simp only [Datum.order, base_of, up_of, signed_pos, compare_cast]
      rw [← compare_nat_mul _ _ (2 ^ min (ex r) (ex s)) (two_pos _), units_at r _ (Nat.min_le_left ..), units_at s _ (Nat.min_le_right ..), compare_val]

/-- Below 0: lower than what is not. -/
theorem order_neg {r s : Nat} (h0 : 0 < r) (hr : r ≤ 9218868437227405312) (hs : s ≤ 9218868437227405312) : D.order (9223372036854775808 + r) s = some .lt := by
  unfold Format.order
  by_cases h1 : r = 9218868437227405312
  · subst h1
    by_cases h2 : s = 9218868437227405312
    · subst h2; decide
    · rw [show 9223372036854775808 + 9218868437227405312 = 18442240474082181120 from rfl, read_ninf, read_pos (by omega)]; rfl
  · rw [read_neg (by omega)]
    by_cases h2 : s = 9218868437227405312
    · subst h2; rw [read_inf]; rfl
    · rw [read_pos (by omega)]
      simp only [Datum.order, base_of, up_of, signed_pos, signed_neg]
      have hv : 0 < sig r := by unfold sig; split <;> omega
      have : 0 < sig r * 2 ^ (ex r - min (ex r) (ex s)) := Nat.mul_pos hv (two_pos _)
      generalize sig r * 2 ^ (ex r - min (ex r) (ex s)) = a at *
      generalize sig s * 2 ^ (ex s - min (ex r) (ex s)) = b at *
      congr 1
      show compareOfLessAndEq _ _ = _
      unfold compareOfLessAndEq
      rw [if_pos (by omega)]
theorem order_nzero {s : Nat} (hs : s ≤ 9218868437227405312) : D.order 9223372036854775808 s = some (compare 0 s) := by
  rw [← order_pos (by omega) hs]
  unfold Format.order
  have e : D.read 9223372036854775808 = .number true 0 (-1074) := by decide
  have e' : D.read 0 = .number false 0 (-1074) := by decide
  rw [e, e']
  by_cases h2 : s = 9218868437227405312
  · subst h2; rw [read_inf]; rfl
  · rw [read_pos (by omega)]
    simp [Datum.order, signed]
theorem order_nan_left {r : Nat} (s : Nat) (h : 9218868437227405312 < r % 9223372036854775808) : D.order r s = none := by
  obtain ⟨a, b, e⟩ := read_nan h
  unfold Format.order
  rw [e]; rfl

/-! Product, sum, difference. -/
theorem mul_pos {r s : Nat} (hr : r < 9218868437227405312) (hs : s < 9218868437227405312) (k : Nat) (hk : val s = k * 2 ^ U) : D.mul r s = some (min (rung (val r * k)) 9218868437227405312) := by
  unfold Format.mul
  rw [read_pos hr, read_pos hs]
  simp only [Datum.product, Option.map_some, Format.write, Bool.false_xor]
  rw [nearest_units false _ _ (val r * k) 2148 (by omega) (by omega), word_pos]
  have e : (-1074 + (ex r : Int) + (-1074 + (ex s : Int)) + ((2148 : Nat) : Int)).toNat = ex r + ex s := by omega
  rw [e, show 2148 - 1074 = U by rw [U_eq], Nat.mul_assoc (val r), ← hk]
  unfold val
  rw [Nat.pow_add]
  generalize 2 ^ ex r = a
  generalize 2 ^ ex s = b
  simp only [Nat.mul_assoc, Nat.mul_left_comm, Nat.mul_comm]
theorem mul_nzero {s : Nat} (hs : s < 9218868437227405312) : D.mul 9223372036854775808 s = some 9223372036854775808 := by
  unfold Format.mul
  have e : D.read 9223372036854775808 = .number true 0 (-1074) := by decide
  rw [e, read_pos hs]
  simp only [Datum.product, Option.map_some, Format.write, Nat.zero_mul, Format.nearest, if_true]
  rfl

theorem add_pos {r s : Nat} (hr : r < 9218868437227405312) (hs : s < 9218868437227405312) : D.add r s = some (min (rung (val r + val s)) 9218868437227405312) := by
  unfold Format.add
  rw [read_pos hr, read_pos hs]
  simp only [Datum.sum, base_of, up_of, signed_pos, Option.map_some, Format.write]
  have hn : ¬ (((sig r * 2 ^ (ex r - min (ex r) (ex s)) : Nat) : Int) + ((sig s * 2 ^ (ex s - min (ex r) (ex s)) : Nat) : Int) < 0) := by omega
  have ha : (((sig r * 2 ^ (ex r - min (ex r) (ex s)) : Nat) : Int) + ((sig s * 2 ^ (ex s - min (ex r) (ex s)) : Nat) : Int)).natAbs = sig r * 2 ^ (ex r - min (ex r) (ex s)) + sig s * 2 ^ (ex s - min (ex r) (ex s)) := by omega
  have hb : (if (((sig r * 2 ^ (ex r - min (ex r) (ex s)) : Nat) : Int) + ((sig s * 2 ^ (ex s - min (ex r) (ex s)) : Nat) : Int)) = 0 then (false && false) else decide ((((sig r * 2 ^ (ex r - min (ex r) (ex s)) : Nat) : Int) + ((sig s * 2 ^ (ex s - min (ex r) (ex s)) : Nat) : Int)) < 0)) = false := by
    split
    · rfl
    · exact decide_eq_false hn
  rw [hb, ha, nearest_units false _ _ (val r + val s) 1074 (by omega) (by omega), word_pos]
  · rw [show (-1074 + ((min (ex r) (ex s) : Nat) : Int) + ((1074 : Nat) : Int)).toNat = min (ex r) (ex s) by omega, Nat.add_mul, units_at r _ (Nat.min_le_left ..), units_at s _ (Nat.min_le_right ..)]
    simp

theorem sub_pos {r s : Nat} (hr : r < 9218868437227405312) (hsr : s ≤ r) : D.sub r s = some (min (rung (val r - val s)) 9218868437227405312) := by
  unfold Format.sub
  rw [read_pos hr, read_pos (by omega : s < 9218868437227405312)]
  simp only [Datum.opposite, Datum.sum, base_of, up_of, signed_pos, signed_neg, Option.map_some, Format.write, Bool.not_false]
  have u1 := units_at r _ (Nat.min_le_left (ex r) (ex s))
  have u2 := units_at s _ (Nat.min_le_right (ex r) (ex s))
  have hv := val_mono hsr
  rw [← u1, ← u2] at hv
  have hle := Nat.le_of_mul_le_mul_right hv (two_pos _)
  rw [← u1, ← u2]
  generalize min (ex r) (ex s) = base at *
  generalize sig r * 2 ^ (ex r - base) = a at *
  generalize sig s * 2 ^ (ex s - base) = b at *
  have hb : (if ((a : Int) + -(b : Int)) = 0 then (false && true) else decide (((a : Int) + -(b : Int)) < 0)) = false := by
    split
    · rfl
    · exact decide_eq_false (by omega)
  rw [hb, show ((a : Int) + -(b : Int)).natAbs = a - b by omega, nearest_units false _ _ (a * 2 ^ base - b * 2 ^ base) 1074 (by omega) (by omega), word_pos]
  · rw [show (-1074 + (base : Int) + ((1074 : Nat) : Int)).toNat = base by omega, Nat.sub_mul]
    simp
end Go.Proofs.Ytiaiahdejihlbaa.Flo
