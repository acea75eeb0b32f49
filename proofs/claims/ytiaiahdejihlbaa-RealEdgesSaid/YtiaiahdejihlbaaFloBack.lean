/- A whole number's hundredths as a float64, and back. Of no one law. -/
import Derived.Test.YtiaiahdejihlbaaRealWakes
namespace Go.Proofs.Ytiaiahdejihlbaa.Fl
open Go.ChangeShapes Go.WideShapes Go.ChangeAt Go.RowKit Bits Money Flo Law

theorem deep_le {v : Nat} (h : 4503599627370496 ≤ v) : 4503599627370496 * 2 ^ deep v ≤ v := by
  have h0 : v ≠ 0 := by omega
  have hl : 52 ≤ v.log2 := (Nat.le_log2 h0).2 (by simpa using h)
  have a := Nat.log2_self_le h0
  rw [show v.log2 = 52 + deep v by unfold deep; omega, Nat.pow_add] at a
  exact a

/-- The quotient, rounded: so near that so many times it is next to the number. -/
theorem near_back {m h v dd O : Nat} {w : Nat} (hO : 1152921504606846976 ≤ O) (hm : m ≤ 10000000000000) (hh : h ≤ 10000) (h0 : 0 < m)
    (h1 : m * O < h * v + O / 16) (h2 : h * v < m * O + O / 16) (hd : 4503599627370496 * dd ≤ v) (w1 : w < v + dd) (w2 : v < w + dd) :
    2 * m * O < 2 * (w * h) + O ∧ 2 * (w * h) < (2 * m + 1) * O := by
  have a1 : m * O ≤ 10000000000000 * O := Nat.mul_le_mul_right O hm
  have a2 : h * (4503599627370496 * dd) ≤ h * v := Nat.mul_le_mul_left h hd
  have a3 : h * w < h * (v + dd) ∨ h = 0 := by
    by_cases hz : h = 0
    · exact Or.inr hz
    · exact Or.inl (Nat.mul_lt_mul_of_pos_left w1 (by omega))
  have a4 : h * v < h * (w + dd) ∨ h = 0 := by
    by_cases hz : h = 0
    · exact Or.inr hz
    · exact Or.inl (Nat.mul_lt_mul_of_pos_left w2 (by omega))
  have a5 : O ≤ m * O := Nat.le_mul_of_pos_left O h0
  rw [Nat.mul_add] at a3 a4
  have e1 : h * (4503599627370496 * dd) = 4503599627370496 * (h * dd) := Nat.mul_left_comm ..
  rw [e1] at a2
  have e2 : 2 * m * O = 2 * (m * O) := Nat.mul_assoc ..
  have e3 : (2 * m + 1) * O = 2 * (m * O) + O := by rw [Nat.add_mul, e2, Nat.one_mul]
  have e4 : w * h = h * w := Nat.mul_comm ..
  rw [e2, e3, e4]
  have hz : h ≠ 0 := fun hz => by
    subst hz
    rw [Nat.zero_mul] at h1
    omega
  generalize m * O = mo at *
  generalize h * v = hv at *
  generalize h * w = hw at *
  generalize h * dd = hdd at *
  omega

theorem float_parts {m : Nat} (h0 : 0 < m) (hm : m ≤ 10000000000000) : 4503599627370496 ≤ sig (wholeW m) ∧ sig (wholeW m) * 2 ^ ex (wholeW m) = m * 2 ^ U ∧ 1000 ≤ ex (wholeW m) := by
  have hv := val_wholeW (n := m) (by omega)
  have hs := sig_lt (wholeW m)
  have he : 1000 ≤ ex (wholeW m) := by
    unfold val at hv
    have h6 : sig (wholeW m) * 2 ^ ex (wholeW m) < 2 ^ 53 * 2 ^ ex (wholeW m) := Nat.mul_lt_mul_of_pos_right hs (two_pos _)
    have h7 : 2 ^ U ≤ m * 2 ^ U := Nat.le_mul_of_pos_left _ h0
    rw [← Nat.pow_add, hv] at h6
    have h8 := (Nat.pow_lt_pow_iff_right (a := 2) (by omega)).1 (Nat.lt_of_le_of_lt h7 h6)
    rw [U_eq] at h8
    omega
  refine ⟨?_, hv, he⟩
  rcases ex_or (wholeW m) with h | h
  · omega
  · exact h

theorem log2_52 {n : Nat} (h1 : 4503599627370496 ≤ n) (h2 : n < 9007199254740992) : n.log2 = 52 := by
  rw [Nat.log2_eq_iff (by omega)]
  exact ⟨by simpa using h1, by simpa using h2⟩

/-- The quotient's own error: less than one of its last digit. -/
theorem quot_near (A n : Nat) (hn : 0 < n) : n * (2 * (A / n) + (A % n != 0).toNat) < 2 * A + n ∧ 2 * A < n * (2 * (A / n) + (A % n != 0).toNat) + n := by
  have a := Nat.div_add_mod A n
  have hm := Nat.mod_lt A hn
  generalize A / n = q at *
  generalize A % n = r at *
  have e : n * (2 * q + (r != 0).toNat) = 2 * (n * q) + n * (r != 0).toNat := by rw [Nat.mul_add, Nat.mul_left_comm]
  rw [e]
  by_cases h : r = 0
  · subst h
    simp only [bne_self_eq_false, Bool.toNat_false, Nat.mul_zero]
    generalize n * q = z at *
    omega
  · have : (r != 0) = true := by simpa using h
    rw [this, Bool.toNat_true, Nat.mul_one]
    generalize n * q = z at *
    omega

theorem big_unit : 1208925819614629174706176 ≤ 2 ^ U := by
  obtain ⟨k, hk⟩ : ∃ k, U = 80 + k := ⟨994, by rw [U_eq]⟩
  have h1 := two_pos k
  rw [hk, Nat.pow_add]
  exact Nat.le_mul_of_pos_right (2 ^ 80) h1
/-- From the quotient's digits to the number itself. -/
theorem quot_scaled {hv mo O N P A X : Nat} (hX : 0 < X) (b1 : hv * 36028797018963968 = P * X) (b2 : mo * 36028797018963968 = 2 * A * X) (b3 : N * X * 64 ≤ 1000000000000000 * O) (hO : 1208925819614629174706176 ≤ O)
    (q1 : P < 2 * A + N) (q2 : 2 * A < P + N) : mo < hv + O / 16 ∧ hv < mo + O / 16 := by
  have c1 := Nat.mul_lt_mul_of_pos_right q1 hX
  have c2 := Nat.mul_lt_mul_of_pos_right q2 hX
  rw [Nat.add_mul] at c1 c2
  generalize P * X = p at *
  generalize 2 * A * X = a at *
  generalize N * X = n at *
  omega

theorem back {m h t y : Nat} (h0 : 0 < m) (hm : m ≤ 10000000000000) (hh : h ≤ 10000) (hhm : h * m ≤ 1000000000000000) (hn : 4503599627370496 ≤ h * 2 ^ t) (hn2 : h * 2 ^ t < 9007199254740992) (ht : t ≤ 46)
    (hy : D.read y = .number false (h * 2 ^ t) (-(t : Int))) : divF (wholeW m) y < 9218868437227405312 ∧ taken (divF (wholeW m) y) h = m := by
  obtain ⟨s1, s2, s3⟩ := float_parts h0 hm
  have s4 := sig_lt (wholeW m)
  have hr := read_pos (wholeW_lt (n := m) (by omega))
  generalize ex (wholeW m) = e at *
  generalize sig (wholeW m) = S at *
  obtain ⟨g, hg⟩ : ∃ g, e + t = 55 + g := ⟨e + t - 55, by omega⟩
  have hdiv : D.div (wholeW m) y = some (min (rung ((2 * ((S * 2 ^ 54) / (h * 2 ^ t)) + ((S * 2 ^ 54) % (h * 2 ^ t) != 0).toNat) * 2 ^ g)) 9218868437227405312) := by
    unfold Ieee.Format.div
    rw [hr, hy]
    have hnz : ¬ h * 2 ^ t = 0 := by omega
    have hl1 := log2_52 hn hn2
    have hl2 := log2_52 s1 s4
    simp only [Ieee.Datum.quotient, hnz, if_false, Option.map_some, Ieee.Format.write, Bool.false_xor, hl1, hl2, D_frac, Nat.shiftLeft_eq]
    rw [show 52 + 2 + 52 - 52 = 54 from rfl, nearest_units false _ _ ((2 * ((S * 2 ^ 54) / (h * 2 ^ t)) + ((S * 2 ^ 54) % (h * 2 ^ t) != 0).toNat) * 2 ^ g) 1074 (by omega) (by omega), word_pos]
    rw [Nat.sub_self, Nat.pow_zero, Nat.mul_one, show (-1074 + (e : Int) - -(t : Int) - ((54 : Nat) : Int) - 1 + ((1074 : Nat) : Int)).toNat = g by omega]
  have hq := quot_near (S * 2 ^ 54) (h * 2 ^ t) (by omega)
  generalize (2 * ((S * 2 ^ 54) / (h * 2 ^ t)) + ((S * 2 ^ 54) % (h * 2 ^ t) != 0).toNat) = mag at *
  have hX := two_pos e
  have b1 : h * (mag * 2 ^ g) * 36028797018963968 = h * 2 ^ t * mag * 2 ^ e := by
    rw [show 36028797018963968 = 2 ^ 55 from rfl, ← Nat.mul_assoc, Nat.mul_assoc (h * mag), ← Nat.pow_add, show g + 55 = t + e by omega, Nat.pow_add, ← Nat.mul_assoc, Nat.mul_right_comm h mag]
  have b2 : m * 2 ^ U * 36028797018963968 = 2 * (S * 2 ^ 54) * 2 ^ e := by
    rw [← s2, show 36028797018963968 = 2 * 2 ^ 54 from rfl]
    generalize 2 ^ 54 = z
    generalize 2 ^ e = x
    simp only [Nat.mul_assoc, Nat.mul_left_comm, Nat.mul_comm]
  have b3 : h * 2 ^ t * 2 ^ e * 64 ≤ 1000000000000000 * 2 ^ U := by
    have c1 : 4503599627370496 * 2 ^ e ≤ m * 2 ^ U := by rw [← s2]; exact Nat.mul_le_mul_right _ s1
    have c2 : h * 2 ^ t * (4503599627370496 * 2 ^ e) ≤ h * 2 ^ t * (m * 2 ^ U) := Nat.mul_le_mul_left _ c1
    have c3 : h * 2 ^ t * (m * 2 ^ U) = h * m * 2 ^ U * 2 ^ t := by
      generalize 2 ^ t = z
      generalize 2 ^ U = u
      simp only [Nat.mul_left_comm, Nat.mul_comm]
    have c4 : h * m * 2 ^ U * 2 ^ t ≤ 1000000000000000 * 2 ^ U * 2 ^ t := Nat.mul_le_mul_right _ (Nat.mul_le_mul_right _ hhm)
    have c5 : (2:Nat) ^ t ≤ 70368744177664 := Nat.pow_le_pow_right (i := t) (j := 46) (by omega) ht
    have c6 : 1000000000000000 * 2 ^ U * 2 ^ t ≤ 1000000000000000 * 2 ^ U * 70368744177664 := Nat.mul_le_mul_left _ c5
    have c7 : h * 2 ^ t * (4503599627370496 * 2 ^ e) = h * 2 ^ t * 2 ^ e * 64 * 70368744177664 := by
      generalize 2 ^ t = z
      generalize 2 ^ e = x
      rw [Nat.mul_assoc _ 64, show 64 * 70368744177664 = 4503599627370496 from rfl, Nat.mul_left_comm, Nat.mul_comm]
    rw [c7] at c2
    rw [c3] at c2
    exact Nat.le_of_mul_le_mul_right (Nat.le_trans c2 (Nat.le_trans c4 c6)) (by decide)
  have hO := big_unit
  obtain ⟨k1, k2⟩ := quot_scaled hX b1 b2 b3 hO hq.1 hq.2
  clear b1 b2 b3 hq hr hy hX s1 s2 s3 s4 hg hn2
  generalize mag * 2 ^ g = v at *
  have hmO : 2 ^ U ≤ m * 2 ^ U := Nat.le_mul_of_pos_left _ h0
  have hv : 4503599627370496 ≤ v := by
    refine Nat.le_of_not_lt fun hlt => ?_
    have : h * v ≤ 10000 * 4503599627370496 := Nat.mul_le_mul hh (by omega)
    omega
  obtain ⟨w1, w2⟩ := rung_off v
  have hnb := near_back (O := 2 ^ U) (by omega) hm hh h0 k1 k2 (deep_le hv) w1 w2
  have hh0 : 0 < h := by
    refine Nat.pos_of_ne_zero fun hz => ?_
    subst hz
    rw [Nat.zero_mul] at hn
    omega
  have hlt : rung v ≤ 4845873199050653696 := by
    have c1 : v ≤ h * v := Nat.le_mul_of_pos_left _ hh0
    have c2 : m * 2 ^ U ≤ 10000000000000 * 2 ^ U := Nat.mul_le_mul_right _ hm
    have c3 := rung_mono (v := v) (w := 10000000000001 * 2 ^ U) (by
      rw [show 10000000000001 = 10000000000000 + 1 from rfl, Nat.add_mul, Nat.one_mul]
      omega)
    have c4 := rung_whole_lt (n := 10000000000001) (by omega)
    omega
  have hd : divF (wholeW m) y = rung v := by
    unfold divF
    rw [hdiv, Option.getD_some, Nat.min_eq_left (by omega)]
  rw [hd]
  refine ⟨by omega, ?_⟩
  unfold taken
  rw [show rung v % 9223372036854775808 = rung v by omega]
  exact rne_near (by omega) (by omega)

/-- The cents of a money's float64, the rate of a rate's. -/
theorem dol_back (m : Nat) (hm : m ≤ 10000000000000) : dolF (m : Int) < 18446744073709551616 ∧ tV (dolF (m : Int)) 100 = m ∧ tE (dolF (m : Int)) 100 = 0 := by
  have hg : goodB (m : Int) = true := (goodB_iff _).2 (by omega)
  by_cases h0 : m = 0
  · subst h0
    have e : dolF ((0 : Nat) : Int) = 0 := by decide
    rw [e]
    obtain ⟨h1, h2⟩ := tell (b := 0) (k := 100) (m := 0) (d := 1074) (n := 0) (by decide) (by decide) (by decide) (by decide) (by rw [Nat.zero_mul]; exact rne_nil _) (by decide)
    exact ⟨by omega, h1, h2⟩
  · have e : dolF (m : Int) = divF (wholeW m) 4636737291354636288 := by unfold dolF; rw [if_pos hg, floatOfInt_nat]
    obtain ⟨h1, h2⟩ := back (m := m) (h := 100) (t := 46) (by omega) hm (by omega) (by omega) (by decide) (by decide) (by decide) read_hundred
    rw [e]
    obtain ⟨a1, a2⟩ := answer_ok (k := 100) (decide_eq_true (Or.inl h1)) (by omega) h2 hm
    exact ⟨by omega, a2, a1⟩
theorem per_back (p : Nat) (hp : p ≤ 1000000) : perF (p : Int) < 18446744073709551616 ∧ pV (perF (p : Int)) = p ∧ pE (perF (p : Int)) = 0 := by
  have key : perF (p : Int) < 18446744073709551616 ∧ tV (perF (p : Int)) 10000 = p ∧ tE (perF (p : Int)) 10000 = 0 := by
    by_cases h0 : p = 0
    · subst h0
      have e : perF ((0 : Nat) : Int) = 0 := by decide
      rw [e]
      obtain ⟨h1, h2⟩ := tell (b := 0) (k := 10000) (m := 0) (d := 1074) (n := 0) (by decide) (by decide) (by decide) (by decide) (by rw [Nat.zero_mul]; exact rne_nil _) (by decide)
      exact ⟨by omega, h1, h2⟩
    · have e : perF (p : Int) = divF (wholeW p) 4666723172467343360 := by unfold perF; rw [if_pos (by omega), floatOfInt_nat]
      obtain ⟨h1, h2⟩ := back (m := p) (h := 10000) (t := 39) (by omega) (by omega) (by omega) (by omega) (by decide) (by decide) (by decide) read_myriad
      rw [e]
      obtain ⟨a1, a2⟩ := answer_ok (k := 10000) (decide_eq_true (Or.inl h1)) (by omega) h2 (by omega)
      exact ⟨by omega, a2, a1⟩
  obtain ⟨k1, k2, k3⟩ := key
  have e : pE (perF (p : Int)) = 0 := by unfold pE; rw [if_pos k3, k2, if_pos (by omega)]
  exact ⟨k1, by unfold pV; rw [if_pos e, k2], e⟩

/-! The bits of a number, and the number of them. -/
theorem bits_lt (b : Nat) : bitsF b < 9218868437227405312 := by
  unfold bitsF
  split
  · rename_i h
    have := of_decide_eq_true h.1
    omega
  · omega
theorem of_bits (b : Nat) : ofF (bitsF b) = bitsF b ∧ ofB (bitsF b) = true := by
  have := bits_lt b
  unfold ofF ofB
  rw [if_pos this, decide_eq_true this]
  exact ⟨rfl, rfl⟩
theorem eq_self (b : Nat) (h : goodF b = true) : (FloatKind.f64.format.order (bitsF b) b == some .eq) = true := by
  have hb := of_decide_eq_true h
  rw [ord_eq]
  unfold bitsF
  by_cases hz : b = 9223372036854775808
  · subst hz
    rw [if_neg (by simp)]
    decide
  · rw [if_pos ⟨h, hz⟩, order_same (by omega)]; rfl
theorem bits_bad (b : Nat) (h : goodF b = false) : bitsF b = 0 := by unfold bitsF; rw [h]; rfl
end Go.Proofs.Ytiaiahdejihlbaa.Fl
