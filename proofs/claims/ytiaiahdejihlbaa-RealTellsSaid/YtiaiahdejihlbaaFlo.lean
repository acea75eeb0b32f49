/- Float64s as rungs: what a word's rung is worth in units of 2 to the -1074, and that rounding is monotone and exact on what can be written. Of no one law. -/
import Derived.Laws.FloatArith
namespace Go.Proofs.Ytiaiahdejihlbaa.Flo

theorem two_pos (n : Nat) : 0 < 2 ^ n := Nat.two_pow_pos n

/-- 'n / 2 ^ d' to the nearest whole number; of two as near the even one. -/
def rne (n d : Nat) : Nat := n / 2 ^ d + (if 2 ^ d < 2 * (n % 2 ^ d) ∨ (2 ^ d = 2 * (n % 2 ^ d) ∧ n / 2 ^ d % 2 = 1) then 1 else 0)

theorem rne_lo (n d : Nat) : n / 2 ^ d ≤ rne n d := by unfold rne; omega
theorem rne_hi (n d : Nat) : rne n d ≤ n / 2 ^ d + 1 := by unfold rne; split <;> omega

theorem rne_mono {n m : Nat} (d : Nat) (h : n ≤ m) : rne n d ≤ rne m d := by
  have hp := two_pos d
  have hq : n / 2 ^ d ≤ m / 2 ^ d := Nat.div_le_div_right h
  by_cases he : n / 2 ^ d = m / 2 ^ d
  · have a := Nat.div_add_mod n (2 ^ d)
    have b := Nat.div_add_mod m (2 ^ d)
    rw [he] at a
    have hr : n % 2 ^ d ≤ m % 2 ^ d := by omega
    unfold rne
    rw [he]
    split <;> split <;> omega
  · have := rne_hi n d
    have := rne_lo m d
    omega

theorem rne_shift (n d k : Nat) : rne (n * 2 ^ k) (d + k) = rne n d := by
  have hk := two_pos k
  have h1 : n * 2 ^ k / 2 ^ (d + k) = n / 2 ^ d := by rw [Nat.pow_add, Nat.mul_div_mul_right _ _ hk]
  have h2 : n * 2 ^ k % 2 ^ (d + k) = n % 2 ^ d * 2 ^ k := by rw [Nat.pow_add, Nat.mul_mod_mul_right]
  unfold rne
  rw [h1, h2, Nat.pow_add]
  have a1 : (2 ^ d * 2 ^ k < 2 * (n % 2 ^ d * 2 ^ k)) ↔ (2 ^ d < 2 * (n % 2 ^ d)) := by
    rw [← Nat.mul_assoc]; exact Nat.mul_lt_mul_right hk
  have a2 : (2 ^ d * 2 ^ k = 2 * (n % 2 ^ d * 2 ^ k)) ↔ (2 ^ d = 2 * (n % 2 ^ d)) := by
    rw [← Nat.mul_assoc]; exact Nat.mul_right_cancel_iff hk
  simp only [a1, a2]

theorem rne_zero (n : Nat) : rne n 0 = n := by
  unfold rne
  have h1 : n / 2 ^ 0 = n := by simp
  have h2 : n % 2 ^ 0 = 0 := by simp [Nat.mod_one]
  rw [h1, h2]; simp

theorem rne_whole (m d : Nat) : rne (m * 2 ^ d) d = m := by
  have h := rne_shift m 0 d
  rw [Nat.zero_add, rne_zero] at h
  exact h

/-- A number between two halves is next to the whole one between them. -/
theorem rne_near {v n d : Nat} (h1 : 2 * n * 2 ^ d < 2 * v + 2 ^ d) (h2 : 2 * v < (2 * n + 1) * 2 ^ d) : rne v d = n := by
  have hp := two_pos d
  have a := Nat.div_add_mod v (2 ^ d)
  have hm := Nat.mod_lt v hp
  unfold rne
  generalize v % 2 ^ d = r at *
  generalize v / 2 ^ d = q at *
  generalize 2 ^ d = p at *
  subst a
  have e1 : 2 * n * p < (2 * q + 2) * p + (2 * r - p) ∨ True := Or.inr trivial
  clear e1
  by_cases hr : p < 2 * r
  · have hn : n = q + 1 := by
      have c1 : q + 1 ≤ n := by
        refine Nat.le_of_not_lt fun hlt => ?_
        have : (2 * n + 1) * p ≤ (2 * q + 1) * p := Nat.mul_le_mul_right p (by omega)
        have e : (2 * q + 1) * p = 2 * (p * q) + p := by rw [Nat.add_mul, Nat.mul_assoc, Nat.mul_comm q p, Nat.one_mul]
        omega
      have c2 : n ≤ q + 1 := by
        refine Nat.le_of_not_lt fun hlt => ?_
        have : (2 * (q + 2)) * p ≤ (2 * n) * p := Nat.mul_le_mul_right p (by omega)
        have e : (2 * (q + 2)) * p = 2 * (p * q) + 4 * p := by rw [Nat.mul_assoc, Nat.add_mul, Nat.mul_comm q p]; omega
        omega
      omega
    rw [if_pos (Or.inl hr)]; omega
  · have hn : n = q ∧ ¬ p = 2 * r := by
      have c1 : q ≤ n := by
        refine Nat.le_of_not_lt fun hlt => ?_
        have : (2 * n + 1) * p + p ≤ (2 * q) * p := by
          have : (2 * n + 2) * p ≤ (2 * q) * p := Nat.mul_le_mul_right p (by omega)
          have e : (2 * n + 2) * p = (2 * n + 1) * p + p := by rw [← Nat.succ_mul]
          omega
        have e : (2 * q) * p = 2 * (p * q) := by rw [Nat.mul_assoc, Nat.mul_comm q p]
        omega
      have c2 : n ≤ q := by
        refine Nat.le_of_not_lt fun hlt => ?_
        have : (2 * (q + 1)) * p ≤ (2 * n) * p := Nat.mul_le_mul_right p (by omega)
        have e : (2 * (q + 1)) * p = 2 * (p * q) + 2 * p := by rw [Nat.mul_assoc, Nat.add_mul, Nat.mul_comm q p]; omega
        omega
      have hq : n = q := by omega
      subst hq
      refine ⟨rfl, ?_⟩
      have e : (2 * n + 1) * p = 2 * (p * n) + p := by rw [Nat.add_mul, Nat.mul_assoc, Nat.mul_comm n p, Nat.one_mul]
      omega
    rw [if_neg (by omega)]; omega

/-- .. and the other way round. -/
theorem rne_bounds (v d : Nat) : 2 * rne v d * 2 ^ d ≤ 2 * v + 2 ^ d ∧ 2 * v ≤ (2 * rne v d + 1) * 2 ^ d := by
  have hp := two_pos d
  have a := Nat.div_add_mod v (2 ^ d)
  have hm := Nat.mod_lt v hp
  unfold rne
  generalize v % 2 ^ d = r at *
  generalize v / 2 ^ d = q at *
  generalize 2 ^ d = p at *
  subst a
  have e1 : (2 * (q + 0)) * p = 2 * (p * q) := by rw [Nat.add_zero, Nat.mul_assoc, Nat.mul_comm q p]
  have e2 : (2 * (q + 1)) * p = 2 * (p * q) + 2 * p := by rw [Nat.mul_assoc, Nat.add_mul, Nat.mul_comm q p]; omega
  have e3 : (2 * (q + 0) + 1) * p = 2 * (p * q) + p := by rw [Nat.add_mul, e1, Nat.one_mul]
  have e4 : (2 * (q + 1) + 1) * p = 2 * (p * q) + 3 * p := by rw [Nat.add_mul, e2, Nat.one_mul]; omega
  split
  · rw [e2, e4]; omega
  · rw [e1, e3]; omega

/-- Above the middle between an even number and the next one: the next one at least. -/
theorem rne_above {v n d : Nat} (h : (2 * n + 1) * 2 ^ d < 2 * v) : n + 1 ≤ rne v d := by
  refine Nat.le_of_not_lt fun hlt => ?_
  have hb := (rne_bounds v d).2
  have : (2 * rne v d + 1) * 2 ^ d ≤ (2 * n + 1) * 2 ^ d := Nat.mul_le_mul_right _ (by omega)
  omega

theorem rne_tie (j d : Nat) : rne ((2 * j + 1) * 2 ^ d) (d + 1) = j + j % 2 := by
  have hp := two_pos d
  have h1 : (2 * j + 1) * 2 ^ d / 2 ^ (d + 1) = j := by
    rw [Nat.pow_succ, Nat.mul_comm (2 ^ d) 2, Nat.mul_div_mul_right _ _ hp]; omega
  have h2 : (2 * j + 1) * 2 ^ d % 2 ^ (d + 1) = 2 ^ d := by
    rw [Nat.pow_succ, Nat.mul_comm (2 ^ d) 2, Nat.mul_mod_mul_right, show (2 * j + 1) % 2 = 1 by omega, Nat.one_mul]
  unfold rne
  rw [h1, h2, Nat.pow_succ]
  generalize 2 ^ d = p at *
  split <;> omega

/-! What a rung is worth. -/
def sig (r : Nat) : Nat := if r < 4503599627370496 then r else 4503599627370496 + r % 4503599627370496
def ex (r : Nat) : Nat := r / 4503599627370496 - 1
def val (r : Nat) : Nat := sig r * 2 ^ ex r
def deep (v : Nat) : Nat := v.log2 - 52
/-- The rung nearest to so many units; there is always one more. -/
def rung (v : Nat) : Nat := deep v * 4503599627370496 + rne v (deep v)

theorem sig_lt (r : Nat) : sig r < 9007199254740992 := by unfold sig; split <;> omega
theorem sig_ex (r : Nat) : ex r * 4503599627370496 + sig r = r := by unfold sig ex; split <;> omega
theorem ex_or (r : Nat) : ex r = 0 ∨ 4503599627370496 ≤ sig r := by unfold sig ex; split <;> omega
theorem sig_of {m e : Nat} (hm : m < 9007199254740992) (h : e = 0 ∨ 4503599627370496 ≤ m) : sig (e * 4503599627370496 + m) = m ∧ ex (e * 4503599627370496 + m) = e := by
  unfold sig ex; split <;> omega
theorem val_of {m e : Nat} (hm : m < 9007199254740992) (h : e = 0 ∨ 4503599627370496 ≤ m) : val (e * 4503599627370496 + m) = m * 2 ^ e := by
  obtain ⟨h1, h2⟩ := sig_of hm h
  unfold val; rw [h1, h2]

theorem log2_mul_pow {v : Nat} (k : Nat) (h : v ≠ 0) : (v * 2 ^ k).log2 = v.log2 + k := by
  have hp := two_pos k
  have h0 : v * 2 ^ k ≠ 0 := by
    intro h'
    rcases Nat.mul_eq_zero.1 h' with h' | h' <;> omega
  rw [Nat.log2_eq_iff h0]
  have a := Nat.log2_self_le h
  have b := @Nat.lt_log2_self v
  constructor
  · rw [Nat.pow_add]; exact Nat.mul_le_mul_right _ a
  · rw [show v.log2 + k + 1 = v.log2 + 1 + k by omega, Nat.pow_add]; exact Nat.mul_lt_mul_of_pos_right b hp

theorem deep_small {v : Nat} (h : v < 9007199254740992) : deep v = 0 := by
  unfold deep
  by_cases h0 : v = 0
  · subst h0; rfl
  · have := (Nat.log2_lt (k := 53) h0).2 (by simpa using h)
    omega

theorem rung_small {v : Nat} (h : v < 9007199254740992) : rung v = v := by
  unfold rung; rw [deep_small h, rne_zero]; omega

theorem deep_range {v : Nat} (h : 0 < deep v) : 4503599627370496 ≤ v / 2 ^ deep v ∧ v / 2 ^ deep v < 9007199254740992 := by
  have h0 : v ≠ 0 := by
    intro h'; subst h'; simp [deep] at h
  have hd : v.log2 = deep v + 52 := by unfold deep at *; omega
  have a := Nat.log2_self_le h0
  have b := @Nat.lt_log2_self v
  rw [hd] at a b
  have hp := two_pos (deep v)
  rw [Nat.le_div_iff_mul_le hp, Nat.div_lt_iff_lt_mul hp]
  rw [Nat.pow_add] at a
  rw [show deep v + 52 + 1 = deep v + 53 by omega, Nat.pow_add] at b
  rw [Nat.mul_comm] at a b
  exact ⟨a, b⟩

theorem rung_lo {v : Nat} (h : 0 < deep v) : deep v * 4503599627370496 + 4503599627370496 ≤ rung v := by
  have := (deep_range h).1
  have := rne_lo v (deep v)
  unfold rung; omega
theorem rung_hi (v : Nat) : rung v ≤ deep v * 4503599627370496 + 9007199254740992 := by
  by_cases h : 0 < deep v
  · have := (deep_range h).2
    have := rne_hi v (deep v)
    unfold rung; omega
  · have hd : deep v = 0 := by omega
    have : v < 9007199254740992 := by
      by_cases h0 : v = 0
      · omega
      · have := (Nat.log2_lt (k := 53) h0).1 (by unfold deep at hd; omega)
        simpa using this
    rw [rung_small this]; omega

theorem deep_mono {v w : Nat} (h : v ≤ w) : deep v ≤ deep w := by
  unfold deep
  by_cases h0 : v = 0
  · subst h0; simp
  · have : v.log2 ≤ w.log2 := (Nat.le_log2 (by omega)).2 (Nat.le_trans (Nat.log2_self_le h0) h)
    omega

theorem rung_mono {v w : Nat} (h : v ≤ w) : rung v ≤ rung w := by
  have hd := deep_mono h
  by_cases he : deep v = deep w
  · have := rne_mono (deep w) h
    unfold rung; rw [he]; omega
  · have h1 := rung_hi v
    have h2 := rung_lo (v := w) (by omega)
    omega

theorem rung_val (r : Nat) : rung (val r) = r := by
  have hs := sig_lt r
  have hr := sig_ex r
  by_cases he : ex r = 0
  · have hv : val r = sig r := by unfold val; rw [he]; simp
    rw [hv, rung_small hs]; rw [he] at hr; omega
  · have hg : 4503599627370496 ≤ sig r := by rcases ex_or r with h | h <;> omega
    have hl : (sig r).log2 = 52 := by
      rw [Nat.log2_eq_iff (by omega)]
      exact ⟨by simpa using hg, by simpa using hs⟩
    have hd : deep (val r) = ex r := by
      unfold deep val
      rw [log2_mul_pow _ (by omega), hl]; omega
    unfold rung
    rw [hd]
    unfold val
    rw [rne_whole]
    exact hr

theorem val_mono {r s : Nat} (h : r ≤ s) : val r ≤ val s := by
  refine Nat.le_of_not_lt fun hlt => ?_
  have := rung_mono (Nat.le_of_lt hlt)
  rw [rung_val, rung_val] at this
  have : r = s := by omega
  subst this
  omega

theorem val_lt {r s : Nat} (h : r < s) : val r < val s := by
  refine Nat.lt_of_le_of_ne (val_mono (Nat.le_of_lt h)) fun he => ?_
  have := congrArg rung he
  rw [rung_val, rung_val] at this
  omega
theorem val_le_iff {r s : Nat} : val r ≤ val s ↔ r ≤ s :=
  ⟨fun h => Nat.le_of_not_lt fun hlt => by have := val_lt hlt; omega, val_mono⟩
theorem val_lt_iff {r s : Nat} : val r < val s ↔ r < s :=
  ⟨fun h => Nat.lt_of_not_le fun hle => by have := val_mono hle; omega, val_lt⟩

/-- What fits the significand is written exactly. -/
theorem val_rung {m : Nat} (e : Nat) (h : m < 9007199254740992) : val (rung (m * 2 ^ e)) = m * 2 ^ e := by
  by_cases hv : m * 2 ^ e < 9007199254740992
  · rw [rung_small hv]
    have := val_of (m := m * 2 ^ e) (e := 0) hv (Or.inl rfl)
    simpa using this
  · have hm : m ≠ 0 := by
      intro h'; subst h'; simp at hv
    have hl : m.log2 < 53 := (Nat.log2_lt hm).2 (by simpa using h)
    have hd : deep (m * 2 ^ e) ≤ e := by
      unfold deep; rw [log2_mul_pow _ hm]; omega
    have hd0 : 0 < deep (m * 2 ^ e) := by
      unfold deep
      have h0 : m * 2 ^ e ≠ 0 := by omega
      have := (Nat.le_log2 (k := 53) h0).2 (by simpa using hv)
      omega
    have hr := deep_range hd0
    generalize hdd : deep (m * 2 ^ e) = d at *
    obtain ⟨k, rfl⟩ : ∃ k, e = k + d := ⟨e - d, by omega⟩
    have hV : m * 2 ^ (k + d) = m * 2 ^ k * 2 ^ d := by rw [Nat.pow_add, Nat.mul_assoc]
    rw [hV, Nat.mul_div_cancel _ (two_pos d)] at hr
    have hR : rung (m * 2 ^ (k + d)) = d * 4503599627370496 + m * 2 ^ k := by
      unfold rung; rw [hdd, hV, rne_whole]
    rw [hR, hV]
    exact val_of hr.2 (Or.inr hr.1)

/-- Between what can be written rounding passes nothing. -/
theorem rung_le {v w : Nat} (h : v ≤ w) (hw : val (rung w) = w) : val (rung v) ≤ w := by
  have := val_mono (rung_mono h); omega
theorem le_rung {v w : Nat} (h : w ≤ v) (hw : val (rung w) = w) : w ≤ val (rung v) := by
  have := val_mono (rung_mono h); omega

/-- Rounding is off by less than one step. -/
theorem rung_off (v : Nat) : val (rung v) < v + 2 ^ deep v ∧ v < val (rung v) + 2 ^ deep v := by
  by_cases h : 0 < deep v
  · have hr := deep_range h
    have hl := rne_lo v (deep v)
    have hh := rne_hi v (deep v)
    have hp := two_pos (deep v)
    have a := Nat.div_add_mod v (2 ^ deep v)
    have hm := Nat.mod_lt v hp
    have hv : val (rung v) = rne v (deep v) * 2 ^ deep v := by
      by_cases he : rne v (deep v) = 9007199254740992
      · unfold rung
        rw [he, show deep v * 4503599627370496 + 9007199254740992 = (deep v + 1) * 4503599627370496 + 4503599627370496 by omega, val_of (by omega) (Or.inr (by omega)), Nat.pow_succ]
        omega
      · unfold rung
        exact val_of (by omega) (Or.inr (by omega))
    rw [hv]
    have hb := rne_bounds v (deep v)
    rw [Nat.mul_assoc] at hb
    have e : (2 * rne v (deep v) + 1) * 2 ^ deep v = 2 * (rne v (deep v) * 2 ^ deep v) + 2 ^ deep v := by rw [Nat.add_mul, Nat.mul_assoc, Nat.one_mul]
    omega
  · have hd : deep v = 0 := by omega
    have : v < 9007199254740992 := by
      by_cases h0 : v = 0
      · omega
      · have := (Nat.log2_lt (k := 53) h0).1 (by unfold deep at hd; omega)
        simpa using this
    rw [rung_small this, hd]
    have := val_of (m := v) (e := 0) this (Or.inl rfl)
    rw [Nat.zero_mul, Nat.zero_add] at this
    rw [this]
    simp
end Go.Proofs.Ytiaiahdejihlbaa.Flo
