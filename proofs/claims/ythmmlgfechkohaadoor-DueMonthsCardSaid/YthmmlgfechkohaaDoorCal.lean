/- The calendar in plain numbers: how long months are, which day each begins with, which month a day lies in. Of no one law. -/
namespace Go.Proofs.YthmmlgfechkohaaDoor.Cal

def longB (y : Int) : Bool := decide ((y % 4 = 0 ∧ ¬ y % 100 = 0) ∨ y % 400 = 0)
/-- How many days a month has; 0 of what is none. -/
def daysI (y m : Int) : Int :=
  if m = 1 ∨ m = 3 ∨ m = 5 ∨ m = 7 ∨ m = 8 ∨ m = 10 ∨ m = 12 then 31
  else if m = 4 ∨ m = 6 ∨ m = 9 ∨ m = 11 then 30
  else if m = 2 then (if longB y = true then 29 else 28) else 0

theorem days_none {y m : Int} (h : m < 1 ∨ 12 < m) : daysI y m = 0 := by
  unfold daysI
  rw [if_neg (by omega), if_neg (by omega), if_neg (by omega)]
theorem days_some {y m : Int} (h : 1 ≤ m ∧ m ≤ 12) : 28 ≤ daysI y m ∧ daysI y m ≤ 31 := by
  unfold daysI
  split
  · omega
  · split
    · omega
    · rw [if_pos (by omega)]
      split <;> omega

/-- The months' lengths, by their numbers from January 1960. -/
def lenM (m : Nat) : Nat := (daysI (1960 + ((m / 12 : Nat) : Int)) (1 + ((m % 12 : Nat) : Int))).toNat
theorem lenM_eq (m : Nat) : daysI (1960 + ((m / 12 : Nat) : Int)) (1 + ((m % 12 : Nat) : Int)) = (lenM m : Nat) := by
  have := days_some (y := 1960 + ((m / 12 : Nat) : Int)) (m := 1 + ((m % 12 : Nat) : Int)) (by omega)
  unfold lenM; omega
theorem lenM_range (m : Nat) : 28 ≤ lenM m ∧ lenM m ≤ 31 := by
  have := days_some (y := 1960 + ((m / 12 : Nat) : Int)) (m := 1 + ((m % 12 : Nat) : Int)) (by omega)
  have := lenM_eq m
  omega

/-- The first day of a month. -/
def st : Nat → Nat
  | 0 => 0
  | m + 1 => st m + lenM m
theorem st_succ (m : Nat) : st (m + 1) = st m + lenM m := rfl
theorem st_lt {m n : Nat} (h : m < n) : st m < st n := by
  induction n with
  | zero => omega
  | succ n ih =>
    have := (lenM_range n).1
    rw [st_succ]
    by_cases he : m = n
    · subst he; omega
    · have := ih (by omega)
      omega
theorem st_mono {m n : Nat} (h : m ≤ n) : st m ≤ st n := by
  by_cases he : m = n
  · subst he; omega
  · exact Nat.le_of_lt (st_lt (by omega))
theorem le_st (m : Nat) : 28 * m ≤ st m := by
  induction m with
  | zero => simp [st]
  | succ m ih =>
    have := (lenM_range m).1
    rw [st_succ]; omega

/-- How many long years there are up to a year. -/
def leaps (y : Nat) : Nat := y / 4 - y / 100 + y / 400
theorem leaps_succ (y : Nat) : leaps (y + 1) = leaps y + (if longB ((y + 1 : Nat) : Int) = true then 1 else 0) := by
  by_cases h : (((y + 1 : Nat) : Int) % 4 = 0 ∧ ¬ ((y + 1 : Nat) : Int) % 100 = 0) ∨ ((y + 1 : Nat) : Int) % 400 = 0
  · rw [if_pos (show longB ((y + 1 : Nat) : Int) = true from decide_eq_true h)]
    unfold leaps; omega
  · rw [if_neg (by unfold longB; rw [decide_eq_true_eq]; exact h)]
    unfold leaps; omega
theorem lenM_at (k j : Nat) (h : j < 12) : lenM (12 * k + j) = (daysI (1960 + (k : Int)) (1 + (j : Int))).toNat := by
  unfold lenM
  rw [show (12 * k + j) / 12 = k by omega, show (12 * k + j) % 12 = j by omega]
theorem st_year_succ (k : Nat) : st (12 * (k + 1)) = st (12 * k) + 365 + (if longB ((1960 + k : Nat) : Int) = true then 1 else 0) := by
  have e : st (12 * k + 12) = st (12 * k) + lenM (12 * k + 0) + lenM (12 * k + 1) + lenM (12 * k + 2) + lenM (12 * k + 3) + lenM (12 * k + 4) + lenM (12 * k + 5) + lenM (12 * k + 6) + lenM (12 * k + 7) + lenM (12 * k + 8) + lenM (12 * k + 9) + lenM (12 * k + 10) + lenM (12 * k + 11) := rfl
  rw [show 12 * (k + 1) = 12 * k + 12 by omega, e, lenM_at k 0 (by omega), lenM_at k 1 (by omega), lenM_at k 2 (by omega), lenM_at k 3 (by omega), lenM_at k 4 (by omega), lenM_at k 5 (by omega), lenM_at k 6 (by omega), lenM_at k 7 (by omega), lenM_at k 8 (by omega), lenM_at k 9 (by omega), lenM_at k 10 (by omega), lenM_at k 11 (by omega)]
  rw [show ((1960 + k : Nat) : Int) = 1960 + (k : Int) by omega]
  unfold daysI
  simp only [show (1 : Int) + ((0 : Nat) : Int) = 1 from rfl, show (1 : Int) + ((1 : Nat) : Int) = 2 from rfl, show (1 : Int) + ((2 : Nat) : Int) = 3 from rfl, show (1 : Int) + ((3 : Nat) : Int) = 4 from rfl, show (1 : Int) + ((4 : Nat) : Int) = 5 from rfl, show (1 : Int) + ((5 : Nat) : Int) = 6 from rfl, show (1 : Int) + ((6 : Nat) : Int) = 7 from rfl, show (1 : Int) + ((7 : Nat) : Int) = 8 from rfl, show (1 : Int) + ((8 : Nat) : Int) = 9 from rfl, show (1 : Int) + ((9 : Nat) : Int) = 10 from rfl, show (1 : Int) + ((10 : Nat) : Int) = 11 from rfl, show (1 : Int) + ((11 : Nat) : Int) = 12 from rfl]
  cases longB (1960 + (k : Int)) <;> simp <;> omega
/-- The first day of a year. -/
theorem st_year (k : Nat) : st (12 * k) + leaps 1959 = 365 * k + leaps (1959 + k) := by
  induction k with
  | zero => simp [st]
  | succ k ih =>
    have h := leaps_succ (1959 + k)
    rw [show 1959 + k + 1 = 1960 + k by omega] at h
    rw [st_year_succ, show 1959 + (k + 1) = 1960 + k by omega, h]
    omega
theorem st_all : st 2880 = 87659 := by
  have h := st_year 240
  rw [show 12 * 240 = 2880 from rfl] at h
  have e1 : leaps 1959 = 474 := by decide
  have e2 : leaps (1959 + 240) = 533 := by decide
  omega

/-- The month in which a day lies. -/
def mo : Nat → Nat
  | 0 => 0
  | n + 1 => if n + 1 < st (mo n + 1) then mo n else mo n + 1
theorem mo_in (n : Nat) : st (mo n) ≤ n ∧ n < st (mo n + 1) := by
  induction n with
  | zero =>
    have := (lenM_range 0).1
    exact ⟨Nat.le_refl _, by show 0 < st 0 + lenM 0; omega⟩
  | succ n ih =>
    unfold mo
    by_cases h : n + 1 < st (mo n + 1)
    · rw [if_pos h]; omega
    · rw [if_neg h]
      have := (lenM_range (mo n + 1)).1
      have e := st_succ (mo n + 1)
      omega
theorem mo_of {m n : Nat} (h1 : st m ≤ n) (h2 : n < st (m + 1)) : mo n = m := by
  obtain ⟨a, b⟩ := mo_in n
  refine Nat.le_antisymm ?_ ?_
  · refine Nat.le_of_not_lt fun hlt => ?_
    have := st_mono (show m + 1 ≤ mo n from hlt)
    omega
  · refine Nat.le_of_not_lt fun hlt => ?_
    have := st_mono (show mo n + 1 ≤ m from hlt)
    omega
theorem mo_mono {m n : Nat} (h : m ≤ n) : mo m ≤ mo n := by
  obtain ⟨a, b⟩ := mo_in n
  obtain ⟨c, d⟩ := mo_in m
  refine Nat.le_of_not_lt fun hlt => ?_
  have := st_mono (show mo n + 1 ≤ mo m from hlt)
  omega
theorem mo_lt {n : Nat} (h : n ≤ 87658) : mo n < 2880 := by
  obtain ⟨a, b⟩ := mo_in n
  refine Nat.lt_of_not_le fun hle => ?_
  have := st_mono hle
  rw [st_all] at this
  omega
/-- The day of the month, from 0. -/
theorem day_lt (n : Nat) : n - st (mo n) < lenM (mo n) := by
  obtain ⟨a, b⟩ := mo_in n
  rw [st_succ] at b
  omega
/-- The next day: the same month's next one, or the next month's first one. -/
theorem mo_next (n : Nat) : (n + 1 < st (mo n + 1) ∧ mo (n + 1) = mo n) ∨ (n + 1 = st (mo n + 1) ∧ mo (n + 1) = mo n + 1) := by
  obtain ⟨a, b⟩ := mo_in n
  by_cases h : n + 1 < st (mo n + 1)
  · exact Or.inl ⟨h, mo_of (by omega) h⟩
  · refine Or.inr ⟨by omega, mo_of (by omega) ?_⟩
    have := (lenM_range (mo n + 1)).1
    rw [st_succ (mo n + 1)]; omega
theorem st_in {m : Nat} (h : m ≤ 2879) : st m ≤ 87658 := by
  have := st_lt (show m < 2880 by omega)
  rw [st_all] at this; omega
end Go.Proofs.YthmmlgfechkohaaDoor.Cal
