/- The calendar in plain numbers: how long months are, which day each begins with, which month a day lies in. Of no one law. The document's own calendar: Long, Days, Good, Start, Of, Civil, Month, First, Add, Week, at every input. The document's own calendar: Start, Of, Civil, Month, First, Add, Week, at every input. The document's own Add, at every input. What follows of the calendar: there and back, the next day, months on and back, the order, years and weeks. Of no one law. -/
import Derived.Test.YtjjbdemhccpllaaDoorChecked
import Derived.WalkKit
import Derived.ProofKit
import Derived.OpenShut
import Derived.Handy
import Derived.Lib.Hide
import Derived.Deep.OwnRows
import Derived.Deep.QuietTactic
import Derived.BigQuiet
namespace Go.Proofs.YtjjbdemhccpllaaDoor.Cal

def longB (y : Int) : Bool := decide ((y % 4 = 0 ∧ ¬ y % 100 = 0) ∨ y % 400 = 0)
/-- How many days a month has; 0 of what is none. -/
def daysI (y m : Int) : Int :=
  if m = 1 ∨ m = 3 ∨ m = 5 ∨ m = 7 ∨ m = 8 ∨ m = 10 ∨ m = 12 then 31
  else if m = 4 ∨ m = 6 ∨ m = 9 ∨ m = 11 then 30
  else if m = 2 then (if longB y = true then 29 else 28) else 0

theorem days_none {y m : Int} (h : m < 1 ∨ 12 < m) : daysI y m = 0 := by
  unfold daysI
  rw [if_neg (by omega), if_neg (by omega), if_neg (by omega)]
theorem days_some {y m : Int} (h : 1 ≤ m ∧ m ≤ 12) : 28 ≤ daysI y m ∧ daysI y m ≤ 31 := by
  unfold daysI
  split
  · omega
  · split
    · omega
    · rw [if_pos (by omega)]
      split <;> omega

/-- The months' lengths, by their numbers from January 1960. -/
def lenM (m : Nat) : Nat := (daysI (1960 + ((m / 12 : Nat) : Int)) (1 + ((m % 12 : Nat) : Int))).toNat
theorem lenM_eq (m : Nat) : daysI (1960 + ((m / 12 : Nat) : Int)) (1 + ((m % 12 : Nat) : Int)) = (lenM m : Nat) := by
  have := days_some (y := 1960 + ((m / 12 : Nat) : Int)) (m := 1 + ((m % 12 : Nat) : Int)) (by omega)
  unfold lenM; omega
theorem lenM_range (m : Nat) : 28 ≤ lenM m ∧ lenM m ≤ 31 := by
  have := days_some (y := 1960 + ((m / 12 : Nat) : Int)) (m := 1 + ((m % 12 : Nat) : Int)) (by omega)
  have := lenM_eq m
  omega

/-- The first day of a month. -/
def st : Nat → Nat
  | 0 => 0
  | m + 1 => st m + lenM m
theorem st_succ (m : Nat) : st (m + 1) = st m + lenM m := rfl
theorem st_lt {m n : Nat} (h : m < n) : st m < st n := by
  induction n with
  | zero => omega
  | succ n ih =>
    have := (lenM_range n).1
    rw [st_succ]
    by_cases he : m = n
    · subst he; omega
    · have := ih (by omega)
      omega
theorem st_mono {m n : Nat} (h : m ≤ n) : st m ≤ st n := by
  by_cases he : m = n
  · subst he; omega
  · exact Nat.le_of_lt (st_lt (by omega))
theorem le_st (m : Nat) : 28 * m ≤ st m := by
  induction m with
  | zero => simp [st]
  | succ m ih =>
    have := (lenM_range m).1
    rw [st_succ]; omega

/-- How many long years there are up to a year. -/
def leaps (y : Nat) : Nat := y / 4 - y / 100 + y / 400
theorem leaps_succ (y : Nat) : leaps (y + 1) = leaps y + (if longB ((y + 1 : Nat) : Int) = true then 1 else 0) := by
  by_cases h : (((y + 1 : Nat) : Int) % 4 = 0 ∧ ¬ ((y + 1 : Nat) : Int) % 100 = 0) ∨ ((y + 1 : Nat) : Int) % 400 = 0
  · rw [if_pos (show longB ((y + 1 : Nat) : Int) = true from decide_eq_true h)]
    unfold leaps; omega
  · rw [if_neg (by unfold longB; rw [decide_eq_true_eq]; exact h)]
    unfold leaps; omega
theorem lenM_at (k j : Nat) (h : j < 12) : lenM (12 * k + j) = (daysI (1960 + (k : Int)) (1 + (j : Int))).toNat := by
  unfold lenM
  rw [show (12 * k + j) / 12 = k by omega, show (12 * k + j) % 12 = j by omega]
theorem st_year_succ (k : Nat) : st (12 * (k + 1)) = st (12 * k) + 365 + (if longB ((1960 + k : Nat) : Int) = true then 1 else 0) := by
  have e : st (12 * k + 12) = st (12 * k) + lenM (12 * k + 0) + lenM (12 * k + 1) + lenM (12 * k + 2) + lenM (12 * k + 3) + lenM (12 * k + 4) + lenM (12 * k + 5) + lenM (12 * k + 6) + lenM (12 * k + 7) + lenM (12 * k + 8) + lenM (12 * k + 9) + lenM (12 * k + 10) + lenM (12 * k + 11) := rfl
  rw [show 12 * (k + 1) = 12 * k + 12 by omega, e, lenM_at k 0 (by omega), lenM_at k 1 (by omega), lenM_at k 2 (by omega), lenM_at k 3 (by omega), lenM_at k 4 (by omega), lenM_at k 5 (by omega), lenM_at k 6 (by omega), lenM_at k 7 (by omega), lenM_at k 8 (by omega), lenM_at k 9 (by omega), lenM_at k 10 (by omega), lenM_at k 11 (by omega)]
  rw [show ((1960 + k : Nat) : Int) = 1960 + (k : Int) by omega]
  unfold daysI
  simp only [show (1 : Int) + ((0 : Nat) : Int) = 1 from rfl, show (1 : Int) + ((1 : Nat) : Int) = 2 from rfl, show (1 : Int) + ((2 : Nat) : Int) = 3 from rfl, show (1 : Int) + ((3 : Nat) : Int) = 4 from rfl, show (1 : Int) + ((4 : Nat) : Int) = 5 from rfl, show (1 : Int) + ((5 : Nat) : Int) = 6 from rfl, show (1 : Int) + ((6 : Nat) : Int) = 7 from rfl, show (1 : Int) + ((7 : Nat) : Int) = 8 from rfl, show (1 : Int) + ((8 : Nat) : Int) = 9 from rfl, show (1 : Int) + ((9 : Nat) : Int) = 10 from rfl, show (1 : Int) + ((10 : Nat) : Int) = 11 from rfl, show (1 : Int) + ((11 : Nat) : Int) = 12 from rfl]
  cases longB (1960 + (k : Int)) <;> simp <;> omega
/-- The first day of a year. -/
theorem st_year (k : Nat) : st (12 * k) + leaps 1959 = 365 * k + leaps (1959 + k) := by
  induction k with
  | zero => simp [st]
  | succ k ih =>
    have h := leaps_succ (1959 + k)
    rw [show 1959 + k + 1 = 1960 + k by omega] at h
    rw [st_year_succ, show 1959 + (k + 1) = 1960 + k by omega, h]
    omega
theorem st_all : st 2880 = 87659 := by
  have h := st_year 240
  rw [show 12 * 240 = 2880 from rfl] at h
  have e1 : leaps 1959 = 474 := by decide
  have e2 : leaps (1959 + 240) = 533 := by decide
  omega

/-- The month in which a day lies. -/
def mo : Nat → Nat
  | 0 => 0
  | n + 1 => if n + 1 < st (mo n + 1) then mo n else mo n + 1
theorem mo_in (n : Nat) : st (mo n) ≤ n ∧ n < st (mo n + 1) := by
  induction n with
  | zero =>
    have := (lenM_range 0).1
    exact ⟨Nat.le_refl _, by show 0 < st 0 + lenM 0; omega⟩
  | succ n ih =>
    unfold mo
    by_cases h : n + 1 < st (mo n + 1)
    · rw [if_pos h]; omega
    · rw [if_neg h]
      have := (lenM_range (mo n + 1)).1
      have e := st_succ (mo n + 1)
      omega
theorem mo_of {m n : Nat} (h1 : st m ≤ n) (h2 : n < st (m + 1)) : mo n = m := by
  obtain ⟨a, b⟩ := mo_in n
  refine Nat.le_antisymm ?_ ?_
  · refine Nat.le_of_not_lt fun hlt => ?_
    have := st_mono (show m + 1 ≤ mo n from hlt)
    omega
  · refine Nat.le_of_not_lt fun hlt => ?_
    have := st_mono (show mo n + 1 ≤ m from hlt)
    omega
theorem mo_mono {m n : Nat} (h : m ≤ n) : mo m ≤ mo n := by
  obtain ⟨a, b⟩ := mo_in n
  obtain ⟨c, d⟩ := mo_in m
  refine Nat.le_of_not_lt fun hlt => ?_
  have := st_mono (show mo n + 1 ≤ mo m from hlt)
  omega
theorem mo_lt {n : Nat} (h : n ≤ 87658) : mo n < 2880 := by
  obtain ⟨a, b⟩ := mo_in n
  refine Nat.lt_of_not_le fun hle => ?_
  have := st_mono hle
  rw [st_all] at this
  omega
/-- The day of the month, from 0. -/
theorem day_lt (n : Nat) : n - st (mo n) < lenM (mo n) := by
  obtain ⟨a, b⟩ := mo_in n
  rw [st_succ] at b
  omega
/-- The next day: the same month's next one, or the next month's first one. -/
theorem mo_next (n : Nat) : (n + 1 < st (mo n + 1) ∧ mo (n + 1) = mo n) ∨ (n + 1 = st (mo n + 1) ∧ mo (n + 1) = mo n + 1) := by
  obtain ⟨a, b⟩ := mo_in n
  by_cases h : n + 1 < st (mo n + 1)
  · exact Or.inl ⟨h, mo_of (by omega) h⟩
  · refine Or.inr ⟨by omega, mo_of (by omega) ?_⟩
    have := (lenM_range (mo n + 1)).1
    rw [st_succ (mo n + 1)]; omega
theorem st_in {m : Nat} (h : m ≤ 2879) : st m ≤ 87658 := by
  have := st_lt (show m < 2880 by omega)
  rw [st_all] at this; omega
end Go.Proofs.YtjjbdemhccpllaaDoor.Cal
namespace Go.Proofs.YtjjbdemhccpllaaDoor.Date
open Go.ChangeShapes Go.WideShapes Go.ChangeAt Go.RowKit Cal

theorem ret_bool {a b : Bool} (h : a = b) : Ending.returned (.bool a) = .returned (.bool b) := by rw [h]
theorem ret_int {k : IntKind} {a b : Int} (h : a = b) : Ending.returned (.int k a) = .returned (.int k b) := by rw [h]
theorem ret_two {j k : IntKind} {a b c d : Int} (h1 : a = c) (h2 : b = d) : Ending.returned (.tuple #[.int j a, .int k b]) = .returned (.tuple #[.int j c, .int k d]) := by rw [h1, h2]

theorem tmod_zero (y k : Int) : (y.tmod k == 0) = decide (y % k = 0) := by
  by_cases h : y % k = 0
  · rw [decide_eq_true h, beq_iff_eq]
    exact Int.tmod_eq_zero_of_dvd (Int.dvd_of_emod_eq_zero h)
  · rw [decide_eq_false h, beq_eq_false_iff_ne]
    exact fun h' => h (Int.emod_eq_zero_of_dvd (Int.dvd_of_tmod_eq_zero h'))

theorem long_tmod (y : Int) : longB y = ((y.tmod 4 == 0) && !(y.tmod 100 == 0) || (y.tmod 400 == 0)) := by
  rw [tmod_zero, tmod_zero, tmod_zero]
  unfold longB
  by_cases a : y % 4 = 0 <;> by_cases b : y % 100 = 0 <;> by_cases c : y % 400 = 0 <;> simp [a, b, c]
theorem rlong_any (y : Int) (w : World) : Calls Tryd.prog 53 #[.int .i64 y] w fun e w' => e = .returned (.bool (longB y)) ∧ w = w' := by
  have H := Lib.hid (long_tmod y)
  by_cases h4 : y.tmod 4 = 0 <;> by_cases h1 : y.tmod 100 = 0 <;> by_cases h0 : y.tmod 400 = 0 <;>
  · go_enter Tryd.func53, Tryd.ntmps53
    go_wp2
    go_ret
    exact ⟨ret_bool (by rw [H.out]; simp [h4, h1, h0]), rfl⟩

theorem rdays_any (y m : Int) (w : World) : Calls Tryd.prog 50 #[.int .i64 y, .int .i64 m] w fun e w' => e = .returned (.int .i64 (daysI y m)) ∧ w = w' := by
  by_cases hm : m < 1 ∨ 12 < m
  · have H := Lib.hid (days_none (y := y) hm)
    have n (k : Int) (hk : 1 ≤ k ∧ k ≤ 12) : (m == k) = false := by rw [beq_eq_false_iff_ne]; omega
    have n1 := n 1 (by decide)
    have n2 := n 2 (by decide)
    have n3 := n 3 (by decide)
    have n4 := n 4 (by decide)
    have n5 := n 5 (by decide)
    have n6 := n 6 (by decide)
    have n7 := n 7 (by decide)
    have n8 := n 8 (by decide)
    have n9 := n 9 (by decide)
    have n10 := n 10 (by decide)
    have n11 := n 11 (by decide)
    have n12 := n 12 (by decide)
    clear n hm
    go_enter Tryd.func50, Tryd.ntmps50
    go_wp2
    go_ret
    exact ⟨ret_int H.out.symm, rfl⟩
  · have h : m = 2 ∨ (m = 1 ∨ m = 3 ∨ m = 5 ∨ m = 7 ∨ m = 8 ∨ m = 10 ∨ m = 12) ∨ (m = 4 ∨ m = 6 ∨ m = 9 ∨ m = 11) := by omega
    rcases h with rfl | (rfl | rfl | rfl | rfl | rfl | rfl | rfl) | (rfl | rfl | rfl | rfl)
    · cases hl : longB y with
      | true =>
        have H : Hid (daysI y 2 = 29) := show daysI y 2 = 29 by unfold daysI; rw [hl]; rfl
        go_enter Tryd.func50, Tryd.ntmps50
        go_wp2_with (go_at_call 53; refine (rlong_any _ _).mono ?_; rintro e w' ⟨rfl, rfl⟩)
        go_ret
        exact ⟨ret_int H.out.symm, rfl⟩
      | false =>
        have H : Hid (daysI y 2 = 28) := show daysI y 2 = 28 by unfold daysI; rw [hl]; rfl
        go_enter Tryd.func50, Tryd.ntmps50
        go_wp2_with (go_at_call 53; refine (rlong_any _ _).mono ?_; rintro e w' ⟨rfl, rfl⟩)
        go_ret
        exact ⟨ret_int H.out.symm, rfl⟩
    all_goals
      clear hm
      go_enter Tryd.func50, Tryd.ntmps50
      go_wp2
      go_ret
      exact ⟨rfl, rfl⟩

def dayB (n : Int) : Bool := decide (0 ≤ n ∧ n ≤ 87658)
theorem rday_any (n : Int) (w : World) : Calls Tryd.prog 33 #[.int .i64 n] w fun e w' => e = .returned (.bool (dayB n)) ∧ w = w' := by
  by_cases h1 : 0 ≤ n
  · by_cases h2 : n ≤ 87658
    · have H : Hid (dayB n = true) := decide_eq_true ⟨h1, h2⟩
      go_enter Tryd.func33, Tryd.ntmps33
      go_wp2
      go_ret
      exact ⟨ret_bool H.out.symm, rfl⟩
    · have H : Hid (dayB n = false) := decide_eq_false (by omega)
      go_enter Tryd.func33, Tryd.ntmps33
      go_wp2
      go_ret
      exact ⟨ret_bool H.out.symm, rfl⟩
  · have H : Hid (dayB n = false) := decide_eq_false (by omega)
    go_enter Tryd.func33, Tryd.ntmps33
    go_wp2
    go_ret
    exact ⟨ret_bool H.out.symm, rfl⟩
end Go.Proofs.YtjjbdemhccpllaaDoor.Date
namespace Go.Proofs.YtjjbdemhccpllaaDoor.Date
open Go.ChangeShapes Go.WideShapes Go.ChangeAt Go.RowKit Cal

theorem lenI (m : Nat) : daysI (1960 + (m : Int) / 12) (1 + (m : Int) % 12) = (lenM m : Nat) := by
  have := lenM_eq m
  rw [show ((m / 12 : Nat) : Int) = (m : Int) / 12 by omega, show ((m % 12 : Nat) : Int) = (m : Int) % 12 by omega] at this
  exact this

theorem rstart_any (m : Nat) (w : World) (hm : m ≤ 2880) : Calls Tryd.prog 45 #[.int .i64 (m : Int)] w fun e w' => e = .returned (.int .i64 (st m : Nat)) ∧ w = w' := by
  have HM := Lib.hid hm
  clear hm
  go_enter Tryd.func45, Tryd.ntmps45
  go_wp2
  go_loop [3, 4] (fun n i => ∃ j : Nat, j ≤ m ∧ i = .int .i64 (j : Int) ∧ n = .int .i64 (st j : Nat)) (fun _ i => m - (intOf i).toNat)
  case atStart => exact ⟨0, Nat.zero_le _, rfl, rfl⟩
  case round =>
    obtain ⟨j, j1, rfl, rfl⟩ := hrel
    by_cases hlt : j < m
    · have HL := Lib.hid hlt
      have W := Lib.hid (lenI j)
      have HS := Lib.hid (st_succ j)
      have b1 : st (j + 1) ≤ 87659 := by
        have := st_mono (show j + 1 ≤ 2880 by have := HM.out; omega)
        rw [st_all] at this; exact this
      rw [st_succ] at b1
      have b2 : j < 2880 := by have := HM.out; omega
      generalize st j = s at *
      go_wp2_with fail
      refine (rdays_any _ _ _).mono ?_
      rw [W.out]
      rintro e w1 ⟨rfl, rfl⟩
      generalize lenM j = l at *
      go_wp2_with fail
      go_round
      case rel => exact ⟨j + 1, HL.out, rfl, by rw [HS.out]; rfl⟩
      case measure => simp [intOf]; have := HL.out; omega
    · obtain rfl : j = m := by omega
      clear j1 hlt
      go_wp2
      go_ret
      exact ⟨rfl, rfl⟩

def dateB (y m d : Int) : Bool := decide (1960 ≤ y ∧ y ≤ 2199 ∧ 1 ≤ m ∧ m ≤ 12 ∧ 1 ≤ d ∧ d ≤ daysI y m)
def ofE (y m d : Int) : Int := if dateB y m d = true then 0 else 15
def ofV (y m d : Int) : Int := if dateB y m d = true then ((st (12 * (y - 1960) + m - 1).toNat : Nat) : Int) + d - 1 else 0
theorem of_none {y m d : Int} (h : ¬ (1960 ≤ y ∧ y ≤ 2199 ∧ 1 ≤ m ∧ m ≤ 12 ∧ 1 ≤ d ∧ d ≤ daysI y m)) : ofV y m d = 0 ∧ ofE y m d = 15 := by
  unfold ofV ofE
  rw [show dateB y m d = false from decide_eq_false h]
  exact ⟨rfl, rfl⟩
theorem of_some {y m d : Int} (h : 1960 ≤ y ∧ y ≤ 2199 ∧ 1 ≤ m ∧ m ≤ 12 ∧ 1 ≤ d ∧ d ≤ daysI y m) : ofV y m d = ((st (12 * (y - 1960) + m - 1).toNat : Nat) : Int) + d - 1 ∧ ofE y m d = 0 := by
  unfold ofV ofE
  rw [show dateB y m d = true from decide_eq_true h]
  exact ⟨rfl, rfl⟩

/-! The date of a number. -/
def yr (n : Nat) : Int := 1960 + (mo n : Int) / 12
def mn (n : Nat) : Int := 1 + (mo n : Int) % 12
def dy (n : Nat) : Int := (n : Int) - (st (mo n) : Nat) + 1
def civE (n : Int) : Int := if dayB n = true then 0 else 15
def civV (n : Int) : Value := if dayB n = true then .agg #[.int .i64 (yr n.toNat), .int .i64 (mn n.toNat), .int .i64 (dy n.toNat)] else .agg #[.int .i64 0, .int .i64 0, .int .i64 0]

/-! Month, First, Add, Week. -/
def monE (n : Int) : Int := if dayB n = true then 0 else 15
def monV (n : Int) : Int := if dayB n = true then (mo n.toNat : Int) else 0
def firE (m : Int) : Int := if 0 ≤ m ∧ m ≤ 2879 then 0 else 15
def firV (m : Int) : Int := if 0 ≤ m ∧ m ≤ 2879 then ((st m.toNat : Nat) : Int) else 0
def wekE (n : Int) : Int := if dayB n = true then 0 else 15
def wekV (n : Int) : Int := if dayB n = true then (n + 5) % 7 else 0
theorem civ_month (n : Nat) (h : n ≤ 87658) : 12 * (yr n - 1960) + mn n - 1 = (mo n : Int) ∧ 1960 ≤ yr n ∧ yr n ≤ 2199 ∧ 1 ≤ mn n ∧ mn n ≤ 12 := by
  have := mo_lt h
  unfold yr mn
  omega

theorem rfirst_any (m : Int) (w : World) : Calls Tryd.prog 37 #[.int .i64 m] w fun e w' => e = .returned (.tuple #[.int .i64 (firV m), .int .i64 (firE m)]) ∧ w = w' := by
  by_cases h0 : m < 0
  · have H : Hid (firV m = 0 ∧ firE m = 15) := show _ ∧ _ by unfold firV firE; rw [if_neg (by omega), if_neg (by omega)]; exact ⟨rfl, rfl⟩
    go_enter Tryd.func37, Tryd.ntmps37
    go_wp2_with fail
    go_ret2
    exact ⟨ret_two H.out.1.symm H.out.2.symm, rfl⟩
  · by_cases h1 : 2879 < m
    · have H : Hid (firV m = 0 ∧ firE m = 15) := show _ ∧ _ by unfold firV firE; rw [if_neg (by omega), if_neg (by omega)]; exact ⟨rfl, rfl⟩
      go_enter Tryd.func37, Tryd.ntmps37
      go_wp2_with fail
      go_ret2
      exact ⟨ret_two H.out.1.symm H.out.2.symm, rfl⟩
    · obtain ⟨k, rfl⟩ := Int.eq_ofNat_of_zero_le (show 0 ≤ m by omega)
      have H : Hid (firV (k : Int) = (st k : Nat) ∧ firE (k : Int) = 0) := show _ ∧ _ by unfold firV firE; rw [if_pos (by omega), if_pos (by omega)]; exact ⟨rfl, rfl⟩
      go_enter Tryd.func37, Tryd.ntmps37
      go_wp2_with fail
      refine (rstart_any k _ (by omega)).mono ?_
      rintro e w1 ⟨rfl, rfl⟩
      go_wp2_with fail
      go_ret2
      exact ⟨ret_two H.out.1.symm H.out.2.symm, rfl⟩

end Go.Proofs.YtjjbdemhccpllaaDoor.Date
namespace Go.Proofs.YtjjbdemhccpllaaDoor.Date
open Go.ChangeShapes Go.WideShapes Go.ChangeAt Go.RowKit Cal

def addB (n k : Int) : Bool := dayB n && decide (0 ≤ (mo n.toNat : Int) + k ∧ (mo n.toNat : Int) + k ≤ 2879)
def addE (n k : Int) : Int := if addB n k = true then 0 else 15
def addV (n k : Int) : Int := if addB n k = true then ((st ((mo n.toNat : Int) + k).toNat : Nat) : Int) + min (dy n.toNat) (lenM ((mo n.toNat : Int) + k).toNat : Nat) - 1 else 0
theorem add_none {n k : Int} (h : addB n k = false) : addV n k = 0 ∧ addE n k = 15 := by unfold addV addE; rw [h]; exact ⟨rfl, rfl⟩
theorem add_some {n k : Int} (h : addB n k = true) : addV n k = ((st ((mo n.toNat : Int) + k).toNat : Nat) : Int) + min (dy n.toNat) (lenM ((mo n.toNat : Int) + k).toNat : Nat) - 1 ∧ addE n k = 0 := by unfold addV addE; rw [h]; exact ⟨rfl, rfl⟩
theorem dy_range {n : Nat} : 1 ≤ dy n ∧ dy n ≤ 31 := by
  have h1 := day_lt n
  have h2 := (mo_in n).1
  have h3 := (lenM_range (mo n)).2
  unfold dy; omega

theorem below_drewN {B : Nat} {a w : World} (h : Below B a w) (n : Nat) : Below B a (w.drewN n) := ⟨h.os, h.tape, h.output, h.size, h.block⟩
theorem below_new {a b : World} (h : Below a.heap.size a b) (o : Obj) : Below a.heap.size a (b.alloc o) := h.alloc h.size o
theorem below_via {a b c : World} (h : Below a.heap.size a b) (k : Below b.heap.size b c) : Below a.heap.size a c := h.trans (k.mono h.size)
theorem quiet_left {P : Program} {f : FuncId} {args : Array Value} {w : World} {n : Nat} {v : Value} (h : Calls P f args (w.drewN n) fun e w' => e = .returned v ∧ w.drewN n = w') :
    Calls P f args (w.drewN n) fun e w'' => e = .returned v ∧ ∃ m, w'' = w.drewN m :=
  h.mono fun _ _ ⟨he, hm⟩ => ⟨he, n, hm.symm⟩
theorem rdays_at (T : Nat) (w : World) : Calls Tryd.prog 50 #[.int .i64 (1960 + (T : Int) / 12), .int .i64 (1 + (T : Int) % 12)] w fun e w' => e = .returned (.int .i64 (lenM T : Nat)) ∧ w = w' := by
  rw [← lenI T]
  exact rdays_any _ _ w
end Go.Proofs.YtjjbdemhccpllaaDoor.Date
namespace Go.Proofs.YtjjbdemhccpllaaDoor.Date
open Go.ChangeShapes Go.WideShapes Go.ChangeAt Go.RowKit Cal

theorem dy_nat (n : Nat) : dy n = ((n - st (mo n) + 1 : Nat) : Int) := by
  have := (mo_in n).1
  unfold dy; omega
theorem days_at (n : Nat) : daysI (yr n) (mn n) = (lenM (mo n) : Nat) := lenI (mo n)
theorem dy_len (n : Nat) : 1 ≤ dy n ∧ dy n ≤ (lenM (mo n) : Nat) := by
  have h1 := day_lt n
  have h2 := (mo_in n).1
  unfold dy; omega

/-- The number of a number's date. -/
theorem of_civ (n : Nat) (h : n ≤ 87658) : ofV (yr n) (mn n) (dy n) = n ∧ ofE (yr n) (mn n) (dy n) = 0 := by
  obtain ⟨c1, c2, c3, c4, c5⟩ := civ_month n h
  obtain ⟨d1, d2⟩ := dy_len n
  have h1 := of_some (y := yr n) (m := mn n) (d := dy n) ⟨c2, c3, c4, c5, d1, by rw [days_at]; exact d2⟩
  rw [c1, Int.toNat_natCast] at h1
  refine ⟨?_, h1.2⟩
  rw [h1.1]
  unfold dy; omega

/-- The next day. -/
theorem next_day (n : Nat) : (dy (n + 1) ≠ 1 ∧ yr (n + 1) = yr n ∧ mn (n + 1) = mn n ∧ dy (n + 1) = dy n + 1) ∨
    (dy (n + 1) = 1 ∧ dy n = daysI (yr n) (mn n) ∧ ((yr (n + 1) = yr n ∧ mn (n + 1) = mn n + 1) ∨ (yr (n + 1) = yr n + 1 ∧ mn n = 12 ∧ mn (n + 1) = 1))) := by
  have h1 := (mo_in n).1
  rcases mo_next n with ⟨h2, h3⟩ | ⟨h2, h3⟩
  · left
    unfold yr mn dy
    rw [h3]
    omega
  · right
    rw [days_at]
    rw [st_succ] at h2
    have e : st (mo n + 1) = st (mo n) + lenM (mo n) := st_succ (mo n)
    unfold yr mn dy
    rw [h3, e]
    refine ⟨by omega, by omega, ?_⟩
    by_cases h4 : mo n % 12 = 11
    · right; omega
    · left; omega

/-- A day so many months on lies in that month. -/
theorem add_in {x T : Nat} {k : Int} (h : x ≤ 87658) (hT : (mo x : Int) + k = (T : Int)) (hT2 : T ≤ 2879) : addE (x : Int) k = 0 ∧ ∃ a : Nat, addV (x : Int) k = (a : Int) ∧ a ≤ 87658 ∧ mo a = T ∧ dy a = min (dy x) (lenM T : Nat) := by
  have hb : addB (x : Int) k = true := by
    unfold addB
    rw [show dayB (x : Int) = true from decide_eq_true (by omega), Bool.true_and, Int.toNat_natCast]
    exact decide_eq_true (by omega)
  obtain ⟨q1, q2⟩ := add_some hb
  rw [Int.toNat_natCast, hT, Int.toNat_natCast] at q1
  have hd := (dy_len x).1
  have hl := lenM_range T
  have hs := st_succ T
  have hlt : st (T + 1) ≤ 87659 := by
    have := st_mono (show T + 1 ≤ 2880 by omega)
    rw [st_all] at this; exact this
  have hm1 : 1 ≤ min (dy x) (lenM T : Nat) := by omega
  have hm2 : min (dy x) (lenM T : Nat) ≤ (lenM T : Nat) := Int.min_le_right ..
  obtain ⟨q, hq⟩ := Int.eq_ofNat_of_zero_le (show 0 ≤ min (dy x) (lenM T : Nat) - 1 by omega)
  have hmo : mo (st T + q) = T := mo_of (by omega) (by omega)
  refine ⟨q2, st T + q, by rw [q1]; omega, by omega, hmo, ?_⟩
  rw [show dy (st T + q) = ((st T + q : Nat) : Int) - (st (mo (st T + q)) : Nat) + 1 from rfl, hmo]
  omega
theorem add_out {x : Nat} {k : Int} (h : ¬ (0 ≤ (mo x : Int) + k ∧ (mo x : Int) + k ≤ 2879)) : addE (x : Int) k = 15 ∧ addV (x : Int) k = 0 := by
  have hb : addB (x : Int) k = false := by
    unfold addB
    rw [Int.toNat_natCast, Bool.and_eq_false_iff]
    exact Or.inr (decide_eq_false h)
  exact ⟨(add_none hb).2, (add_none hb).1⟩

/-- A day is its month's first one, and so many behind it. -/
theorem day_is (n : Nat) : (st (mo n) : Int) + dy n - 1 = n := by
  have := (mo_in n).1
  unfold dy; omega
/-- Months on, and back. -/
theorem add_back {x a k : Nat} (h : x ≤ 87658) (ha : a ≤ 87658) (hm : mo a = mo x + k) (hd : dy a = min (dy x) (lenM (mo x + k) : Nat)) :
    addE (a : Int) (-(k : Int)) = 0 ∧ ∃ b : Nat, addV (a : Int) (-(k : Int)) = (b : Int) ∧ (b = x ∨ (28 < dy x ∧ b < x ∧ x - b ≤ 3)) := by
  have hx := mo_lt h
  obtain ⟨e, b, hb, hb1, hb2, hb3⟩ := add_in (x := a) (T := mo x) (k := -(k : Int)) ha (by rw [hm]; omega) (by omega)
  refine ⟨e, b, hb, ?_⟩
  have h1 := day_is x
  have h2 := day_is b
  rw [hb2] at h2
  have h3 := dy_len x
  have h4 := lenM_range (mo x + k)
  rw [hd] at hb3
  by_cases hc : dy x ≤ (lenM (mo x + k) : Nat)
  · left
    omega
  · right
    have h5 := lenM_range (mo x)
    omega

/-- The order of dates. -/
theorem civ_lt (x y : Nat) : x < y ↔ (yr x < yr y ∨ yr x = yr y ∧ (mn x < mn y ∨ mn x = mn y ∧ dy x < dy y)) := by
  have h1 := day_is x
  have h2 := day_is y
  have hx := dy_len x
  have hy := dy_len y
  have m1 : x < y → mo x ≤ mo y := fun h => mo_mono (Nat.le_of_lt h)
  have m2 : y ≤ x → mo y ≤ mo x := fun h => mo_mono h
  have e1 : mo x < mo y → x < y := fun h => Nat.lt_of_not_le fun hle => by have := m2 hle; omega
  unfold yr mn
  by_cases he : mo x = mo y
  · rw [he] at h1 ⊢
    omega
  · constructor
    · intro h
      have := m1 h
      omega
    · intro h
      exact e1 (by omega)

/-- How long years are. -/
theorem year_len (k : Int) (h1 : 1960 ≤ k) (h2 : k ≤ 2198) : ofE k 1 1 = 0 ∧ ofE (k + 1) 1 1 = 0 ∧ ofV (k + 1) 1 1 - ofV k 1 1 = (if longB k = true then 366 else 365) := by
  obtain ⟨j, hj⟩ := Int.eq_ofNat_of_zero_le (show 0 ≤ k - 1960 by omega)
  have d1 := days_some (y := k) (m := 1) (by omega)
  have d2 := days_some (y := k + 1) (m := 1) (by omega)
  obtain ⟨a1, a2⟩ := of_some (y := k) (m := 1) (d := 1) (by omega)
  obtain ⟨b1, b2⟩ := of_some (y := k + 1) (m := 1) (d := 1) (by omega)
  refine ⟨a2, b2, ?_⟩
  rw [a1, b1, show (12 * (k - 1960) + 1 - 1).toNat = 12 * j by omega, show (12 * (k + 1 - 1960) + 1 - 1).toNat = 12 * (j + 1) by omega, st_year_succ, show ((1960 + j : Nat) : Int) = k by omega]
  split <;> omega

/-! What Civil tells of any number; the document's own too. -/
def cY (n : Int) : Int := if dayB n = true then yr n.toNat else 0
def cM (n : Int) : Int := if dayB n = true then mn n.toNat else 0
def cD (n : Int) : Int := if dayB n = true then dy n.toNat else 0
theorem civ_good (n : Nat) (h : n ≤ 87658) : dayB (n : Int) = true ∧ cY (n : Int) = yr n ∧ cM (n : Int) = mn n ∧ cD (n : Int) = dy n ∧ civE (n : Int) = 0 := by
  have hb : dayB (n : Int) = true := decide_eq_true (by omega)
  unfold cY cM cD civE
  rw [hb]
  exact ⟨rfl, rfl, rfl, rfl, rfl⟩
/-! The examples' numbers. -/
theorem st_480 : st 480 = 14610 := by
  have h := st_year 40
  rw [show 12 * 40 = 480 from rfl] at h
  have e1 : leaps 1959 = 474 := by decide
  have e2 : leaps (1959 + 40) = 484 := by decide
  omega
theorem st_492 : st 492 = 14976 := by
  have h := st_year 41
  rw [show 12 * 41 = 492 from rfl] at h
  have e1 : leaps 1959 = 474 := by decide
  have e2 : leaps (1959 + 41) = 485 := by decide
  omega
theorem st_481 : st 481 = 14641 := by rw [st_succ, st_480]; decide
theorem st_493 : st 493 = 15007 := by rw [st_succ, st_492]; decide
theorem ex_of : ofV 2000 2 29 = 14669 ∧ ofE 2000 2 29 = 0 := by
  obtain ⟨h1, h2⟩ := of_some (y := 2000) (m := 2) (d := 29) (by decide)
  refine ⟨?_, h2⟩
  rw [h1, show (12 * ((2000 : Int) - 1960) + 2 - 1).toNat = 481 from rfl, st_481]; rfl
theorem ex_add : addV 14669 12 = 15034 ∧ addE 14669 12 = 0 := by
  have hm : mo 14669 = 481 := mo_of (by rw [st_481]; omega) (by
    have : lenM 481 = 29 := by decide
    rw [st_succ, st_481, this]; omega)
  have hd : dy 14669 = 29 := by unfold dy; rw [hm, st_481]; rfl
  have hb : addB ((14669 : Nat) : Int) 12 = true := by
    unfold addB
    rw [Int.toNat_natCast, hm]; decide
  obtain ⟨h1, h2⟩ := add_some hb
  refine ⟨?_, h2⟩
  rw [Int.toNat_natCast, hm, hd, show (((481 : Nat) : Int) + 12).toNat = 493 from rfl, st_493] at h1
  rw [show (14669 : Int) = ((14669 : Nat) : Int) from rfl, h1]; decide
theorem ex_civ : cY 0 = 1960 ∧ cM 0 = 1 ∧ cD 0 = 1 ∧ civE 0 = 0 := by
  obtain ⟨-, h1, h2, h3, h4⟩ := civ_good 0 (by omega)
  exact ⟨h1, h2, h3, h4⟩
end Go.Proofs.YtjjbdemhccpllaaDoor.Date
