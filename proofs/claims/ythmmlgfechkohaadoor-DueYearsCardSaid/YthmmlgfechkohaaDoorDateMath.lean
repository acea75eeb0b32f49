/- What follows of the calendar: there and back, the next day, months on and back, the order, years and weeks. Of no one law. -/
import Derived.Test.YthmmlgfechkohaaDoorRefDate3
namespace Go.Proofs.YthmmlgfechkohaaDoor.Date
open Go.ChangeShapes Go.WideShapes Go.ChangeAt Go.RowKit Cal

theorem dy_nat (n : Nat) : dy n = ((n - st (mo n) + 1 : Nat) : Int) := by
  have := (mo_in n).1
  unfold dy; omega
theorem days_at (n : Nat) : daysI (yr n) (mn n) = (lenM (mo n) : Nat) := lenI (mo n)
theorem dy_len (n : Nat) : 1 ≤ dy n ∧ dy n ≤ (lenM (mo n) : Nat) := by
  have h1 := day_lt n
  have h2 := (mo_in n).1
  unfold dy; omega

/-- The number of a number's date. -/
theorem of_civ (n : Nat) (h : n ≤ 87658) : ofV (yr n) (mn n) (dy n) = n ∧ ofE (yr n) (mn n) (dy n) = 0 := by
  obtain ⟨c1, c2, c3, c4, c5⟩ := civ_month n h
  obtain ⟨d1, d2⟩ := dy_len n
  have h1 := of_some (y := yr n) (m := mn n) (d := dy n) ⟨c2, c3, c4, c5, d1, by rw [days_at]; exact d2⟩
  rw [c1, Int.toNat_natCast] at h1
  refine ⟨?_, h1.2⟩
  rw [h1.1]
  unfold dy; omega

/-- The next day. -/
theorem next_day (n : Nat) : (dy (n + 1) ≠ 1 ∧ yr (n + 1) = yr n ∧ mn (n + 1) = mn n ∧ dy (n + 1) = dy n + 1) ∨
    (dy (n + 1) = 1 ∧ dy n = daysI (yr n) (mn n) ∧ ((yr (n + 1) = yr n ∧ mn (n + 1) = mn n + 1) ∨ (yr (n + 1) = yr n + 1 ∧ mn n = 12 ∧ mn (n + 1) = 1))) := by
  have h1 := (mo_in n).1
  rcases mo_next n with ⟨h2, h3⟩ | ⟨h2, h3⟩
  · left
    unfold yr mn dy
    rw [h3]
    omega
  · right
    rw [days_at]
    rw [st_succ] at h2
    have e : st (mo n + 1) = st (mo n) + lenM (mo n) := st_succ (mo n)
    unfold yr mn dy
    rw [h3, e]
    refine ⟨by omega, by omega, ?_⟩
    by_cases h4 : mo n % 12 = 11
    · right; omega
    · left; omega

/-- A day so many months on lies in that month. -/
theorem add_in {x T : Nat} {k : Int} (h : x ≤ 87658) (hT : (mo x : Int) + k = (T : Int)) (hT2 : T ≤ 2879) : addE (x : Int) k = 0 ∧ ∃ a : Nat, addV (x : Int) k = (a : Int) ∧ a ≤ 87658 ∧ mo a = T ∧ dy a = min (dy x) (lenM T : Nat) := by
  have hb : addB (x : Int) k = true := by
    unfold addB
    rw [show dayB (x : Int) = true from decide_eq_true (by omega), Bool.true_and, Int.toNat_natCast]
    exact decide_eq_true (by omega)
  obtain ⟨q1, q2⟩ := add_some hb
  rw [Int.toNat_natCast, hT, Int.toNat_natCast] at q1
  have hd := (dy_len x).1
  have hl := lenM_range T
  have hs := st_succ T
  have hlt : st (T + 1) ≤ 87659 := by
    have := st_mono (show T + 1 ≤ 2880 by omega)
    rw [st_all] at this; exact this
  have hm1 : 1 ≤ min (dy x) (lenM T : Nat) := by omega
  have hm2 : min (dy x) (lenM T : Nat) ≤ (lenM T : Nat) := Int.min_le_right ..
  obtain ⟨q, hq⟩ := Int.eq_ofNat_of_zero_le (show 0 ≤ min (dy x) (lenM T : Nat) - 1 by omega)
  have hmo : mo (st T + q) = T := mo_of (by omega) (by omega)
  refine ⟨q2, st T + q, by rw [q1]; omega, by omega, hmo, ?_⟩
  rw [show dy (st T + q) = ((st T + q : Nat) : Int) - (st (mo (st T + q)) : Nat) + 1 from rfl, hmo]
  omega
theorem add_out {x : Nat} {k : Int} (h : ¬ (0 ≤ (mo x : Int) + k ∧ (mo x : Int) + k ≤ 2879)) : addE (x : Int) k = 15 ∧ addV (x : Int) k = 0 := by
  have hb : addB (x : Int) k = false := by
    unfold addB
    rw [Int.toNat_natCast, Bool.and_eq_false_iff]
    exact Or.inr (decide_eq_false h)
  exact ⟨(add_none hb).2, (add_none hb).1⟩

/-- A day is its month's first one, and so many behind it. -/
theorem day_is (n : Nat) : (st (mo n) : Int) + dy n - 1 = n := by
  have := (mo_in n).1
  unfold dy; omega
/-- Months on, and back. -/
theorem add_back {x a k : Nat} (h : x ≤ 87658) (ha : a ≤ 87658) (hm : mo a = mo x + k) (hd : dy a = min (dy x) (lenM (mo x + k) : Nat)) :
    addE (a : Int) (-(k : Int)) = 0 ∧ ∃ b : Nat, addV (a : Int) (-(k : Int)) = (b : Int) ∧ (b = x ∨ (28 < dy x ∧ b < x ∧ x - b ≤ 3)) := by
  have hx := mo_lt h
  obtain ⟨e, b, hb, hb1, hb2, hb3⟩ := add_in (x := a) (T := mo x) (k := -(k : Int)) ha (by rw [hm]; omega) (by omega)
  refine ⟨e, b, hb, ?_⟩
  have h1 := day_is x
  have h2 := day_is b
  rw [hb2] at h2
  have h3 := dy_len x
  have h4 := lenM_range (mo x + k)
  rw [hd] at hb3
  by_cases hc : dy x ≤ (lenM (mo x + k) : Nat)
  · left
    omega
  · right
    have h5 := lenM_range (mo x)
    omega

/-- The order of dates. -/
theorem civ_lt (x y : Nat) : x < y ↔ (yr x < yr y ∨ yr x = yr y ∧ (mn x < mn y ∨ mn x = mn y ∧ dy x < dy y)) := by
  have h1 := day_is x
  have h2 := day_is y
  have hx := dy_len x
  have hy := dy_len y
  have m1 : x < y → mo x ≤ mo y := fun h => mo_mono (Nat.le_of_lt h)
  have m2 : y ≤ x → mo y ≤ mo x := fun h => mo_mono h
  have e1 : mo x < mo y → x < y := fun h => Nat.lt_of_not_le fun hle => by have := m2 hle; omega
  unfold yr mn
  by_cases he : mo x = mo y
  · rw [he] at h1 ⊢
    omega
  · constructor
    · intro h
      have := m1 h
      omega
    · intro h
      exact e1 (by omega)

/-- How long years are. -/
theorem year_len (k : Int) (h1 : 1960 ≤ k) (h2 : k ≤ 2198) : ofE k 1 1 = 0 ∧ ofE (k + 1) 1 1 = 0 ∧ ofV (k + 1) 1 1 - ofV k 1 1 = (if longB k = true then 366 else 365) := by
  obtain ⟨j, hj⟩ := Int.eq_ofNat_of_zero_le (show 0 ≤ k - 1960 by omega)
  have d1 := days_some (y := k) (m := 1) (by omega)
  have d2 := days_some (y := k + 1) (m := 1) (by omega)
  obtain ⟨a1, a2⟩ := of_some (y := k) (m := 1) (d := 1) (by omega)
  obtain ⟨b1, b2⟩ := of_some (y := k + 1) (m := 1) (d := 1) (by omega)
  refine ⟨a2, b2, ?_⟩
  rw [a1, b1, show (12 * (k - 1960) + 1 - 1).toNat = 12 * j by omega, show (12 * (k + 1 - 1960) + 1 - 1).toNat = 12 * (j + 1) by omega, st_year_succ, show ((1960 + j : Nat) : Int) = k by omega]
  split <;> omega

/-! What Civil tells of any number; the document's own too. -/
def cY (n : Int) : Int := if dayB n = true then yr n.toNat else 0
def cM (n : Int) : Int := if dayB n = true then mn n.toNat else 0
def cD (n : Int) : Int := if dayB n = true then dy n.toNat else 0
theorem civ_good (n : Nat) (h : n ≤ 87658) : dayB (n : Int) = true ∧ cY (n : Int) = yr n ∧ cM (n : Int) = mn n ∧ cD (n : Int) = dy n ∧ civE (n : Int) = 0 := by
  have hb : dayB (n : Int) = true := decide_eq_true (by omega)
  unfold cY cM cD civE
  rw [hb]
  exact ⟨rfl, rfl, rfl, rfl, rfl⟩
theorem rcivil_any (n : Int) (w : World) : Calls Tryd.prog 30 #[.int .i64 n] w fun e w' => e = .returned (.tuple #[.agg #[.int .i64 (cY n), .int .i64 (cM n), .int .i64 (cD n)], .int .i64 (civE n)]) ∧ Below w.heap.size w w' := by
  cases hd : dayB n with
  | false =>
    have e : cY n = 0 ∧ cM n = 0 ∧ cD n = 0 ∧ civE n = 15 := by
      unfold cY cM cD civE; rw [hd]; exact ⟨rfl, rfl, rfl, rfl⟩
    rw [e.1, e.2.1, e.2.2.1, e.2.2.2]
    exact rcivil_no n w hd
  | true =>
    have hn := of_decide_eq_true hd
    obtain ⟨k, rfl⟩ := Int.eq_ofNat_of_zero_le hn.1
    obtain ⟨-, e1, e2, e3, e4⟩ := civ_good k (by omega)
    rw [e1, e2, e3, e4]
    exact rcivil_ok k w (by omega)

/-! The examples' numbers. -/
theorem st_480 : st 480 = 14610 := by
  have h := st_year 40
  rw [show 12 * 40 = 480 from rfl] at h
  have e1 : leaps 1959 = 474 := by decide
  have e2 : leaps (1959 + 40) = 484 := by decide
  omega
theorem st_492 : st 492 = 14976 := by
  have h := st_year 41
  rw [show 12 * 41 = 492 from rfl] at h
  have e1 : leaps 1959 = 474 := by decide
  have e2 : leaps (1959 + 41) = 485 := by decide
  omega
theorem st_481 : st 481 = 14641 := by rw [st_succ, st_480]; decide
theorem st_493 : st 493 = 15007 := by rw [st_succ, st_492]; decide
theorem ex_of : ofV 2000 2 29 = 14669 ∧ ofE 2000 2 29 = 0 := by
  obtain ⟨h1, h2⟩ := of_some (y := 2000) (m := 2) (d := 29) (by decide)
  refine ⟨?_, h2⟩
  rw [h1, show (12 * ((2000 : Int) - 1960) + 2 - 1).toNat = 481 from rfl, st_481]; rfl
theorem ex_add : addV 14669 12 = 15034 ∧ addE 14669 12 = 0 := by
  have hm : mo 14669 = 481 := mo_of (by rw [st_481]; omega) (by
    have : lenM 481 = 29 := by decide
    rw [st_succ, st_481, this]; omega)
  have hd : dy 14669 = 29 := by unfold dy; rw [hm, st_481]; rfl
  have hb : addB ((14669 : Nat) : Int) 12 = true := by
    unfold addB
    rw [Int.toNat_natCast, hm]; decide
  obtain ⟨h1, h2⟩ := add_some hb
  refine ⟨?_, h2⟩
  rw [Int.toNat_natCast, hm, hd, show (((481 : Nat) : Int) + 12).toNat = 493 from rfl, st_493] at h1
  rw [show (14669 : Int) = ((14669 : Nat) : Int) from rfl, h1]; decide
theorem ex_civ : cY 0 = 1960 ∧ cM 0 = 1 ∧ cD 0 = 1 ∧ civE 0 = 0 := by
  obtain ⟨-, h1, h2, h3, h4⟩ := civ_good 0 (by omega)
  exact ⟨h1, h2, h3, h4⟩
end Go.Proofs.YthmmlgfechkohaaDoor.Date
