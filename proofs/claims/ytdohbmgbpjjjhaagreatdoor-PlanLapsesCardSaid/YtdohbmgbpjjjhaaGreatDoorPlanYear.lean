/- Of layer 18: twelve months on are 365 or 366 days. -/
import Derived.Test.YtdohbmgbpjjjhaaGreatDoorGCal
import Derived.Test.YtdohbmgbpjjjhaaGreatDoorPlanMath
namespace Go.Proofs.YtdohbmgbpjjjhaaGreatDoor.Plan
open Cal Date

def lp (k : Nat) : Nat := if longB ((1960 + k : Nat) : Int) = true then 1 else 0
theorem lp_le (k : Nat) : lp k ≤ 1 := by unfold lp; split <;> omega
theorem year_next (k : Nat) : st (12 * (k + 1)) = st (12 * k) + 365 + lp k := st_year_succ k
theorem len_feb (k : Nat) : lenM (12 * k + 1) = 28 + lp k := by
  rw [lenM_at k 1 (by omega)]
  unfold daysI lp
  rw [if_neg (by decide), if_neg (by decide), if_pos (by decide)]
  have e : (1960 + (k : Int)) = ((1960 + k : Nat) : Int) := by omega
  rw [e]
  split <;> rfl
theorem len_other (k l j : Nat) (h : j < 12) (hj : j ≠ 1) : lenM (12 * k + j) = lenM (12 * l + j) := by
  rw [lenM_at k j h, lenM_at l j h]
  unfold daysI
  by_cases h1 : (1 + (j : Int)) = 1 ∨ (1 + (j : Int)) = 3 ∨ (1 + (j : Int)) = 5 ∨ (1 + (j : Int)) = 7 ∨ (1 + (j : Int)) = 8 ∨ (1 + (j : Int)) = 10 ∨ (1 + (j : Int)) = 12
  · rw [if_pos h1, if_pos h1]
  · rw [if_neg h1, if_neg h1]
    rw [if_pos (by omega), if_pos (by omega)]
theorem span_year (k : Nat) : ∀ j, j < 12 → st (12 * (k + 1) + j) + (if 1 < j then lp k else 0) = st (12 * k + j) + 365 + lp k + (if 1 < j then lp (k + 1) else 0)
  | 0, _ => by
    rw [if_neg (by omega), if_neg (by omega)]
    have := year_next k
    omega
  | j + 1, h => by
    have ih := span_year k j (by omega)
    have s1 : st (12 * (k + 1) + (j + 1)) = st (12 * (k + 1) + j) + lenM (12 * (k + 1) + j) := st_succ _
    have s2 : st (12 * k + (j + 1)) = st (12 * k + j) + lenM (12 * k + j) := st_succ _
    by_cases hj : j = 1
    · subst hj
      rw [if_neg (by omega), if_neg (by omega)] at ih
      rw [if_pos (by omega), if_pos (by omega), s1, s2, len_feb, len_feb]
      omega
    · have e := len_other (k + 1) k j (by omega) hj
      by_cases hj2 : 1 < j
      · rw [if_pos hj2, if_pos hj2] at ih
        rw [if_pos (by omega), if_pos (by omega), s1, s2, e]
        omega
      · rw [if_neg hj2, if_neg hj2] at ih
        rw [if_neg (by omega), if_neg (by omega), s1, s2, e]
        omega
/-- A year on: the first day and the length of its month. -/
theorem month_on (m : Nat) : st m + 365 ≤ st (m + 12) ∧ st (m + 12) ≤ st m + 366 ∧ (lenM m ≤ lenM (m + 12) ∨ (lenM m = lenM (m + 12) + 1 ∧ st (m + 12) = st m + 366)) := by
  obtain ⟨k, j, hj, rfl⟩ : ∃ k j, j < 12 ∧ m = 12 * k + j := ⟨m / 12, m % 12, Nat.mod_lt _ (by decide), by omega⟩
  have hs := span_year k j hj
  have l0 := lp_le k
  have l1 := lp_le (k + 1)
  rw [show 12 * k + j + 12 = 12 * (k + 1) + j by omega]
  by_cases h : 1 < j
  · rw [if_pos h, if_pos h] at hs
    refine ⟨by omega, by omega, Or.inl ?_⟩
    rw [len_other k (k + 1) j hj (by omega)]
    omega
  · rw [if_neg h, if_neg h] at hs
    refine ⟨by omega, by omega, ?_⟩
    by_cases h1 : j = 1
    · subst h1
      rw [len_feb, len_feb]
      omega
    · rw [len_other k (k + 1) j hj h1]
      omega
theorem year_on (a : Nat) (h : a ≤ 87257) : addE (a : Int) 12 = 0 ∧ (a : Int) + 365 ≤ addV (a : Int) 12 ∧ addV (a : Int) 12 ≤ (a : Int) + 366 := by
  obtain ⟨m1, m2, m3⟩ := month_on (mo a)
  obtain ⟨q1, q2⟩ := mo_in a
  have hT : mo a + 12 ≤ 2879 := by
    refine Nat.le_of_not_lt fun hlt => ?_
    have := st_mono (show 2880 ≤ mo a + 12 by omega)
    rw [st_all] at this
    omega
  obtain ⟨e1, b, e2, hb, hmo, hdy⟩ := add_in (x := a) (T := mo a + 12) (k := 12) (by omega) (by omega) hT
  have d1 := day_is a
  have d2 := day_is b
  have dl := (dy_len a).2
  rw [hmo] at d2
  refine ⟨e1, ?_, ?_⟩
  · rw [e2]
    rcases m3 with m3 | ⟨m3, m4⟩
    · rw [Int.min_eq_left (by omega)] at hdy; omega
    · omega
  · rw [e2]
    omega
theorem lapses {a : Nat} (h : a ≤ 87257) : (∀ d : Int, d ≤ (a : Int) + 364 → holdsI 4 a d = 4) ∧ (∀ d : Int, (a : Int) + 366 ≤ d → holdsI 4 a d = 1) := by
  obtain ⟨e1, e2, e3⟩ := year_on a h
  refine ⟨fun d hd => ?_, fun d hd => ?_⟩
  · unfold holdsI
    rw [if_neg (by decide), if_pos rfl, if_pos ⟨e1, by omega⟩]
  · unfold holdsI
    rw [if_neg (by decide), if_pos rfl, if_neg (fun k => by omega)]
theorem holds_other {p s d : Int} (h1 : 1 ≤ p) (h4 : p ≠ 4) : holdsI p s d = p := by
  unfold holdsI
  rw [if_neg (by omega), if_neg h4]
theorem holds_zero {s d : Int} : holdsI 0 s d = 1 := by
  unfold holdsI
  rw [if_pos rfl]
end Go.Proofs.YtdohbmgbpjjjhaaGreatDoor.Plan
