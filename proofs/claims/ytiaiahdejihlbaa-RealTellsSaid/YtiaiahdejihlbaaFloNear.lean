/- A product that is rounded first, and then taken: by its rest the whole number nearest to the product itself. Of no one law. -/
import Derived.Test.YtiaiahdejihlbaaFloOps
namespace Go.Proofs.Ytiaiahdejihlbaa.Flo
open Ieee

/-! Whole numbers and rests are written exactly. -/
theorem cut_units (r u : Nat) : (sig r * 2 ^ (ex r - u)) / 2 ^ (u - ex r) = val r / 2 ^ u ∧ rne (sig r * 2 ^ (ex r - u)) (u - ex r) = rne (val r) u := by
  unfold val
  by_cases h : u ≤ ex r
  · rw [show u - ex r = 0 by omega, rne_zero, Nat.pow_zero, Nat.div_one]
    have e : sig r * 2 ^ ex r = sig r * 2 ^ (ex r - u) * 2 ^ u := by rw [Nat.mul_assoc, ← Nat.pow_add, Nat.sub_add_cancel h]
    rw [e, Nat.mul_div_cancel _ (two_pos u), rne_whole]
    exact ⟨rfl, rfl⟩
  · rw [show ex r - u = 0 by omega, Nat.pow_zero, Nat.mul_one]
    obtain ⟨k, rfl⟩ : ∃ k, u = k + ex r := ⟨u - ex r, by omega⟩
    rw [Nat.add_sub_cancel, rne_shift, Nat.pow_add, Nat.mul_div_mul_right _ _ (two_pos _)]
    exact ⟨rfl, rfl⟩

theorem floor_exact (r u : Nat) : val (rung (val r / 2 ^ u * 2 ^ u)) = val r / 2 ^ u * 2 ^ u := by
  by_cases h : u ≤ ex r
  · have e : val r = sig r * 2 ^ (ex r - u) * 2 ^ u := by unfold val; rw [Nat.mul_assoc, ← Nat.pow_add, Nat.sub_add_cancel h]
    have e2 : val r / 2 ^ u * 2 ^ u = val r := by rw [e, Nat.mul_div_cancel _ (two_pos u)]
    rw [e2, rung_val]
  · have hs := sig_lt r
    have : val r / 2 ^ u ≤ sig r := by
      rw [← (cut_units r u).1, show ex r - u = 0 by omega, Nat.pow_zero, Nat.mul_one]
      exact Nat.div_le_self _ _
    exact val_rung u (by omega)

theorem rest_exact (r u : Nat) : val (rung (val r % 2 ^ u)) = val r % 2 ^ u := by
  by_cases h : u ≤ ex r
  · have e : val r = sig r * 2 ^ (ex r - u) * 2 ^ u := by unfold val; rw [Nat.mul_assoc, ← Nat.pow_add, Nat.sub_add_cancel h]
    rw [e, Nat.mul_mod_left]
    rfl
  · have hs := sig_lt r
    obtain ⟨k, rfl⟩ : ∃ k, u = k + ex r := ⟨u - ex r, by omega⟩
    have e : val r % 2 ^ (k + ex r) = sig r % 2 ^ k * 2 ^ ex r := by unfold val; rw [Nat.pow_add, Nat.mul_mod_mul_right]
    rw [e]
    exact val_rung _ (Nat.lt_of_le_of_lt (Nat.mod_le _ _) hs)

/-! Rounding passes no half. -/
theorem half_le {v j t : Nat} (hj : j < 9007199254740992) (h : v ≤ j * 2 ^ t) : val (rung v) ≤ j * 2 ^ t := rung_le h (val_rung t hj)
theorem le_half {v j t : Nat} (hj : j < 9007199254740992) (h : j * 2 ^ t ≤ v) : j * 2 ^ t ≤ val (rung v) := le_rung h (val_rung t hj)
theorem lt_of_half {v j t : Nat} (hj : j < 9007199254740992) (h : val (rung v) < j * 2 ^ t) : v < j * 2 ^ t :=
  Nat.lt_of_not_le fun hle => by have := le_half hj hle; omega
theorem half_lt {v j t : Nat} (hj : j < 9007199254740992) (h : j * 2 ^ t < val (rung v)) : j * 2 ^ t < v :=
  Nat.lt_of_not_le fun hle => by have := half_le hj hle; omega

theorem odd_mod (j t : Nat) : (2 * j + 1) * 2 ^ t % 2 ^ (t + 1) = 2 ^ t := by
  rw [Nat.pow_succ, Nat.mul_comm (2 ^ t) 2, Nat.mul_mod_mul_right, show (2 * j + 1) % 2 = 1 by omega, Nat.one_mul]
theorem odd_div (j t : Nat) : (2 * j + 1) * 2 ^ t / 2 ^ (t + 1) = j := by
  rw [Nat.pow_succ, Nat.mul_comm (2 ^ t) 2, Nat.mul_div_mul_right _ _ (two_pos t)]; omega

/-- What is rounded first, and is no half then, is as near. -/
theorem near_plain {v t : Nat} (h : val (rung v) % 2 ^ (t + 1) ≠ 2 ^ t) (hn : 2 * rne (val (rung v)) (t + 1) + 1 < 9007199254740992) : rne v (t + 1) = rne (val (rung v)) (t + 1) := by
  have hb := rne_bounds (val (rung v)) (t + 1)
  have hp := two_pos t
  generalize hN : rne (val (rung v)) (t + 1) = n at *
  have hup : val (rung v) ≠ (2 * n + 1) * 2 ^ t := fun he => h (by rw [he, odd_mod])
  have e2 : (2 * n + 1) * 2 ^ (t + 1) = 2 * ((2 * n + 1) * 2 ^ t) := by rw [Nat.pow_succ, ← Nat.mul_assoc]; omega
  have h2 : v < (2 * n + 1) * 2 ^ t := lt_of_half hn (by omega)
  refine rne_near ?_ (by omega)
  by_cases h0 : n = 0
  · subst h0; have := two_pos (t + 1); omega
  · obtain ⟨m, rfl⟩ : ∃ m, n = m + 1 := ⟨n - 1, by omega⟩
    have hlo : val (rung v) ≠ (2 * m + 1) * 2 ^ t := fun he => h (by rw [he, odd_mod])
    have e1 : 2 * (m + 1) * 2 ^ (t + 1) = 2 * ((2 * m + 1) * 2 ^ t) + 2 ^ (t + 1) := by
      rw [Nat.pow_succ, ← Nat.mul_assoc, show 2 * (m + 1) = 2 * m + 1 + 1 by omega, Nat.add_mul _ 1, Nat.one_mul]; omega
    have h1 : (2 * m + 1) * 2 ^ t < v := half_lt (by omega) (by omega)
    omega

theorem near_below {v j t : Nat} (hq : val (rung v) = (2 * j + 1) * 2 ^ t) (hj : 2 * j + 1 < 9007199254740992) (h : v < val (rung v)) : rne v (t + 1) = j := by
  have hp := two_pos t
  have h1 : 2 * j * 2 ^ t < v := half_lt (by omega) (by rw [hq, Nat.add_mul]; omega)
  have e1 : 2 * j * 2 ^ (t + 1) = 2 * (2 * j * 2 ^ t) := by rw [Nat.pow_succ, ← Nat.mul_assoc]; omega
  have e2 : (2 * j + 1) * 2 ^ (t + 1) = 2 * ((2 * j + 1) * 2 ^ t) := by rw [Nat.pow_succ, ← Nat.mul_assoc]; omega
  exact rne_near (by omega) (by omega)

theorem near_above {v j t : Nat} (hq : val (rung v) = (2 * j + 1) * 2 ^ t) (hj : 2 * j + 2 < 9007199254740992) (h : val (rung v) < v) : rne v (t + 1) = j + 1 := by
  have hp := two_pos t
  have e3 : (2 * j + 2) * 2 ^ t = (2 * j + 1) * 2 ^ t + 2 ^ t := Nat.succ_mul (2 * j + 1) (2 ^ t)
  have h1 : v < (2 * j + 2) * 2 ^ t := lt_of_half (by omega) (by omega)
  have e1 : 2 * (j + 1) * 2 ^ (t + 1) = 2 * ((2 * j + 1) * 2 ^ t) + 2 ^ (t + 1) := by
    rw [Nat.pow_succ, ← Nat.mul_assoc, show 2 * (j + 1) = 2 * j + 1 + 1 by omega, Nat.add_mul _ 1, Nat.one_mul]; omega
  have e2 : (2 * (j + 1) + 1) * 2 ^ (t + 1) = 2 * ((2 * j + 2) * 2 ^ t) + 2 ^ (t + 1) := by
    rw [Nat.pow_succ, ← Nat.mul_assoc, show 2 * (j + 1) + 1 = 2 * j + 2 + 1 by omega, Nat.add_mul _ 1, Nat.one_mul]; omega
  exact rne_near (by omega) (by omega)

/-- The whole number that the rounded product q, and the product v's side of it, give. -/
def side (t v q : Nat) : Nat :=
  if q % 2 ^ (t + 1) = 2 ^ t then (if v < q then q / 2 ^ (t + 1) else if q < v then q / 2 ^ (t + 1) + 1 else rne q (t + 1)) else rne q (t + 1)

theorem far {v t : Nat} (h : 20000000000002 * 2 ^ t < val (rung v)) : 10000000000000 < rne v (t + 1) := by
  have h1 : 20000000000002 * 2 ^ t < v := half_lt (by omega) h
  have e : 20000000000002 * 2 ^ t = 10000000000001 * 2 ^ (t + 1) := by rw [Nat.pow_succ]; omega
  have := rne_mono (t + 1) (Nat.le_of_lt h1)
  rw [e, rne_whole] at this
  omega

theorem side_spec (t v : Nat) : side t v (val (rung v)) = rne v (t + 1) ∨ (10000000000000 < side t v (val (rung v)) ∧ 10000000000000 < rne v (t + 1)) := by
  have hp := two_pos t
  by_cases h : val (rung v) % 2 ^ (t + 1) = 2 ^ t
  · have hd := Nat.div_add_mod (val (rung v)) (2 ^ (t + 1))
    rw [h] at hd
    generalize hj : val (rung v) / 2 ^ (t + 1) = j at *
    have hq : val (rung v) = (2 * j + 1) * 2 ^ t := by rw [← hd, Nat.pow_succ, Nat.add_mul, Nat.mul_assoc 2 j, Nat.mul_comm (2 ^ t) 2, Nat.mul_assoc, Nat.mul_comm (2 ^ t) j]; omega
    unfold side
    rw [if_pos h, hj]
    by_cases hs : 2 * j + 2 < 9007199254740992
    · left
      by_cases h1 : v < val (rung v)
      · rw [if_pos h1, near_below hq (by omega) h1]
      · rw [if_neg h1]
        by_cases h2 : val (rung v) < v
        · rw [if_pos h2, near_above hq hs h2]
        · rw [if_neg h2, show val (rung v) = v by omega]
    · right
      have hf : 10000000000000 < rne v (t + 1) := far (by
        have : 20000000000003 * 2 ^ t ≤ (2 * j + 1) * 2 ^ t := Nat.mul_le_mul_right _ (by omega)
        have : 20000000000003 * 2 ^ t = 20000000000002 * 2 ^ t + 2 ^ t := by omega
        omega)
      refine ⟨?_, hf⟩
      have := rne_lo (val (rung v)) (t + 1)
      rw [hj] at this
      split
      · omega
      · split <;> omega
  · unfold side
    rw [if_neg h]
    by_cases hn : 2 * rne (val (rung v)) (t + 1) + 1 < 9007199254740992
    · left; exact (near_plain h hn).symm
    · right
      have hb := (rne_bounds (val (rung v)) (t + 1)).1
      generalize rne (val (rung v)) (t + 1) = n at *
      refine ⟨by omega, far ?_⟩
      have : 2 * 10000000000003 * 2 ^ (t + 1) ≤ 2 * n * 2 ^ (t + 1) := Nat.mul_le_mul_right _ (by omega)
      rw [Nat.pow_succ] at *
      omega
end Go.Proofs.Ytiaiahdejihlbaa.Flo
