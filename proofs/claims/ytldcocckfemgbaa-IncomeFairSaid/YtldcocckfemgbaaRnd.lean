/- Plain numbers of rounding: how Down, Even and Up stand to each other, to more, and to a greater divisor. -/
import Derived.Test.YtldcocckfemgbaaMulDiv
namespace Go.Proofs.Ytldcocckfemgbaa.Money
open Go.ChangeShapes Go.WideShapes Go.ChangeAt Go.RowKit Bits

theorem rises_iff (q r c how : Int) : risesB q r c how = true ↔ (how = 1 ∧ 0 < r ∨ how = 2 ∧ (c - r < r ∨ r = c - r ∧ q % 2 = 1)) := by
  unfold risesB; rw [decide_eq_true_iff]
theorem rnd_cases (a b c how : Int) : (risesB (a * b / c) (a * b % c) c how = true ∧ rnd a b c how = a * b / c + 1) ∨ (risesB (a * b / c) (a * b % c) c how = false ∧ rnd a b c how = a * b / c) := by
  cases h : risesB (a * b / c) (a * b % c) c how
  · exact Or.inr ⟨rfl, rnd_no h⟩
  · exact Or.inl ⟨rfl, rnd_yes h⟩
theorem rnd_down (a b c : Int) : rnd a b c 0 = a * b / c := by
  rcases rnd_cases a b c 0 with ⟨h, e⟩ | ⟨_, e⟩
  · rw [rises_iff] at h; omega
  · exact e
theorem rnd_up (a b c : Int) : rnd a b c 1 = a * b / c + (if 0 < a * b % c then 1 else 0) := by
  rcases rnd_cases a b c 1 with ⟨h, e⟩ | ⟨h, e⟩
  · rw [rises_iff] at h; rw [if_pos (by omega)]; exact e
  · rw [if_neg, e]; · omega
    intro g
    rw [← Bool.not_eq_true, rises_iff] at h; omega

/-- How high it comes: what is wanted of the machine's numbers. -/
theorem rnd_small {a b c how : Int} (p : 0 ≤ a * b) (p1 : a * b ≤ 9000000000000) (c0 : 0 < c) : 0 ≤ rnd a b c how ∧ rnd a b c how ≤ 9000000000001 := by
  have h1 := rnd_ge a b c how
  have h2 := rnd_le a b c how
  have h3 : 0 ≤ a * b / c := Int.ediv_nonneg p (by omega)
  have h4 : a * b / c ≤ a * b := Int.ediv_le_self _ p
  omega

theorem md_small (a b c how : Int) (w : World) (a0 : 0 ≤ a) (a1 : a ≤ 9223372036854775807) (b0 : 0 ≤ b) (b1 : b ≤ 9223372036854775807) (c0 : 0 < c) (c1 : c ≤ 9223372036854775807) (m0 : 0 ≤ how) (m1 : how ≤ 2) (p1 : a * b ≤ 9000000000000) :
    Calls Try.prog 15 #[.int .i64 a, .int .i64 b, .int .i64 c, .int .i64 how] w fun e w' => e = .returned (.tuple #[.int .i64 (rnd a b c how), .int .i64 0]) ∧ ∃ n, w' = w.drewN n := by
  have h := md_in (a := a) (b := b) (c := c) (how := how) (by unfold mdBad; omega) (by have := (rnd_small (how := how) (Int.mul_nonneg a0 b0) p1 c0).2; omega)
  rw [← h.1, ← h.2]
  exact muldiv_any a b c how w a1 b1 c1

/-- Of more there is no less. -/
theorem rnd_more {a a' b c how : Int} (h : a * b ≤ a' * b) (c0 : 0 < c) : rnd a b c how ≤ rnd a' b c how := by
  have q : a * b / c ≤ a' * b / c := Int.ediv_le_ediv c0 h
  have m := Int.emod_add_mul_ediv (a * b) c
  have m' := Int.emod_add_mul_ediv (a' * b) c
  rcases rnd_cases a b c how with ⟨h1, e1⟩ | ⟨h1, e1⟩
  · rcases rnd_cases a' b c how with ⟨h2, e2⟩ | ⟨h2, e2⟩
    · omega
    · by_cases hq : a * b / c = a' * b / c
      · exfalso
        rw [rises_iff] at h1
        rw [← Bool.not_eq_true, rises_iff] at h2
        rw [hq] at h1 m
        omega
      · omega
  · have := rnd_ge a' b c how; omega
/-- By a greater divisor no more. -/
theorem rnd_less {a b c e how : Int} (h : c ≤ e) (c0 : 0 < c) (p : 0 ≤ a * b) : rnd a b e how ≤ rnd a b c how := by
  have me := Bits.quot_mul (a * b) e (by omega)
  have q0 : 0 ≤ a * b / e := Int.ediv_nonneg p (by omega)
  have q : a * b / e ≤ a * b / c := by
    rw [Int.le_ediv_iff_mul_le c0]
    have : a * b / e * c ≤ a * b / e * e := Int.mul_le_mul_of_nonneg_left h q0
    omega
  have m := Int.emod_add_mul_ediv (a * b) c
  have m' := Int.emod_add_mul_ediv (a * b) e
  rcases rnd_cases a b e how with ⟨h1, e1⟩ | ⟨h1, e1⟩
  · rcases rnd_cases a b c how with ⟨h2, e2⟩ | ⟨h2, e2⟩
    · omega
    · by_cases hq : a * b / e = a * b / c
      · exfalso
        rw [rises_iff] at h1
        rw [← Bool.not_eq_true, rises_iff] at h2
        rw [hq] at h1 m' q0
        have t : c * (a * b / c) ≤ e * (a * b / c) := Int.mul_le_mul_of_nonneg_right h q0
        omega
      · omega
  · have := rnd_ge a b c how; omega
/-- In parts, rounded down, never more than at once, and at most one less. -/
theorem rnd_parts {a a' b c : Int} (c0 : 0 < c) : rnd a b c 0 + rnd a' b c 0 ≤ rnd (a + a') b c 0 ∧ rnd (a + a') b c 0 ≤ rnd a b c 0 + rnd a' b c 0 + 1 := by
  rw [rnd_down, rnd_down, rnd_down, Int.add_mul]
  have m1 := Bits.quot_mul (a * b) c c0
  have m2 := Bits.quot_mul (a' * b) c c0
  constructor
  · rw [Int.le_ediv_iff_mul_le c0, Int.add_mul]; omega
  · have : (a * b + a' * b) / c < a * b / c + a' * b / c + 2 := by
      rw [Int.ediv_lt_iff_lt_mul c0, Int.add_mul, Int.add_mul]; omega
    omega
/-- The three ways at one product. -/
theorem rnd_three {a b c : Int} (p : 0 ≤ a * b) (c0 : 0 < c) : rnd a b c 0 ≤ rnd a b c 2 ∧ rnd a b c 2 ≤ rnd a b c 1 ∧ rnd a b c 1 - rnd a b c 0 ≤ 1 ∧
    (a * b % c = 0 → rnd a b c 0 = rnd a b c 1) ∧ (a * b % c ≠ 0 → rnd a b c 0 ≠ rnd a b c 1) ∧ 0 ≤ rnd a b c 0 * c ∧ rnd a b c 0 * c ≤ a * b ∧ a * b - rnd a b c 0 * c < c := by
  have m := Bits.quot_mul (a * b) c c0
  have r0 := Int.emod_nonneg (a * b) (by omega : c ≠ 0)
  have r1 := Int.emod_lt_of_pos (a * b) c0
  rw [rnd_down, rnd_up]
  have q0 : 0 ≤ a * b / c := Int.ediv_nonneg p (by omega)
  have q2 : 0 ≤ a * b / c * c := Int.mul_nonneg q0 (by omega)
  have up : rnd a b c 2 ≤ a * b / c + (if 0 < a * b % c then 1 else 0) := by
    rcases rnd_cases a b c 2 with ⟨h, e⟩ | ⟨_, e⟩
    · rw [rises_iff] at h
      rw [e]; split <;> omega
    · rw [e]; split <;> omega
  have dn := rnd_ge a b c 2
  refine ⟨dn, up, ?_, ?_, ?_, q2, by omega, by omega⟩
  · split <;> omega
  · intro h; rw [if_neg (by omega)]; omega
  · intro h; rw [if_pos (by omega)]; omega
end Go.Proofs.Ytldcocckfemgbaa.Money
