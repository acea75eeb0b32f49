/- What money.MulDiv answers, at every input. -/
import Derived.Test.YtkegmgjagcefhaaMoney
namespace Go.Proofs.Ytkegmgjagcefhaa.Money
open Go.ChangeShapes Go.WideShapes Go.ChangeAt Go.RowKit Bits

/-- a * b by c, rounded. -/
def rnd (a b c how : Int) : Int := a * b / c + if risesB (a * b / c) (a * b % c) c how = true then 1 else 0
def mdBad (a b c how : Int) : Prop := a < 0 ∨ b < 0 ∨ c ≤ 0 ∨ how < 0 ∨ 2 < how
instance (a b c how : Int) : Decidable (mdBad a b c how) := by unfold mdBad; exact inferInstance
def mdV (a b c how : Int) : Int := if mdBad a b c how then 0 else if 10000000000000 < rnd a b c how then 0 else rnd a b c how
def mdE (a b c how : Int) : Int := if mdBad a b c how then 1 else if 10000000000000 < rnd a b c how then 14 else 0

theorem md_bad {a b c how : Int} (h : mdBad a b c how) : mdV a b c how = 0 ∧ mdE a b c how = 1 := by unfold mdV mdE; rw [if_pos h, if_pos h]; exact ⟨rfl, rfl⟩
theorem md_out {a b c how : Int} (h : ¬ mdBad a b c how) (g : 10000000000000 < rnd a b c how) : mdV a b c how = 0 ∧ mdE a b c how = 14 := by unfold mdV mdE; rw [if_neg h, if_neg h, if_pos g, if_pos g]; exact ⟨rfl, rfl⟩
theorem md_in {a b c how : Int} (h : ¬ mdBad a b c how) (g : ¬ 10000000000000 < rnd a b c how) : mdV a b c how = rnd a b c how ∧ mdE a b c how = 0 := by unfold mdV mdE; rw [if_neg h, if_neg h, if_neg g, if_neg g]; exact ⟨rfl, rfl⟩
theorem rnd_yes {a b c how : Int} (h : risesB (a * b / c) (a * b % c) c how = true) : rnd a b c how = a * b / c + 1 := by unfold rnd; rw [if_pos h]
theorem rnd_no {a b c how : Int} (h : risesB (a * b / c) (a * b % c) c how = false) : rnd a b c how = a * b / c := by unfold rnd; rw [if_neg (by rw [h]; exact Bool.false_ne_true)]; omega
theorem rnd_ge (a b c how : Int) : a * b / c ≤ rnd a b c how := by unfold rnd; split <;> omega
theorem rnd_le (a b c how : Int) : rnd a b c how ≤ a * b / c + 1 := by unfold rnd; split <;> omega

/-- The product in two words, and what is known of them. -/
theorem words (a b c : Int) (a0 : 0 ≤ a) (a1 : a ≤ 9223372036854775807) (b0 : 0 ≤ b) (b1 : b ≤ 9223372036854775807) (c0 : 0 < c) :
    0 ≤ a * b / 18446744073709551616 ∧ a * b / 18446744073709551616 ≤ 9223372036854775807 ∧ 0 ≤ a * b % 18446744073709551616 ∧ a * b % 18446744073709551616 ≤ 18446744073709551615 ∧
    a * b / 18446744073709551616 * 18446744073709551616 + a * b % 18446744073709551616 = a * b ∧ 0 ≤ a * b / c ∧ 0 ≤ a * b % c ∧ a * b % c < c ∧ (c ≤ a * b / 18446744073709551616 → 18446744073709551616 ≤ a * b / c) := by
  have p0 : 0 ≤ a * b := Int.mul_nonneg a0 b0
  have p1 : a * b ≤ 9223372036854775807 * 9223372036854775807 := Int.mul_le_mul a1 b1 b0 (by omega)
  refine ⟨by omega, by omega, by omega, by omega, by omega, Int.ediv_nonneg p0 (by omega), Int.emod_nonneg _ (by omega), Int.emod_lt_of_pos _ c0, fun h => ?_⟩
  rw [Int.le_ediv_iff_mul_le c0]
  have : 18446744073709551616 * c ≤ 18446744073709551616 * (a * b / 18446744073709551616) := Int.mul_le_mul_of_nonneg_left h (by omega)
  omega
theorem quot_lt (a b c : Int) (h : a * b / 18446744073709551616 < c) (a0 : 0 ≤ a * b / 18446744073709551616) : a * b / c < 18446744073709551616 := by
  rw [Int.ediv_lt_iff_lt_mul (by omega)]; omega

end Go.Proofs.Ytkegmgjagcefhaa.Money
