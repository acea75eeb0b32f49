/- A number of 128 bits that is halved and halved again, in two words; what is left of it tells the whole number nearest. Of no one law. -/
import Derived.Test.YtiaiahdejihlbaaTake
namespace Go.Proofs.Ytiaiahdejihlbaa.Fl
open Go.ChangeShapes Go.WideShapes Go.ChangeAt Go.RowKit Bits Money Flo

def hiI (X i : Nat) : Int := ((X / 2 ^ i / 18446744073709551616 : Nat) : Int)
def loI (X i : Nat) : Int := ((X / 2 ^ i % 18446744073709551616 : Nat) : Int)
def halfB (X i : Nat) : Bool := decide (2 ^ i ≤ 2 * (X % 2 ^ i))
def restB (X i : Nat) : Bool := decide (¬ (2 * (X % 2 ^ i)) % 2 ^ i = 0)

theorem hi_range {X : Nat} (i : Nat) (h : X < 18446744073709551616 * 1024) : 0 ≤ hiI X i ∧ hiI X i < 1024 := by
  have : X / 2 ^ i ≤ X := Nat.div_le_self _ _
  unfold hiI
  generalize X / 2 ^ i = q at *
  omega
theorem lo_range (X i : Nat) : 0 ≤ loI X i ∧ loI X i < 18446744073709551616 := by unfold loI; omega

theorem div_succ (X i : Nat) : X / 2 ^ (i + 1) = X / 2 ^ i / 2 := by rw [Nat.pow_succ, Nat.div_div_eq_div_mul]
theorem mod_succ (X i : Nat) : X % 2 ^ (i + 1) = X % 2 ^ i + 2 ^ i * (X / 2 ^ i % 2) := by rw [Nat.pow_succ, Nat.mod_mul]

theorem hi_next (X i : Nat) : hiI X i / 2 = hiI X (i + 1) := by unfold hiI; rw [div_succ]; omega
theorem lo_next (X i : Nat) : loI X i / 2 + hiI X i % 2 * 9223372036854775808 = loI X (i + 1) := by unfold hiI loI; rw [div_succ]; omega
theorem half_next (X i : Nat) : (loI X i % 2 == 1) = halfB X (i + 1) := by
  unfold halfB loI
  rw [mod_succ X i, Nat.pow_succ]
  have hm := Nat.mod_lt X (two_pos i)
  have h2 : X / 2 ^ i % 2 = 0 ∨ X / 2 ^ i % 2 = 1 := by omega
  rcases h2 with h2 | h2
  · rw [h2, decide_eq_false (by omega), beq_eq_false_iff_ne]; omega
  · rw [h2, decide_eq_true (by omega), beq_iff_eq]; omega
theorem rest_next (X i : Nat) : (restB X i || halfB X i) = restB X (i + 1) := by
  unfold restB halfB
  rw [mod_succ X i, Nat.pow_succ]
  have hm := Nat.mod_lt X (two_pos i)
  generalize X % 2 ^ i = r at *
  generalize 2 ^ i = p at *
  have e : (2 * (r + p * (X / 2 ^ i % 2))) % (p * 2) = 2 * r := by
    rw [Nat.mul_comm p 2, Nat.mul_mod_mul_left, Nat.add_mod, Nat.mul_mod_right, Nat.add_zero, Nat.mod_mod, Nat.mod_eq_of_lt hm]
  have e' : ∀ c, (2 * (r + p * c)) % (p * 2) = 2 * r := fun c => by
    rw [Nat.mul_comm p 2, Nat.mul_mod_mul_left, Nat.add_mod, Nat.mul_mod_right, Nat.add_zero, Nat.mod_mod, Nat.mod_eq_of_lt hm]
  rw [e']
  by_cases h1 : r = 0
  · subst h1
    simp; omega
  · by_cases h2 : p ≤ 2 * r
    · simp [h2]; omega
    · have : 2 * r % p = 2 * r := Nat.mod_eq_of_lt (by omega)
      rw [this]
      simp; omega

theorem halves_start (X : Nat) : halfB X 0 = false ∧ restB X 0 = false ∧ hiI X 0 = ((X / 18446744073709551616 : Nat) : Int) ∧ loI X 0 = ((X % 18446744073709551616 : Nat) : Int) := by
  unfold halfB restB hiI loI
  simp [Nat.mod_one]

theorem rne_small {X d : Nat} (h : 2 * X < 2 ^ d) : rne X d = 0 := by
  have hp := two_pos d
  unfold rne
  rw [Nat.div_eq_of_lt (by omega), Nat.mod_eq_of_lt (by omega), if_neg (by omega)]

/-- The end: half of one is left over, or more, or less. -/
theorem rne_halves (X d : Nat) : rne X d = X / 2 ^ d + (if halfB X d = true ∧ (restB X d = true ∨ X / 2 ^ d % 2 = 1) then 1 else 0) := by
  unfold rne halfB restB
  have hm := Nat.mod_lt X (two_pos d)
  generalize X % 2 ^ d = r at *
  generalize X / 2 ^ d = q at *
  generalize 2 ^ d = p at *
  simp only [decide_eq_true_eq]
  by_cases h1 : p < 2 * r
  · have : 2 * r % p = 2 * r - p := by rw [Nat.mod_eq_sub_mod (by omega), Nat.mod_eq_of_lt (by omega)]
    rw [if_pos (Or.inl h1), if_pos ⟨by omega, Or.inl (by omega)⟩]
  · by_cases h2 : p = 2 * r
    · have : 2 * r % p = 0 := by rw [← h2, Nat.mod_self]
      by_cases h3 : q % 2 = 1
      · rw [if_pos (Or.inr ⟨h2, h3⟩), if_pos ⟨by omega, Or.inr h3⟩]
      · rw [if_neg (by omega), if_neg (by omega)]
    · rw [if_neg (by omega), if_neg (by omega)]

/-- So many units are so many halvings. -/
theorem taken_cut (b k : Nat) : ex (b % 9223372036854775808) ≤ U → taken b k = rne (sig (b % 9223372036854775808) * k) (U - ex (b % 9223372036854775808)) := by
  intro h
  unfold taken val
  obtain ⟨d, hd⟩ : ∃ d, U = d + ex (b % 9223372036854775808) := ⟨U - ex (b % 9223372036854775808), by omega⟩
  rw [hd, Nat.add_sub_cancel, Nat.mul_right_comm, rne_shift]
theorem taken_far (b k : Nat) (h : U ≤ ex (b % 9223372036854775808)) (hk : 1 ≤ k) : sig (b % 9223372036854775808) ≤ taken b k := by
  unfold taken val
  obtain ⟨d, hd⟩ : ∃ d, ex (b % 9223372036854775808) = d + U := ⟨ex (b % 9223372036854775808) - U, by omega⟩
  rw [hd, Nat.pow_add, ← Nat.mul_assoc, Nat.mul_right_comm, rne_whole]
  have h1 := two_pos d
  calc sig (b % 9223372036854775808) = sig (b % 9223372036854775808) * 1 * 1 := by rw [Nat.mul_one, Nat.mul_one]
    _ ≤ sig (b % 9223372036854775808) * 2 ^ d * k := Nat.mul_le_mul (Nat.mul_le_mul_left _ h1) hk

theorem exp_of (b : Nat) (hb : b < 18446744073709551616) : bits .and .u64 ((b : Int) / 4503599627370496) 2047 = ((b % 9223372036854775808 / 4503599627370496 : Nat) : Int) := by
  have h := u64_and_nat (b / 4503599627370496) 2047 (by omega) (by omega)
  rw [show (((b / 4503599627370496 : Nat)) : Int) = (b : Int) / 4503599627370496 by omega, show (((2047 : Nat)) : Int) = 2047 from rfl] at h
  rw [h, show 2047 = 2 ^ 11 - 1 from rfl, Nat.and_two_pow_sub_one_eq_mod]
  omega
theorem man_of (b : Nat) (hb : b < 18446744073709551616) : bits .and .u64 (b : Int) 4503599627370495 = ((b % 4503599627370496 : Nat) : Int) := by
  have h := u64_and_nat b 4503599627370495 (by omega) (by omega)
  rw [show (((4503599627370495 : Nat)) : Int) = 4503599627370495 from rfl] at h
  rw [h, show 4503599627370495 = 2 ^ 52 - 1 from rfl, Nat.and_two_pow_sub_one_eq_mod]
end Go.Proofs.Ytiaiahdejihlbaa.Fl
