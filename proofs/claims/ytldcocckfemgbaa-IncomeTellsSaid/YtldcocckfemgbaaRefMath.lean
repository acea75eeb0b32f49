/- Plain numbers of the document's own answers in layer 1: a product by halves, a quotient bit by bit. -/
import Derived.Test.YtldcocckfemgbaaDivMath
import Derived.Laws.MathBits
namespace Go.Proofs.Ytldcocckfemgbaa.Ref

theorem mul_lo (x y : Int) :
    (((x % 4294967296 * (y / 4294967296)) % 18446744073709551616 +
      ((x / 4294967296 * (y % 4294967296)) % 18446744073709551616 + ((x % 4294967296 * (y % 4294967296)) % 18446744073709551616) / 4294967296) % 18446744073709551616 % 4294967296) % 18446744073709551616 * 4294967296 % 18446744073709551616 +
      (x % 4294967296 * (y % 4294967296)) % 18446744073709551616 % 4294967296) % 18446744073709551616 = x * y % 18446744073709551616 := by
  have ex : x = x / 4294967296 * 4294967296 + x % 4294967296 := by omega
  have ey : y = y / 4294967296 * 4294967296 + y % 4294967296 := by omega
  have hxy : x * y = (x / 4294967296 * 4294967296 + x % 4294967296) * (y / 4294967296 * 4294967296 + y % 4294967296) := by rw [← ex, ← ey]
  rw [split_mul] at hxy
  rw [hxy]
  generalize x / 4294967296 * (y / 4294967296) = A at *
  generalize x / 4294967296 * (y % 4294967296) = B at *
  generalize x % 4294967296 * (y % 4294967296) = C at *
  generalize x % 4294967296 * (y / 4294967296) = D at *
  omega

/-- What the quotient's loop keeps: the first bits of N are q times c, and r. -/
def Inv (N c t q r : Int) : Prop := N / 2 ^ (t + 1).toNat = q * c + r
theorem inv_start (hi lo c : Int) (l0 : 0 ≤ lo) (l1 : lo ≤ 18446744073709551615) : Inv (hi * 18446744073709551616 + lo) c 63 0 hi := by
  unfold Inv
  show (hi * 18446744073709551616 + lo) / 18446744073709551616 = 0 * c + hi
  omega
theorem bit_of (hi lo : Int) (m : Nat) (hm : m ≤ 63) : (hi * 18446744073709551616 + lo) / 2 ^ m = 2 * ((hi * 18446744073709551616 + lo) / 2 ^ (m + 1)) + lo / 2 ^ m % 2 := by
  have e : (hi * 18446744073709551616 + lo) / 2 ^ (m + 1) = (hi * 18446744073709551616 + lo) / 2 ^ m / 2 := by
    rw [Int.pow_succ, Int.ediv_ediv_of_nonneg (Int.le_of_lt (Bits.two_pow_pos m))]
  have e2 : (hi * 18446744073709551616 + lo) / 2 ^ m = hi * 2 ^ (64 - m) + lo / 2 ^ m := by
    have : hi * 18446744073709551616 = hi * 2 ^ (64 - m) * 2 ^ m := by
      rw [Int.mul_assoc, Int.mul_comm (2 ^ (64 - m)), Bits.two_pow_split m hm]
    have p := Bits.two_pow_pos m
    rw [this, Int.add_comm, Int.add_mul_ediv_right _ _ (by omega)]; omega
  have e3 : (2 : Int) ^ (64 - m) = 2 * 2 ^ (63 - m) := by rw [show 64 - m = (63 - m) + 1 from by omega, Int.pow_succ, Int.mul_comm]
  rw [e, e2, e3]
  have : hi * (2 * 2 ^ (63 - m)) = 2 * (hi * 2 ^ (63 - m)) := by grind
  rw [this]; omega
theorem quot_small (N c q r : Int) (m : Nat) (hc : 0 < c) (hN : N < c * 18446744073709551616) (r0 : 0 ≤ r) (h : N / 2 ^ (m + 1) = q * c + r) : q ≤ 9223372036854775807 := by
  have h1 : N / 2 ^ (m + 1) ≤ N / 2 ∨ N < 0 := by
    by_cases hn : N < 0
    · exact Or.inr hn
    · refine Or.inl ?_
      rw [Int.pow_succ, Int.mul_comm, ← Int.ediv_ediv_of_nonneg (by omega)]
      exact Int.ediv_le_self _ (by omega)
  have h2 : q * c < 9223372036854775808 * c := by
    rcases h1 with h1 | h1
    · omega
    · have : N / 2 ^ (m + 1) < 0 := Int.ediv_neg_of_neg_of_pos h1 (Bits.two_pow_pos _)
      omega
  have := Int.lt_of_mul_lt_mul_right h2 (by omega)
  omega
theorem step_less {q c r b : Int} : (2 : Int) * (q * c + r) + b = (q * 2) * c + (r * 2 + b) := by grind
theorem step_more {q c r b : Int} : (2 : Int) * (q * c + r) + b = (q * 2 + 1) * c + (r * 2 + b - c) := by grind
theorem inv_less {hi lo c q r : Int} {m : Nat} (hm : m ≤ 63) (h : Inv (hi * 18446744073709551616 + lo) c (m : Int) q r) : Inv (hi * 18446744073709551616 + lo) c ((m : Int) - 1) (q * 2) (r * 2 + lo / 2 ^ m % 2) := by
  unfold Inv at *
  rw [show ((m : Int) - 1 + 1).toNat = m from by omega, bit_of hi lo m hm]
  rw [show ((m : Int) + 1).toNat = m + 1 from by omega] at h
  rw [h]; exact step_less
theorem inv_more {hi lo c q r : Int} {m : Nat} (hm : m ≤ 63) (h : Inv (hi * 18446744073709551616 + lo) c (m : Int) q r) : Inv (hi * 18446744073709551616 + lo) c ((m : Int) - 1) (q * 2 + 1) (r * 2 + lo / 2 ^ m % 2 - c) := by
  unfold Inv at *
  rw [show ((m : Int) - 1 + 1).toNat = m from by omega, bit_of hi lo m hm]
  rw [show ((m : Int) + 1).toNat = m + 1 from by omega] at h
  rw [h]; exact step_more
theorem inv_small {N c q r : Int} {m : Nat} (hc : 0 < c) (hN : N < c * 18446744073709551616) (r0 : 0 ≤ r) (h : Inv N c (m : Int) q r) : q ≤ 9223372036854775807 := by
  unfold Inv at h
  rw [show ((m : Int) + 1).toNat = m + 1 from by omega] at h
  exact quot_small N c q r m hc hN r0 h
theorem inv_end {N c t q r : Int} (ht : t = -1) (r0 : 0 ≤ r) (r1 : r < c) (h : Inv N c t q r) : N / c = q ∧ N % c = r := by
  unfold Inv at h; subst ht
  have h' : N = q * c + r := by simpa using h
  have := Bits.quot_of N c q (by omega) (by omega) (by omega)
  omega
end Go.Proofs.Ytldcocckfemgbaa.Ref
