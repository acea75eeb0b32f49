/- Plain numbers: one digit of the schoolbook division of 128 bits by 64, in halves of 32 bits; bits shifted out and in. -/
import Derived.Lib.BitFns
import Derived.Laws.Bits64b
namespace Go.Proofs.Ytldcocckfemgbaa.Bits

/-- What a try q at a digit is: U is what is left, the divisor is a * 2^32 + b. -/
theorem try_eq (U a b u q r : Int) (e : q * a + r = U) : q * (a * 4294967296 + b) = (U * 4294967296 + u) + (q * b - (4294967296 * r + u)) := by
  subst e; grind
theorem quot_of (N y q : Int) (hy : 0 < y) (h0 : q * y ≤ N) (h1 : N < q * y + y) : N / y = q ∧ N % y = N - q * y := by
  have e : N / y = q := by
    apply Int.le_antisymm
    · have : N / y < q + 1 := by rw [Int.ediv_lt_iff_lt_mul hy]; rw [Int.add_mul]; omega
      omega
    · exact (Int.le_ediv_iff_mul_le hy).2 h0
  refine ⟨e, ?_⟩
  have := Int.emod_add_mul_ediv N y
  rw [e, Int.mul_comm y q] at this; omega
theorem quot_mul (N y : Int) (hy : 0 < y) : N / y * y ≤ N ∧ N < N / y * y + y := by
  have := Int.emod_add_mul_ediv N y
  have h1 := Int.emod_nonneg N (by omega : y ≠ 0)
  have h2 := Int.emod_lt_of_pos N hy
  rw [Int.mul_comm y] at this; omega
/-- A try that is too great: one less is still no less than the digit. -/
theorem try_high (U a b u q r : Int) (hy : 0 < a * 4294967296 + b) (e : q * a + r = U) (h : 4294967296 * r + u < q * b) : (U * 4294967296 + u) / (a * 4294967296 + b) < q := by
  rw [Int.ediv_lt_iff_lt_mul hy, try_eq U a b u q r e]; omega
/-- A try that is not too great is the digit. -/
theorem try_low (U a b u q r : Int) (hy : 0 < a * 4294967296 + b) (e : q * a + r = U) (h : q * b ≤ 4294967296 * r + u) : q ≤ (U * 4294967296 + u) / (a * 4294967296 + b) := by
  rw [Int.le_ediv_iff_mul_le hy, try_eq U a b u q r e]; omega
/-- The digit is a digit. -/
theorem dig_lt (U y u : Int) (h : U < y) (hu : u < 4294967296) (hy : 0 < y) : (U * 4294967296 + u) / y < 4294967296 := by
  rw [Int.ediv_lt_iff_lt_mul hy]; omega
theorem dig_nonneg (U y u : Int) (h : 0 ≤ U) (hu : 0 ≤ u) (hy : 0 < y) : 0 ≤ (U * 4294967296 + u) / y := Int.ediv_nonneg (by omega) (by omega)
/-- The first try: by the divisor's higher half alone. -/
theorem try_first (U a b u : Int) (ha : 2147483648 ≤ a) (hb : 0 ≤ b) (hU : 0 ≤ U) (hb1 : b < 4294967296) (hu : 0 ≤ u) (hu1 : u < 4294967296) (h : U < a * 4294967296 + b) :
    (U * 4294967296 + u) / (a * 4294967296 + b) ≤ U / a ∧ U / a ≤ 4294967297 ∧ 0 ≤ U / a ∧ U / a * a + (U - U / a * a) = U ∧ 0 ≤ U - U / a * a ∧ U - U / a * a < a := by
  have m := quot_mul U a (by omega)
  refine ⟨?_, ?_, Int.ediv_nonneg hU (by omega), by omega, by omega, by omega⟩
  · have : (U * 4294967296 + u) / (a * 4294967296 + b) < U / a + 1 := by
      rw [Int.ediv_lt_iff_lt_mul (by omega), Int.add_mul, Int.one_mul]
      have := try_eq U a b u (U / a) (U - U / a * a) (by omega)
      have p : 0 ≤ U / a * b := Int.mul_nonneg (Int.ediv_nonneg hU (by omega)) hb
      omega
    omega
  · have : U / a < 4294967298 := by rw [Int.ediv_lt_iff_lt_mul (by omega)]; omega
    omega
theorem sub_one_mul (q a : Int) : (q - 1) * a = q * a - a := by rw [Int.sub_mul, Int.one_mul]
theorem mul_top (q b : Int) (h0 : 0 ≤ q) (h1 : q ≤ 4294967296) (hb : 0 ≤ b) (hb1 : b ≤ 4294967295) : 0 ≤ q * b ∧ q * b ≤ 18446744069414584320 := by
  refine ⟨Int.mul_nonneg h0 hb, ?_⟩
  have := Int.mul_le_mul h1 hb1 hb (by omega : (0 : Int) ≤ 4294967296)
  simpa using this
/-- One digit's facts at once, behind one name: Q is the digit of (U, u) by a * 2^32 + b. -/
def Dig (U a b u Q : Int) : Prop := Q = (U * 4294967296 + u) / (a * 4294967296 + b)
structure Halves (U a b u : Int) : Prop where
  a0 : 2147483648 ≤ a
  a1 : a ≤ 4294967295
  b0 : 0 ≤ b
  b1 : b ≤ 4294967295
  u0 : 0 ≤ u
  u1 : u ≤ 4294967295
  U0 : 0 ≤ U
  U1 : U < a * 4294967296 + b
theorem dig_bd {U a b u Q : Int} (H : Halves U a b u) (hQ : Dig U a b u Q) : 0 ≤ Q ∧ Q ≤ 4294967295 := by
  obtain ⟨a0, a1, b0, b1, u0, u1, U0, U1⟩ := H
  have h1 := dig_lt U (a * 4294967296 + b) u U1 (by omega) (by omega)
  have h2 := dig_nonneg U (a * 4294967296 + b) u U0 u0 (by omega)
  unfold Dig at hQ; omega
theorem dig_first {U a b u Q : Int} (H : Halves U a b u) (hQ : Dig U a b u Q) : Q ≤ U / a ∧ U / a ≤ 4294967297 ∧ 0 ≤ U / a ∧ U / a * a + (U - U / a * a) = U ∧ 0 ≤ U - U / a * a ∧ U - U / a * a < a := by
  obtain ⟨a0, a1, b0, b1, u0, u1, U0, U1⟩ := H
  have h := try_first U a b u a0 b0 U0 (by omega) u0 (by omega) U1
  unfold Dig at hQ; rw [hQ]; exact h
theorem dig_more {U a b u Q q r : Int} (H : Halves U a b u) (hQ : Dig U a b u Q) (e : q * a + r = U) (h : 4294967296 ≤ q ∨ 4294967296 * r + u < q * b) : Q ≤ q - 1 := by
  have bd := dig_bd H hQ
  rcases h with h | h
  · omega
  · have := try_high U a b u q r (by have := H.a0; have := H.b0; omega) e h
    unfold Dig at hQ; omega
theorem dig_done {U a b u Q q r : Int} (H : Halves U a b u) (hQ : Dig U a b u Q) (e : q * a + r = U) (h : q * b ≤ 4294967296 * r + u) : q ≤ Q := by
  have := try_low U a b u q r (by have := H.a0; have := H.b0; omega) e h
  unfold Dig at hQ; omega
theorem dig_out {U a b u Q q r : Int} (H : Halves U a b u) (hQ : Dig U a b u Q) (e : q * a + r = U) (h : 4294967296 ≤ r) (q0 : 0 ≤ q) (q1 : q ≤ 4294967296) : q ≤ Q := by
  have := mul_top q b q0 q1 H.b0 H.b1
  have := H.u0
  exact dig_done H hQ e (by omega)
theorem dig_rest {U a b u Q : Int} (H : Halves U a b u) (hQ : Dig U a b u Q) : 0 ≤ U * 4294967296 + u - Q * (a * 4294967296 + b) ∧ U * 4294967296 + u - Q * (a * 4294967296 + b) < a * 4294967296 + b := by
  have := quot_mul (U * 4294967296 + u) (a * 4294967296 + b) (by have := H.a0; have := H.b0; omega)
  unfold Dig at hQ; rw [← hQ] at this; omega
theorem step_eq {q a r U : Int} (e : q * a + r = U) : (q - 1) * a + (r + a) = U := by rw [sub_one_mul]; omega
/-- Both digits together. -/
theorem two_digits (U u1 u0 y q1 : Int) (hy : 0 < y) :
    (U * 18446744073709551616 + u1 * 4294967296 + u0) / y = q1 * 4294967296 + ((U * 4294967296 + u1 - q1 * y) * 4294967296 + u0) / y ∧
    (U * 18446744073709551616 + u1 * 4294967296 + u0) % y = ((U * 4294967296 + u1 - q1 * y) * 4294967296 + u0) % y := by
  have e : U * 18446744073709551616 + u1 * 4294967296 + u0 = ((U * 4294967296 + u1 - q1 * y) * 4294967296 + u0) + (q1 * 4294967296) * y := by grind
  rw [e, Int.add_mul_ediv_right _ _ (by omega), Int.add_mul_emod_self_right]
  omega

/-- The divisor moved up till its highest bit stands: by how much. -/
theorem lead_nat (n : Nat) (h0 : 0 < n) (h1 : n < 2 ^ 64) : ∃ s : Nat, s ≤ 63 ∧ 64 = s + Lib.bitLen n ∧ 2 ^ 63 ≤ n * 2 ^ s ∧ n * 2 ^ s < 2 ^ 64 := by
  have a := Nat.log2_self_le (by omega : n ≠ 0)
  have b : n < 2 ^ (n.log2 + 1) := Nat.lt_log2_self
  have kk : n.log2 < 64 := (Nat.log2_lt (by omega)).2 h1
  generalize n.log2 = k at *
  have e : n / 2 ^ k = 1 := by
    apply Nat.div_eq_of_lt_le
    · simpa using a
    · rw [Nat.pow_succ] at b; omega
  have l := Lib.bitLen_shift k n a h1
  rw [e, show Lib.bitLen 1 = 1 from by decide +kernel] at l
  refine ⟨63 - k, by omega, by omega, ?_, ?_⟩
  · calc 2 ^ 63 = 2 ^ k * 2 ^ (63 - k) := by rw [← Nat.pow_add]; congr 1; omega
      _ ≤ _ := Nat.mul_le_mul_right _ a
  · calc n * 2 ^ (63 - k) < 2 ^ (k + 1) * 2 ^ (63 - k) := Nat.mul_lt_mul_of_pos_right b (Nat.two_pow_pos _)
      _ = 2 ^ 64 := by rw [← Nat.pow_add]; congr 1; omega
theorem cast_up (n s : Nat) : (n : Int) * 2 ^ s = ((n * 2 ^ s : Nat) : Int) := by rw [Int.natCast_mul, Int.natCast_pow]; rfl
theorem lead (y : Int) (h0 : 0 < y) (h1 : y ≤ 18446744073709551615) : ∃ s : Nat, s ≤ 63 ∧ (64 - (Lib.bitLen y.toNat : Nat) : Int) = (s : Int) ∧ 9223372036854775808 ≤ y * 2 ^ s ∧ y * 2 ^ s ≤ 18446744073709551615 := by
  obtain ⟨n, rfl⟩ := Int.eq_ofNat_of_zero_le (by omega : 0 ≤ y)
  obtain ⟨s, a, b, c, d⟩ := lead_nat n (by omega) (by omega)
  refine ⟨s, a, by rw [Int.toNat_natCast]; omega, ?_, ?_⟩
  · rw [cast_up]; omega
  · rw [cast_up]; omega
theorem or_up (x r : Int) (s : Nat) (hx0 : 0 ≤ x) (hx : x * 2 ^ s ≤ 18446744073709551615) (hr0 : 0 ≤ r) (hr : r < 2 ^ s) (hs : s ≤ 63) : bits .or .u64 (x * 2 ^ s) r = x * 2 ^ s + r := by
  obtain ⟨n, rfl⟩ := Int.eq_ofNat_of_zero_le hx0
  obtain ⟨k, rfl⟩ := Int.eq_ofNat_of_zero_le hr0
  have hk : k < 2 ^ s := by exact_mod_cast hr
  rw [cast_up] at hx ⊢
  have hn : n * 2 ^ s ≤ 18446744073709551615 := by omega
  have hk2 : k < 18446744073709551616 := Nat.lt_of_lt_of_le hk (Nat.pow_le_pow_right (by omega) (by omega) : 2 ^ s ≤ 2 ^ 64)
  have h := bits_or_u64_nat (n * 2 ^ s) k (by omega) hk2
  rw [Nat.mul_comm, ← Nat.two_pow_add_eq_or_of_lt hk] at h
  rw [Nat.mul_comm n, h]; omega
/-- Both words moved up by s bits: what comes in at the lower end. -/
theorem up_low (lo P Q : Int) (hP : 0 < P) (hQ : 0 < Q) (e : P * Q = 18446744073709551616) (l0 : 0 ≤ lo) (l1 : lo ≤ 18446744073709551615) :
    lo * P % 18446744073709551616 = lo * P - lo / Q * 18446744073709551616 ∧ 0 ≤ lo / Q ∧ lo / Q < P := by
  have m := quot_mul lo Q hQ
  refine ⟨?_, Int.ediv_nonneg l0 (by omega), ?_⟩
  · have h := (quot_of (lo * P) 18446744073709551616 (lo / Q) (by omega) ?_ ?_)
    · rw [h.2]
    · rw [← e, Int.mul_comm P Q, ← Int.mul_assoc]; exact Int.mul_le_mul_of_nonneg_right m.1 (by omega)
    · rw [← e, Int.mul_comm P Q, ← Int.mul_assoc, ← Int.add_mul]; exact Int.mul_lt_mul_of_pos_right m.2 hP
  · rw [Int.ediv_lt_iff_lt_mul hQ, e]; omega
theorem two_pow_split (s : Nat) (hs : s ≤ 63) : (2 : Int) ^ s * 2 ^ (64 - s) = 18446744073709551616 := by
  rw [← Int.pow_add, show s + (64 - s) = 64 from by omega]; rfl
theorem two_pow_pos (s : Nat) : (0 : Int) < 2 ^ s := Int.pow_pos (by omega)
/-- What was moved up is moved back. -/
theorem down (N y P : Int) (hP : 0 < P) : N * P / (y * P) = N / y ∧ N * P % (y * P) / P = N % y := by
  have h := Int.mul_emod_mul_of_pos N y hP
  rw [Int.mul_comm P N, Int.mul_comm P y, Int.mul_comm P] at h
  rw [Int.mul_ediv_mul_of_pos_left _ _ hP, h, Int.mul_ediv_cancel _ (by omega)]
  exact ⟨rfl, rfl⟩
/-- What the machine's words come to: sums and products are taken modulo 2^64. -/
theorem mod_sub (x z : Int) (h0 : 0 ≤ x - z) (h1 : x - z ≤ 18446744073709551615) (t u : Int) (e : x = t * 4294967296 + u) :
    IntKind.u64.wrap (IntKind.u64.wrap (IntKind.u64.wrap (t * 4294967296) + u) - IntKind.u64.wrap z) = x - z := by
  simp only [IntKind.wrap_u64]; omega
theorem both (hi lo y P U a b u1 u0 Q1 V Q0 : Int) (hP : 0 < P) (yy : y * P = a * 4294967296 + b) (nn : (hi * 18446744073709551616 + lo) * P = U * 18446744073709551616 + u1 * 4294967296 + u0)
    (H : Halves V a b u0) (h1 : V = U * 4294967296 + u1 - Q1 * (a * 4294967296 + b)) (h0 : Dig V a b u0 Q0) :
    (hi * 18446744073709551616 + lo) / y = Q1 * 4294967296 + Q0 ∧ (hi * 18446744073709551616 + lo) % y = (V * 4294967296 + u0 - Q0 * (a * 4294967296 + b)) / P := by
  have hy : 0 < a * 4294967296 + b := by have := H.a0; have := H.b0; omega
  have d := down (hi * 18446744073709551616 + lo) y P hP
  rw [yy, nn] at d
  have t := two_digits U u1 u0 (a * 4294967296 + b) Q1 hy
  rw [← h1] at t
  have q := quot_of (V * 4294967296 + u0) (a * 4294967296 + b) Q0 hy (by have := dig_rest H h0; omega) (by have := dig_rest H h0; omega)
  rw [← d.1, ← d.2, t.1, t.2, q.1, q.2]
  exact ⟨rfl, rfl⟩
end Go.Proofs.Ytldcocckfemgbaa.Bits
