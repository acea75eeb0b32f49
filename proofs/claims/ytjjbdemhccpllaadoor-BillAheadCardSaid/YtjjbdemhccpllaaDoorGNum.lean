/- What bits.Len64 and bits.LeadingZeros64 answer, at every uint64: the number of bits of x, and 64 less that. Plain numbers: one digit of the schoolbook division of 128 bits by 64, in halves of 32 bits; bits shifted out and in. What bits.Mul64 and bits.Div64 answer, at every input. What money's Good, Mul, Div and MulDiv answer, at every input. Plain numbers of the document's own answers in layer 1: a product by halves, a quotient bit by bit. What the document's own answers in layer 1 come to: Good, Mul, Div, MulDiv. What money.MulDiv answers, at every input. What the document's own MulDiv of layer 1 comes to, at every input. Plain numbers of rounding: how Down, Even and Up stand to each other, to more, and to a greater divisor. The examples that every law of layer 1 asks beside its own sentence. -/
import Derived.Test.YtjjbdemhccpllaaDoorChecked
import Derived.WalkKit
import Derived.ProofKit
import Derived.IntWalk
import Derived.Lib.BitFns
import Derived.Outline
import Derived.Laws.Bits64b
import Derived.BigQuiet
import Derived.Deep.QuietTactic
import Derived.Deep.DeepCutAuto
import Derived.Deep.CutBlock
import Derived.Laws.MathBits
import Derived.Lib.Hide
import Derived.Handy
import Derived.WalkSmall
namespace Go.Proofs.YtjjbdemhccpllaaDoor.Bits
open Go.ChangeShapes Go.WideShapes Go.ChangeAt Go.RowKit

theorem ret_int {k : IntKind} {a b : Int} (h : a = b) : Ending.returned (.int k a) = .returned (.int k b) := by rw [h]
theorem tab_fin : ∀ n : Fin 256, (Lib.len8tab[n.val]'(by rw [Lib.len8tab_size]; exact n.isLt)).toNat = Lib.bitLen n.val := by decide +kernel
theorem tab_eq (i : Nat) (h : i < Lib.len8tab.size) : (Lib.len8tab[i]'h).toNat = Lib.bitLen i := tab_fin ⟨i, by rw [← Lib.len8tab_size]; exact h⟩
theorem len_at (x : Int) (k i : Nat) (h : 2 ^ k ≤ x.toNat) (hx : x.toNat < 2 ^ 64) (hi : i = x.toNat / 2 ^ k) (h8 : i < 256) (hk : k ≤ 56) :
    wrap64 ((k : Int) + wrap64 (Lib.bitLen i : Nat)) = (Lib.bitLen x.toNat : Nat) := by
  have l := Lib.bitLen_le8 ⟨i, h8⟩
  rw [Lib.bitLen_shift k x.toNat h hx, ← hi]
  simp only at l
  unfold wrap64; omega
theorem len_low (x : Int) (h0 : 0 ≤ x) (h : x < 256) : wrap64 (wrap64 (Lib.bitLen x.toNat : Nat)) = (Lib.bitLen x.toNat : Nat) := by
  have l := Lib.bitLen_le8 ⟨x.toNat, by omega⟩
  simp only at l
  unfold wrap64; omega

end Go.Proofs.YtjjbdemhccpllaaDoor.Bits
namespace Go.Proofs.YtjjbdemhccpllaaDoor.Bits

/-- What a try q at a digit is: U is what is left, the divisor is a * 2^32 + b. -/
theorem try_eq (U a b u q r : Int) (e : q * a + r = U) : q * (a * 4294967296 + b) = (U * 4294967296 + u) + (q * b - (4294967296 * r + u)) := by
  subst e; grind
theorem quot_of (N y q : Int) (hy : 0 < y) (h0 : q * y ≤ N) (h1 : N < q * y + y) : N / y = q ∧ N % y = N - q * y := by
  have e : N / y = q := by
    apply Int.le_antisymm
    · have : N / y < q + 1 := by rw [Int.ediv_lt_iff_lt_mul hy]; rw [Int.add_mul]; omega
      omega
    · exact (Int.le_ediv_iff_mul_le hy).2 h0
  refine ⟨e, ?_⟩
  have := Int.emod_add_mul_ediv N y
  rw [e, Int.mul_comm y q] at this; omega
theorem quot_mul (N y : Int) (hy : 0 < y) : N / y * y ≤ N ∧ N < N / y * y + y := by
  have := Int.emod_add_mul_ediv N y
  have h1 := Int.emod_nonneg N (by omega : y ≠ 0)
  have h2 := Int.emod_lt_of_pos N hy
  rw [Int.mul_comm y] at this; omega
/-- A try that is too great: one less is still no less than the digit. -/
theorem try_high (U a b u q r : Int) (hy : 0 < a * 4294967296 + b) (e : q * a + r = U) (h : 4294967296 * r + u < q * b) : (U * 4294967296 + u) / (a * 4294967296 + b) < q := by
  rw [Int.ediv_lt_iff_lt_mul hy, try_eq U a b u q r e]; omega
/-- A try that is not too great is the digit. -/
theorem try_low (U a b u q r : Int) (hy : 0 < a * 4294967296 + b) (e : q * a + r = U) (h : q * b ≤ 4294967296 * r + u) : q ≤ (U * 4294967296 + u) / (a * 4294967296 + b) := by
  rw [Int.le_ediv_iff_mul_le hy, try_eq U a b u q r e]; omega
/-- The digit is a digit. -/
theorem dig_lt (U y u : Int) (h : U < y) (hu : u < 4294967296) (hy : 0 < y) : (U * 4294967296 + u) / y < 4294967296 := by
  rw [Int.ediv_lt_iff_lt_mul hy]; omega
theorem dig_nonneg (U y u : Int) (h : 0 ≤ U) (hu : 0 ≤ u) (hy : 0 < y) : 0 ≤ (U * 4294967296 + u) / y := Int.ediv_nonneg (by omega) (by omega)
/-- The first try: by the divisor's higher half alone. -/
theorem try_first (U a b u : Int) (ha : 2147483648 ≤ a) (hb : 0 ≤ b) (hU : 0 ≤ U) (hb1 : b < 4294967296) (hu : 0 ≤ u) (hu1 : u < 4294967296) (h : U < a * 4294967296 + b) :
    (U * 4294967296 + u) / (a * 4294967296 + b) ≤ U / a ∧ U / a ≤ 4294967297 ∧ 0 ≤ U / a ∧ U / a * a + (U - U / a * a) = U ∧ 0 ≤ U - U / a * a ∧ U - U / a * a < a := by
  have m := quot_mul U a (by omega)
  refine ⟨?_, ?_, Int.ediv_nonneg hU (by omega), by omega, by omega, by omega⟩
  · have : (U * 4294967296 + u) / (a * 4294967296 + b) < U / a + 1 := by
      rw [Int.ediv_lt_iff_lt_mul (by omega), Int.add_mul, Int.one_mul]
      have := try_eq U a b u (U / a) (U - U / a * a) (by omega)
      have p : 0 ≤ U / a * b := Int.mul_nonneg (Int.ediv_nonneg hU (by omega)) hb
      omega
    omega
  · have : U / a < 4294967298 := by rw [Int.ediv_lt_iff_lt_mul (by omega)]; omega
    omega
theorem sub_one_mul (q a : Int) : (q - 1) * a = q * a - a := by rw [Int.sub_mul, Int.one_mul]
theorem mul_top (q b : Int) (h0 : 0 ≤ q) (h1 : q ≤ 4294967296) (hb : 0 ≤ b) (hb1 : b ≤ 4294967295) : 0 ≤ q * b ∧ q * b ≤ 18446744069414584320 := by
  refine ⟨Int.mul_nonneg h0 hb, ?_⟩
  have := Int.mul_le_mul h1 hb1 hb (by omega : (0 : Int) ≤ 4294967296)
  simpa using this
/-- One digit's facts at once, behind one name: Q is the digit of (U, u) by a * 2^32 + b. -/
def Dig (U a b u Q : Int) : Prop := Q = (U * 4294967296 + u) / (a * 4294967296 + b)
structure Halves (U a b u : Int) : Prop where
  a0 : 2147483648 ≤ a
  a1 : a ≤ 4294967295
  b0 : 0 ≤ b
  b1 : b ≤ 4294967295
  u0 : 0 ≤ u
  u1 : u ≤ 4294967295
  U0 : 0 ≤ U
  U1 : U < a * 4294967296 + b
theorem dig_bd {U a b u Q : Int} (H : Halves U a b u) (hQ : Dig U a b u Q) : 0 ≤ Q ∧ Q ≤ 4294967295 := by
  obtain ⟨a0, a1, b0, b1, u0, u1, U0, U1⟩ := H
  have h1 := dig_lt U (a * 4294967296 + b) u U1 (by omega) (by omega)
  have h2 := dig_nonneg U (a * 4294967296 + b) u U0 u0 (by omega)
  unfold Dig at hQ; omega
theorem dig_first {U a b u Q : Int} (H : Halves U a b u) (hQ : Dig U a b u Q) : Q ≤ U / a ∧ U / a ≤ 4294967297 ∧ 0 ≤ U / a ∧ U / a * a + (U - U / a * a) = U ∧ 0 ≤ U - U / a * a ∧ U - U / a * a < a := by
  obtain ⟨a0, a1, b0, b1, u0, u1, U0, U1⟩ := H
  have h := try_first U a b u a0 b0 U0 (by omega) u0 (by omega) U1
  unfold Dig at hQ; rw [hQ]; exact h
theorem dig_more {U a b u Q q r : Int} (H : Halves U a b u) (hQ : Dig U a b u Q) (e : q * a + r = U) (h : 4294967296 ≤ q ∨ 4294967296 * r + u < q * b) : Q ≤ q - 1 := by
  have bd := dig_bd H hQ
  rcases h with h | h
  · omega
  · have := try_high U a b u q r (by have := H.a0; have := H.b0; omega) e h
    unfold Dig at hQ; omega
theorem dig_done {U a b u Q q r : Int} (H : Halves U a b u) (hQ : Dig U a b u Q) (e : q * a + r = U) (h : q * b ≤ 4294967296 * r + u) : q ≤ Q := by
  have := try_low U a b u q r (by have := H.a0; have := H.b0; omega) e h
  unfold Dig at hQ; omega
theorem dig_out {U a b u Q q r : Int} (H : Halves U a b u) (hQ : Dig U a b u Q) (e : q * a + r = U) (h : 4294967296 ≤ r) (q0 : 0 ≤ q) (q1 : q ≤ 4294967296) : q ≤ Q := by
  have := mul_top q b q0 q1 H.b0 H.b1
  have := H.u0
  exact dig_done H hQ e (by omega)
theorem dig_rest {U a b u Q : Int} (H : Halves U a b u) (hQ : Dig U a b u Q) : 0 ≤ U * 4294967296 + u - Q * (a * 4294967296 + b) ∧ U * 4294967296 + u - Q * (a * 4294967296 + b) < a * 4294967296 + b := by
  have := quot_mul (U * 4294967296 + u) (a * 4294967296 + b) (by have := H.a0; have := H.b0; omega)
  unfold Dig at hQ; rw [← hQ] at this; omega
theorem step_eq {q a r U : Int} (e : q * a + r = U) : (q - 1) * a + (r + a) = U := by rw [sub_one_mul]; omega
/-- Both digits together. -/
theorem two_digits (U u1 u0 y q1 : Int) (hy : 0 < y) :
    (U * 18446744073709551616 + u1 * 4294967296 + u0) / y = q1 * 4294967296 + ((U * 4294967296 + u1 - q1 * y) * 4294967296 + u0) / y ∧
    (U * 18446744073709551616 + u1 * 4294967296 + u0) % y = ((U * 4294967296 + u1 - q1 * y) * 4294967296 + u0) % y := by
  have e : U * 18446744073709551616 + u1 * 4294967296 + u0 = ((U * 4294967296 + u1 - q1 * y) * 4294967296 + u0) + (q1 * 4294967296) * y := by grind
  rw [e, Int.add_mul_ediv_right _ _ (by omega), Int.add_mul_emod_self_right]
  omega

/-- The divisor moved up till its highest bit stands: by how much. -/
theorem lead_nat (n : Nat) (h0 : 0 < n) (h1 : n < 2 ^ 64) : ∃ s : Nat, s ≤ 63 ∧ 64 = s + Lib.bitLen n ∧ 2 ^ 63 ≤ n * 2 ^ s ∧ n * 2 ^ s < 2 ^ 64 := by
  have a := Nat.log2_self_le (by omega : n ≠ 0)
  have b : n < 2 ^ (n.log2 + 1) := Nat.lt_log2_self
  have kk : n.log2 < 64 := (Nat.log2_lt (by omega)).2 h1
  generalize n.log2 = k at *
  have e : n / 2 ^ k = 1 := by
    apply Nat.div_eq_of_lt_le
    · simpa using a
    · rw [Nat.pow_succ] at b; omega
  have l := Lib.bitLen_shift k n a h1
  rw [e, show Lib.bitLen 1 = 1 from by decide +kernel] at l
  refine ⟨63 - k, by omega, by omega, ?_, ?_⟩
  · calc 2 ^ 63 = 2 ^ k * 2 ^ (63 - k) := by rw [← Nat.pow_add]; congr 1; omega
      _ ≤ _ := Nat.mul_le_mul_right _ a
  · calc n * 2 ^ (63 - k) < 2 ^ (k + 1) * 2 ^ (63 - k) := Nat.mul_lt_mul_of_pos_right b (Nat.two_pow_pos _)
      _ = 2 ^ 64 := by rw [← Nat.pow_add]; congr 1; omega
theorem cast_up (n s : Nat) : (n : Int) * 2 ^ s = ((n * 2 ^ s : Nat) : Int) := by rw [Int.natCast_mul, Int.natCast_pow]; rfl
theorem lead (y : Int) (h0 : 0 < y) (h1 : y ≤ 18446744073709551615) : ∃ s : Nat, s ≤ 63 ∧ (64 - (Lib.bitLen y.toNat : Nat) : Int) = (s : Int) ∧ 9223372036854775808 ≤ y * 2 ^ s ∧ y * 2 ^ s ≤ 18446744073709551615 := by
  obtain ⟨n, rfl⟩ := Int.eq_ofNat_of_zero_le (by omega : 0 ≤ y)
  obtain ⟨s, a, b, c, d⟩ := lead_nat n (by omega) (by omega)
  refine ⟨s, a, by rw [Int.toNat_natCast]; omega, ?_, ?_⟩
  · rw [cast_up]; omega
  · rw [cast_up]; omega
theorem or_up (x r : Int) (s : Nat) (hx0 : 0 ≤ x) (hx : x * 2 ^ s ≤ 18446744073709551615) (hr0 : 0 ≤ r) (hr : r < 2 ^ s) (hs : s ≤ 63) : bits .or .u64 (x * 2 ^ s) r = x * 2 ^ s + r := by
  obtain ⟨n, rfl⟩ := Int.eq_ofNat_of_zero_le hx0
  obtain ⟨k, rfl⟩ := Int.eq_ofNat_of_zero_le hr0
  have hk : k < 2 ^ s := by exact_mod_cast hr
  rw [cast_up] at hx ⊢
  have hn : n * 2 ^ s ≤ 18446744073709551615 := by omega
  have hk2 : k < 18446744073709551616 := Nat.lt_of_lt_of_le hk (Nat.pow_le_pow_right (by omega) (by omega) : 2 ^ s ≤ 2 ^ 64)
  have h := bits_or_u64_nat (n * 2 ^ s) k (by omega) hk2
  rw [Nat.mul_comm, ← Nat.two_pow_add_eq_or_of_lt hk] at h
  rw [Nat.mul_comm n, h]; omega
/-- Both words moved up by s bits: what comes in at the lower end. -/
theorem up_low (lo P Q : Int) (hP : 0 < P) (hQ : 0 < Q) (e : P * Q = 18446744073709551616) (l0 : 0 ≤ lo) (l1 : lo ≤ 18446744073709551615) :
    lo * P % 18446744073709551616 = lo * P - lo / Q * 18446744073709551616 ∧ 0 ≤ lo / Q ∧ lo / Q < P := by
  have m := quot_mul lo Q hQ
  refine ⟨?_, Int.ediv_nonneg l0 (by omega), ?_⟩
  · have h := (quot_of (lo * P) 18446744073709551616 (lo / Q) (by omega) ?_ ?_)
    · rw [h.2]
    · rw [← e, Int.mul_comm P Q, ← Int.mul_assoc]; exact Int.mul_le_mul_of_nonneg_right m.1 (by omega)
    · rw [← e, Int.mul_comm P Q, ← Int.mul_assoc, ← Int.add_mul]; exact Int.mul_lt_mul_of_pos_right m.2 hP
  · rw [Int.ediv_lt_iff_lt_mul hQ, e]; omega
theorem two_pow_split (s : Nat) (hs : s ≤ 63) : (2 : Int) ^ s * 2 ^ (64 - s) = 18446744073709551616 := by
  rw [← Int.pow_add, show s + (64 - s) = 64 from by omega]; rfl
theorem two_pow_pos (s : Nat) : (0 : Int) < 2 ^ s := Int.pow_pos (by omega)
/-- What was moved up is moved back. -/
theorem down (N y P : Int) (hP : 0 < P) : N * P / (y * P) = N / y ∧ N * P % (y * P) / P = N % y := by
  have h := Int.mul_emod_mul_of_pos N y hP
  rw [Int.mul_comm P N, Int.mul_comm P y, Int.mul_comm P] at h
  rw [Int.mul_ediv_mul_of_pos_left _ _ hP, h, Int.mul_ediv_cancel _ (by omega)]
  exact ⟨rfl, rfl⟩
/-- What the machine's words come to: sums and products are taken modulo 2^64. -/
theorem mod_sub (x z : Int) (h0 : 0 ≤ x - z) (h1 : x - z ≤ 18446744073709551615) (t u : Int) (e : x = t * 4294967296 + u) :
    IntKind.u64.wrap (IntKind.u64.wrap (IntKind.u64.wrap (t * 4294967296) + u) - IntKind.u64.wrap z) = x - z := by
  simp only [IntKind.wrap_u64]; omega
theorem both (hi lo y P U a b u1 u0 Q1 V Q0 : Int) (hP : 0 < P) (yy : y * P = a * 4294967296 + b) (nn : (hi * 18446744073709551616 + lo) * P = U * 18446744073709551616 + u1 * 4294967296 + u0)
    (H : Halves V a b u0) (h1 : V = U * 4294967296 + u1 - Q1 * (a * 4294967296 + b)) (h0 : Dig V a b u0 Q0) :
    (hi * 18446744073709551616 + lo) / y = Q1 * 4294967296 + Q0 ∧ (hi * 18446744073709551616 + lo) % y = (V * 4294967296 + u0 - Q0 * (a * 4294967296 + b)) / P := by
  have hy : 0 < a * 4294967296 + b := by have := H.a0; have := H.b0; omega
  have d := down (hi * 18446744073709551616 + lo) y P hP
  rw [yy, nn] at d
  have t := two_digits U u1 u0 (a * 4294967296 + b) Q1 hy
  rw [← h1] at t
  have q := quot_of (V * 4294967296 + u0) (a * 4294967296 + b) Q0 hy (by have := dig_rest H h0; omega) (by have := dig_rest H h0; omega)
  rw [← d.1, ← d.2, t.1, t.2, q.1, q.2]
  exact ⟨rfl, rfl⟩
end Go.Proofs.YtjjbdemhccpllaaDoor.Bits
namespace Go.Proofs.YtjjbdemhccpllaaDoor.Bits
open Go.ChangeShapes Go.WideShapes Go.ChangeAt Go.RowKit

theorem ret_two {j k : IntKind} {a b c d : Int} (h1 : a = c) (h2 : b = d) : Ending.returned (.tuple #[.int j a, .int k b]) = .returned (.tuple #[.int j c, .int k d]) := by rw [h1, h2]

/-- What stands behind the first part: the two words moved up. -/
structure Moved (hi lo y : Int) (s : Nat) (U a b u1 u0 : Int) : Prop where
  yy : y * 2 ^ s = a * 4294967296 + b
  nn : (hi * 18446744073709551616 + lo) * 2 ^ s = U * 18446744073709551616 + u1 * 4294967296 + u0

def MovedSlots (hi lo y : Int) (s : Nat) (w : World) (s2 s9 s10 s11 s13 s14 : Value) (wx : World) : Prop :=
  ∃ U a b u1 u0 : Int, Halves U a b u1 ∧ 0 ≤ u0 ∧ u0 ≤ 4294967295 ∧ Moved hi lo y s U a b u1 u0 ∧ s2 = .int .u64 (a * 4294967296 + b) ∧ s9 = .int .u64 a ∧ s10 = .int .u64 b ∧ s11 = .int .u64 U ∧ s13 = .int .u64 u1 ∧ s14 = .int .u64 u0 ∧ wx = w

theorem moved (hi lo y : Int) (s : Nat) (w : World) (h0 : 0 < hi) (h1 : hi < y) (l0 : 0 ≤ lo) (l1 : lo ≤ 18446744073709551615) (s1 : s ≤ 63) (n1 : 9223372036854775808 ≤ y * 2 ^ s) (n2 : y * 2 ^ s ≤ 18446744073709551615) :
    MovedSlots hi lo y s w (.int .u64 (y * 2 ^ s)) (.int .u64 (y * 2 ^ s / 4294967296)) (.int .u64 (bits BinOp.and IntKind.u64 (y * 2 ^ s) 4294967295)) (.int .u64 (bits BinOp.or IntKind.u64 (IntKind.u64.wrap (hi * 2 ^ s)) (lo / 2 ^ (64 - s)))) (.int .u64 (IntKind.u64.wrap (lo * 2 ^ s) / 4294967296)) (.int .u64 (bits BinOp.and IntKind.u64 (IntKind.u64.wrap (lo * 2 ^ s)) 4294967295)) w := by
  have p := two_pow_pos s
  have pq := two_pow_split s s1
  have ul := up_low lo (2 ^ s) (2 ^ (64 - s)) p (two_pow_pos _) pq l0 l1
  have hp : hi * 2 ^ s + 2 ^ s ≤ y * 2 ^ s := by
    have : (hi + 1) * 2 ^ s ≤ y * 2 ^ s := Int.mul_le_mul_of_nonneg_right (by omega) (by omega)
    rw [Int.add_mul, Int.one_mul] at this; exact this
  have hp0 : 0 ≤ hi * 2 ^ s := Int.mul_nonneg (by omega) (by omega)
  have e1 : IntKind.u64.wrap (hi * 2 ^ s) = hi * 2 ^ s := by rw [IntKind.wrap_u64]; omega
  have e2 := or_up hi (lo / 2 ^ (64 - s)) s (by omega) (by omega) ul.2.1 ul.2.2 s1
  have e3 : IntKind.u64.wrap (lo * 2 ^ s) = lo * 2 ^ s - lo / 2 ^ (64 - s) * 18446744073709551616 := by rw [IntKind.wrap_u64]; exact ul.1
  have e4 : 0 ≤ IntKind.u64.wrap (lo * 2 ^ s) ∧ IntKind.u64.wrap (lo * 2 ^ s) < 18446744073709551616 := by rw [IntKind.wrap_u64]; omega
  have f1 := and_low32 (y * 2 ^ s) (by omega) (by omega)
  have f2 := and_low32 (IntKind.u64.wrap (lo * 2 ^ s)) e4.1 e4.2
  rw [e1, e2, f1, f2]
  have nn : (hi * 18446744073709551616 + lo) * 2 ^ s = hi * 2 ^ s * 18446744073709551616 + lo * 2 ^ s := by grind
  generalize IntKind.u64.wrap (lo * 2 ^ s) = L at *
  refine ⟨hi * 2 ^ s + lo / 2 ^ (64 - s), y * 2 ^ s / 4294967296, y * 2 ^ s % 4294967296, L / 4294967296, L % 4294967296, ⟨?_, ?_, ?_, ?_, ?_, ?_, ?_, ?_⟩, ?_, ?_, ⟨?_, ?_⟩, ?_, rfl, rfl, rfl, rfl, rfl, rfl⟩ <;> first | omega | (rw [show y * 2 ^ s / 4294967296 * 4294967296 + y * 2 ^ s % 4294967296 = y * 2 ^ s from by omega]) | skip

theorem drewN_zero (w : World) : w = w.drewN 0 := rfl
end Go.Proofs.YtjjbdemhccpllaaDoor.Bits
namespace Go.Proofs.YtjjbdemhccpllaaDoor.Money
open Go.ChangeShapes Go.WideShapes Go.ChangeAt Go.RowKit Bits

theorem ret_three {j k : IntKind} {a b c d : Int} {e f : Bool} (h1 : a = c) (h2 : b = d) (h3 : e = f) : Ending.returned (.tuple #[.int j a, .int k b, .bool e]) = .returned (.tuple #[.int j c, .int k d, .bool f]) := by rw [h1, h2, h3]

def goodB (a : Int) : Bool := decide (-10000000000000 ≤ a ∧ a ≤ 10000000000000)
theorem goodB_iff (a : Int) : goodB a = true ↔ (-10000000000000 ≤ a ∧ a ≤ 10000000000000) := by unfold goodB; simp
theorem ret_bool {a b : Bool} (h : a = b) : Ending.returned (.bool a) = .returned (.bool b) := by rw [h]

theorem good_any (a : Int) (w : World) : Calls Tryd.prog 46 #[.int .i64 a] w fun e w' => e = .returned (.bool (goodB a)) ∧ w = w' := by
  by_cases h1 : -10000000000000 ≤ a
  · by_cases h2 : a ≤ 10000000000000
    · have H : Hid (goodB a = true) := (goodB_iff a).2 ⟨h1, h2⟩
      go_enter Tryd.func46, Tryd.ntmps46
      go_wp2
      go_ret
      exact ⟨ret_bool H.out.symm, rfl⟩
    · have H : Hid (goodB a = false) := by show goodB a = false; rw [Bool.eq_false_iff]; intro h; exact h2 ((goodB_iff a).1 h).2
      go_enter Tryd.func46, Tryd.ntmps46
      go_wp2
      go_ret
      exact ⟨ret_bool H.out.symm, rfl⟩
  · have H : Hid (goodB a = false) := by show goodB a = false; rw [Bool.eq_false_iff]; intro h; exact h1 ((goodB_iff a).1 h).1
    go_enter Tryd.func46, Tryd.ntmps46
    go_wp2
    go_ret
    exact ⟨ret_bool H.out.symm, rfl⟩

def risesB (q r c how : Int) : Bool := decide (how = 1 ∧ 0 < r ∨ how = 2 ∧ (c - r < r ∨ r = c - r ∧ q % 2 = 1))
theorem risesB_yes {q r c how : Int} (h : how = 1 ∧ 0 < r ∨ how = 2 ∧ (c - r < r ∨ r = c - r ∧ q % 2 = 1)) : risesB q r c how = true := by unfold risesB; simpa using h
theorem risesB_no {q r c how : Int} (h : ¬ (how = 1 ∧ 0 < r ∨ how = 2 ∧ (c - r < r ∨ r = c - r ∧ q % 2 = 1))) : risesB q r c how = false := by unfold risesB; simpa using h

end Go.Proofs.YtjjbdemhccpllaaDoor.Money
namespace Go.Proofs.YtjjbdemhccpllaaDoor.Ref

theorem mul_lo (x y : Int) :
    (((x % 4294967296 * (y / 4294967296)) % 18446744073709551616 +
      ((x / 4294967296 * (y % 4294967296)) % 18446744073709551616 + ((x % 4294967296 * (y % 4294967296)) % 18446744073709551616) / 4294967296) % 18446744073709551616 % 4294967296) % 18446744073709551616 * 4294967296 % 18446744073709551616 +
      (x % 4294967296 * (y % 4294967296)) % 18446744073709551616 % 4294967296) % 18446744073709551616 = x * y % 18446744073709551616 := by
  have ex : x = x / 4294967296 * 4294967296 + x % 4294967296 := by omega
  have ey : y = y / 4294967296 * 4294967296 + y % 4294967296 := by omega
  have hxy : x * y = (x / 4294967296 * 4294967296 + x % 4294967296) * (y / 4294967296 * 4294967296 + y % 4294967296) := by rw [← ex, ← ey]
  rw [split_mul] at hxy
  rw [hxy]
  generalize x / 4294967296 * (y / 4294967296) = A at *
  generalize x / 4294967296 * (y % 4294967296) = B at *
  generalize x % 4294967296 * (y % 4294967296) = C at *
  generalize x % 4294967296 * (y / 4294967296) = D at *
  omega

/-- What the quotient's loop keeps: the first bits of N are q times c, and r. -/
def Inv (N c t q r : Int) : Prop := N / 2 ^ (t + 1).toNat = q * c + r
theorem inv_start (hi lo c : Int) (l0 : 0 ≤ lo) (l1 : lo ≤ 18446744073709551615) : Inv (hi * 18446744073709551616 + lo) c 63 0 hi := by
  unfold Inv
  show (hi * 18446744073709551616 + lo) / 18446744073709551616 = 0 * c + hi
  omega
theorem bit_of (hi lo : Int) (m : Nat) (hm : m ≤ 63) : (hi * 18446744073709551616 + lo) / 2 ^ m = 2 * ((hi * 18446744073709551616 + lo) / 2 ^ (m + 1)) + lo / 2 ^ m % 2 := by
  have e : (hi * 18446744073709551616 + lo) / 2 ^ (m + 1) = (hi * 18446744073709551616 + lo) / 2 ^ m / 2 := by
    rw [Int.pow_succ, Int.ediv_ediv_of_nonneg (Int.le_of_lt (Bits.two_pow_pos m))]
  have e2 : (hi * 18446744073709551616 + lo) / 2 ^ m = hi * 2 ^ (64 - m) + lo / 2 ^ m := by
    have : hi * 18446744073709551616 = hi * 2 ^ (64 - m) * 2 ^ m := by
      rw [Int.mul_assoc, Int.mul_comm (2 ^ (64 - m)), Bits.two_pow_split m hm]
    have p := Bits.two_pow_pos m
    rw [this, Int.add_comm, Int.add_mul_ediv_right _ _ (by omega)]; omega
  have e3 : (2 : Int) ^ (64 - m) = 2 * 2 ^ (63 - m) := by rw [show 64 - m = (63 - m) + 1 from by omega, Int.pow_succ, Int.mul_comm]
  rw [e, e2, e3]
  have : hi * (2 * 2 ^ (63 - m)) = 2 * (hi * 2 ^ (63 - m)) := by grind
  rw [this]; omega
theorem quot_small (N c q r : Int) (m : Nat) (hc : 0 < c) (hN : N < c * 18446744073709551616) (r0 : 0 ≤ r) (h : N / 2 ^ (m + 1) = q * c + r) : q ≤ 9223372036854775807 := by
  have h1 : N / 2 ^ (m + 1) ≤ N / 2 ∨ N < 0 := by
    by_cases hn : N < 0
    · exact Or.inr hn
    · refine Or.inl ?_
      rw [Int.pow_succ, Int.mul_comm, ← Int.ediv_ediv_of_nonneg (by omega)]
      exact Int.ediv_le_self _ (by omega)
  have h2 : q * c < 9223372036854775808 * c := by
    rcases h1 with h1 | h1
    · omega
    · have : N / 2 ^ (m + 1) < 0 := Int.ediv_neg_of_neg_of_pos h1 (Bits.two_pow_pos _)
      omega
  have := Int.lt_of_mul_lt_mul_right h2 (by omega)
  omega
theorem step_less {q c r b : Int} : (2 : Int) * (q * c + r) + b = (q * 2) * c + (r * 2 + b) := by grind
theorem step_more {q c r b : Int} : (2 : Int) * (q * c + r) + b = (q * 2 + 1) * c + (r * 2 + b - c) := by grind
theorem inv_less {hi lo c q r : Int} {m : Nat} (hm : m ≤ 63) (h : Inv (hi * 18446744073709551616 + lo) c (m : Int) q r) : Inv (hi * 18446744073709551616 + lo) c ((m : Int) - 1) (q * 2) (r * 2 + lo / 2 ^ m % 2) := by
  unfold Inv at *
  rw [show ((m : Int) - 1 + 1).toNat = m from by omega, bit_of hi lo m hm]
  rw [show ((m : Int) + 1).toNat = m + 1 from by omega] at h
  rw [h]; exact step_less
theorem inv_more {hi lo c q r : Int} {m : Nat} (hm : m ≤ 63) (h : Inv (hi * 18446744073709551616 + lo) c (m : Int) q r) : Inv (hi * 18446744073709551616 + lo) c ((m : Int) - 1) (q * 2 + 1) (r * 2 + lo / 2 ^ m % 2 - c) := by
  unfold Inv at *
  rw [show ((m : Int) - 1 + 1).toNat = m from by omega, bit_of hi lo m hm]
  rw [show ((m : Int) + 1).toNat = m + 1 from by omega] at h
  rw [h]; exact step_more
theorem inv_small {N c q r : Int} {m : Nat} (hc : 0 < c) (hN : N < c * 18446744073709551616) (r0 : 0 ≤ r) (h : Inv N c (m : Int) q r) : q ≤ 9223372036854775807 := by
  unfold Inv at h
  rw [show ((m : Int) + 1).toNat = m + 1 from by omega] at h
  exact quot_small N c q r m hc hN r0 h
theorem inv_end {N c t q r : Int} (ht : t = -1) (r0 : 0 ≤ r) (r1 : r < c) (h : Inv N c t q r) : N / c = q ∧ N % c = r := by
  unfold Inv at h; subst ht
  have h' : N = q * c + r := by simpa using h
  have := Bits.quot_of N c q (by omega) (by omega) (by omega)
  omega
end Go.Proofs.YtjjbdemhccpllaaDoor.Ref
namespace Go.Proofs.YtjjbdemhccpllaaDoor.Ref
open Go.ChangeShapes Go.WideShapes Go.ChangeAt Go.RowKit Bits Money

theorem ret_two' {j k : IntKind} {a b c d : Int} (h1 : a = c) (h2 : b = d) : Ending.returned (.agg #[.int j a, .int k b]) = .returned (.agg #[.int j c, .int k d]) := by rw [h1, h2]

theorem over_eq (r x c : Int) (ho : 9223372036854775808 ≤ r) (r1 : r < c) (h2 : c ≤ 18446744073709551615) (x0 : 0 ≤ x) (x1 : x ≤ 1) : IntKind.u64.wrap (IntKind.u64.wrap (IntKind.u64.wrap (r * 2) + x) - c) = r * 2 + x - c := by
  simp only [IntKind.wrap_u64]; omega

end Go.Proofs.YtjjbdemhccpllaaDoor.Ref
namespace Go.Proofs.YtjjbdemhccpllaaDoor.Money
open Go.ChangeShapes Go.WideShapes Go.ChangeAt Go.RowKit Bits

/-- a * b by c, rounded. -/
def rnd (a b c how : Int) : Int := a * b / c + if risesB (a * b / c) (a * b % c) c how = true then 1 else 0
def mdBad (a b c how : Int) : Prop := a < 0 ∨ b < 0 ∨ c ≤ 0 ∨ how < 0 ∨ 2 < how
instance (a b c how : Int) : Decidable (mdBad a b c how) := by unfold mdBad; exact inferInstance
def mdV (a b c how : Int) : Int := if mdBad a b c how then 0 else if 10000000000000 < rnd a b c how then 0 else rnd a b c how
def mdE (a b c how : Int) : Int := if mdBad a b c how then 1 else if 10000000000000 < rnd a b c how then 14 else 0

theorem md_bad {a b c how : Int} (h : mdBad a b c how) : mdV a b c how = 0 ∧ mdE a b c how = 1 := by unfold mdV mdE; rw [if_pos h, if_pos h]; exact ⟨rfl, rfl⟩
theorem md_out {a b c how : Int} (h : ¬ mdBad a b c how) (g : 10000000000000 < rnd a b c how) : mdV a b c how = 0 ∧ mdE a b c how = 14 := by unfold mdV mdE; rw [if_neg h, if_neg h, if_pos g, if_pos g]; exact ⟨rfl, rfl⟩
theorem md_in {a b c how : Int} (h : ¬ mdBad a b c how) (g : ¬ 10000000000000 < rnd a b c how) : mdV a b c how = rnd a b c how ∧ mdE a b c how = 0 := by unfold mdV mdE; rw [if_neg h, if_neg h, if_neg g, if_neg g]; exact ⟨rfl, rfl⟩
theorem rnd_yes {a b c how : Int} (h : risesB (a * b / c) (a * b % c) c how = true) : rnd a b c how = a * b / c + 1 := by unfold rnd; rw [if_pos h]
theorem rnd_no {a b c how : Int} (h : risesB (a * b / c) (a * b % c) c how = false) : rnd a b c how = a * b / c := by unfold rnd; rw [if_neg (by rw [h]; exact Bool.false_ne_true)]; omega
theorem rnd_ge (a b c how : Int) : a * b / c ≤ rnd a b c how := by unfold rnd; split <;> omega
theorem rnd_le (a b c how : Int) : rnd a b c how ≤ a * b / c + 1 := by unfold rnd; split <;> omega

/-- The product in two words, and what is known of them. -/
theorem words (a b c : Int) (a0 : 0 ≤ a) (a1 : a ≤ 9223372036854775807) (b0 : 0 ≤ b) (b1 : b ≤ 9223372036854775807) (c0 : 0 < c) :
    0 ≤ a * b / 18446744073709551616 ∧ a * b / 18446744073709551616 ≤ 9223372036854775807 ∧ 0 ≤ a * b % 18446744073709551616 ∧ a * b % 18446744073709551616 ≤ 18446744073709551615 ∧
    a * b / 18446744073709551616 * 18446744073709551616 + a * b % 18446744073709551616 = a * b ∧ 0 ≤ a * b / c ∧ 0 ≤ a * b % c ∧ a * b % c < c ∧ (c ≤ a * b / 18446744073709551616 → 18446744073709551616 ≤ a * b / c) := by
  have p0 : 0 ≤ a * b := Int.mul_nonneg a0 b0
  have p1 : a * b ≤ 9223372036854775807 * 9223372036854775807 := Int.mul_le_mul a1 b1 b0 (by omega)
  refine ⟨by omega, by omega, by omega, by omega, by omega, Int.ediv_nonneg p0 (by omega), Int.emod_nonneg _ (by omega), Int.emod_lt_of_pos _ c0, fun h => ?_⟩
  rw [Int.le_ediv_iff_mul_le c0]
  have : 18446744073709551616 * c ≤ 18446744073709551616 * (a * b / 18446744073709551616) := Int.mul_le_mul_of_nonneg_left h (by omega)
  omega
theorem quot_lt (a b c : Int) (h : a * b / 18446744073709551616 < c) (a0 : 0 ≤ a * b / 18446744073709551616) : a * b / c < 18446744073709551616 := by
  rw [Int.ediv_lt_iff_lt_mul (by omega)]; omega

end Go.Proofs.YtjjbdemhccpllaaDoor.Money
namespace Go.Proofs.YtjjbdemhccpllaaDoor.Ref
open Go.ChangeShapes Go.WideShapes Go.ChangeAt Go.RowKit Bits Money

theorem bcell {W w1 : World} (hb : Below W.heap.size W w1) : (∀ b o, b < W.heap.size → w1.cell? ⟨b, o, none⟩ = W.cell? ⟨b, o, none⟩) ∧ (∀ b o, b < W.heap.size → w1.frozen? ⟨b, o, none⟩ = W.frozen? ⟨b, o, none⟩) :=
  ⟨fun b o h => hb.cell (p := ⟨b, o, none⟩) h, fun b o h => hb.frozen (p := ⟨b, o, none⟩) h⟩

theorem below_two {w w1 w2 : World} {o o' : Obj} (h1 : Below w.heap.size w w1) (h2 : Below (w1.alloc o).heap.size (w1.alloc o) w2) : Below w.heap.size w (w2.alloc o') := by
  have s1 := h1.size
  have s2 := h2.size
  rw [World.size_alloc] at s2
  exact ((h1.alloc (by omega) o).trans (h2.mono (by rw [World.size_alloc]; omega))).alloc (by omega) o'

end Go.Proofs.YtjjbdemhccpllaaDoor.Ref
namespace Go.Proofs.YtjjbdemhccpllaaDoor.Money
open Go.ChangeShapes Go.WideShapes Go.ChangeAt Go.RowKit Bits

theorem rises_iff (q r c how : Int) : risesB q r c how = true ↔ (how = 1 ∧ 0 < r ∨ how = 2 ∧ (c - r < r ∨ r = c - r ∧ q % 2 = 1)) := by
  unfold risesB; rw [decide_eq_true_iff]
theorem rnd_cases (a b c how : Int) : (risesB (a * b / c) (a * b % c) c how = true ∧ rnd a b c how = a * b / c + 1) ∨ (risesB (a * b / c) (a * b % c) c how = false ∧ rnd a b c how = a * b / c) := by
  cases h : risesB (a * b / c) (a * b % c) c how
  · exact Or.inr ⟨rfl, rnd_no h⟩
  · exact Or.inl ⟨rfl, rnd_yes h⟩
theorem rnd_down (a b c : Int) : rnd a b c 0 = a * b / c := by
  rcases rnd_cases a b c 0 with ⟨h, e⟩ | ⟨_, e⟩
  · rw [rises_iff] at h; omega
  · exact e
theorem rnd_up (a b c : Int) : rnd a b c 1 = a * b / c + (if 0 < a * b % c then 1 else 0) := by
  rcases rnd_cases a b c 1 with ⟨h, e⟩ | ⟨h, e⟩
  · rw [rises_iff] at h; rw [if_pos (by omega)]; exact e
  · rw [if_neg, e]; · omega
    intro g
    rw [← Bool.not_eq_true, rises_iff] at h; omega

/-- How high it comes: what is wanted of the machine's numbers. -/
theorem rnd_small {a b c how : Int} (p : 0 ≤ a * b) (p1 : a * b ≤ 9000000000000) (c0 : 0 < c) : 0 ≤ rnd a b c how ∧ rnd a b c how ≤ 9000000000001 := by
  have h1 := rnd_ge a b c how
  have h2 := rnd_le a b c how
  have h3 : 0 ≤ a * b / c := Int.ediv_nonneg p (by omega)
  have h4 : a * b / c ≤ a * b := Int.ediv_le_self _ p
  omega

/-- Of more there is no less. -/
theorem rnd_more {a a' b c how : Int} (h : a * b ≤ a' * b) (c0 : 0 < c) : rnd a b c how ≤ rnd a' b c how := by
  have q : a * b / c ≤ a' * b / c := Int.ediv_le_ediv c0 h
  have m := Int.emod_add_mul_ediv (a * b) c
  have m' := Int.emod_add_mul_ediv (a' * b) c
  rcases rnd_cases a b c how with ⟨h1, e1⟩ | ⟨h1, e1⟩
  · rcases rnd_cases a' b c how with ⟨h2, e2⟩ | ⟨h2, e2⟩
    · omega
    · by_cases hq : a * b / c = a' * b / c
      · exfalso
        rw [rises_iff] at h1
        rw [← Bool.not_eq_true, rises_iff] at h2
        rw [hq] at h1 m
        omega
      · omega
  · have := rnd_ge a' b c how; omega
/-- By a greater divisor no more. -/
theorem rnd_less {a b c e how : Int} (h : c ≤ e) (c0 : 0 < c) (p : 0 ≤ a * b) : rnd a b e how ≤ rnd a b c how := by
  have me := Bits.quot_mul (a * b) e (by omega)
  have q0 : 0 ≤ a * b / e := Int.ediv_nonneg p (by omega)
  have q : a * b / e ≤ a * b / c := by
    rw [Int.le_ediv_iff_mul_le c0]
    have : a * b / e * c ≤ a * b / e * e := Int.mul_le_mul_of_nonneg_left h q0
    omega
  have m := Int.emod_add_mul_ediv (a * b) c
  have m' := Int.emod_add_mul_ediv (a * b) e
  rcases rnd_cases a b e how with ⟨h1, e1⟩ | ⟨h1, e1⟩
  · rcases rnd_cases a b c how with ⟨h2, e2⟩ | ⟨h2, e2⟩
    · omega
    · by_cases hq : a * b / e = a * b / c
      · exfalso
        rw [rises_iff] at h1
        rw [← Bool.not_eq_true, rises_iff] at h2
        rw [hq] at h1 m' q0
        have t : c * (a * b / c) ≤ e * (a * b / c) := Int.mul_le_mul_of_nonneg_right h q0
        omega
      · omega
  · have := rnd_ge a b c how; omega
/-- In parts, rounded down, never more than at once, and at most one less. -/
theorem rnd_parts {a a' b c : Int} (c0 : 0 < c) : rnd a b c 0 + rnd a' b c 0 ≤ rnd (a + a') b c 0 ∧ rnd (a + a') b c 0 ≤ rnd a b c 0 + rnd a' b c 0 + 1 := by
  rw [rnd_down, rnd_down, rnd_down, Int.add_mul]
  have m1 := Bits.quot_mul (a * b) c c0
  have m2 := Bits.quot_mul (a' * b) c c0
  constructor
  · rw [Int.le_ediv_iff_mul_le c0, Int.add_mul]; omega
  · have : (a * b + a' * b) / c < a * b / c + a' * b / c + 2 := by
      rw [Int.ediv_lt_iff_lt_mul c0, Int.add_mul, Int.add_mul]; omega
    omega
/-- The three ways at one product. -/
theorem rnd_three {a b c : Int} (p : 0 ≤ a * b) (c0 : 0 < c) : rnd a b c 0 ≤ rnd a b c 2 ∧ rnd a b c 2 ≤ rnd a b c 1 ∧ rnd a b c 1 - rnd a b c 0 ≤ 1 ∧
    (a * b % c = 0 → rnd a b c 0 = rnd a b c 1) ∧ (a * b % c ≠ 0 → rnd a b c 0 ≠ rnd a b c 1) ∧ 0 ≤ rnd a b c 0 * c ∧ rnd a b c 0 * c ≤ a * b ∧ a * b - rnd a b c 0 * c < c := by
  have m := Bits.quot_mul (a * b) c c0
  have r0 := Int.emod_nonneg (a * b) (by omega : c ≠ 0)
  have r1 := Int.emod_lt_of_pos (a * b) c0
  rw [rnd_down, rnd_up]
  have q0 : 0 ≤ a * b / c := Int.ediv_nonneg p (by omega)
  have q2 : 0 ≤ a * b / c * c := Int.mul_nonneg q0 (by omega)
  have up : rnd a b c 2 ≤ a * b / c + (if 0 < a * b % c then 1 else 0) := by
    rcases rnd_cases a b c 2 with ⟨h, e⟩ | ⟨_, e⟩
    · rw [rises_iff] at h
      rw [e]; split <;> omega
    · rw [e]; split <;> omega
  have dn := rnd_ge a b c 2
  refine ⟨dn, up, ?_, ?_, ?_, q2, by omega, by omega⟩
  · split <;> omega
  · intro h; rw [if_neg (by omega)]; omega
  · intro h; rw [if_pos (by omega)]; omega
end Go.Proofs.YtjjbdemhccpllaaDoor.Money
namespace Go.Proofs.YtjjbdemhccpllaaDoor.Law
open Go.ChangeShapes Go.WideShapes Go.ChangeAt Go.RowKit Bits Money

theorem below_drewN {B : Nat} {a w : World} (h : Below B a w) (n : Nat) : Below B a (w.drewN n) := ⟨h.os, h.tape, h.output, h.size, h.block⟩
theorem below_via {a b c : World} (h : Below a.heap.size a b) (k : Below b.heap.size b c) : Below a.heap.size a c := h.trans (k.mono h.size)
theorem below_new {a b : World} (h : Below a.heap.size a b) (o : Obj) : Below a.heap.size a (b.alloc o) := h.alloc h.size o
/-- A cell of old memory, and one of the block that was laid just ahead, behind a call that makes memory of its own. -/
theorem carry {a b : World} {n g i : Nat} {v : Value} {C : Array Value} {T : TypeId} (hb : Below ((a.alloc (.cells C T)).drewN n).heap.size ((a.alloc (.cells C T)).drewN n) b) (hg : g < a.heap.size) (h : a.cell? ⟨g, i, none⟩ = some v) : b.cell? ⟨g, i, none⟩ = some v := by
  have hz : g < ((a.alloc (.cells C T)).drewN n).heap.size := by simp; omega
  rw [hb.cell (p := ⟨g, i, none⟩) hz]
  have e : (a.alloc (.cells C T)).cell? ⟨g, i, none⟩ = a.cell? ⟨g, i, none⟩ := World.cell?_of_block (Below.heap_alloc _ _ _ hg)
  exact e.trans h
theorem fresh {a b : World} {n : Nat} {C : Array Value} {T : TypeId} (hb : Below ((a.alloc (.cells C T)).drewN n).heap.size ((a.alloc (.cells C T)).drewN n) b) (i : Nat) : b.cell? ⟨a.heap.size, i, none⟩ = C[i]? := by
  have hz : a.heap.size < ((a.alloc (.cells C T)).drewN n).heap.size := by simp
  rw [hb.cell (p := ⟨a.heap.size, i, none⟩) hz]
  exact World.cell?_alloc_new _ _ _ _
theorem w4 (w : World) : Calls Tryd.prog 46 #[.int .i64 (-5)] w fun e w' => e = .returned (.bool true) ∧ w = w' :=
  (good_any (-5) w).mono fun _ _ h => ⟨h.1.trans (by rw [show goodB (-5) = true from by decide]), h.2⟩

end Go.Proofs.YtjjbdemhccpllaaDoor.Law
