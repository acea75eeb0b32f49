/- What the document's own answers in layer 1 come to: Good, Mul, Div, MulDiv. -/
import Derived.Test.YtldcocckfemgbaaMulDiv
import Derived.Test.YtldcocckfemgbaaRefMath
import Derived.WalkSmall
namespace Go.Proofs.Ytldcocckfemgbaa.Ref
open Go.ChangeShapes Go.WideShapes Go.ChangeAt Go.RowKit Bits Money

theorem ret_two' {j k : IntKind} {a b c d : Int} (h1 : a = c) (h2 : b = d) : Ending.returned (.agg #[.int j a, .int k b]) = .returned (.agg #[.int j c, .int k d]) := by rw [h1, h2]

theorem mul_any (a b : Int) (w : World) (a0 : 0 ≤ a) (a1 : a ≤ 18446744073709551615) (b0 : 0 ≤ b) (b1 : b ≤ 18446744073709551615) :
    Calls Try.prog 22 #[.int .u64 a, .int .u64 b] w fun e w' => e = .returned (.agg #[.int .u64 (a * b / 18446744073709551616), .int .u64 (a * b % 18446744073709551616)]) ∧ Below w.heap.size w w' := by
  go_enter Try.func22, Try.ntmps22
  go_wp2
  go_returns
  refine ⟨ret_two' ?_ ?_, by go_grown⟩
  · have e := mul64_arith a b a0 (by omega) b0 (by omega)
    simp only [IntKind.wrap_u64, and_low32 a a0 (by omega), and_low32 b b0 (by omega)]
    rw [and_low32 _ (by omega) (by omega), Int.add_comm (a % 4294967296 * (b / 4294967296) % 18446744073709551616), e]
  · simp only [IntKind.wrap_u64, and_low32 a a0 (by omega), and_low32 b b0 (by omega)]
    rw [and_low32 _ (by omega) (by omega), and_low32 _ (by omega) (by omega), mul_lo]

theorem over_eq (r x c : Int) (ho : 9223372036854775808 ≤ r) (r1 : r < c) (h2 : c ≤ 18446744073709551615) (x0 : 0 ≤ x) (x1 : x ≤ 1) : IntKind.u64.wrap (IntKind.u64.wrap (IntKind.u64.wrap (r * 2) + x) - c) = r * 2 + x - c := by
  simp only [IntKind.wrap_u64]; omega

theorem div_no (hi lo c : Int) (w : World) (h : c = 0 ∨ c ≤ hi) :
    Calls Try.prog 23 #[.int .u64 hi, .int .u64 lo, .int .u64 c] w fun e w' => e = .returned (.agg #[.int .u64 0, .int .u64 0, .bool false]) ∧ Below w.heap.size w w' := by
  by_cases h1 : c = 0
  · subst h1
    clear h
    go_enter Try.func23, Try.ntmps23
    go_wp2
    go_returns
    exact ⟨rfl, by go_grown⟩
  · have h2 : c ≤ hi := by omega
    have hb : (c == 0) = false := by simpa using h1
    clear h h1
    go_enter Try.func23, Try.ntmps23
    go_wp2
    go_returns
    exact ⟨rfl, by go_grown⟩

theorem div_ok (hi lo c : Int) (w : World) (h0 : 0 ≤ hi) (h1 : hi < c) (h2 : c ≤ 18446744073709551615) (l0 : 0 ≤ lo) (l1 : lo ≤ 18446744073709551615) :
    Calls Try.prog 23 #[.int .u64 hi, .int .u64 lo, .int .u64 c] w fun e w' => e = .returned (.agg #[.int .u64 ((hi * 18446744073709551616 + lo) / c), .int .u64 ((hi * 18446744073709551616 + lo) % c), .bool true]) ∧ Below w.heap.size w w' := by
  have st := inv_start hi lo c l0 l1
  have hN : hi * 18446744073709551616 + lo < c * 18446744073709551616 := by omega
  have hb : (c == 0) = false := by rw [beq_eq_false_iff_ne]; omega
  go_enter Try.func23, Try.ntmps23
  go_wp2
  go_loop [7, 8, 9, 10] (fun q r i o => ∃ q' r' t : Int, q = .int .u64 q' ∧ r = .int .u64 r' ∧ i = .int .i64 t ∧ -1 ≤ t ∧ t ≤ 63 ∧ 0 ≤ q' ∧ 0 ≤ r' ∧ r' < c ∧ Inv (hi * 18446744073709551616 + lo) c t q' r') (fun _ _ i _ => (intOf i + 1).toNat)
  case atStart => exact ⟨_, _, _, rfl, rfl, rfl, by omega, by omega, by omega, by omega, h1, st⟩
  case round =>
    obtain ⟨q, r, t, rfl, rfl, rfl, t0, t1, q0, r0, r1, I⟩ := hrel
    by_cases ht : 0 ≤ t
    · obtain ⟨m, rfl⟩ := Int.eq_ofNat_of_zero_le ht
      have qs := inv_small (by omega) hN r0 I
      have IL := inv_less (by omega) I
      have IM := inv_more (by omega) I
      have xb := and_one_u64 (lo / 2 ^ m) (Int.ediv_nonneg l0 (Int.le_of_lt (two_pow_pos m))) (Int.le_trans (Int.ediv_le_self _ l0) l1)
      have x0 : 0 ≤ lo / 2 ^ m % 2 := by omega
      have x1 : lo / 2 ^ m % 2 ≤ 1 := by omega
      clear st hN I
      generalize lo / 2 ^ m % 2 = x at *
      by_cases ho : 9223372036854775808 ≤ r
      · have b1 : (r / 9223372036854775808 == 1) = true := by rw [beq_iff_eq]; omega
        go_wp2
        go_round
        case rel => exact ⟨_, _, _, rfl, congrArg (Value.int IntKind.u64) (over_eq r x c ho r1 h2 x0 x1), rfl, by omega, by omega, by omega, by omega, by omega, IM⟩
        case measure => simp [intOf]
      · have b1 : (r / 9223372036854775808 == 1) = false := by rw [beq_eq_false_iff_ne]; omega
        by_cases hg : c ≤ r * 2 + x
        · go_wp2
          go_round
          case rel => exact ⟨_, _, _, rfl, rfl, rfl, by omega, by omega, by omega, by omega, by omega, IM⟩
          case measure => simp [intOf]
        · go_wp2
          go_round
          case rel => exact ⟨_, _, _, rfl, rfl, rfl, by omega, by omega, by omega, by omega, by omega, IL⟩
          case measure => simp [intOf]
    · have E := Lib.hid (inv_end (by omega) r0 r1 I)
      clear st hN I
      go_wp2
      go_returns
      rw [E.out.1, E.out.2]
      exact ⟨rfl, by go_grown⟩
end Go.Proofs.Ytldcocckfemgbaa.Ref
