/- What bits.Mul64 and bits.Div64 answer, at every input. -/
import Derived.Test.YtiaiahdejihlbaaLen
import Derived.Test.YtiaiahdejihlbaaDivMath
import Derived.BigQuiet
import Derived.Deep.QuietTactic
import Derived.Deep.DeepCutAuto
import Derived.Deep.CutBlock
import Derived.Laws.MathBits
import Derived.Lib.Hide
namespace Go.Proofs.Ytiaiahdejihlbaa.Bits
open Go.ChangeShapes Go.WideShapes Go.ChangeAt Go.RowKit

theorem ret_two {j k : IntKind} {a b c d : Int} (h1 : a = c) (h2 : b = d) : Ending.returned (.tuple #[.int j a, .int k b]) = .returned (.tuple #[.int j c, .int k d]) := by rw [h1, h2]

/-- What stands behind the first part: the two words moved up. -/
structure Moved (hi lo y : Int) (s : Nat) (U a b u1 u0 : Int) : Prop where
  yy : y * 2 ^ s = a * 4294967296 + b
  nn : (hi * 18446744073709551616 + lo) * 2 ^ s = U * 18446744073709551616 + u1 * 4294967296 + u0

def MovedSlots (hi lo y : Int) (s : Nat) (w : World) (s2 s9 s10 s11 s13 s14 : Value) (wx : World) : Prop :=
  ∃ U a b u1 u0 : Int, Halves U a b u1 ∧ 0 ≤ u0 ∧ u0 ≤ 4294967295 ∧ Moved hi lo y s U a b u1 u0 ∧ s2 = .int .u64 (a * 4294967296 + b) ∧ s9 = .int .u64 a ∧ s10 = .int .u64 b ∧ s11 = .int .u64 U ∧ s13 = .int .u64 u1 ∧ s14 = .int .u64 u0 ∧ wx = w

theorem moved (hi lo y : Int) (s : Nat) (w : World) (h0 : 0 < hi) (h1 : hi < y) (l0 : 0 ≤ lo) (l1 : lo ≤ 18446744073709551615) (s1 : s ≤ 63) (n1 : 9223372036854775808 ≤ y * 2 ^ s) (n2 : y * 2 ^ s ≤ 18446744073709551615) :
    MovedSlots hi lo y s w (.int .u64 (y * 2 ^ s)) (.int .u64 (y * 2 ^ s / 4294967296)) (.int .u64 (bits BinOp.and IntKind.u64 (y * 2 ^ s) 4294967295)) (.int .u64 (bits BinOp.or IntKind.u64 (IntKind.u64.wrap (hi * 2 ^ s)) (lo / 2 ^ (64 - s)))) (.int .u64 (IntKind.u64.wrap (lo * 2 ^ s) / 4294967296)) (.int .u64 (bits BinOp.and IntKind.u64 (IntKind.u64.wrap (lo * 2 ^ s)) 4294967295)) w := by
  have p := two_pow_pos s
  have pq := two_pow_split s s1
  have ul := up_low lo (2 ^ s) (2 ^ (64 - s)) p (two_pow_pos _) pq l0 l1
  have hp : hi * 2 ^ s + 2 ^ s ≤ y * 2 ^ s := by
    have : (hi + 1) * 2 ^ s ≤ y * 2 ^ s := Int.mul_le_mul_of_nonneg_right (by omega) (by omega)
    rw [Int.add_mul, Int.one_mul] at this; exact this
  have hp0 : 0 ≤ hi * 2 ^ s := Int.mul_nonneg (by omega) (by omega)
  have e1 : IntKind.u64.wrap (hi * 2 ^ s) = hi * 2 ^ s := by rw [IntKind.wrap_u64]; omega
  have e2 := or_up hi (lo / 2 ^ (64 - s)) s (by omega) (by omega) ul.2.1 ul.2.2 s1
  have e3 : IntKind.u64.wrap (lo * 2 ^ s) = lo * 2 ^ s - lo / 2 ^ (64 - s) * 18446744073709551616 := by rw [IntKind.wrap_u64]; exact ul.1
  have e4 : 0 ≤ IntKind.u64.wrap (lo * 2 ^ s) ∧ IntKind.u64.wrap (lo * 2 ^ s) < 18446744073709551616 := by rw [IntKind.wrap_u64]; omega
  have f1 := and_low32 (y * 2 ^ s) (by omega) (by omega)
  have f2 := and_low32 (IntKind.u64.wrap (lo * 2 ^ s)) e4.1 e4.2
  rw [e1, e2, f1, f2]
  have nn : (hi * 18446744073709551616 + lo) * 2 ^ s = hi * 2 ^ s * 18446744073709551616 + lo * 2 ^ s := by grind
  generalize IntKind.u64.wrap (lo * 2 ^ s) = L at *
  refine ⟨hi * 2 ^ s + lo / 2 ^ (64 - s), y * 2 ^ s / 4294967296, y * 2 ^ s % 4294967296, L / 4294967296, L % 4294967296, ⟨?_, ?_, ?_, ?_, ?_, ?_, ?_, ?_⟩, ?_, ?_, ⟨?_, ?_⟩, ?_, rfl, rfl, rfl, rfl, rfl, rfl⟩ <;> first | omega | (rw [show y * 2 ^ s / 4294967296 * 4294967296 + y * 2 ^ s % 4294967296 = y * 2 ^ s from by omega]) | skip

theorem drewN_zero (w : World) : w = w.drewN 0 := rfl
end Go.Proofs.Ytiaiahdejihlbaa.Bits
