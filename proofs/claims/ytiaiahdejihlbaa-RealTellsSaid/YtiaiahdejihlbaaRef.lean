/- What the document's own answers in layer 1 come to: Good, Mul, Div, MulDiv. -/
import Derived.Test.YtiaiahdejihlbaaMulDiv
import Derived.Test.YtiaiahdejihlbaaRefMath
import Derived.WalkSmall
namespace Go.Proofs.Ytiaiahdejihlbaa.Ref
open Go.ChangeShapes Go.WideShapes Go.ChangeAt Go.RowKit Bits Money

theorem ret_two' {j k : IntKind} {a b c d : Int} (h1 : a = c) (h2 : b = d) : Ending.returned (.agg #[.int j a, .int k b]) = .returned (.agg #[.int j c, .int k d]) := by rw [h1, h2]

theorem mul_any (a b : Int) (w : World) (a0 : 0 ≤ a) (a1 : a ≤ 18446744073709551615) (b0 : 0 ≤ b) (b1 : b ≤ 18446744073709551615) :
    Calls Try.prog 35 #[.int .u64 a, .int .u64 b] w fun e w' => e = .returned (.agg #[.int .u64 (a * b / 18446744073709551616), .int .u64 (a * b % 18446744073709551616)]) ∧ Below w.heap.size w w' := by
  go_enter Try.func35, Try.ntmps35
  go_wp2
  go_returns
  refine ⟨ret_two' ?_ ?_, by go_grown⟩
  · have e := mul64_arith a b a0 (by omega) b0 (by omega)
    simp only [IntKind.wrap_u64, and_low32 a a0 (by omega), and_low32 b b0 (by omega)]
    rw [and_low32 _ (by omega) (by omega), Int.add_comm (a % 4294967296 * (b / 4294967296) % 18446744073709551616), e]
  · simp only [IntKind.wrap_u64, and_low32 a a0 (by omega), and_low32 b b0 (by omega)]
    rw [and_low32 _ (by omega) (by omega), and_low32 _ (by omega) (by omega), mul_lo]

theorem over_eq (r x c : Int) (ho : 9223372036854775808 ≤ r) (r1 : r < c) (h2 : c ≤ 18446744073709551615) (x0 : 0 ≤ x) (x1 : x ≤ 1) : IntKind.u64.wrap (IntKind.u64.wrap (IntKind.u64.wrap (r * 2) + x) - c) = r * 2 + x - c := by
  simp only [IntKind.wrap_u64]; omega

end Go.Proofs.Ytiaiahdejihlbaa.Ref
