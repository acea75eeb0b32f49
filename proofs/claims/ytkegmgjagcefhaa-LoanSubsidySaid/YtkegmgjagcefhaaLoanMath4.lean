/- Of layer 14: interest that somebody else pays (plain). -/
import Derived.Test.YtkegmgjagcefhaaLoanMath2
namespace Go.Proofs.Ytkegmgjagcefhaa.Loan
open Go.ChangeShapes Go.WideShapes Go.ChangeAt Go.RowKit Accr Box

theorem small_day {n p d : Int} (n0 : 0 ≤ n) (n1 : n ≤ 4294967295) (p0 : 0 ≤ p) (p1 : p ≤ 65535) (d0 : 0 ≤ d) (d1 : d ≤ 65535) : 0 + dayI n p * d ≤ 1000000000000000000 := by
  have h1 : n * p ≤ 4294967295 * 65535 := Int.mul_le_mul n1 p1 p0 (by decide)
  have h0 := Int.mul_nonneg n0 p0
  have h2 : dayI n p ≤ 771152552541 := by unfold dayI; omega
  have h3 : 0 ≤ dayI n p := by unfold dayI; omega
  have h4 : dayI n p * d ≤ 771152552541 * 65535 := Int.mul_le_mul h2 d1 d0 (by decide)
  omega
theorem fresh_good {n p s : Int} {b : Bool} (n0 : 0 ≤ n) (n1 : n ≤ 4294967295) (p0 : 0 ≤ p) (p1 : p ≤ 65535) (s0 : 1 ≤ s) (s1 : s ≤ 5) : goodL ({ ln0 with id := 1, prin := n, ppm := p, subd := b, status := s, entered := -1 } : Ln) = true :=
  goodL_iff.2 ⟨by show (1 : Int) ≤ 1; omega, by show (1 : Int) ≤ 1000; omega, n0, by show n ≤ _; omega, Int.le_refl _, by show (0 : Int) ≤ _; omega, Int.le_refl _, by show (0 : Int) ≤ _; omega, Int.le_refl _, by show (0 : Int) ≤ _; omega, p0, by show p ≤ _; omega, s0, s1, Int.le_refl _, by show (0 : Int) ≤ 4; omega, Int.le_refl _, by show (-1 : Int) ≤ _; omega, Int.le_refl _, by show (0 : Int) ≤ _; omega, Int.le_refl _, by show (0 : Int) ≤ _; omega, Int.le_refl _, Or.inl rfl⟩
section
variable {n p d s : Int} (n0 : 0 ≤ n) (n1 : n ≤ 4294967295) (p0 : 0 ≤ p) (p1 : p ≤ 65535) (d0 : 0 ≤ d) (d1 : d ≤ 65535) (s0 : 1 ≤ s) (s1 : s ≤ 5)
include n0 n1 p0 p1 d0 d1 s0 s1
theorem plain_is : accR ({ ln0 with id := 1, prin := n, ppm := p, status := s, entered := -1 } : Ln) d = ({ ({ ln0 with id := 1, prin := n, ppm := p, status := s, entered := -1 } : Ln) with intr := (0 + dayI n p * d) }, 0) :=
  (acc_int (l := ({ ln0 with id := 1, prin := n, ppm := p, status := s, entered := -1 } : Ln)) (fresh_good n0 n1 p0 p1 s0 s1) (wB_iff.2 ⟨d0, by omega⟩) rfl rfl).1 (small_day n0 n1 p0 p1 d0 d1)
theorem spared_is (h : s ≤ 3) : accR ({ ln0 with id := 1, prin := n, ppm := p, subd := true, status := s, entered := -1 } : Ln) d = ({ ({ ln0 with id := 1, prin := n, ppm := p, subd := true, status := s, entered := -1 } : Ln) with subs := (0 + dayI n p * d) }, 0) :=
  (acc_sub (l := ({ ln0 with id := 1, prin := n, ppm := p, subd := true, status := s, entered := -1 } : Ln)) (fresh_good n0 n1 p0 p1 s0 s1) (wB_iff.2 ⟨d0, by omega⟩) rfl (by show (true && decide (s ≤ 3)) = true; rw [decide_eq_true h]; rfl)).1 (small_day n0 n1 p0 p1 d0 d1)
theorem unspared_is (h : ¬ s ≤ 3) : accR ({ ln0 with id := 1, prin := n, ppm := p, subd := true, status := s, entered := -1 } : Ln) d = ({ ({ ln0 with id := 1, prin := n, ppm := p, subd := true, status := s, entered := -1 } : Ln) with intr := (0 + dayI n p * d) }, 0) :=
  (acc_int (l := ({ ln0 with id := 1, prin := n, ppm := p, subd := true, status := s, entered := -1 } : Ln)) (fresh_good n0 n1 p0 p1 s0 s1) (wB_iff.2 ⟨d0, by omega⟩) rfl (by show (true && decide (s ≤ 3)) = false; rw [decide_eq_false h]; rfl)).1 (small_day n0 n1 p0 p1 d0 d1)
end
theorem ref_is {n p d : Int} (n0 : 0 ≤ n) (n1 : n ≤ 4294967295) (p0 : 0 ≤ p) (p1 : p ≤ 65535) (d0 : 0 ≤ d) (d1 : d ≤ 65535) : aV 0 n p d = (0 + dayI n p * d) ∧ aE 0 n p d = 0 :=
  aV_yes (okA_iff.2 ⟨Int.le_refl _, by decide, okD_iff.2 ⟨n0, by omega, p0, by omega⟩, d0, by omega⟩) (small_day n0 n1 p0 p1 d0 d1)
end Go.Proofs.Ytkegmgjagcefhaa.Loan
