/- Of no one law: a loan that came in by value. -/
import Derived.Test.YtkegmgjagcefhaaChecked
import Derived.Test.YtkegmgjagcefhaaLoanMath
import Derived.WalkKit
import Derived.ProofKit
import Derived.OpenShut
namespace Go.Proofs.Ytkegmgjagcefhaa.Loan
open Go.ChangeShapes Go.WideShapes Go.ChangeAt Go.RowKit

theorem one_i : Try.prog.cellsOf 3 = 1 := by kernel_rfl
theorem one_l : Try.prog.cellsOf 2 = 1 := by kernel_rfl
theorem one_b : Try.prog.cellsOf 4 = 1 := by kernel_rfl
theorem ln_many : Try.prog.cellsOf 23 = 13 := by kernel_rfl
theorem wf_i64 {z : Int} (h : (Lit.int .i64 z).wf = true) : -9223372036854775808 ≤ z ∧ z ≤ 9223372036854775807 := by simpa [Lit.wf, IntKind.min, IntKind.max, IntKind.bits, IntKind.signed] using h
/-- What its fields may be. -/
structure Ln.Fit (l : Ln) : Prop where
  id : -9223372036854775808 ≤ l.id ∧ l.id ≤ 9223372036854775807
  prin : -9223372036854775808 ≤ l.prin ∧ l.prin ≤ 9223372036854775807
  intr : -9223372036854775808 ≤ l.intr ∧ l.intr ≤ 9223372036854775807
  subs : -9223372036854775808 ≤ l.subs ∧ l.subs ≤ 9223372036854775807
  fees : -9223372036854775808 ≤ l.fees ∧ l.fees ≤ 9223372036854775807
  ppm : -9223372036854775808 ≤ l.ppm ∧ l.ppm ≤ 9223372036854775807
  status : -9223372036854775808 ≤ l.status ∧ l.status ≤ 9223372036854775807
  closed : -9223372036854775808 ≤ l.closed ∧ l.closed ≤ 9223372036854775807
  entered : -9223372036854775808 ≤ l.entered ∧ l.entered ≤ 9223372036854775807
  level : -9223372036854775808 ≤ l.level ∧ l.level ≤ 9223372036854775807
  far : -9223372036854775808 ≤ l.far ∧ l.far ≤ 9223372036854775807
  count : -9223372036854775808 ≤ l.count ∧ l.count ≤ 9223372036854775807
section
variable {H : Type} {enc : TypeId × Value → H} {w : World} {base : Nat} {spare : Nat → Bool} {held : Bool} {fuel : Nat} {x : DataW H × List MemPlace} {cs : List Value}
set_option maxRecDepth 20000 in
theorem ln_cells (h : DataW.trod enc Try.prog w base spare held fuel 23 cs = some x) : ∃ l : Ln, cs = l.cells.toList ∧ l.Fit := by
  obtain ⟨xs, q, -, -, hlen, hxl, hall⟩ := DataW.trod_struct Try.underlying23 h
  rw [ln_many] at hlen
  match xs, hxl, cs, hlen with
  | [y0, y1, y2, y3, y4, y5, y6, y7, y8, y9, y10, y11, y12], _, [v0, v1, v2, v3, v4, v5, v6, v7, v8, v9, v10, v11, v12], _ =>
    have k0 := hall 0 _ rfl
    simp [one_i] at k0
    obtain ⟨z0, q0, -, w0⟩ := DataW.trod_int Try.underlying3 k0
    have w0 := wf_i64 w0
    have k1 := hall 1 _ rfl
    simp [one_l] at k1
    obtain ⟨z1, q1, -, w1⟩ := DataW.trod_int Try.underlying2 k1
    have w1 := wf_i64 w1
    have k2 := hall 2 _ rfl
    simp [one_l] at k2
    obtain ⟨z2, q2, -, w2⟩ := DataW.trod_int Try.underlying2 k2
    have w2 := wf_i64 w2
    have k3 := hall 3 _ rfl
    simp [one_l] at k3
    obtain ⟨z3, q3, -, w3⟩ := DataW.trod_int Try.underlying2 k3
    have w3 := wf_i64 w3
    have k4 := hall 4 _ rfl
    simp [one_l] at k4
    obtain ⟨z4, q4, -, w4⟩ := DataW.trod_int Try.underlying2 k4
    have w4 := wf_i64 w4
    have k5 := hall 5 _ rfl
    simp [one_i] at k5
    obtain ⟨z5, q5, -, w5⟩ := DataW.trod_int Try.underlying3 k5
    have w5 := wf_i64 w5
    have k6 := hall 6 _ rfl
    simp [one_b] at k6
    obtain ⟨z6, q6, -⟩ := DataW.trod_bool Try.underlying4 k6
    have k7 := hall 7 _ rfl
    simp [one_i] at k7
    obtain ⟨z7, q7, -, w7⟩ := DataW.trod_int Try.underlying3 k7
    have w7 := wf_i64 w7
    have k8 := hall 8 _ rfl
    simp [one_i] at k8
    obtain ⟨z8, q8, -, w8⟩ := DataW.trod_int Try.underlying3 k8
    have w8 := wf_i64 w8
    have k9 := hall 9 _ rfl
    simp [one_i] at k9
    obtain ⟨z9, q9, -, w9⟩ := DataW.trod_int Try.underlying3 k9
    have w9 := wf_i64 w9
    have k10 := hall 10 _ rfl
    simp [one_l] at k10
    obtain ⟨z10, q10, -, w10⟩ := DataW.trod_int Try.underlying2 k10
    have w10 := wf_i64 w10
    have k11 := hall 11 _ rfl
    simp [one_l] at k11
    obtain ⟨z11, q11, -, w11⟩ := DataW.trod_int Try.underlying2 k11
    have w11 := wf_i64 w11
    have k12 := hall 12 _ rfl
    simp [one_i] at k12
    obtain ⟨z12, q12, -, w12⟩ := DataW.trod_int Try.underlying3 k12
    have w12 := wf_i64 w12
    simp only [List.cons.injEq, and_true] at q0 q1 q2 q3 q4 q5 q6 q7 q8 q9 q10 q11 q12
    subst q0 q1 q2 q3 q4 q5 q6 q7 q8 q9 q10 q11 q12
    exact ⟨⟨z0, z1, z2, z3, z4, z5, z6, z7, z8, z9, z10, z11, z12⟩, rfl, ⟨w0, w1, w2, w3, w4, w5, w7, w8, w9, w10, w11, w12⟩⟩
end
section
variable {H : Type} {enc : TypeId × Value → H} {w : World} {base b0 : Nat} {spare : Nat → Bool} {held : Bool} {r : Reach} {v : Value} {d : DataW H} {ps : List MemPlace}
set_option maxRecDepth 20000 in
theorem open_ln (hval : Value.okWide Try.prog w r b0 23 v) (hd : DataW.Trod enc Try.prog w base spare held 23 v d ps) : ∃ l : Ln, v = .agg l.cells ∧ l.Fit := by
  obtain ⟨l, rfl, -, -⟩ : ∃ l, v = .agg l ∧ l.size = Try.prog.cellsOf 23 ∧ Row.okWide Try.prog w r b0 23 l := by
    simpa [Value.okWide, Try.underlying23] using hval
  obtain ⟨fuel, hf⟩ := hd
  obtain ⟨e, he, hF⟩ := ln_cells hf
  exact ⟨e, by rw [show l = e.cells from Array.toList_inj.1 (by simpa [Value.cells] using he)], hF⟩
end
end Go.Proofs.Ytkegmgjagcefhaa.Loan
