/- Of no one law: an event, a command that came in by value. -/
import Derived.Test.YtcmdonckilajjaaChecked
import Derived.Test.YtcmdonckilajjaaGCmd
import Derived.WalkKit
import Derived.ProofKit
import Derived.OpenShut
namespace Go.Proofs.Ytcmdonckilajjaa.Event
open Go.ChangeShapes Go.WideShapes Go.ChangeAt Go.RowKit

theorem one_i : Try.prog.cellsOf 3 = 1 := by kernel_rfl
theorem one_u : Try.prog.cellsOf 22 = 1 := by kernel_rfl
theorem one_l : Try.prog.cellsOf 2 = 1 := by kernel_rfl
theorem one_f : Try.prog.cellsOf 23 = 1 := by kernel_rfl
theorem one_b : Try.prog.cellsOf 4 = 1 := by kernel_rfl
theorem ev_many : Try.prog.cellsOf 25 = 11 := by kernel_rfl
theorem cm_many : Try.prog.cellsOf 40 = 14 := by kernel_rfl
theorem wf_i64 {z : Int} (h : (Lit.int .i64 z).wf = true) : -9223372036854775808 ≤ z ∧ z ≤ 9223372036854775807 := by simpa [Lit.wf, IntKind.min, IntKind.max, IntKind.bits, IntKind.signed] using h
theorem wf_u32 {z : Int} (h : (Lit.int .u32 z).wf = true) : ∃ n : Nat, z = n ∧ n < 4294967296 := by
  have h1 : 0 ≤ z ∧ z ≤ 4294967295 := by simpa [Lit.wf, IntKind.min, IntKind.max, IntKind.bits, IntKind.signed] using h
  exact ⟨z.toNat, by omega, by omega⟩
theorem wf_f64 {b : Nat} (h : (Lit.float .f64 b).wf = true) : b < 18446744073709551616 := by simpa [Lit.wf] using h
theorem trod_float {H : Type} {enc : TypeId × Value → H} {P : Program} {w : World} {base : Nat} {spare : Nat → Bool} {held : Bool} {fuel : Nat} {t : TypeId} {cs : List Value} {x : DataW H × List MemPlace} {k : FloatKind} (ht : P.underlying t = some (.float k)) (h : DataW.trod enc P w base spare held fuel t cs = some x) : ∃ b, cs = [.float k b] ∧ x = (.lit (.float k b), []) ∧ (Lit.float k b).wf = true := by
  cases fuel with
  | zero => simp [DataW.trod] at h
  | succ n =>
    unfold DataW.trod at h
    rw [ht] at h
    split at h <;> simp_all
section
variable {H : Type} {enc : TypeId × Value → H} {w : World} {base : Nat} {spare : Nat → Bool} {held : Bool} {fuel : Nat} {x : DataW H × List MemPlace} {cs : List Value}
set_option maxRecDepth 20000 in
theorem ev_cells (h : DataW.trod enc Try.prog w base spare held fuel 25 cs = some x) : ∃ e : Ev, cs = e.cells.toList ∧ e.Fit := by
  obtain ⟨xs, q, -, -, hlen, hxl, hall⟩ := DataW.trod_struct Try.underlying25 h
  rw [ev_many] at hlen
  match xs, hxl, cs, hlen with
  | [y0, y1, y2, y3, y4, y5, y6, y7, y8, y9, y10], _, [v0, v1, v2, v3, v4, v5, v6, v7, v8, v9, v10], _ =>
    have k0 := hall 0 _ rfl
    simp [one_i] at k0
    obtain ⟨z0, q0, -, w0⟩ := DataW.trod_int Try.underlying3 k0
    have w0 := wf_i64 w0
    have k1 := hall 1 _ rfl
    simp [one_i] at k1
    obtain ⟨z1, q1, -, w1⟩ := DataW.trod_int Try.underlying3 k1
    have w1 := wf_i64 w1
    have k2 := hall 2 _ rfl
    simp [one_u] at k2
    obtain ⟨z2, q2, -, w2⟩ := DataW.trod_int Try.underlying22 k2
    obtain ⟨n2, rfl, u2⟩ := wf_u32 w2
    have k3 := hall 3 _ rfl
    simp [one_i] at k3
    obtain ⟨z3, q3, -, w3⟩ := DataW.trod_int Try.underlying3 k3
    have w3 := wf_i64 w3
    have k4 := hall 4 _ rfl
    simp [one_l] at k4
    obtain ⟨z4, q4, -, w4⟩ := DataW.trod_int Try.underlying2 k4
    have w4 := wf_i64 w4
    have k5 := hall 5 _ rfl
    simp [one_f] at k5
    obtain ⟨z5, q5, -, w5⟩ := trod_float Try.underlying23 k5
    have w5 := wf_f64 w5
    have k6 := hall 6 _ rfl
    simp [one_f] at k6
    obtain ⟨z6, q6, -, w6⟩ := trod_float Try.underlying23 k6
    have w6 := wf_f64 w6
    have k7 := hall 7 _ rfl
    simp [one_b] at k7
    obtain ⟨z7, q7, -⟩ := DataW.trod_bool Try.underlying4 k7
    have k8 := hall 8 _ rfl
    simp [one_i] at k8
    obtain ⟨z8, q8, -, w8⟩ := DataW.trod_int Try.underlying3 k8
    have w8 := wf_i64 w8
    have k9 := hall 9 _ rfl
    simp [one_i] at k9
    obtain ⟨z9, q9, -, w9⟩ := DataW.trod_int Try.underlying3 k9
    have w9 := wf_i64 w9
    have k10 := hall 10 _ rfl
    simp [one_i] at k10
    obtain ⟨z10, q10, -, w10⟩ := DataW.trod_int Try.underlying3 k10
    have w10 := wf_i64 w10
    simp only [List.cons.injEq, and_true] at q0 q1 q2 q3 q4 q5 q6 q7 q8 q9 q10
    subst q0 q1 q2 q3 q4 q5 q6 q7 q8 q9 q10
    exact ⟨⟨z0, z1, n2, z3, z4, z5, z6, z7, z8, z9, z10⟩, rfl, ⟨w0, w1, u2, w3, w4, w5, w6, w8, w9, w10⟩⟩
set_option maxRecDepth 20000 in
theorem cm_cells (h : DataW.trod enc Try.prog w base spare held fuel 40 cs = some x) : ∃ c : Cm, cs = c.cells.toList ∧ c.Fit := by
  obtain ⟨xs, q, -, -, hlen, hxl, hall⟩ := DataW.trod_struct Try.underlying40 h
  rw [cm_many] at hlen
  match xs, hxl, cs, hlen with
  | [y0, y1, y2, y3], _, [v0, v1, v2, v3, v4, v5, v6, v7, v8, v9, v10, v11, v12, v13], _ =>
    have k0 := hall 0 _ rfl
    simp [one_b] at k0
    obtain ⟨z0, q0, -⟩ := DataW.trod_bool Try.underlying4 k0
    have k1 := hall 1 _ rfl
    simp [one_u] at k1
    obtain ⟨z1, q1, -, w1⟩ := DataW.trod_int Try.underlying22 k1
    obtain ⟨n1, rfl, u1⟩ := wf_u32 w1
    have k2 := hall 2 _ rfl
    simp [ev_many] at k2
    obtain ⟨e, he, hf⟩ := ev_cells k2
    have k3 := hall 3 _ rfl
    simp [one_u] at k3
    obtain ⟨z3, q3, -, w3⟩ := DataW.trod_int Try.underlying22 k3
    obtain ⟨n3, rfl, u3⟩ := wf_u32 w3
    simp only [List.cons.injEq, and_true] at q0 q1 q3
    subst q0 q1 q3
    refine ⟨⟨z0, n1, e, n3⟩, ?_, u1, hf, u3⟩
    simp [Ev.cells] at he
    obtain ⟨rfl, rfl, rfl, rfl, rfl, rfl, rfl, rfl, rfl, rfl, rfl⟩ := he
    rfl
end
section
variable {H : Type} {enc : TypeId × Value → H} {w : World} {base b0 : Nat} {spare : Nat → Bool} {held : Bool} {r : Reach} {v : Value} {d : DataW H} {ps : List MemPlace}
set_option maxRecDepth 20000 in
theorem open_ev (hval : Value.okWide Try.prog w r b0 25 v) (hd : DataW.Trod enc Try.prog w base spare held 25 v d ps) : ∃ e : Ev, v = .agg e.cells ∧ e.Fit := by
  obtain ⟨l, rfl, -, -⟩ : ∃ l, v = .agg l ∧ l.size = Try.prog.cellsOf 25 ∧ Row.okWide Try.prog w r b0 25 l := by
    simpa [Value.okWide, Try.underlying25] using hval
  obtain ⟨fuel, hf⟩ := hd
  obtain ⟨e, he, hF⟩ := ev_cells hf
  exact ⟨e, by rw [show l = e.cells from Array.toList_inj.1 (by simpa [Value.cells] using he)], hF⟩
set_option maxRecDepth 20000 in
theorem open_cm (hval : Value.okWide Try.prog w r b0 40 v) (hd : DataW.Trod enc Try.prog w base spare held 40 v d ps) : ∃ c : Cm, v = .agg c.cells ∧ c.Fit := by
  obtain ⟨l, rfl, -, -⟩ : ∃ l, v = .agg l ∧ l.size = Try.prog.cellsOf 40 ∧ Row.okWide Try.prog w r b0 40 l := by
    simpa [Value.okWide, Try.underlying40] using hval
  obtain ⟨fuel, hf⟩ := hd
  obtain ⟨c, hc, hF⟩ := cm_cells hf
  exact ⟨c, by rw [show l = c.cells from Array.toList_inj.1 (by simpa [Value.cells] using hc)], hF⟩
end
end Go.Proofs.Ytcmdonckilajjaa.Event
