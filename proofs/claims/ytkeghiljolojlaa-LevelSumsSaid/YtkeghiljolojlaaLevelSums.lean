/- All instalments together are no less than what was owed, and, without interest, not a month's cents more, at any numbers; no condition. -/
import Derived.Test.YtkeghiljolojlaaLevelParts
import Derived.Deep.QuietTactic
import Derived.BigQuiet
namespace Go.Proofs.Ytkeghiljolojlaa.Law
open Go.ChangeShapes Go.WideShapes Go.ChangeAt Go.RowKit Level Slice

theorem w64_in (x : Int) (h : -9223372036854775808 ≤ x ∧ x ≤ 9223372036854775807) : wrap64 x = x := by unfold wrap64; omega
theorem sums_walk (b r m : Int) (w : World) (b0 : 0 ≤ b) (b1 : b ≤ 4294967295) (r0 : 0 ≤ r) (r1 : r ≤ 65535) (m0 : 0 ≤ m) (m1 : m ≤ 65535) : Calls Try.prog 7 #[.int .u32 b, .int .u16 r, .int .u16 m] w fun e w' => e = .returned (.bool true) ∧ Below w.heap.size w w' := by
  obtain ⟨N, hN⟩ : ∃ N : Nat, 1 + m.tmod 360 = N := ⟨(1 + m.tmod 360).toNat, by have := Int.tmod_nonneg 360 m0; omega⟩
  have hN1 : 1 ≤ N ∧ N ≤ 360 := by have := Int.tmod_nonneg 360 m0; have := Int.tmod_lt_of_pos m (show (0 : Int) < 360 by decide); omega
  obtain ⟨p, q, f1, f2, f3, f4, q0, qp, p1, g1, g2, g3, g4⟩ := sums_facts b r N b0 b1 r0 r1 hN1.1 hN1.2
  have hN0 : (0 : Int) ≤ N := by omega
  have hq1 : q * (N : Int) ≤ p * N := Int.mul_le_mul_of_nonneg_right qp hN0
  generalize hP : p * (N : Int) = P at *
  generalize hQ : q * (N : Int) = Q at *
  have HP := Lib.hid hP
  have HQ := Lib.hid hQ
  clear hP hQ
  have K1 := Lib.hid (fun W => of_at b r N p 0 W f1 f2)
  have K2 := Lib.hid (fun W => of_at b 0 N q 0 W f3 f4)
  clear f1 f2 f3 f4
  have KW := Lib.hid wakes_level
  have B0 := Lib.hid (Below.refl w.heap.size w)
  obtain ⟨w1, w2, w3, w4, w5, v1, v2, v3, u1, u2, u3⟩ : IntKind.i64.wrap b = b ∧ IntKind.i64.wrap r = r ∧ IntKind.i64.wrap m = m ∧ IntKind.i64.wrap (N : Int) = N ∧ wrap64 (N : Int) = N ∧ wrap64 P = P ∧ wrap64 Q = Q ∧ wrap64 (b + (N : Int)) = b + N ∧ IntKind.i64.wrap P = P ∧ IntKind.i64.wrap Q = Q ∧ IntKind.i64.wrap (b + (N : Int)) = b + N :=
    ⟨IntWalk.i64_in _ (by omega), IntWalk.i64_in _ (by omega), IntWalk.i64_in _ (by omega), IntWalk.i64_in _ (by omega), w64_in _ (by omega), w64_in _ (by omega), w64_in _ (by omega), w64_in _ (by omega), IntWalk.i64_in _ (by omega), IntWalk.i64_in _ (by omega), IntWalk.i64_in _ (by omega)⟩
  have t1 : decide (b ≤ P) = true := decide_eq_true g2
  have t2 : decide (q ≤ p) = true := decide_eq_true qp
  have t3 : decide (b ≤ Q) = true := decide_eq_true g1
  have t4 : decide (Q < b + (N : Int)) = true := decide_eq_true g3
  have hP := HP.out
  have hQ := HQ.out
  clear HP HQ hN0 hN1 b0 b1 r0 r1 m0 m1 hq1 q0 p1 g4
  go_enter Try.func7, Try.ntmps7
  go_wp2_with fail
  refine (K1.out _).mono ?_
  rintro e w1 ⟨rfl, hb⟩
  have Bw1 : Hid (Below w.heap.size w w1) := show Below _ _ _ from B0.out.trans (hb.mono B0.out.size)
  clear hb
  go_wp2_with fail
  refine (K2.out _).mono ?_
  rintro e w2 ⟨rfl, hb⟩
  have Bw2 : Hid (Below w.heap.size w w2) := show Below _ _ _ from Bw1.out.trans (hb.mono Bw1.out.size)
  clear hb
  go_wp2_with fail
  refine (KW.out _).mono ?_
  rintro e w3 ⟨rfl, hb⟩
  have Bw3 : Hid (Below w.heap.size w w3) := show Below _ _ _ from Bw2.out.trans (hb.mono Bw2.out.size)
  clear hb
  go_wp2_with fail
  go_ret
  exact ⟨rfl, Bw3.out⟩

set_option maxRecDepth 100000 in
theorem levelSums_lifted (os : Os) (started : os.Started) (H : Type) (enc : TypeId × Value → H) :
    ReturnsInHanded {} Try.checked os 7 .any (Rows.levelSumsSpec.pre6 enc Try.prog Try.f7 Rows.levelSumsRow.domain false) (Rows.levelSumsSpec.post enc Try.prog Try.f7 false true false false) := by
  refine Shell.law_lifted (C := Try.checked) (tb := 4) (by kernel_rfl) started (by kernel_rfl) Try.func7
    (ChangeSpec.witness6 (enc := enc) (C := Try.checked) false ⟨#[], #[.int .u32 0, .int .u16 0, .int .u16 0], []⟩ 8 (by kernel_rfl) (by kernel_rfl) (by kernel_rfl) (by kernel_rfl))
    (by kernel_rfl) (by kernel_rfl) rfl rfl Try.underlying4 ?_
  intro W base args ds p hval0 hA0
  have hval : ∀ (j : Nat) t v, Try.f7.params[j]? = some t → args[j]? = some v → Value.okWide Try.prog W .any base t v := hval0
  have hA : DataW.TrodAll enc Try.prog W 0 (fun _ => true) true Try.f7.params.toList args.toList ds p := hA0
  clear hval0 hA0
  rw [Try.params7] at hA hval
  obtain ⟨v0, vs0, d0, ds0, p0, q0, hargs, rfl, rfl, h0, r0⟩ := trodAll_cons hA
  obtain ⟨v1, vs1, d1, ds1, p1, q1, rfl, rfl, rfl, h1, r1⟩ := trodAll_cons r0
  obtain ⟨v2, vs2, d2, ds2, p2, q2, rfl, rfl, rfl, h2, r2⟩ := trodAll_cons r1
  obtain ⟨rfl, rfl, rfl⟩ := trodAll_nil r2
  obtain rfl : args = #[v0, v1, v2] := by cases args; simp_all
  refine ⟨rfl, ?_⟩
  obtain ⟨b, rfl, -, -, g0⟩ := open_int Try.underlying41 (hval 0 41 v0 rfl rfl) h0
  obtain ⟨ppm, rfl, -, -, g1⟩ := open_int Try.underlying43 (hval 1 43 v1 rfl rfl) h1
  obtain ⟨m, rfl, -, -, g2⟩ := open_int Try.underlying43 (hval 2 43 v2 rfl rfl) h2
  have x0 : 0 ≤ b ∧ b ≤ 4294967295 := by simpa [Lit.wf, IntKind.min, IntKind.max, IntKind.bits, IntKind.signed] using g0
  have x1 : 0 ≤ ppm ∧ ppm ≤ 65535 := by simpa [Lit.wf, IntKind.min, IntKind.max, IntKind.bits, IntKind.signed] using g1
  have x2 : 0 ≤ m ∧ m ≤ 65535 := by simpa [Lit.wf, IntKind.min, IntKind.max, IntKind.bits, IntKind.signed] using g2
  exact sums_walk b ppm m W x0.1 x0.2 x1.1 x1.2 x2.1 x2.2

theorem levelSums_over : Rows.levelSumsRow.holds Try.pinned (OpenSpec.ofChange Rows.levelSumsSpec) :=
  OpenClaim.holds_of_wide 7 Try.f7 rfl rfl rfl rfl rfl rfl rfl ⟨rfl, rfl, rfl, rfl, rfl⟩ rfl rfl rfl rfl rfl (by kernel_rfl) Try.func7 (by kernel_rfl)
    (of_decide_eq_true (by kernel_rfl)) (by unfold Func.isWrapper; first | (rw [if_pos (by decide +kernel)]; kernel_rfl) | (rw [if_neg (by decide +kernel)]; exact ⟨rfl, rfl⟩))
    (fun os st H enc _ => levelSums_lifted os st H enc)

/-- The statement. -/
theorem levelSums_proved : Rows.LevelSumsSaid := levelSums_over
end Go.Proofs.Ytkeghiljolojlaa.Law
