/- level's Of answers what the document's own Of answers, at any numbers; no condition. -/
import Derived.Test.YtkeghiljolojlaaLevelParts
import Derived.Deep.QuietTactic
import Derived.BigQuiet
namespace Go.Proofs.Ytkeghiljolojlaa.Law
open Go.ChangeShapes Go.WideShapes Go.ChangeAt Go.RowKit Level Slice

theorem of_walk (b r n : Int) (w : World) : Calls Try.prog 4 #[.int .i64 b, .int .i64 r, .int .i64 n] w fun e w' => e = .returned (.bool true) ∧ Below w.heap.size w w' := by
  have K1 := Lib.hid (fun W => c_of b r n W)
  have K2 := Lib.hid (fun W => RLevel.r_of b r n W)
  have KW := Lib.hid wakes_level
  have B0 := Lib.hid (Below.refl w.heap.size w)
  generalize oV b r n = v at *
  generalize oE b r n = x at *
  have t1 : (v == v) = true := by simp
  have t2 : (x == x) = true := by simp
  go_enter Try.func4, Try.ntmps4
  go_wp2_with fail
  refine (K1.out _).mono ?_
  rintro e w1 ⟨rfl, hb⟩
  have Bw1 : Hid (Below w.heap.size w w1) := show Below _ _ _ from B0.out.trans (hb.mono B0.out.size)
  clear hb
  go_wp2_with fail
  refine (K2.out _).mono ?_
  rintro e w2 ⟨rfl, hb⟩
  have Bw2 : Hid (Below w.heap.size w w2) := show Below _ _ _ from Bw1.out.trans (hb.mono Bw1.out.size)
  clear hb
  go_wp2_with fail
  refine (KW.out _).mono ?_
  rintro e w3 ⟨rfl, hb⟩
  have Bw3 : Hid (Below w.heap.size w w3) := show Below _ _ _ from Bw2.out.trans (hb.mono Bw2.out.size)
  clear hb
  go_wp2_with fail
  go_ret
  exact ⟨rfl, Bw3.out⟩

set_option maxRecDepth 100000 in
theorem levelOf_lifted (os : Os) (started : os.Started) (H : Type) (enc : TypeId × Value → H) :
    ReturnsInHanded {} Try.checked os 4 .any (Rows.levelOfSpec.pre6 enc Try.prog Try.f4 Rows.levelOfRow.domain false) (Rows.levelOfSpec.post enc Try.prog Try.f4 false true false false) := by
  refine Shell.law_lifted (C := Try.checked) (tb := 4) (by kernel_rfl) started (by kernel_rfl) Try.func4
    (ChangeSpec.witness6 (enc := enc) (C := Try.checked) false ⟨#[], #[.int .i64 0, .int .i64 0, .int .i64 0], []⟩ 8 (by kernel_rfl) (by kernel_rfl) (by kernel_rfl) (by kernel_rfl))
    (by kernel_rfl) (by kernel_rfl) rfl rfl Try.underlying4 ?_
  intro W base args ds p hval0 hA0
  have hval : ∀ (j : Nat) t v, Try.f4.params[j]? = some t → args[j]? = some v → Value.okWide Try.prog W .any base t v := hval0
  have hA : DataW.TrodAll enc Try.prog W 0 (fun _ => true) true Try.f4.params.toList args.toList ds p := hA0
  clear hval0 hA0
  rw [Try.params4] at hA hval
  obtain ⟨v0, vs0, d0, ds0, p0, q0, hargs, rfl, rfl, h0, r0⟩ := trodAll_cons hA
  obtain ⟨v1, vs1, d1, ds1, p1, q1, rfl, rfl, rfl, h1, r1⟩ := trodAll_cons r0
  obtain ⟨v2, vs2, d2, ds2, p2, q2, rfl, rfl, rfl, h2, r2⟩ := trodAll_cons r1
  obtain ⟨rfl, rfl, rfl⟩ := trodAll_nil r2
  obtain rfl : args = #[v0, v1, v2] := by cases args; simp_all
  refine ⟨rfl, ?_⟩
  obtain ⟨b, rfl, -, -, g0⟩ := open_int Try.underlying2 (hval 0 2 v0 rfl rfl) h0
  obtain ⟨ppm, rfl, -, -, g1⟩ := open_int Try.underlying3 (hval 1 3 v1 rfl rfl) h1
  obtain ⟨n, rfl, -, -, g2⟩ := open_int Try.underlying3 (hval 2 3 v2 rfl rfl) h2
  exact of_walk b ppm n W

theorem levelOf_over : Rows.levelOfRow.holds Try.pinned (OpenSpec.ofChange Rows.levelOfSpec) :=
  OpenClaim.holds_of_wide 4 Try.f4 rfl rfl rfl rfl rfl rfl rfl ⟨rfl, rfl, rfl, rfl, rfl⟩ rfl rfl rfl rfl rfl (by kernel_rfl) Try.func4 (by kernel_rfl)
    (of_decide_eq_true (by kernel_rfl)) (by unfold Func.isWrapper; first | (rw [if_pos (by decide +kernel)]; kernel_rfl) | (rw [if_neg (by decide +kernel)]; exact ⟨rfl, rfl⟩))
    (fun os st H enc _ => levelOf_lifted os st H enc)

/-- The statement. -/
theorem levelOf_proved : Rows.LevelOfSaid := levelOf_over
end Go.Proofs.Ytkeghiljolojlaa.Law
