/- The payment that Of tells leaves nothing, one cent less leaves something, at any numbers; no condition. -/
import Derived.Test.YtkeghiljolojlaaLevelParts
import Derived.Deep.QuietTactic
import Derived.BigQuiet
namespace Go.Proofs.Ytkeghiljolojlaa.Law
open Go.ChangeShapes Go.WideShapes Go.ChangeAt Go.RowKit Level Slice

theorem least_walk (b r n : Int) (w : World) : Calls Try.prog 5 #[.int .i64 b, .int .i64 r, .int .i64 n] w fun e w' => e = .returned (.bool true) ∧ Below w.heap.size w w' := by
  have KW := Lib.hid wakes_level
  have B0 := Lib.hid (Below.refl w.heap.size w)
  rcases least_facts b r n with ⟨x, f1, f2, f3⟩ | ⟨f1, q, f2, f3, f4, q0, q1, ⟨rfl, rfl⟩ | ⟨z, f5 | ⟨f5, f6⟩⟩⟩
  · have K1 := Lib.hid (fun W => of_at b r n 0 x W f3 f1)
    have t1 : (x != 0) = true := by rw [bne_iff_ne]; exact f2
    have t2 : (x == 0) = false := by rw [beq_eq_false_iff_ne]; exact f2
    clear f1 f2 f3
    go_enter Try.func5, Try.ntmps5
    go_wp2_with fail
    refine (K1.out _).mono ?_
    rintro e w1 ⟨rfl, hb⟩
    have Bw1 : Hid (Below w.heap.size w w1) := show Below _ _ _ from B0.out.trans (hb.mono B0.out.size)
    clear hb
    go_wp2_with fail
    refine (KW.out _).mono ?_
    rintro e w2 ⟨rfl, hb⟩
    have Bw2 : Hid (Below w.heap.size w w2) := show Below _ _ _ from Bw1.out.trans (hb.mono Bw1.out.size)
    clear hb
    go_wp2_with fail
    go_ret
    exact ⟨rfl, Bw2.out⟩
  · have K1 := Lib.hid (fun W => of_at 0 r n 0 0 W f2 f1)
    have K2 := Lib.hid (fun W => rleft_at 0 0 r n 0 0 W f3 f4)
    clear f1 f2 f3 f4 q0 q1
    go_enter Try.func5, Try.ntmps5
    go_wp2_with fail
    refine (K1.out _).mono ?_
    rintro e w1 ⟨rfl, hb⟩
    have Bw1 : Hid (Below w.heap.size w w1) := show Below _ _ _ from B0.out.trans (hb.mono B0.out.size)
    clear hb
    go_wp2_with fail
    refine (K2.out _).mono ?_
    rintro e w2 ⟨rfl, hb⟩
    have Bw2 : Hid (Below w.heap.size w w2) := show Below _ _ _ from Bw1.out.trans (hb.mono Bw1.out.size)
    clear hb
    go_wp2_with fail
    refine (KW.out _).mono ?_
    rintro e w3 ⟨rfl, hb⟩
    have Bw3 : Hid (Below w.heap.size w w3) := show Below _ _ _ from Bw2.out.trans (hb.mono Bw2.out.size)
    clear hb
    go_wp2_with fail
    go_ret
    exact ⟨rfl, Bw3.out⟩
  · have K1 := Lib.hid (fun W => of_at b r n q 0 W f2 f1)
    have K2 := Lib.hid (fun W => rleft_at b q r n 0 0 W f3 f4)
    have K3 := Lib.hid (fun W => rleft_at b (q - 1) r n (lV b (q - 1) r n) 14 W rfl f5)
    generalize lV b (q - 1) r n = v at *
    have t1 : decide (q < 0) = false := decide_eq_false (by omega)
    have t2 : (q == 0) = false := by rw [beq_eq_false_iff_ne]; omega
    have t3 : IntKind.i64.wrap (q - 1) = q - 1 := IntWalk.i64_in _ (by omega)
    have t4 : wrap64 (q - 1) = q - 1 := by unfold wrap64; omega
    obtain ⟨p, hp⟩ : ∃ p, p = q - 1 := ⟨_, rfl⟩
    rw [← hp] at *
    clear f1 f2 f3 f4 f5 z q0 q1 hp
    go_enter Try.func5, Try.ntmps5
    go_wp2_with fail
    refine (K1.out _).mono ?_
    rintro e w1 ⟨rfl, hb⟩
    have Bw1 : Hid (Below w.heap.size w w1) := show Below _ _ _ from B0.out.trans (hb.mono B0.out.size)
    clear hb
    go_wp2_with fail
    refine (K2.out _).mono ?_
    rintro e w2 ⟨rfl, hb⟩
    have Bw2 : Hid (Below w.heap.size w w2) := show Below _ _ _ from Bw1.out.trans (hb.mono Bw1.out.size)
    clear hb
    go_wp2_with fail
    refine (K3.out _).mono ?_
    rintro e w3 ⟨rfl, hb⟩
    have Bw3 : Hid (Below w.heap.size w w3) := show Below _ _ _ from Bw2.out.trans (hb.mono Bw2.out.size)
    clear hb
    go_wp2_with fail
    refine (KW.out _).mono ?_
    rintro e w4 ⟨rfl, hb⟩
    have Bw4 : Hid (Below w.heap.size w w4) := show Below _ _ _ from Bw3.out.trans (hb.mono Bw3.out.size)
    clear hb
    go_wp2_with fail
    go_ret
    exact ⟨rfl, Bw4.out⟩
  · have K1 := Lib.hid (fun W => of_at b r n q 0 W f2 f1)
    have K2 := Lib.hid (fun W => rleft_at b q r n 0 0 W f3 f4)
    have K3 := Lib.hid (fun W => rleft_at b (q - 1) r n (lV b (q - 1) r n) 0 W rfl f5)
    generalize lV b (q - 1) r n = v at *
    have t5 : decide (0 < v) = true := decide_eq_true f6
    have t1 : decide (q < 0) = false := decide_eq_false (by omega)
    have t2 : (q == 0) = false := by rw [beq_eq_false_iff_ne]; omega
    have t3 : IntKind.i64.wrap (q - 1) = q - 1 := IntWalk.i64_in _ (by omega)
    have t4 : wrap64 (q - 1) = q - 1 := by unfold wrap64; omega
    obtain ⟨p, hp⟩ : ∃ p, p = q - 1 := ⟨_, rfl⟩
    rw [← hp] at *
    clear f1 f2 f3 f4 f5 z q0 q1 hp
    go_enter Try.func5, Try.ntmps5
    go_wp2_with fail
    refine (K1.out _).mono ?_
    rintro e w1 ⟨rfl, hb⟩
    have Bw1 : Hid (Below w.heap.size w w1) := show Below _ _ _ from B0.out.trans (hb.mono B0.out.size)
    clear hb
    go_wp2_with fail
    refine (K2.out _).mono ?_
    rintro e w2 ⟨rfl, hb⟩
    have Bw2 : Hid (Below w.heap.size w w2) := show Below _ _ _ from Bw1.out.trans (hb.mono Bw1.out.size)
    clear hb
    go_wp2_with fail
    refine (K3.out _).mono ?_
    rintro e w3 ⟨rfl, hb⟩
    have Bw3 : Hid (Below w.heap.size w w3) := show Below _ _ _ from Bw2.out.trans (hb.mono Bw2.out.size)
    clear hb
    go_wp2_with fail
    refine (KW.out _).mono ?_
    rintro e w4 ⟨rfl, hb⟩
    have Bw4 : Hid (Below w.heap.size w w4) := show Below _ _ _ from Bw3.out.trans (hb.mono Bw3.out.size)
    clear hb
    go_wp2_with fail
    go_ret
    exact ⟨rfl, Bw4.out⟩

set_option maxRecDepth 100000 in
theorem levelLeast_lifted (os : Os) (started : os.Started) (H : Type) (enc : TypeId × Value → H) :
    ReturnsInHanded {} Try.checked os 5 .any (Rows.levelLeastSpec.pre6 enc Try.prog Try.f5 Rows.levelLeastRow.domain false) (Rows.levelLeastSpec.post enc Try.prog Try.f5 false true false false) := by
  refine Shell.law_lifted (C := Try.checked) (tb := 4) (by kernel_rfl) started (by kernel_rfl) Try.func5
    (ChangeSpec.witness6 (enc := enc) (C := Try.checked) false ⟨#[], #[.int .i64 0, .int .i64 0, .int .i64 0], []⟩ 8 (by kernel_rfl) (by kernel_rfl) (by kernel_rfl) (by kernel_rfl))
    (by kernel_rfl) (by kernel_rfl) rfl rfl Try.underlying4 ?_
  intro W base args ds p hval0 hA0
  have hval : ∀ (j : Nat) t v, Try.f5.params[j]? = some t → args[j]? = some v → Value.okWide Try.prog W .any base t v := hval0
  have hA : DataW.TrodAll enc Try.prog W 0 (fun _ => true) true Try.f5.params.toList args.toList ds p := hA0
  clear hval0 hA0
  rw [Try.params5] at hA hval
  obtain ⟨v0, vs0, d0, ds0, p0, q0, hargs, rfl, rfl, h0, r0⟩ := trodAll_cons hA
  obtain ⟨v1, vs1, d1, ds1, p1, q1, rfl, rfl, rfl, h1, r1⟩ := trodAll_cons r0
  obtain ⟨v2, vs2, d2, ds2, p2, q2, rfl, rfl, rfl, h2, r2⟩ := trodAll_cons r1
  obtain ⟨rfl, rfl, rfl⟩ := trodAll_nil r2
  obtain rfl : args = #[v0, v1, v2] := by cases args; simp_all
  refine ⟨rfl, ?_⟩
  obtain ⟨b, rfl, -, -, g0⟩ := open_int Try.underlying2 (hval 0 2 v0 rfl rfl) h0
  obtain ⟨ppm, rfl, -, -, g1⟩ := open_int Try.underlying3 (hval 1 3 v1 rfl rfl) h1
  obtain ⟨n, rfl, -, -, g2⟩ := open_int Try.underlying3 (hval 2 3 v2 rfl rfl) h2
  exact least_walk b ppm n W

theorem levelLeast_over : Rows.levelLeastRow.holds Try.pinned (OpenSpec.ofChange Rows.levelLeastSpec) :=
  OpenClaim.holds_of_wide 5 Try.f5 rfl rfl rfl rfl rfl rfl rfl ⟨rfl, rfl, rfl, rfl, rfl⟩ rfl rfl rfl rfl rfl (by kernel_rfl) Try.func5 (by kernel_rfl)
    (of_decide_eq_true (by kernel_rfl)) (by unfold Func.isWrapper; first | (rw [if_pos (by decide +kernel)]; kernel_rfl) | (rw [if_neg (by decide +kernel)]; exact ⟨rfl, rfl⟩))
    (fun os st H enc _ => levelLeast_lifted os st H enc)

/-- The statement. -/
theorem levelLeast_proved : Rows.LevelLeastSaid := levelLeast_over
end Go.Proofs.Ytkeghiljolojlaa.Law
