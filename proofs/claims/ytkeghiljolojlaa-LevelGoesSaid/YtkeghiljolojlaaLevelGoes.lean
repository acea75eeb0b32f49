/- level's Month, Left and Table answer what the document's own answer, at any numbers; no condition. -/
import Derived.Test.YtkeghiljolojlaaLevelParts
import Derived.Test.YtkeghiljolojlaaSum
import Derived.Deep.QuietTactic
import Derived.BigQuiet
namespace Go.Proofs.Ytkeghiljolojlaa.Law
open Go.ChangeShapes Go.WideShapes Go.ChangeAt Go.RowKit Level Slice

theorem goes_walk (b p r n : Int) (w : World) : Calls Try.prog 3 #[.agg #[.int .i64 b, .int .i64 p], .int .i64 r, .int .i64 n] w fun e w' => e = .returned (.bool true) ∧ Below w.heap.size w w' := by
  have K1 := Lib.hid (fun W => c_month b p r W)
  have K2 := Lib.hid (fun W => RLevel.r_month b p r W)
  have K3 := Lib.hid (fun W => c_leftc b p r n W)
  have K4 := Lib.hid (fun W => RLevel.r_left b p r n W)
  have K5 : Hid (∀ W, Calls Try.prog 12 #[.int .i64 b, .int .i64 p, .int .i64 r, .int .i64 n] W fun e w' => ∃ v, e = .returned (.tuple #[v, .int .i64 (tE b p r n)]) ∧ Ints w' w'.heap.size .i64 v (tL b p r n) ∧ Below W.heap.size W w') := fun W => c_table b p r n W
  have K6 : Hid (∀ W, Calls Try.prog 13 #[.int .i64 b, .int .i64 p, .int .i64 r, .int .i64 n] W fun e w' => ∃ v, e = .returned (.tuple #[v, .int .i64 (tE b p r n)]) ∧ Ints w' w'.heap.size .i64 v (tL b p r n) ∧ Below W.heap.size W w') := fun W => RLevel.r_table b p r n W
  have KW := Lib.hid wakes_level
  generalize mV b p r = v1 at *
  generalize mE b p r = v2 at *
  generalize lV b p r n = v3 at *
  generalize lE b p r n = v4 at *
  generalize tE b p r n = v5 at *
  generalize tL b p r n = L at *
  have t1 : (v1 == v1) = true := by simp
  have t2 : (v2 == v2) = true := by simp
  have t3 : (v3 == v3) = true := by simp
  have t4 : (v4 == v4) = true := by simp
  have t5 : (v5 == v5) = true := by simp
  go_enter Try.func3, Try.ntmps3
  go_wp2_with fail
  have BN := Lib.hid (below_new (Below.refl _ w) (.cells #[.int .i64 b, .int .i64 p] 22))
  have HN : Hid (((w.alloc (.cells #[.int .i64 b, .int .i64 p] 22)).cell? ⟨w.heap.size, 0, none⟩ = some (.int .i64 b) ∧ (w.alloc (.cells #[.int .i64 b, .int .i64 p] 22)).cell? ⟨w.heap.size, 1, none⟩ = some (.int .i64 p)) ∧ w.heap.size < (w.alloc (.cells #[.int .i64 b, .int .i64 p] 22)).heap.size) := ⟨⟨World.cell?_alloc_new .., World.cell?_alloc_new ..⟩, by simp⟩
  generalize hW0 : w.alloc (.cells #[.int .i64 b, .int .i64 p] 22) = W0 at *
  generalize hg : w.heap.size = g at *
  have B0 := Lib.hid (Below.refl W0.heap.size W0)
  have HC : Hid (∀ W, Below W0.heap.size W0 W → W.cell? ⟨g, 0, none⟩ = some (.int .i64 b) ∧ W.cell? ⟨g, 1, none⟩ = some (.int .i64 p)) := fun W hW => ⟨(hW.cell (p := ⟨g, 0, none⟩) HN.out.2).trans HN.out.1.1, (hW.cell (p := ⟨g, 1, none⟩) HN.out.2).trans HN.out.1.2⟩
  obtain ⟨c0, c1⟩ := HC.out _ B0.out
  clear HN hW0
  go_wp2_with fail
  refine (K1.out _).mono ?_
  rintro e w1 ⟨rfl, hb⟩
  have Bw1 : Hid (Below W0.heap.size W0 w1) := show Below _ _ _ from B0.out.trans (hb.mono B0.out.size)
  clear hb
  obtain ⟨c0, c1⟩ := HC.out _ Bw1.out
  go_wp2_with fail
  refine (K2.out _).mono ?_
  rintro e w2 ⟨rfl, hb⟩
  have Bw2 : Hid (Below W0.heap.size W0 w2) := show Below _ _ _ from Bw1.out.trans (hb.mono Bw1.out.size)
  clear hb
  obtain ⟨c0, c1⟩ := HC.out _ Bw2.out
  go_wp2_with fail
  refine (K3.out _).mono ?_
  rintro e w3 ⟨rfl, hb⟩
  have Bw3 : Hid (Below W0.heap.size W0 w3) := show Below _ _ _ from Bw2.out.trans (hb.mono Bw2.out.size)
  clear hb
  obtain ⟨c0, c1⟩ := HC.out _ Bw3.out
  go_wp2_with fail
  refine (K4.out _).mono ?_
  rintro e w4 ⟨rfl, hb⟩
  have Bw4 : Hid (Below W0.heap.size W0 w4) := show Below _ _ _ from Bw3.out.trans (hb.mono Bw3.out.size)
  clear hb
  obtain ⟨c0, c1⟩ := HC.out _ Bw4.out
  go_wp2_with fail
  refine (K5.out _).mono ?_
  rintro e w5 ⟨u1, rfl, hv, hb⟩
  obtain ⟨A1, k1, rfl, hr⟩ := hv
  have V1 : Hid (Ints w5 w5.heap.size .i64 (.slice A1 L.length k1) L) := ⟨A1, k1, rfl, hr⟩
  have Bw5 : Hid (Below W0.heap.size W0 w5) := show Below _ _ _ from Bw4.out.trans (hb.mono Bw4.out.size)
  clear hb hr
  obtain ⟨c0, c1⟩ := HC.out _ Bw5.out
  go_wp2_with fail
  refine (K6.out _).mono ?_
  rintro e w6 ⟨u2, rfl, hv, hb⟩
  obtain ⟨A2, k2, rfl, hr⟩ := hv
  have V2 : Hid (Ints w6 w6.heap.size .i64 (.slice A2 L.length k2) L) := ⟨A2, k2, rfl, hr⟩
  have V1' : Hid (Ints w6 w6.heap.size .i64 (.slice A1 L.length k1) L) := show Ints _ _ _ _ _ from (V1.out.below hb).more hb.size
  clear V1
  have Bw6 : Hid (Below W0.heap.size W0 w6) := show Below _ _ _ from Bw5.out.trans (hb.mono Bw5.out.size)
  clear hb hr
  clear c0 c1
  go_wp2_with fail
  refine (Money.longs_same L _ _ _ _ V1'.out V2.out).mono ?_
  rintro e w7 ⟨rfl, m, rfl⟩
  have B7 : Hid (Below W0.heap.size W0 (w6.drewN m)) := show Below _ _ _ from below_drewN Bw6.out m
  go_wp2_with fail
  refine (KW.out _).mono ?_
  rintro e w8 ⟨rfl, hb⟩
  have Bw8 : Hid (Below W0.heap.size W0 w8) := show Below _ _ _ from B7.out.trans (hb.mono B7.out.size)
  clear hb
  go_wp2_with fail
  go_ret
  exact ⟨rfl, (by rw [← hg] at *; exact below_via BN.out Bw8.out)⟩

set_option maxRecDepth 100000 in
theorem levelGoes_lifted (os : Os) (started : os.Started) (H : Type) (enc : TypeId × Value → H) :
    ReturnsInHanded {} Try.checked os 3 .any (Rows.levelGoesSpec.pre6 enc Try.prog Try.f3 Rows.levelGoesRow.domain false) (Rows.levelGoesSpec.post enc Try.prog Try.f3 false true false false) := by
  refine Shell.law_lifted (C := Try.checked) (tb := 4) (by kernel_rfl) started (by kernel_rfl) Try.func3
    (ChangeSpec.witness6 (enc := enc) (C := Try.checked) false ⟨#[], #[Value.agg #[.int .i64 0, .int .i64 0], .int .i64 0, .int .i64 0], []⟩ 8 (by kernel_rfl) (by kernel_rfl) (by kernel_rfl) (by kernel_rfl))
    (by kernel_rfl) (by kernel_rfl) rfl rfl Try.underlying4 ?_
  intro W base args ds p hval0 hA0
  have hval : ∀ (j : Nat) t v, Try.f3.params[j]? = some t → args[j]? = some v → Value.okWide Try.prog W .any base t v := hval0
  have hA : DataW.TrodAll enc Try.prog W 0 (fun _ => true) true Try.f3.params.toList args.toList ds p := hA0
  clear hval0 hA0
  rw [Try.params3] at hA hval
  obtain ⟨v0, vs0, d0, ds0, p0, q0, hargs, rfl, rfl, h0, r0⟩ := trodAll_cons hA
  obtain ⟨v1, vs1, d1, ds1, p1, q1, rfl, rfl, rfl, h1, r1⟩ := trodAll_cons r0
  obtain ⟨v2, vs2, d2, ds2, p2, q2, rfl, rfl, rfl, h2, r2⟩ := trodAll_cons r1
  obtain ⟨rfl, rfl, rfl⟩ := trodAll_nil r2
  obtain rfl : args = #[v0, v1, v2] := by cases args; simp_all
  refine ⟨rfl, ?_⟩
  obtain ⟨zs0, hzl0, rfl, hz0⟩ := Shell.open_arr Try.underlying22 Try.underlying2 (by kernel_rfl) (by kernel_rfl) (hval 0 22 v0 rfl rfl) h0
  obtain ⟨n0, n1, rfl⟩ := Shell.list2 zs0 hzl0
  obtain ⟨ppm, rfl, -, -, g1⟩ := open_int Try.underlying3 (hval 1 3 v1 rfl rfl) h1
  obtain ⟨m, rfl, -, -, g2⟩ := open_int Try.underlying3 (hval 2 3 v2 rfl rfl) h2
  exact goes_walk n0 n1 ppm m W

theorem levelGoes_over : Rows.levelGoesRow.holds Try.pinned (OpenSpec.ofChange Rows.levelGoesSpec) :=
  OpenClaim.holds_of_wide 3 Try.f3 rfl rfl rfl rfl rfl rfl rfl ⟨rfl, rfl, rfl, rfl, rfl⟩ rfl rfl rfl rfl rfl (by kernel_rfl) Try.func3 (by kernel_rfl)
    (of_decide_eq_true (by kernel_rfl)) (by unfold Func.isWrapper; first | (rw [if_pos (by decide +kernel)]; kernel_rfl) | (rw [if_neg (by decide +kernel)]; exact ⟨rfl, rfl⟩))
    (fun os st H enc _ => levelGoes_lifted os st H enc)

/-- The statement. -/
theorem levelGoes_proved : Rows.LevelGoesSaid := levelGoes_over
end Go.Proofs.Ytkeghiljolojlaa.Law
