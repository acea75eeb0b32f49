/- accrue's Daily and Add answer what the document's own answers say, at any numbers; no condition. -/
import Derived.Test.YtkcfheaikhfonaaAccrueWakes
import Derived.Deep.QuietTactic
import Derived.BigQuiet
namespace Go.Proofs.Ytkcfheaikhfonaa.Law
open Go.ChangeShapes Go.WideShapes Go.ChangeAt Go.RowKit Accr RAccr

theorem tells_walk (a h p d : Int) (w : World) :
    Calls Try.prog 3 #[.agg #[.int .i64 a, .int .i64 h], .int .i64 p, .int .i64 d] w fun e w' => e = .returned (.bool true) ∧ Below w.heap.size w w' := by
  have K1 := Lib.hid (fun W => c_daily a p W)
  have K2 := Lib.hid (fun W => r_daily a p W)
  have K3 := Lib.hid (fun W => c_add h a p d W)
  have K4 := Lib.hid (fun W => r_add h a p d W)
  have KW := Lib.hid wakes_accrue
  generalize dV a p = v1 at *
  generalize dE a p = v2 at *
  generalize aV h a p d = v3 at *
  generalize aE h a p d = v4 at *
  have e1 : (v1 == v1) = true := by simp
  have e2 : (v2 == v2) = true := by simp
  have e3 : (v3 == v3) = true := by simp
  have e4 : (v4 == v4) = true := by simp
  go_enter Try.func3, Try.ntmps3
  go_wp2_with fail
  have BN := Lib.hid (below_new (Below.refl _ w) (.cells #[.int .i64 a, .int .i64 h] 22))
  have HN : Hid (((w.alloc (.cells #[.int .i64 a, .int .i64 h] 22)).cell? ⟨w.heap.size, 0, none⟩ = some (.int .i64 a) ∧ (w.alloc (.cells #[.int .i64 a, .int .i64 h] 22)).cell? ⟨w.heap.size, 1, none⟩ = some (.int .i64 h)) ∧ w.heap.size < (w.alloc (.cells #[.int .i64 a, .int .i64 h] 22)).heap.size) := ⟨⟨World.cell?_alloc_new .., World.cell?_alloc_new ..⟩, by simp⟩
  generalize hW0 : w.alloc (.cells #[.int .i64 a, .int .i64 h] 22) = W0 at *
  generalize hg : w.heap.size = g at *
  have BW0 := Lib.hid (Below.refl W0.heap.size W0)
  have HC : Hid (∀ W, Below W0.heap.size W0 W → W.cell? ⟨g, 0, none⟩ = some (.int .i64 a) ∧ W.cell? ⟨g, 1, none⟩ = some (.int .i64 h)) := fun W hW => ⟨(hW.cell (p := ⟨g, 0, none⟩) HN.out.2).trans HN.out.1.1, (hW.cell (p := ⟨g, 1, none⟩) HN.out.2).trans HN.out.1.2⟩
  obtain ⟨c0, c1⟩ := HC.out _ BW0.out
  clear HN hW0
  go_wp2_with fail
  refine (K1.out _).mono ?_
  rintro e w1 ⟨rfl, nw1, hw1⟩
  have Bw1 : Hid (Below W0.heap.size W0 w1) := show Below _ _ _ from by rw [hw1]; exact below_drewN BW0.out _
  clear hw1
  obtain ⟨c0, c1⟩ := HC.out _ Bw1.out
  go_wp2_with fail
  refine (K2.out _).mono ?_
  rintro e w2 ⟨rfl, hw2⟩
  have Bw2 : Hid (Below W0.heap.size W0 w2) := show Below _ _ _ from Bw1.out.trans (hw2.mono Bw1.out.size)
  clear hw2
  obtain ⟨c0, c1⟩ := HC.out _ Bw2.out
  go_wp2_with fail
  refine (K3.out _).mono ?_
  rintro e w3 ⟨rfl, hw3⟩
  have Bw3 : Hid (Below W0.heap.size W0 w3) := show Below _ _ _ from Bw2.out.trans (hw3.mono Bw2.out.size)
  clear hw3
  obtain ⟨c0, c1⟩ := HC.out _ Bw3.out
  go_wp2_with fail
  refine (K4.out _).mono ?_
  rintro e w4 ⟨rfl, hw4⟩
  have Bw4 : Hid (Below W0.heap.size W0 w4) := show Below _ _ _ from Bw3.out.trans (hw4.mono Bw3.out.size)
  clear hw4
  obtain ⟨c0, c1⟩ := HC.out _ Bw4.out
  go_wp2_with fail
  refine (KW.out _).mono ?_
  rintro e w5 ⟨rfl, hw5⟩
  have Bw5 : Hid (Below W0.heap.size W0 w5) := show Below _ _ _ from Bw4.out.trans (hw5.mono Bw4.out.size)
  clear hw5
  obtain ⟨c0, c1⟩ := HC.out _ Bw5.out
  go_wp2_with fail
  go_ret
  exact ⟨rfl, by rw [← hg] at *; exact below_via BN.out Bw5.out⟩

set_option maxRecDepth 100000 in
theorem accrueTells_lifted (os : Os) (started : os.Started) (H : Type) (enc : TypeId × Value → H) :
    ReturnsInHanded {} Try.checked os 3 .any (Rows.accrueTellsSpec.pre6 enc Try.prog Try.f3 Rows.accrueTellsRow.domain false) (Rows.accrueTellsSpec.post enc Try.prog Try.f3 false true false false) := by
  refine Shell.law_lifted (C := Try.checked) (tb := 4) (by kernel_rfl) started (by kernel_rfl) Try.func3
    (ChangeSpec.witness6 (enc := enc) (C := Try.checked) false ⟨#[], #[Value.agg #[.int .i64 0, .int .i64 0], .int .i64 0, .int .i64 0], []⟩ 8 (by kernel_rfl) (by kernel_rfl) (by kernel_rfl) (by kernel_rfl))
    (by kernel_rfl) (by kernel_rfl) rfl rfl Try.underlying4 ?_
  intro W base args ds p hval0 hA0
  have hval : ∀ (j : Nat) t v, Try.f3.params[j]? = some t → args[j]? = some v → Value.okWide Try.prog W .any base t v := hval0
  have hA : DataW.TrodAll enc Try.prog W 0 (fun _ => true) true Try.f3.params.toList args.toList ds p := hA0
  clear hval0 hA0
  rw [Try.params3] at hA hval
  obtain ⟨v0, vs0, d0, ds0, p0, q0, hargs, rfl, rfl, h0, r0⟩ := trodAll_cons hA
  obtain ⟨v1, vs1, d1, ds1, p1, q1, rfl, rfl, rfl, h1, r1⟩ := trodAll_cons r0
  obtain ⟨v2, vs2, d2, ds2, p2, q2, rfl, rfl, rfl, h2, r2⟩ := trodAll_cons r1
  obtain ⟨rfl, rfl, rfl⟩ := trodAll_nil r2
  obtain rfl : args = #[v0, v1, v2] := by cases args; simp_all
  refine ⟨rfl, ?_⟩
  obtain ⟨zs0, hzl0, rfl, hz0⟩ := Shell.open_arr Try.underlying22 Try.underlying2 (by kernel_rfl) (by kernel_rfl) (hval 0 22 v0 rfl rfl) h0
  obtain ⟨n0, n1, rfl⟩ := Shell.list2 zs0 hzl0
  obtain ⟨ppm, rfl, -, -, g1⟩ := open_int Try.underlying3 (hval 1 3 v1 rfl rfl) h1
  obtain ⟨days, rfl, -, -, g2⟩ := open_int Try.underlying3 (hval 2 3 v2 rfl rfl) h2
  exact tells_walk n0 n1 ppm days W

theorem accrueTells_over : Rows.accrueTellsRow.holds Try.pinned (OpenSpec.ofChange Rows.accrueTellsSpec) :=
  OpenClaim.holds_of_wide 3 Try.f3 rfl rfl rfl rfl rfl rfl rfl ⟨rfl, rfl, rfl, rfl, rfl⟩ rfl rfl rfl rfl rfl (by kernel_rfl) Try.func3 (by kernel_rfl)
    (of_decide_eq_true (by kernel_rfl)) (by unfold Func.isWrapper; first | (rw [if_pos (by decide +kernel)]; kernel_rfl) | (rw [if_neg (by decide +kernel)]; exact ⟨rfl, rfl⟩))
    (fun os st H enc _ => accrueTells_lifted os st H enc)

/-- The statement. -/
theorem accrueTells_proved : Rows.AccrueTellsSaid := accrueTells_over
end Go.Proofs.Ytkcfheaikhfonaa.Law
