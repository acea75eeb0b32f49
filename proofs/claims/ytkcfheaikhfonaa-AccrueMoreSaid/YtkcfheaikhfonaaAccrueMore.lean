/- Who owes more, or at a higher rate, gets no less interest a day; at no rate there is none; cents taken and what is left are all there was; at any numbers, no condition. -/
import Derived.Test.YtkcfheaikhfonaaAccrueWakes
import Derived.Deep.QuietTactic
import Derived.BigQuiet
namespace Go.Proofs.Ytkcfheaikhfonaa.Law
open Go.ChangeShapes Go.WideShapes Go.ChangeAt Go.RowKit Accr RAccr

theorem more_facts (p q r s : Int) (p0 : 0 ≤ p) (p1 : p ≤ 4294967295) (q0 : 0 ≤ q) (q1 : q ≤ 4294967295) (r0 : 0 ≤ r) (r1 : r ≤ 65535) (s0 : 0 ≤ s) (s1 : s ≤ 65535) (hp : p ≤ q) (hr : r ≤ s) :
    ∃ a b, a ≤ b ∧ dV p r = a ∧ dE p r = 0 ∧ dV q s = b ∧ dE q s = 0 ∧ dV p 0 = 0 ∧ dE p 0 = 0 := by
  have k1 := okD_iff.2 (show 0 ≤ p ∧ p ≤ 10000000000000 ∧ 0 ≤ r ∧ r ≤ 1000000 from ⟨by omega, by omega, by omega, by omega⟩)
  have k2 := okD_iff.2 (show 0 ≤ q ∧ q ≤ 10000000000000 ∧ 0 ≤ s ∧ s ≤ 1000000 from ⟨by omega, by omega, by omega, by omega⟩)
  have k3 := okD_iff.2 (show 0 ≤ p ∧ p ≤ 10000000000000 ∧ (0 : Int) ≤ 0 ∧ (0 : Int) ≤ 1000000 from ⟨by omega, by omega, by omega, by omega⟩)
  refine ⟨dayI p r, dayI q s, ?_, (dV_yes k1).1, (dV_yes k1).2, (dV_yes k2).1, (dV_yes k2).2, ?_, (dV_yes k3).2⟩
  · have := Int.mul_le_mul hp hr r0 q0
    unfold dayI; omega
  · rw [(dV_yes k3).1]; unfold dayI; rw [Int.mul_zero]; rfl
theorem rest_facts (m : Int) (h0 : 0 ≤ m) (h1 : m < 1000000000000000000) : ∃ v l, wholeI m = v ∧ tV m v = l ∧ tE m v = 0 ∧ 0 ≤ l ∧ l < 1000000 ∧ wrap64 (l + wrap64 (v * 1000000)) = m ∧ wrap64 (l + v * 1000000) = m ∧ wrap64 (v * 1000000) = v * 1000000 ∧ l + v * 1000000 = m := by
  obtain ⟨v, hv⟩ : ∃ v, wholeI m = v := ⟨_, rfl⟩
  have e : v = m / 1000000 := by rw [← hv]; unfold wholeI; rw [if_neg (by omega)]
  have k : okT m v = true := by unfold okT; rw [decide_eq_true_eq, hv]; omega
  refine ⟨v, m - v * 1000000, hv, (tV_yes k).1, (tV_yes k).2, by omega, by omega, ?_, ?_, ?_, by omega⟩ <;> (unfold wrap64; omega)
set_option maxHeartbeats 4000000 in
set_option maxRecDepth 20000 in
theorem more_walk (p q r s z : Int) (w : World) (p0 : 0 ≤ p) (p1 : p ≤ 4294967295) (q0 : 0 ≤ q) (q1 : q ≤ 4294967295) (r0 : 0 ≤ r) (r1 : r ≤ 65535) (s0 : 0 ≤ s) (s1 : s ≤ 65535) (z0 : 0 ≤ z) :
    Calls Try.prog 6 #[.agg #[.int .u32 p, .int .u32 q], .agg #[.int .u16 r, .int .u16 s], .int .u64 z] w fun e w' => e = .returned (.bool true) ∧ Below w.heap.size w w' := by
  obtain ⟨M, hM1, hM2, hM3, hM4⟩ : ∃ M, p ≤ M ∧ 0 ≤ M ∧ M ≤ 4294967295 ∧ ((p < q ∧ q = M) ∨ (¬ p < q ∧ p = M)) := by
    by_cases h : p < q
    · exact ⟨q, by omega, by omega, by omega, Or.inl ⟨h, rfl⟩⟩
    · exact ⟨p, by omega, by omega, by omega, Or.inr ⟨h, rfl⟩⟩
  obtain ⟨N, hN1, hN2, hN3, hN4⟩ : ∃ N, r ≤ N ∧ 0 ≤ N ∧ N ≤ 65535 ∧ ((r < s ∧ s = N) ∨ (¬ r < s ∧ r = N)) := by
    by_cases h : r < s
    · exact ⟨s, by omega, by omega, by omega, Or.inl ⟨h, rfl⟩⟩
    · exact ⟨r, by omega, by omega, by omega, Or.inr ⟨h, rfl⟩⟩
  obtain ⟨a, b, fab, f1, f2, f3, f4, f5, f6⟩ := more_facts p M r N p0 p1 hM2 hM3 r0 r1 hN2 hN3 hM1 hN1
  obtain ⟨m, hm⟩ : ∃ m, z.tmod 1000000000000000000 = m := ⟨_, rfl⟩
  have hm0 : 0 ≤ m ∧ m < 1000000000000000000 := by rw [← hm, Int.tmod_eq_emod_of_nonneg z0]; omega
  obtain ⟨v, l, g1, g2, g3, g4, g5, g6, g7, g8, g9⟩ := rest_facts m hm0.1 hm0.2
  have wp : IntKind.i64.wrap p = p := IntWalk.i64_in _ (by omega)
  have wr : IntKind.i64.wrap r = r := IntWalk.i64_in _ (by omega)
  have wM : IntKind.i64.wrap M = M := IntWalk.i64_in _ (by omega)
  have wN : IntKind.i64.wrap N = N := IntWalk.i64_in _ (by omega)
  have wm : IntKind.i64.wrap m = m := IntWalk.i64_in _ (by omega)
  have K1 := Lib.hid (fun W => daily_is p r a 0 W f1 f2)
  have K2 := Lib.hid (fun W => daily_is M N b 0 W f3 f4)
  have K3 := Lib.hid (fun W => daily_is p 0 0 0 W f5 f6)
  have K4 := Lib.hid (fun W => whole_is m v W (by omega) g1)
  have K5 := Lib.hid (fun W => take_is m v l 0 W (by omega) g2 g3)
  have KW := Lib.hid wakes_accrue
  have ta : decide (a ≤ b) = true := decide_eq_true fab
  have tb : decide (0 ≤ l) = true := decide_eq_true g4
  have tc : decide (l < 1000000) = true := decide_eq_true g5
  have td : (m == m) = true := by simp
  have hM : ∀ W : World, True := fun _ => trivial
  clear fab f1 f2 f3 f4 f5 f6 g1 g2 g3 g4 g5 p0 p1 q0 q1 r0 r1 s0 s1 z0 hM1 hM2 hM3 hN1 hN2 hN3 hm0 hM
  go_enter Try.func6, Try.ntmps6
  go_wp2_with fail
  have BN := Lib.hid (below_new (below_new (Below.refl _ w) (.cells #[.int .u32 p, .int .u32 q] 40)) (.cells #[.int .u16 r, .int .u16 s] 42))
  have HN : Hid ((((w.alloc (.cells #[.int .u32 p, .int .u32 q] 40)).alloc (.cells #[.int .u16 r, .int .u16 s] 42)).cell? ⟨w.heap.size, 0, none⟩ = some (.int .u32 p) ∧ ((w.alloc (.cells #[.int .u32 p, .int .u32 q] 40)).alloc (.cells #[.int .u16 r, .int .u16 s] 42)).cell? ⟨w.heap.size, 1, none⟩ = some (.int .u32 q) ∧ ((w.alloc (.cells #[.int .u32 p, .int .u32 q] 40)).alloc (.cells #[.int .u16 r, .int .u16 s] 42)).cell? ⟨w.heap.size + 1, 0, none⟩ = some (.int .u16 r) ∧ ((w.alloc (.cells #[.int .u32 p, .int .u32 q] 40)).alloc (.cells #[.int .u16 r, .int .u16 s] 42)).cell? ⟨w.heap.size + 1, 1, none⟩ = some (.int .u16 s)) ∧ w.heap.size + 1 < ((w.alloc (.cells #[.int .u32 p, .int .u32 q] 40)).alloc (.cells #[.int .u16 r, .int .u16 s] 42)).heap.size) := ⟨⟨by simp [go_sem], by simp [go_sem], by simp [go_sem], by simp [go_sem]⟩, by simp⟩
  generalize hW0 : ((w.alloc (.cells #[.int .u32 p, .int .u32 q] 40)).alloc (.cells #[.int .u16 r, .int .u16 s] 42)) = W0 at *
  generalize hg : w.heap.size = g at *
  have BW0 := Lib.hid (Below.refl W0.heap.size W0)
  have HC : Hid (∀ W, Below W0.heap.size W0 W → W.cell? ⟨g, 0, none⟩ = some (.int .u32 p) ∧ W.cell? ⟨g, 1, none⟩ = some (.int .u32 q) ∧ W.cell? ⟨g + 1, 0, none⟩ = some (.int .u16 r) ∧ W.cell? ⟨g + 1, 1, none⟩ = some (.int .u16 s)) := fun W hW => ⟨(hW.cell (p := ⟨g, 0, none⟩) (Nat.lt_of_succ_lt HN.out.2)).trans HN.out.1.1, (hW.cell (p := ⟨g, 1, none⟩) (Nat.lt_of_succ_lt HN.out.2)).trans HN.out.1.2.1, (hW.cell (p := ⟨g + 1, 0, none⟩) HN.out.2).trans HN.out.1.2.2.1, (hW.cell (p := ⟨g + 1, 1, none⟩) HN.out.2).trans HN.out.1.2.2.2⟩
  clear hW0
  obtain ⟨c0, c1, c2, c3⟩ := HC.out _ BW0.out
  go_quiet (fail)
  have B1 : Hid (Below W0.heap.size W0 (W0.drewN nq)) := show Below _ _ _ from below_drewN BW0.out _
  clear c0 c1 c2 c3
  generalize W0.drewN nq = W1 at *
  go_wp2_with fail
  rcases hM4 with ⟨t1, rfl⟩ | ⟨t1, rfl⟩
  · rcases hN4 with ⟨t2, rfl⟩ | ⟨t2, rfl⟩
    · go_wp2_with fail
      refine (K1.out _).mono ?_
      rintro e w1 ⟨rfl, nw1, hw1⟩
      have Bw1 : Hid (Below W0.heap.size W0 w1) := show Below _ _ _ from by rw [hw1]; exact below_drewN B1.out _
      clear hw1
      go_wp2_with fail
      refine (K2.out _).mono ?_
      rintro e w2 ⟨rfl, nw2, hw2⟩
      have Bw2 : Hid (Below W0.heap.size W0 w2) := show Below _ _ _ from by rw [hw2]; exact below_drewN Bw1.out _
      clear hw2
      go_wp2_with fail
      refine (K3.out _).mono ?_
      rintro e w3 ⟨rfl, nw3, hw3⟩
      have Bw3 : Hid (Below W0.heap.size W0 w3) := show Below _ _ _ from by rw [hw3]; exact below_drewN Bw2.out _
      clear hw3
      go_wp2_with fail
      refine (K4.out _).mono ?_
      rintro e w' ⟨rfl, rfl⟩
      go_wp2_with fail
      refine (K5.out _).mono ?_
      rintro e w' ⟨rfl, rfl⟩
      go_wp2_with fail
      refine (KW.out _).mono ?_
      rintro e w4 ⟨rfl, hw4⟩
      have Bw4 : Hid (Below W0.heap.size W0 w4) := show Below _ _ _ from Bw3.out.trans (hw4.mono Bw3.out.size)
      clear hw4
      go_wp2_with fail
      go_ret
      exact ⟨rfl, by rw [← hg] at *; exact below_via BN.out Bw4.out⟩
    · go_wp2_with fail
      refine (K1.out _).mono ?_
      rintro e w1 ⟨rfl, nw1, hw1⟩
      have Bw1 : Hid (Below W0.heap.size W0 w1) := show Below _ _ _ from by rw [hw1]; exact below_drewN B1.out _
      clear hw1
      go_wp2_with fail
      refine (K2.out _).mono ?_
      rintro e w2 ⟨rfl, nw2, hw2⟩
      have Bw2 : Hid (Below W0.heap.size W0 w2) := show Below _ _ _ from by rw [hw2]; exact below_drewN Bw1.out _
      clear hw2
      go_wp2_with fail
      refine (K3.out _).mono ?_
      rintro e w3 ⟨rfl, nw3, hw3⟩
      have Bw3 : Hid (Below W0.heap.size W0 w3) := show Below _ _ _ from by rw [hw3]; exact below_drewN Bw2.out _
      clear hw3
      go_wp2_with fail
      refine (K4.out _).mono ?_
      rintro e w' ⟨rfl, rfl⟩
      go_wp2_with fail
      refine (K5.out _).mono ?_
      rintro e w' ⟨rfl, rfl⟩
      go_wp2_with fail
      refine (KW.out _).mono ?_
      rintro e w4 ⟨rfl, hw4⟩
      have Bw4 : Hid (Below W0.heap.size W0 w4) := show Below _ _ _ from Bw3.out.trans (hw4.mono Bw3.out.size)
      clear hw4
      go_wp2_with fail
      go_ret
      exact ⟨rfl, by rw [← hg] at *; exact below_via BN.out Bw4.out⟩
  · rcases hN4 with ⟨t2, rfl⟩ | ⟨t2, rfl⟩
    · go_wp2_with fail
      refine (K1.out _).mono ?_
      rintro e w1 ⟨rfl, nw1, hw1⟩
      have Bw1 : Hid (Below W0.heap.size W0 w1) := show Below _ _ _ from by rw [hw1]; exact below_drewN B1.out _
      clear hw1
      go_wp2_with fail
      refine (K2.out _).mono ?_
      rintro e w2 ⟨rfl, nw2, hw2⟩
      have Bw2 : Hid (Below W0.heap.size W0 w2) := show Below _ _ _ from by rw [hw2]; exact below_drewN Bw1.out _
      clear hw2
      go_wp2_with fail
      refine (K3.out _).mono ?_
      rintro e w3 ⟨rfl, nw3, hw3⟩
      have Bw3 : Hid (Below W0.heap.size W0 w3) := show Below _ _ _ from by rw [hw3]; exact below_drewN Bw2.out _
      clear hw3
      go_wp2_with fail
      refine (K4.out _).mono ?_
      rintro e w' ⟨rfl, rfl⟩
      go_wp2_with fail
      refine (K5.out _).mono ?_
      rintro e w' ⟨rfl, rfl⟩
      go_wp2_with fail
      refine (KW.out _).mono ?_
      rintro e w4 ⟨rfl, hw4⟩
      have Bw4 : Hid (Below W0.heap.size W0 w4) := show Below _ _ _ from Bw3.out.trans (hw4.mono Bw3.out.size)
      clear hw4
      go_wp2_with fail
      go_ret
      exact ⟨rfl, by rw [← hg] at *; exact below_via BN.out Bw4.out⟩
    · go_wp2_with fail
      refine (K1.out _).mono ?_
      rintro e w1 ⟨rfl, nw1, hw1⟩
      have Bw1 : Hid (Below W0.heap.size W0 w1) := show Below _ _ _ from by rw [hw1]; exact below_drewN B1.out _
      clear hw1
      go_wp2_with fail
      refine (K2.out _).mono ?_
      rintro e w2 ⟨rfl, nw2, hw2⟩
      have Bw2 : Hid (Below W0.heap.size W0 w2) := show Below _ _ _ from by rw [hw2]; exact below_drewN Bw1.out _
      clear hw2
      go_wp2_with fail
      refine (K3.out _).mono ?_
      rintro e w3 ⟨rfl, nw3, hw3⟩
      have Bw3 : Hid (Below W0.heap.size W0 w3) := show Below _ _ _ from by rw [hw3]; exact below_drewN Bw2.out _
      clear hw3
      go_wp2_with fail
      refine (K4.out _).mono ?_
      rintro e w' ⟨rfl, rfl⟩
      go_wp2_with fail
      refine (K5.out _).mono ?_
      rintro e w' ⟨rfl, rfl⟩
      go_wp2_with fail
      refine (KW.out _).mono ?_
      rintro e w4 ⟨rfl, hw4⟩
      have Bw4 : Hid (Below W0.heap.size W0 w4) := show Below _ _ _ from Bw3.out.trans (hw4.mono Bw3.out.size)
      clear hw4
      go_wp2_with fail
      go_ret
      exact ⟨rfl, by rw [← hg] at *; exact below_via BN.out Bw4.out⟩

set_option maxRecDepth 100000 in
theorem accrueMore_lifted (os : Os) (started : os.Started) (H : Type) (enc : TypeId × Value → H) :
    ReturnsInHanded {} Try.checked os 6 .any (Rows.accrueMoreSpec.pre6 enc Try.prog Try.f6 Rows.accrueMoreRow.domain false) (Rows.accrueMoreSpec.post enc Try.prog Try.f6 false true false false) := by
  refine Shell.law_lifted (C := Try.checked) (tb := 4) (by kernel_rfl) started (by kernel_rfl) Try.func6
    (ChangeSpec.witness6 (enc := enc) (C := Try.checked) false ⟨#[], #[Value.agg #[.int .u32 0, .int .u32 0], Value.agg #[.int .u16 0, .int .u16 0], .int .u64 0], []⟩ 8 (by kernel_rfl) (by kernel_rfl) (by kernel_rfl) (by kernel_rfl))
    (by kernel_rfl) (by kernel_rfl) rfl rfl Try.underlying4 ?_
  intro W base args ds p hval0 hA0
  have hval : ∀ (j : Nat) t v, Try.f6.params[j]? = some t → args[j]? = some v → Value.okWide Try.prog W .any base t v := hval0
  have hA : DataW.TrodAll enc Try.prog W 0 (fun _ => true) true Try.f6.params.toList args.toList ds p := hA0
  clear hval0 hA0
  rw [Try.params6] at hA hval
  obtain ⟨v0, vs0, d0, ds0, p0, q0, hargs, rfl, rfl, h0, r0⟩ := trodAll_cons hA
  obtain ⟨v1, vs1, d1, ds1, p1, q1, rfl, rfl, rfl, h1, r1⟩ := trodAll_cons r0
  obtain ⟨v2, vs2, d2, ds2, p2, q2, rfl, rfl, rfl, h2, r2⟩ := trodAll_cons r1
  obtain ⟨rfl, rfl, rfl⟩ := trodAll_nil r2
  obtain rfl : args = #[v0, v1, v2] := by cases args; simp_all
  refine ⟨rfl, ?_⟩
  obtain ⟨zs0, hzl0, rfl, hz0⟩ := Shell.open_arr Try.underlying40 Try.underlying39 (by kernel_rfl) (by kernel_rfl) (hval 0 40 v0 rfl rfl) h0
  obtain ⟨n0, n1, rfl⟩ := Shell.list2 zs0 hzl0
  obtain ⟨zs1, hzl1, rfl, hz1⟩ := Shell.open_arr Try.underlying42 Try.underlying41 (by kernel_rfl) (by kernel_rfl) (hval 1 42 v1 rfl rfl) h1
  obtain ⟨k0, k1, rfl⟩ := Shell.list2 zs1 hzl1
  obtain ⟨m, rfl, -, -, g2⟩ := open_int Try.underlying43 (hval 2 43 v2 rfl rfl) h2
  have x0 : 0 ≤ n0 ∧ n0 ≤ 4294967295 := by simpa [Lit.wf, IntKind.min, IntKind.max, IntKind.bits, IntKind.signed] using hz0 n0 (by simp)
  have x1 : 0 ≤ n1 ∧ n1 ≤ 4294967295 := by simpa [Lit.wf, IntKind.min, IntKind.max, IntKind.bits, IntKind.signed] using hz0 n1 (by simp)
  have x2 : 0 ≤ k0 ∧ k0 ≤ 65535 := by simpa [Lit.wf, IntKind.min, IntKind.max, IntKind.bits, IntKind.signed] using hz1 k0 (by simp)
  have x3 : 0 ≤ k1 ∧ k1 ≤ 65535 := by simpa [Lit.wf, IntKind.min, IntKind.max, IntKind.bits, IntKind.signed] using hz1 k1 (by simp)
  have x4 : 0 ≤ m ∧ m ≤ 18446744073709551615 := by simpa [Lit.wf, IntKind.min, IntKind.max, IntKind.bits, IntKind.signed] using g2
  exact more_walk n0 n1 k0 k1 m W x0.1 x0.2 x1.1 x1.2 x2.1 x2.2 x3.1 x3.2 x4.1

theorem accrueMore_over : Rows.accrueMoreRow.holds Try.pinned (OpenSpec.ofChange Rows.accrueMoreSpec) :=
  OpenClaim.holds_of_wide 6 Try.f6 rfl rfl rfl rfl rfl rfl rfl ⟨rfl, rfl, rfl, rfl, rfl⟩ rfl rfl rfl rfl rfl (by kernel_rfl) Try.func6 (by kernel_rfl)
    (of_decide_eq_true (by kernel_rfl)) (by unfold Func.isWrapper; first | (rw [if_pos (by decide +kernel)]; kernel_rfl) | (rw [if_neg (by decide +kernel)]; exact ⟨rfl, rfl⟩))
    (fun os st H enc _ => accrueMore_lifted os st H enc)

/-- The statement. -/
theorem accrueMore_proved : Rows.AccrueMoreSaid := accrueMore_over
end Go.Proofs.Ytkcfheaikhfonaa.Law
