/- Who pays more has no more left; who owes more, at a higher rate, in fewer months, pays no less a month; at any numbers, no condition. -/
import Derived.Test.YtkeghiljolojlaaLevelParts
import Derived.Deep.QuietTactic
import Derived.BigQuiet
namespace Go.Proofs.Ytkeghiljolojlaa.Law
open Go.ChangeShapes Go.WideShapes Go.ChangeAt Go.RowKit Level Slice

theorem list4 {α : Type} (l : List α) (h : l.length = 4) : ∃ a b c d, l = [a, b, c, d] := by
  rcases l with _ | ⟨a, _ | ⟨b, _ | ⟨c, _ | ⟨d, _ | ⟨e, m⟩⟩⟩⟩⟩ <;> simp at h
  exact ⟨a, b, c, d, rfl⟩
theorem pick_facts (a b : Int) : ∃ lo hi, (if b < a then b else a) = lo ∧ (if a < b then b else a) = hi ∧ lo ≤ hi ∧ (lo = a ∨ lo = b) ∧ (hi = a ∨ hi = b) := by
  refine ⟨_, _, rfl, rfl, ?_, ?_, ?_⟩ <;> (repeat' split) <;> omega
theorem cut_facts (x : Int) (h : 0 ≤ x) : ∃ k : Nat, 1 + x.tmod 300 = k ∧ 1 ≤ k ∧ k ≤ 300 := by
  have h1 := Int.tmod_nonneg 300 h
  have h2 := Int.tmod_lt_of_pos x (show (0 : Int) < 300 by decide)
  exact ⟨(1 + x.tmod 300).toNat, by omega, by omega, by omega⟩
theorem w64_nat (k : Nat) (h : k ≤ 300) : wrap64 (k : Int) = k := by unfold wrap64; omega
theorem wi64 (x : Int) (h : 0 ≤ x ∧ x ≤ 4294967295) : IntKind.i64.wrap x = x := IntWalk.i64_in _ (by omega)

set_option maxHeartbeats 4000000 in
set_option maxRecDepth 20000 in
theorem more_walk (n0 n1 p0 p1 w0 w1 w2 w3 : Int) (w : World) (h0 : 0 ≤ n0 ∧ n0 ≤ 4294967295) (h1 : 0 ≤ n1 ∧ n1 ≤ 4294967295) (h2 : 0 ≤ p0 ∧ p0 ≤ 4294967295) (h3 : 0 ≤ p1 ∧ p1 ≤ 4294967295)
    (h4 : 0 ≤ w0 ∧ w0 ≤ 65535) (h5 : 0 ≤ w1 ∧ w1 ≤ 65535) (h6 : 0 ≤ w2 ∧ w2 ≤ 65535) (h7 : 0 ≤ w3 ∧ w3 ≤ 65535) :
    Calls Try.prog 6 #[.agg #[.int .u32 n0, .int .u32 n1], .agg #[.int .u32 p0, .int .u32 p1], .agg #[.int .u16 w0, .int .u16 w1, .int .u16 w2, .int .u16 w3]] w fun e w' => e = .returned (.bool true) ∧ Below w.heap.size w w' := by
  obtain ⟨lo, hi, e1, e2, a1, a2, a3⟩ := pick_facts n0 n1
  obtain ⟨p, P, e3, e4, b1, b2, b3⟩ := pick_facts p0 p1
  obtain ⟨r, s, e5, e6, c1, c2, c3⟩ := pick_facts w0 w1
  obtain ⟨x, y, e7, e8, d1, d2, d3⟩ := pick_facts w2 w3
  obtain ⟨k, e9, k1, k2⟩ := cut_facts x (by omega)
  obtain ⟨m, e10, m1, m2⟩ := cut_facts y (by omega)
  obtain ⟨v1, v2, v3, v4, v5, v6, v7, v8, v9, v10, v11, v12⟩ : IntKind.i64.wrap lo = lo ∧ IntKind.i64.wrap hi = hi ∧ IntKind.i64.wrap p = p ∧ IntKind.i64.wrap P = P ∧ IntKind.i64.wrap r = r ∧ IntKind.i64.wrap s = s ∧ IntKind.i64.wrap x = x ∧ IntKind.i64.wrap y = y ∧ wrap64 (k : Int) = k ∧ wrap64 (m : Int) = m ∧ IntKind.i64.wrap (k : Int) = k ∧ IntKind.i64.wrap (m : Int) = m := by
    clear e1 e2 e3 e4 e5 e6 e7 e8 e9 e10
    exact ⟨wi64 _ (by omega), wi64 _ (by omega), wi64 _ (by omega), wi64 _ (by omega), wi64 _ (by omega), wi64 _ (by omega), wi64 _ (by omega), wi64 _ (by omega), w64_nat _ k2, w64_nat _ m2, wi64 _ (by omega), wi64 _ (by omega)⟩
  have E1 := Lib.hid e1
  clear e1
  have E2 := Lib.hid e2
  clear e2
  have E3 := Lib.hid e3
  clear e3
  have E4 := Lib.hid e4
  clear e4
  have E5 := Lib.hid e5
  clear e5
  have E6 := Lib.hid e6
  clear e6
  have E7 := Lib.hid e7
  clear e7
  have E8 := Lib.hid e8
  clear e8
  have E9 := Lib.hid e9
  clear e9
  have E10 := Lib.hid e10
  clear e10
  have V1 := Lib.hid v1
  clear v1
  have V2 := Lib.hid v2
  clear v2
  have V3 := Lib.hid v3
  clear v3
  have V4 := Lib.hid v4
  clear v4
  have V5 := Lib.hid v5
  clear v5
  have V6 := Lib.hid v6
  clear v6
  have V7 := Lib.hid v7
  clear v7
  have V8 := Lib.hid v8
  clear v8
  have V9 := Lib.hid v9
  clear v9
  have V10 := Lib.hid v10
  clear v10
  have V11 := Lib.hid v11
  clear v11
  have V12 := Lib.hid v12
  clear v12
  have HF1 : Hid (m < k → ((∃ x, lE hi p r m = x ∧ x ≠ 0) ∨ (lE hi p r m = 0 ∧ lE hi P r m = 0 ∧ lV hi P r m ≤ lV hi p r m)) ∧ oE lo r k = 0 ∧ oE hi s m = 0 ∧ oV lo r k ≤ oV hi s m) := fun h => more_facts lo hi p P r s m k (by omega) (by omega) (by omega) (by omega) (by omega) (by omega) (by omega) (by omega) (by omega) (by omega) (by omega) (by omega)
  have HF2 : Hid (¬ m < k → ((∃ x, lE hi p r k = x ∧ x ≠ 0) ∨ (lE hi p r k = 0 ∧ lE hi P r k = 0 ∧ lV hi P r k ≤ lV hi p r k)) ∧ oE lo r m = 0 ∧ oE hi s k = 0 ∧ oV lo r m ≤ oV hi s k) := fun h => more_facts lo hi p P r s k m (by omega) (by omega) (by omega) (by omega) (by omega) (by omega) (by omega) (by omega) (by omega) (by omega) (by omega) (by omega)
  clear h0 h1 h2 h3 h4 h5 h6 h7 a1 a2 a3 b1 b2 b3 c1 c2 c3 d1 d2 d3 k1 k2 m1 m2
  have KW := Lib.hid wakes_level
  go_enter Try.func6, Try.ntmps6
  go_wp2_with fail
  have BN := Lib.hid (below_new (below_new (below_new (Below.refl _ w) (.cells #[.int .u32 n0, .int .u32 n1] 42)) (.cells #[.int .u32 p0, .int .u32 p1] 42)) (.cells #[.int .u16 w0, .int .u16 w1, .int .u16 w2, .int .u16 w3] 44))
  have HN : Hid (((((w.alloc (.cells #[.int .u32 n0, .int .u32 n1] 42)).alloc (.cells #[.int .u32 p0, .int .u32 p1] 42)).alloc (.cells #[.int .u16 w0, .int .u16 w1, .int .u16 w2, .int .u16 w3] 44)).cell? ⟨w.heap.size, 0, none⟩ = some (.int .u32 n0) ∧ (((w.alloc (.cells #[.int .u32 n0, .int .u32 n1] 42)).alloc (.cells #[.int .u32 p0, .int .u32 p1] 42)).alloc (.cells #[.int .u16 w0, .int .u16 w1, .int .u16 w2, .int .u16 w3] 44)).cell? ⟨w.heap.size, 1, none⟩ = some (.int .u32 n1) ∧ (((w.alloc (.cells #[.int .u32 n0, .int .u32 n1] 42)).alloc (.cells #[.int .u32 p0, .int .u32 p1] 42)).alloc (.cells #[.int .u16 w0, .int .u16 w1, .int .u16 w2, .int .u16 w3] 44)).cell? ⟨w.heap.size + 1, 0, none⟩ = some (.int .u32 p0) ∧ (((w.alloc (.cells #[.int .u32 n0, .int .u32 n1] 42)).alloc (.cells #[.int .u32 p0, .int .u32 p1] 42)).alloc (.cells #[.int .u16 w0, .int .u16 w1, .int .u16 w2, .int .u16 w3] 44)).cell? ⟨w.heap.size + 1, 1, none⟩ = some (.int .u32 p1) ∧ (((w.alloc (.cells #[.int .u32 n0, .int .u32 n1] 42)).alloc (.cells #[.int .u32 p0, .int .u32 p1] 42)).alloc (.cells #[.int .u16 w0, .int .u16 w1, .int .u16 w2, .int .u16 w3] 44)).cell? ⟨w.heap.size + 2, 0, none⟩ = some (.int .u16 w0) ∧ (((w.alloc (.cells #[.int .u32 n0, .int .u32 n1] 42)).alloc (.cells #[.int .u32 p0, .int .u32 p1] 42)).alloc (.cells #[.int .u16 w0, .int .u16 w1, .int .u16 w2, .int .u16 w3] 44)).cell? ⟨w.heap.size + 2, 1, none⟩ = some (.int .u16 w1) ∧ (((w.alloc (.cells #[.int .u32 n0, .int .u32 n1] 42)).alloc (.cells #[.int .u32 p0, .int .u32 p1] 42)).alloc (.cells #[.int .u16 w0, .int .u16 w1, .int .u16 w2, .int .u16 w3] 44)).cell? ⟨w.heap.size + 2, 2, none⟩ = some (.int .u16 w2) ∧ (((w.alloc (.cells #[.int .u32 n0, .int .u32 n1] 42)).alloc (.cells #[.int .u32 p0, .int .u32 p1] 42)).alloc (.cells #[.int .u16 w0, .int .u16 w1, .int .u16 w2, .int .u16 w3] 44)).cell? ⟨w.heap.size + 2, 3, none⟩ = some (.int .u16 w3)) ∧ w.heap.size + 2 < (((w.alloc (.cells #[.int .u32 n0, .int .u32 n1] 42)).alloc (.cells #[.int .u32 p0, .int .u32 p1] 42)).alloc (.cells #[.int .u16 w0, .int .u16 w1, .int .u16 w2, .int .u16 w3] 44)).heap.size) := ⟨⟨by simp [go_sem], by simp [go_sem], by simp [go_sem], by simp [go_sem], by simp [go_sem], by simp [go_sem], by simp [go_sem], by simp [go_sem]⟩, by simp⟩
  generalize hW0 : (((w.alloc (.cells #[.int .u32 n0, .int .u32 n1] 42)).alloc (.cells #[.int .u32 p0, .int .u32 p1] 42)).alloc (.cells #[.int .u16 w0, .int .u16 w1, .int .u16 w2, .int .u16 w3] 44)) = W0 at *
  generalize hg : w.heap.size = g at *
  have B0 := Lib.hid (Below.refl W0.heap.size W0)
  have HC : Hid (∀ W, Below W0.heap.size W0 W → W.cell? ⟨g, 0, none⟩ = some (.int .u32 n0) ∧ W.cell? ⟨g, 1, none⟩ = some (.int .u32 n1) ∧ W.cell? ⟨g + 1, 0, none⟩ = some (.int .u32 p0) ∧ W.cell? ⟨g + 1, 1, none⟩ = some (.int .u32 p1) ∧ W.cell? ⟨g + 2, 0, none⟩ = some (.int .u16 w0) ∧ W.cell? ⟨g + 2, 1, none⟩ = some (.int .u16 w1) ∧ W.cell? ⟨g + 2, 2, none⟩ = some (.int .u16 w2) ∧ W.cell? ⟨g + 2, 3, none⟩ = some (.int .u16 w3)) := fun W hW => ⟨(hW.cell (p := ⟨g, 0, none⟩) (by have := HN.out.2; show g < _; omega)).trans HN.out.1.1, (hW.cell (p := ⟨g, 1, none⟩) (by have := HN.out.2; show g < _; omega)).trans HN.out.1.2.1, (hW.cell (p := ⟨g + 1, 0, none⟩) (by have := HN.out.2; show g + 1 < _; omega)).trans HN.out.1.2.2.1, (hW.cell (p := ⟨g + 1, 1, none⟩) (by have := HN.out.2; show g + 1 < _; omega)).trans HN.out.1.2.2.2.1, (hW.cell (p := ⟨g + 2, 0, none⟩) (by have := HN.out.2; show g + 2 < _; omega)).trans HN.out.1.2.2.2.2.1, (hW.cell (p := ⟨g + 2, 1, none⟩) (by have := HN.out.2; show g + 2 < _; omega)).trans HN.out.1.2.2.2.2.2.1, (hW.cell (p := ⟨g + 2, 2, none⟩) (by have := HN.out.2; show g + 2 < _; omega)).trans HN.out.1.2.2.2.2.2.2.1, (hW.cell (p := ⟨g + 2, 3, none⟩) (by have := HN.out.2; show g + 2 < _; omega)).trans HN.out.1.2.2.2.2.2.2.2⟩
  clear hW0
  obtain ⟨c0, c1, c2, c3, c4, c5, c6, c7⟩ := HC.out _ B0.out
  have e1 := E1.out
  have e2 := E2.out
  have v1 := V1.out
  have v2 := V2.out
  go_quiet (fail)
  have BW1 : Hid (Below W0.heap.size W0 (W0.drewN nq)) := show Below _ _ _ from below_drewN B0.out _
  clear c0 c1 c2 c3 c4 c5 c6 c7
  generalize W0.drewN nq = W1 at *
  clear e1 e2 v1 v2
  go_wp2_with fail
  obtain ⟨c0, c1, c2, c3, c4, c5, c6, c7⟩ := HC.out _ BW1.out
  have e5 := E5.out
  have e6 := E6.out
  have v5 := V5.out
  have v6 := V6.out
  go_quiet (fail)
  have BW2 : Hid (Below W0.heap.size W0 (W1.drewN nq)) := show Below _ _ _ from below_drewN BW1.out _
  clear c0 c1 c2 c3 c4 c5 c6 c7
  generalize W1.drewN nq = W2 at *
  clear e5 e6 v5 v6
  go_wp2_with fail
  obtain ⟨c0, c1, c2, c3, c4, c5, c6, c7⟩ := HC.out _ BW2.out
  have e7 := E7.out
  have e8 := E8.out
  have e9 := E9.out
  have e10 := E10.out
  have v7 := V7.out
  have v8 := V8.out
  have v9 := V9.out
  have v10 := V10.out
  have v11 := V11.out
  have v12 := V12.out
  go_quiet (fail)
  have BW3 : Hid (Below W0.heap.size W0 (W2.drewN nq)) := show Below _ _ _ from below_drewN BW2.out _
  clear c0 c1 c2 c3 c4 c5 c6 c7
  generalize W2.drewN nq = W3 at *
  clear e7 e8 e9 e10 v7 v8 v9 v10 v11 v12
  by_cases hkm : m < k
  · have td : decide (m < k) = true := decide_eq_true hkm
    obtain ⟨f1, f2, f3, f4⟩ := HF1.out hkm
    clear HF1 HF2 hkm
    have K3 := Lib.hid (fun W => of_at lo r k (oV lo r k) 0 W rfl f2)
    have K4 := Lib.hid (fun W => of_at hi s m (oV hi s m) 0 W rfl f3)
    have tl : decide (oV lo r k ≤ oV hi s m) = true := decide_eq_true f4
    generalize oV lo r k = o1 at *
    generalize oV hi s m = o2 at *
    clear f2 f3 f4
    rcases f1 with ⟨z, f5, f6⟩ | ⟨f5, f6, f7⟩
    · have K1 := Lib.hid (fun W => left_at hi p r m (lV hi p r m) z W rfl f5)
      have K2 := Lib.hid (fun W => left_at hi P r m (lV hi P r m) (lE hi P r m) W rfl rfl)
      have tz : (z == 0) = false := by rw [beq_eq_false_iff_ne]; exact f6
      generalize lV hi p r m = l1 at *
      generalize lV hi P r m = l2 at *
      generalize lE hi P r m = l3 at *
      clear f5 f6
      obtain ⟨c0, c1, c2, c3, c4, c5, c6, c7⟩ := HC.out _ BW3.out
      have e3 := E3.out
      have e4 := E4.out
      have v3 := V3.out
      have v4 := V4.out
      go_wp2_with fail
      refine (K1.out _).mono ?_
      rintro e w1 ⟨rfl, hb⟩
      have Bw1 : Hid (Below W0.heap.size W0 w1) := show Below _ _ _ from BW3.out.trans (hb.mono BW3.out.size)
      clear hb
      obtain ⟨c0, c1, c2, c3, c4, c5, c6, c7⟩ := HC.out _ Bw1.out
      go_wp2_with fail
      refine (K2.out _).mono ?_
      rintro e w2 ⟨rfl, hb⟩
      have Bw2 : Hid (Below W0.heap.size W0 w2) := show Below _ _ _ from Bw1.out.trans (hb.mono Bw1.out.size)
      clear hb
      clear c0 c1 c2 c3 c4 c5 c6 c7
      clear e3 e4 v3 v4
      go_wp2_with fail
      refine (K3.out _).mono ?_
      rintro e w3 ⟨rfl, hb⟩
      have Bw3 : Hid (Below W0.heap.size W0 w3) := show Below _ _ _ from Bw2.out.trans (hb.mono Bw2.out.size)
      clear hb
      go_wp2_with fail
      refine (K4.out _).mono ?_
      rintro e w4 ⟨rfl, hb⟩
      have Bw4 : Hid (Below W0.heap.size W0 w4) := show Below _ _ _ from Bw3.out.trans (hb.mono Bw3.out.size)
      clear hb
      go_wp2_with fail
      refine (KW.out _).mono ?_
      rintro e w5 ⟨rfl, hb⟩
      have Bw5 : Hid (Below W0.heap.size W0 w5) := show Below _ _ _ from Bw4.out.trans (hb.mono Bw4.out.size)
      clear hb
      go_wp2_with fail
      go_ret
      exact ⟨rfl, (by rw [← hg] at *; exact below_via BN.out Bw5.out)⟩
    · have K1 := Lib.hid (fun W => left_at hi p r m (lV hi p r m) 0 W rfl f5)
      have K2 := Lib.hid (fun W => left_at hi P r m (lV hi P r m) 0 W rfl f6)
      have tz : decide (lV hi p r m < lV hi P r m) = false := decide_eq_false (Int.not_lt.2 f7)
      generalize lV hi p r m = l1 at *
      generalize lV hi P r m = l2 at *
      clear f5 f6 f7
      obtain ⟨c0, c1, c2, c3, c4, c5, c6, c7⟩ := HC.out _ BW3.out
      have e3 := E3.out
      have e4 := E4.out
      have v3 := V3.out
      have v4 := V4.out
      go_wp2_with fail
      refine (K1.out _).mono ?_
      rintro e w1 ⟨rfl, hb⟩
      have Bw1 : Hid (Below W0.heap.size W0 w1) := show Below _ _ _ from BW3.out.trans (hb.mono BW3.out.size)
      clear hb
      obtain ⟨c0, c1, c2, c3, c4, c5, c6, c7⟩ := HC.out _ Bw1.out
      go_wp2_with fail
      refine (K2.out _).mono ?_
      rintro e w2 ⟨rfl, hb⟩
      have Bw2 : Hid (Below W0.heap.size W0 w2) := show Below _ _ _ from Bw1.out.trans (hb.mono Bw1.out.size)
      clear hb
      clear c0 c1 c2 c3 c4 c5 c6 c7
      clear e3 e4 v3 v4
      go_wp2_with fail
      refine (K3.out _).mono ?_
      rintro e w3 ⟨rfl, hb⟩
      have Bw3 : Hid (Below W0.heap.size W0 w3) := show Below _ _ _ from Bw2.out.trans (hb.mono Bw2.out.size)
      clear hb
      go_wp2_with fail
      refine (K4.out _).mono ?_
      rintro e w4 ⟨rfl, hb⟩
      have Bw4 : Hid (Below W0.heap.size W0 w4) := show Below _ _ _ from Bw3.out.trans (hb.mono Bw3.out.size)
      clear hb
      go_wp2_with fail
      refine (KW.out _).mono ?_
      rintro e w5 ⟨rfl, hb⟩
      have Bw5 : Hid (Below W0.heap.size W0 w5) := show Below _ _ _ from Bw4.out.trans (hb.mono Bw4.out.size)
      clear hb
      go_wp2_with fail
      go_ret
      exact ⟨rfl, (by rw [← hg] at *; exact below_via BN.out Bw5.out)⟩
  · have td : decide (m < k) = false := decide_eq_false hkm
    obtain ⟨f1, f2, f3, f4⟩ := HF2.out hkm
    clear HF1 HF2 hkm
    have K3 := Lib.hid (fun W => of_at lo r m (oV lo r m) 0 W rfl f2)
    have K4 := Lib.hid (fun W => of_at hi s k (oV hi s k) 0 W rfl f3)
    have tl : decide (oV lo r m ≤ oV hi s k) = true := decide_eq_true f4
    generalize oV lo r m = o1 at *
    generalize oV hi s k = o2 at *
    clear f2 f3 f4
    rcases f1 with ⟨z, f5, f6⟩ | ⟨f5, f6, f7⟩
    · have K1 := Lib.hid (fun W => left_at hi p r k (lV hi p r k) z W rfl f5)
      have K2 := Lib.hid (fun W => left_at hi P r k (lV hi P r k) (lE hi P r k) W rfl rfl)
      have tz : (z == 0) = false := by rw [beq_eq_false_iff_ne]; exact f6
      generalize lV hi p r k = l1 at *
      generalize lV hi P r k = l2 at *
      generalize lE hi P r k = l3 at *
      clear f5 f6
      obtain ⟨c0, c1, c2, c3, c4, c5, c6, c7⟩ := HC.out _ BW3.out
      have e3 := E3.out
      have e4 := E4.out
      have v3 := V3.out
      have v4 := V4.out
      go_wp2_with fail
      refine (K1.out _).mono ?_
      rintro e w1 ⟨rfl, hb⟩
      have Bw1 : Hid (Below W0.heap.size W0 w1) := show Below _ _ _ from BW3.out.trans (hb.mono BW3.out.size)
      clear hb
      obtain ⟨c0, c1, c2, c3, c4, c5, c6, c7⟩ := HC.out _ Bw1.out
      go_wp2_with fail
      refine (K2.out _).mono ?_
      rintro e w2 ⟨rfl, hb⟩
      have Bw2 : Hid (Below W0.heap.size W0 w2) := show Below _ _ _ from Bw1.out.trans (hb.mono Bw1.out.size)
      clear hb
      clear c0 c1 c2 c3 c4 c5 c6 c7
      clear e3 e4 v3 v4
      go_wp2_with fail
      refine (K3.out _).mono ?_
      rintro e w3 ⟨rfl, hb⟩
      have Bw3 : Hid (Below W0.heap.size W0 w3) := show Below _ _ _ from Bw2.out.trans (hb.mono Bw2.out.size)
      clear hb
      go_wp2_with fail
      refine (K4.out _).mono ?_
      rintro e w4 ⟨rfl, hb⟩
      have Bw4 : Hid (Below W0.heap.size W0 w4) := show Below _ _ _ from Bw3.out.trans (hb.mono Bw3.out.size)
      clear hb
      go_wp2_with fail
      refine (KW.out _).mono ?_
      rintro e w5 ⟨rfl, hb⟩
      have Bw5 : Hid (Below W0.heap.size W0 w5) := show Below _ _ _ from Bw4.out.trans (hb.mono Bw4.out.size)
      clear hb
      go_wp2_with fail
      go_ret
      exact ⟨rfl, (by rw [← hg] at *; exact below_via BN.out Bw5.out)⟩
    · have K1 := Lib.hid (fun W => left_at hi p r k (lV hi p r k) 0 W rfl f5)
      have K2 := Lib.hid (fun W => left_at hi P r k (lV hi P r k) 0 W rfl f6)
      have tz : decide (lV hi p r k < lV hi P r k) = false := decide_eq_false (Int.not_lt.2 f7)
      generalize lV hi p r k = l1 at *
      generalize lV hi P r k = l2 at *
      clear f5 f6 f7
      obtain ⟨c0, c1, c2, c3, c4, c5, c6, c7⟩ := HC.out _ BW3.out
      have e3 := E3.out
      have e4 := E4.out
      have v3 := V3.out
      have v4 := V4.out
      go_wp2_with fail
      refine (K1.out _).mono ?_
      rintro e w1 ⟨rfl, hb⟩
      have Bw1 : Hid (Below W0.heap.size W0 w1) := show Below _ _ _ from BW3.out.trans (hb.mono BW3.out.size)
      clear hb
      obtain ⟨c0, c1, c2, c3, c4, c5, c6, c7⟩ := HC.out _ Bw1.out
      go_wp2_with fail
      refine (K2.out _).mono ?_
      rintro e w2 ⟨rfl, hb⟩
      have Bw2 : Hid (Below W0.heap.size W0 w2) := show Below _ _ _ from Bw1.out.trans (hb.mono Bw1.out.size)
      clear hb
      clear c0 c1 c2 c3 c4 c5 c6 c7
      clear e3 e4 v3 v4
      go_wp2_with fail
      refine (K3.out _).mono ?_
      rintro e w3 ⟨rfl, hb⟩
      have Bw3 : Hid (Below W0.heap.size W0 w3) := show Below _ _ _ from Bw2.out.trans (hb.mono Bw2.out.size)
      clear hb
      go_wp2_with fail
      refine (K4.out _).mono ?_
      rintro e w4 ⟨rfl, hb⟩
      have Bw4 : Hid (Below W0.heap.size W0 w4) := show Below _ _ _ from Bw3.out.trans (hb.mono Bw3.out.size)
      clear hb
      go_wp2_with fail
      refine (KW.out _).mono ?_
      rintro e w5 ⟨rfl, hb⟩
      have Bw5 : Hid (Below W0.heap.size W0 w5) := show Below _ _ _ from Bw4.out.trans (hb.mono Bw4.out.size)
      clear hb
      go_wp2_with fail
      go_ret
      exact ⟨rfl, (by rw [← hg] at *; exact below_via BN.out Bw5.out)⟩

set_option maxRecDepth 100000 in
theorem levelMore_lifted (os : Os) (started : os.Started) (H : Type) (enc : TypeId × Value → H) :
    ReturnsInHanded {} Try.checked os 6 .any (Rows.levelMoreSpec.pre6 enc Try.prog Try.f6 Rows.levelMoreRow.domain false) (Rows.levelMoreSpec.post enc Try.prog Try.f6 false true false false) := by
  refine Shell.law_lifted (C := Try.checked) (tb := 4) (by kernel_rfl) started (by kernel_rfl) Try.func6
    (ChangeSpec.witness6 (enc := enc) (C := Try.checked) false ⟨#[], #[Value.agg #[.int .u32 0, .int .u32 0], Value.agg #[.int .u32 0, .int .u32 0], Value.agg #[.int .u16 0, .int .u16 0, .int .u16 0, .int .u16 0]], []⟩ 8 (by kernel_rfl) (by kernel_rfl) (by kernel_rfl) (by kernel_rfl))
    (by kernel_rfl) (by kernel_rfl) rfl rfl Try.underlying4 ?_
  intro W base args ds p hval0 hA0
  have hval : ∀ (j : Nat) t v, Try.f6.params[j]? = some t → args[j]? = some v → Value.okWide Try.prog W .any base t v := hval0
  have hA : DataW.TrodAll enc Try.prog W 0 (fun _ => true) true Try.f6.params.toList args.toList ds p := hA0
  clear hval0 hA0
  rw [Try.params6] at hA hval
  obtain ⟨v0, vs0, d0, ds0, p0, q0, hargs, rfl, rfl, h0, r0⟩ := trodAll_cons hA
  obtain ⟨v1, vs1, d1, ds1, p1, q1, rfl, rfl, rfl, h1, r1⟩ := trodAll_cons r0
  obtain ⟨v2, vs2, d2, ds2, p2, q2, rfl, rfl, rfl, h2, r2⟩ := trodAll_cons r1
  obtain ⟨rfl, rfl, rfl⟩ := trodAll_nil r2
  obtain rfl : args = #[v0, v1, v2] := by cases args; simp_all
  refine ⟨rfl, ?_⟩
  obtain ⟨zs0, hzl0, rfl, hz0⟩ := Shell.open_arr Try.underlying42 Try.underlying41 (by kernel_rfl) (by kernel_rfl) (hval 0 42 v0 rfl rfl) h0
  obtain ⟨n0, n1, rfl⟩ := Shell.list2 zs0 hzl0
  obtain ⟨zs1, hzl1, rfl, hz1⟩ := Shell.open_arr Try.underlying42 Try.underlying41 (by kernel_rfl) (by kernel_rfl) (hval 1 42 v1 rfl rfl) h1
  obtain ⟨p0, p1, rfl⟩ := Shell.list2 zs1 hzl1
  obtain ⟨zs2, hzl2, rfl, hz2⟩ := Shell.open_arr Try.underlying44 Try.underlying43 (by kernel_rfl) (by kernel_rfl) (hval 2 44 v2 rfl rfl) h2
  obtain ⟨k0, k1, k2, k3, rfl⟩ := list4 zs2 hzl2
  have x0 : 0 ≤ n0 ∧ n0 ≤ 4294967295 := by simpa [Lit.wf, IntKind.min, IntKind.max, IntKind.bits, IntKind.signed] using hz0 n0 (by simp)
  have x1 : 0 ≤ n1 ∧ n1 ≤ 4294967295 := by simpa [Lit.wf, IntKind.min, IntKind.max, IntKind.bits, IntKind.signed] using hz0 n1 (by simp)
  have x2 : 0 ≤ p0 ∧ p0 ≤ 4294967295 := by simpa [Lit.wf, IntKind.min, IntKind.max, IntKind.bits, IntKind.signed] using hz1 p0 (by simp)
  have x3 : 0 ≤ p1 ∧ p1 ≤ 4294967295 := by simpa [Lit.wf, IntKind.min, IntKind.max, IntKind.bits, IntKind.signed] using hz1 p1 (by simp)
  have x4 : 0 ≤ k0 ∧ k0 ≤ 65535 := by simpa [Lit.wf, IntKind.min, IntKind.max, IntKind.bits, IntKind.signed] using hz2 k0 (by simp)
  have x5 : 0 ≤ k1 ∧ k1 ≤ 65535 := by simpa [Lit.wf, IntKind.min, IntKind.max, IntKind.bits, IntKind.signed] using hz2 k1 (by simp)
  have x6 : 0 ≤ k2 ∧ k2 ≤ 65535 := by simpa [Lit.wf, IntKind.min, IntKind.max, IntKind.bits, IntKind.signed] using hz2 k2 (by simp)
  have x7 : 0 ≤ k3 ∧ k3 ≤ 65535 := by simpa [Lit.wf, IntKind.min, IntKind.max, IntKind.bits, IntKind.signed] using hz2 k3 (by simp)
  exact more_walk n0 n1 p0 p1 k0 k1 k2 k3 W x0 x1 x2 x3 x4 x5 x6 x7

theorem levelMore_over : Rows.levelMoreRow.holds Try.pinned (OpenSpec.ofChange Rows.levelMoreSpec) :=
  OpenClaim.holds_of_wide 6 Try.f6 rfl rfl rfl rfl rfl rfl rfl ⟨rfl, rfl, rfl, rfl, rfl⟩ rfl rfl rfl rfl rfl (by kernel_rfl) Try.func6 (by kernel_rfl)
    (of_decide_eq_true (by kernel_rfl)) (by unfold Func.isWrapper; first | (rw [if_pos (by decide +kernel)]; kernel_rfl) | (rw [if_neg (by decide +kernel)]; exact ⟨rfl, rfl⟩))
    (fun os st H enc _ => levelMore_lifted os st H enc)

/-- The statement. -/
theorem levelMore_proved : Rows.LevelMoreSaid := levelMore_over
end Go.Proofs.Ytkeghiljolojlaa.Law
