/- Who has more is asked no less, a greater family no more, who is not above the line nothing; twelve months are about a tenth of what is free; at any table, incomes and families, no condition. -/
import Derived.Test.YtldcocckfemgbaaShell
import Derived.Test.YtldcocckfemgbaaIncomeWakes
import Derived.Test.YtldcocckfemgbaaSum
import Derived.Deep.QuietTactic
import Derived.BigQuiet
namespace Go.Proofs.Ytldcocckfemgbaa.Law
open Go.ChangeShapes Go.WideShapes Go.ChangeAt Go.RowKit Bits Money Slice Income

theorem pick_facts (a b : Int) : ∃ lo hi, (if b < a then b else a) = lo ∧ (if a < b then b else a) = hi ∧ (lo = a ∨ lo = b) ∧ (hi = a ∨ hi = b) := by
  refine ⟨_, _, rfl, rfl, ?_, ?_⟩ <;> split <;> simp
theorem rem_facts (x : Int) (h : 0 ≤ x) : ∃ y, x.tmod 1000000000 = y ∧ 0 ≤ y ∧ y ≤ 1000000000 := by
  have h1 := Int.tmod_nonneg 1000000000 h
  have h2 := Int.tmod_lt_of_pos x (show (0 : Int) < 1000000000 by decide)
  exact ⟨_, rfl, h1, by omega⟩
theorem cut_facts (x : Int) (h : 0 ≤ x) : ∃ k, 1 + x.tmod 30 = k ∧ 1 ≤ k ∧ k ≤ 30 := by
  have h1 := Int.tmod_nonneg 30 h
  have h2 := Int.tmod_lt_of_pos x (show (0 : Int) < 30 by decide)
  exact ⟨_, rfl, by omega, by omega⟩
theorem w64_small (x : Int) (h : 0 ≤ x ∧ x ≤ 4294967295) : wrap64 x = x := by unfold wrap64; omega
theorem wi64 (x : Int) (h : 0 ≤ x ∧ x ≤ 4294967295) : IntKind.i64.wrap x = x := IntWalk.i64_in _ (by omega)
/-- All that the law asks of a good table, two families and two incomes. -/
def Fair (zs : List Int) (f g m n : Int) : Prop :=
  ∃ A B C l F : Int, (aV zs f m = A ∧ aE zs f m = 0) ∧ (aV zs f n = B ∧ aE zs f n = 0) ∧ (aV zs g n = C ∧ aE zs g n = 0) ∧ (lV zs f = l ∧ lE zs f = 0) ∧ (fV zs f n = F ∧ fE zs f n = 0) ∧
    A ≤ B ∧ C ≤ B ∧ 0 ≤ l ∧ (l < m ∨ A = 0) ∧ 120 * B ≤ F + 60 ∧ F ≤ 120 * B + 60 ∧ 0 ≤ B ∧ B ≤ 8333334 ∧ 0 ≤ F ∧ F ≤ 1000000000
theorem fair_facts {zs : List Int} {f g m n : Int} (h : Tab zs) (f1 : 1 ≤ f) (fg : f ≤ g) (g1 : g ≤ 30) (m1 : 0 ≤ m) (mn : m ≤ n) (n1 : n ≤ 1000000000) : Fair zs f g m n := by
  obtain ⟨q1, q2⟩ := ask_tenth (zs := zs) (f := f) (n := n)
  obtain ⟨q3, q4⟩ := ask_in (n := n) h f1 (by omega) n1
  obtain ⟨q5, q6⟩ := free_in (n := n) h f1 (by omega) n1
  refine ⟨_, _, _, _, _, a_yes ⟨⟨h, f1, by omega⟩, m1, by omega⟩, a_yes ⟨⟨h, f1, by omega⟩, by omega, n1⟩, a_yes ⟨⟨h, by omega, g1⟩, by omega, n1⟩, l_yes ⟨h, f1, by omega⟩, f_yes ⟨⟨h, f1, by omega⟩, by omega, n1⟩,
    ask_more mn, ask_less h f1 fg, (line_in h f1).1, ?_, q1, q2, q3, q4, q5, q6⟩
  by_cases hl : line zs f < m
  · exact Or.inl hl
  · exact Or.inr (ask_none (by omega))
set_option maxHeartbeats 4000000 in
set_option maxRecDepth 20000 in
theorem fair_walk (zs : List Int) (n0 n1 k0 k1 : Int) (v : Value) (w : World) (hv : Ints w w.heap.size .i64 v zs) (h0 : 0 ≤ n0 ∧ n0 ≤ 4294967295) (h1 : 0 ≤ n1 ∧ n1 ≤ 4294967295) (h2 : 0 ≤ k0 ∧ k0 ≤ 255) (h3 : 0 ≤ k1 ∧ k1 ≤ 255) :
    Calls Try.prog 4 #[v, .agg #[.int .u32 n0, .int .u32 n1], .agg #[.int .u8 k0, .int .u8 k1]] w fun e w' => e = .returned (.bool true) ∧ Below w.heap.size w w' := by
  obtain ⟨a, b, e1, e2, a1, a2⟩ := pick_facts n0 n1
  obtain ⟨c, d, e3, e4, c1, c2⟩ := pick_facts k0 k1
  obtain ⟨x, e5, x0, x1⟩ := rem_facts a (by omega)
  obtain ⟨y, e6, y0, y1⟩ := rem_facts b (by omega)
  obtain ⟨p, e7, p0, p1⟩ := cut_facts c (by omega)
  obtain ⟨q, e8, q0, q1⟩ := cut_facts d (by omega)
  obtain ⟨v1, v2, v3, v4, v5, v6, v7, v8, v9, v10⟩ : IntKind.i64.wrap a = a ∧ IntKind.i64.wrap b = b ∧ IntKind.i64.wrap c = c ∧ IntKind.i64.wrap d = d ∧ IntKind.i64.wrap x = x ∧ IntKind.i64.wrap y = y ∧ IntKind.i64.wrap p = p ∧ IntKind.i64.wrap q = q ∧ wrap64 p = p ∧ wrap64 q = q := by
    clear e1 e2 e3 e4 e5 e6 e7 e8
    exact ⟨wi64 _ (by omega), wi64 _ (by omega), wi64 _ (by omega), wi64 _ (by omega), wi64 _ (by omega), wi64 _ (by omega), wi64 _ (by omega), wi64 _ (by omega), w64_small _ (by omega), w64_small _ (by omega)⟩
  have E1 := Lib.hid e1
  clear e1
  have E2 := Lib.hid e2
  clear e2
  have E3 := Lib.hid e3
  clear e3
  have E4 := Lib.hid e4
  clear e4
  have E5 := Lib.hid e5
  clear e5
  have E6 := Lib.hid e6
  clear e6
  have E7 := Lib.hid e7
  clear e7
  have E8 := Lib.hid e8
  clear e8
  have V1 := Lib.hid v1
  clear v1
  have V2 := Lib.hid v2
  clear v2
  have V3 := Lib.hid v3
  clear v3
  have V4 := Lib.hid v4
  clear v4
  have V5 := Lib.hid v5
  clear v5
  have V6 := Lib.hid v6
  clear v6
  have V7 := Lib.hid v7
  clear v7
  have V8 := Lib.hid v8
  clear v8
  have V9 := Lib.hid v9
  clear v9
  have V10 := Lib.hid v10
  clear v10
  have HV := Lib.hid hv
  obtain ⟨A, cc, rfl, -, -, -⟩ := hv
  have KW := Lib.hid wakes_income
  by_cases ht : Tab zs
  · have HF : Hid (∀ f g m n : Int, 1 ≤ f → f ≤ g → g ≤ 30 → 0 ≤ m → m ≤ n → n ≤ 1000000000 → Fair zs f g m n) := fun f g m n z1 z2 z3 z4 z5 z6 => fair_facts ht z1 z2 z3 z4 z5 z6
    have KG := Lib.hid (fun u B W g => RIncome.good_is zs u B true W g (tabB_yes ht))
    have Hx0 := Lib.hid x0
    have Hx1 := Lib.hid x1
    have Hy0 := Lib.hid y0
    have Hy1 := Lib.hid y1
    have Hp0 := Lib.hid p0
    have Hp1 := Lib.hid p1
    have Hq0 := Lib.hid q0
    have Hq1 := Lib.hid q1
    clear h0 h1 h2 h3 a1 a2 c1 c2 x0 x1 y0 y1 p0 p1 q0 q1 ht
    go_enter Try.func4, Try.ntmps4
    go_wp2_with fail
    have BN := Lib.hid (below_new (below_new (Below.refl _ w) (.cells #[.int .u32 n0, .int .u32 n1] 35)) (.cells #[.int .u8 k0, .int .u8 k1] 36))
    have HV0 : Hid (Ints ((w.alloc (.cells #[.int .u32 n0, .int .u32 n1] 35)).alloc (.cells #[.int .u8 k0, .int .u8 k1] 36)) w.heap.size .i64 (.slice A zs.length cc) zs) := (HV.out.alloc (Nat.le_refl _) _).alloc (by simp) _
    have HN : Hid ((((w.alloc (.cells #[.int .u32 n0, .int .u32 n1] 35)).alloc (.cells #[.int .u8 k0, .int .u8 k1] 36)).cell? ⟨w.heap.size, 0, none⟩ = some (.int .u32 n0) ∧ ((w.alloc (.cells #[.int .u32 n0, .int .u32 n1] 35)).alloc (.cells #[.int .u8 k0, .int .u8 k1] 36)).cell? ⟨w.heap.size, 1, none⟩ = some (.int .u32 n1) ∧ ((w.alloc (.cells #[.int .u32 n0, .int .u32 n1] 35)).alloc (.cells #[.int .u8 k0, .int .u8 k1] 36)).cell? ⟨w.heap.size + 1, 0, none⟩ = some (.int .u8 k0) ∧ ((w.alloc (.cells #[.int .u32 n0, .int .u32 n1] 35)).alloc (.cells #[.int .u8 k0, .int .u8 k1] 36)).cell? ⟨w.heap.size + 1, 1, none⟩ = some (.int .u8 k1)) ∧ w.heap.size + 1 < ((w.alloc (.cells #[.int .u32 n0, .int .u32 n1] 35)).alloc (.cells #[.int .u8 k0, .int .u8 k1] 36)).heap.size) := ⟨⟨by simp [go_sem], by simp [go_sem], by simp [go_sem], by simp [go_sem]⟩, by simp⟩
    clear HV
    generalize hW0 : ((w.alloc (.cells #[.int .u32 n0, .int .u32 n1] 35)).alloc (.cells #[.int .u8 k0, .int .u8 k1] 36)) = W0 at *
    generalize hg : w.heap.size = g at *
    have B0 := Lib.hid (Below.refl W0.heap.size W0)
    have HC : Hid (∀ W, Below W0.heap.size W0 W → (W.cell? ⟨g, 0, none⟩ = some (.int .u32 n0) ∧ W.cell? ⟨g, 1, none⟩ = some (.int .u32 n1) ∧ W.cell? ⟨g + 1, 0, none⟩ = some (.int .u8 k0) ∧ W.cell? ⟨g + 1, 1, none⟩ = some (.int .u8 k1)) ∧ Ints W g .i64 (.slice A zs.length cc) zs) := fun W hW => ⟨⟨(hW.cell (p := ⟨g, 0, none⟩) (by have := HN.out.2; show g < _; omega)).trans HN.out.1.1, (hW.cell (p := ⟨g, 1, none⟩) (by have := HN.out.2; show g < _; omega)).trans HN.out.1.2.1, (hW.cell (p := ⟨g + 1, 0, none⟩) (by have := HN.out.2; show g + 1 < _; omega)).trans HN.out.1.2.2.1, (hW.cell (p := ⟨g + 1, 1, none⟩) (by have := HN.out.2; show g + 1 < _; omega)).trans HN.out.1.2.2.2⟩, HV0.out.keep fun b o hb => hW.cell (p := ⟨b, o, none⟩) (by have := HN.out.2; show b < _; omega)⟩
    clear hW0 HV0
    refine (KG.out _ _ _ (HC.out _ B0.out).2).mono ?_
    rintro e W1 ⟨rfl, nn, hw⟩
    have BW1 : Hid (Below W0.heap.size W0 W1) := show Below _ _ _ by rw [hw]; exact below_drewN B0.out _
    clear hw KG
    go_wp2_with fail
    obtain ⟨⟨s0, s1, s2, s3⟩, -⟩ := HC.out _ BW1.out
    have e1 := E1.out
    have e2 := E2.out
    have e5 := E5.out
    have e6 := E6.out
    have v1 := V1.out
    have v2 := V2.out
    have v5 := V5.out
    have v6 := V6.out
    go_quiet (fail)
    have BW2 : Hid (Below W0.heap.size W0 (W1.drewN nq)) := show Below _ _ _ from below_drewN BW1.out _
    clear s0 s1 s2 s3
    generalize W1.drewN nq = W2 at *
    clear e1 e2 e5 e6 v1 v2 v5 v6
    by_cases hyx : y < x
    · have tx : decide (y < x) = true := decide_eq_true hyx
      have hxy : y ≤ x := by omega
      clear hyx
      go_wp2_with fail
      obtain ⟨⟨s0, s1, s2, s3⟩, -⟩ := HC.out _ BW2.out
      have e3 := E3.out
      have e4 := E4.out
      have e7 := E7.out
      have e8 := E8.out
      have v3 := V3.out
      have v4 := V4.out
      have v7 := V7.out
      have v8 := V8.out
      have v9 := V9.out
      have v10 := V10.out
      go_quiet (fail)
      have BW3 : Hid (Below W0.heap.size W0 (W2.drewN nq)) := show Below _ _ _ from below_drewN BW2.out _
      clear s0 s1 s2 s3
      generalize W2.drewN nq = W3 at *
      clear e3 e4 e7 e8 v3 v4 v7 v8 v9 v10
      by_cases hqp : q < p
      · have tq : decide (q < p) = true := decide_eq_true hqp
        have hpq : q ≤ p := by omega
        clear hqp
        obtain ⟨A1, B1, C1, l1, F1, u1, u2, u3, u4, u5, u6, u7, u8, u9, u10, u11, u12, u13, u14, u15⟩ := HF.out q p y x Hq0.out hpq Hp1.out Hy0.out hxy Hx1.out
        have K1 := Lib.hid (fun W gg => Income.ask_is zs q y A1 0 (.slice A zs.length cc) g W gg u1.1 u1.2)
        have K2 := Lib.hid (fun W gg => Income.ask_is zs q x B1 0 (.slice A zs.length cc) g W gg u2.1 u2.2)
        have K3 := Lib.hid (fun W gg => Income.ask_is zs p x C1 0 (.slice A zs.length cc) g W gg u3.1 u3.2)
        have K4 := Lib.hid (fun W gg => Income.line_is zs q l1 0 (.slice A zs.length cc) g W gg u4.1 u4.2)
        have K5 := Lib.hid (fun W gg => Income.free_is zs q x F1 0 (.slice A zs.length cc) g W gg u5.1 u5.2)
        have i1 : decide (B1 < A1) = false := decide_eq_false (by omega)
        have i2 : decide (B1 < C1) = false := decide_eq_false (by omega)
        have i3 : decide (l1 < 0) = false := decide_eq_false (by omega)
        have i4 : decide (120 * B1 ≤ F1 + 60) = true := decide_eq_true u10
        have i5 : decide (F1 ≤ 120 * B1 + 60) = true := decide_eq_true u11
        obtain ⟨j1, j2, j3⟩ : wrap64 (120 * B1) = 120 * B1 ∧ wrap64 (F1 + 60) = F1 + 60 ∧ wrap64 (120 * B1 + 60) = 120 * B1 + 60 := ⟨w64_small _ (by omega), w64_small _ (by omega), w64_small _ (by omega)⟩
        have U9 := Lib.hid u9
        clear u1 u2 u3 u4 u5 u6 u7 u8 u9 u10 u11 u12 u13 u14 u15
        have J1 := Lib.hid i1
        have J2 := Lib.hid i2
        have J3 := Lib.hid i3
        have J4 := Lib.hid i4
        have J5 := Lib.hid i5
        have J6 := Lib.hid j1
        have J7 := Lib.hid j2
        have J8 := Lib.hid j3
        clear i1 i2 i3 i4 i5 j1 j2 j3
        go_wp2_with fail
        refine (K1.out _ (HC.out _ BW3.out).2).mono ?_
        rintro e w1 ⟨rfl, zw1, hw⟩
        have Bw1 : Hid (Below W0.heap.size W0 w1) := show Below _ _ _ by rw [hw]; exact below_drewN BW3.out _
        clear hw
        go_wp2_with fail
        refine (K2.out _ (HC.out _ Bw1.out).2).mono ?_
        rintro e w2 ⟨rfl, zw2, hw⟩
        have Bw2 : Hid (Below W0.heap.size W0 w2) := show Below _ _ _ by rw [hw]; exact below_drewN Bw1.out _
        clear hw
        go_wp2_with fail
        refine (K3.out _ (HC.out _ Bw2.out).2).mono ?_
        rintro e w3 ⟨rfl, zw3, hw⟩
        have Bw3 : Hid (Below W0.heap.size W0 w3) := show Below _ _ _ by rw [hw]; exact below_drewN Bw2.out _
        clear hw
        go_wp2_with fail
        refine (K4.out _ (HC.out _ Bw3.out).2).mono ?_
        rintro e w4 ⟨rfl, zw4, hw⟩
        have Bw4 : Hid (Below W0.heap.size W0 w4) := show Below _ _ _ by rw [hw]; exact below_drewN Bw3.out _
        clear hw
        go_wp2_with fail
        refine (K5.out _ (HC.out _ Bw4.out).2).mono ?_
        rintro e w5 ⟨rfl, zw5, hw⟩
        have Bw5 : Hid (Below W0.heap.size W0 w5) := show Below _ _ _ by rw [hw]; exact below_drewN Bw4.out _
        clear hw
        have i1 := J1.out
        have i2 := J2.out
        have i3 := J3.out
        have i4 := J4.out
        have i5 := J5.out
        have j1 := J6.out
        have j2 := J7.out
        have j3 := J8.out
        by_cases hl : l1 < y
        · have o1 : decide (l1 < y) = true := decide_eq_true hl
          clear U9 hl
          go_wp2_with fail
          refine (KW.out _).mono ?_
          rintro e w6 ⟨rfl, hb⟩
          have Bw6 : Hid (Below W0.heap.size W0 w6) := show Below _ _ _ from Bw5.out.trans (hb.mono Bw5.out.size)
          clear hb
          go_wp2_with fail
          go_ret
          exact ⟨rfl, (by rw [← hg] at *; exact below_via BN.out Bw6.out)⟩
        · have o1 : decide (l1 < y) = false := decide_eq_false hl
          obtain rfl : A1 = 0 := U9.out.resolve_left hl
          clear U9 hl
          go_wp2_with fail
          refine (KW.out _).mono ?_
          rintro e w6 ⟨rfl, hb⟩
          have Bw6 : Hid (Below W0.heap.size W0 w6) := show Below _ _ _ from Bw5.out.trans (hb.mono Bw5.out.size)
          clear hb
          go_wp2_with fail
          go_ret
          exact ⟨rfl, (by rw [← hg] at *; exact below_via BN.out Bw6.out)⟩
      · have tq : decide (q < p) = false := decide_eq_false hqp
        have hpq : p ≤ q := by omega
        clear hqp
        obtain ⟨A1, B1, C1, l1, F1, u1, u2, u3, u4, u5, u6, u7, u8, u9, u10, u11, u12, u13, u14, u15⟩ := HF.out p q y x Hp0.out hpq Hq1.out Hy0.out hxy Hx1.out
        have K1 := Lib.hid (fun W gg => Income.ask_is zs p y A1 0 (.slice A zs.length cc) g W gg u1.1 u1.2)
        have K2 := Lib.hid (fun W gg => Income.ask_is zs p x B1 0 (.slice A zs.length cc) g W gg u2.1 u2.2)
        have K3 := Lib.hid (fun W gg => Income.ask_is zs q x C1 0 (.slice A zs.length cc) g W gg u3.1 u3.2)
        have K4 := Lib.hid (fun W gg => Income.line_is zs p l1 0 (.slice A zs.length cc) g W gg u4.1 u4.2)
        have K5 := Lib.hid (fun W gg => Income.free_is zs p x F1 0 (.slice A zs.length cc) g W gg u5.1 u5.2)
        have i1 : decide (B1 < A1) = false := decide_eq_false (by omega)
        have i2 : decide (B1 < C1) = false := decide_eq_false (by omega)
        have i3 : decide (l1 < 0) = false := decide_eq_false (by omega)
        have i4 : decide (120 * B1 ≤ F1 + 60) = true := decide_eq_true u10
        have i5 : decide (F1 ≤ 120 * B1 + 60) = true := decide_eq_true u11
        obtain ⟨j1, j2, j3⟩ : wrap64 (120 * B1) = 120 * B1 ∧ wrap64 (F1 + 60) = F1 + 60 ∧ wrap64 (120 * B1 + 60) = 120 * B1 + 60 := ⟨w64_small _ (by omega), w64_small _ (by omega), w64_small _ (by omega)⟩
        have U9 := Lib.hid u9
        clear u1 u2 u3 u4 u5 u6 u7 u8 u9 u10 u11 u12 u13 u14 u15
        have J1 := Lib.hid i1
        have J2 := Lib.hid i2
        have J3 := Lib.hid i3
        have J4 := Lib.hid i4
        have J5 := Lib.hid i5
        have J6 := Lib.hid j1
        have J7 := Lib.hid j2
        have J8 := Lib.hid j3
        clear i1 i2 i3 i4 i5 j1 j2 j3
        go_wp2_with fail
        refine (K1.out _ (HC.out _ BW3.out).2).mono ?_
        rintro e w1 ⟨rfl, zw1, hw⟩
        have Bw1 : Hid (Below W0.heap.size W0 w1) := show Below _ _ _ by rw [hw]; exact below_drewN BW3.out _
        clear hw
        go_wp2_with fail
        refine (K2.out _ (HC.out _ Bw1.out).2).mono ?_
        rintro e w2 ⟨rfl, zw2, hw⟩
        have Bw2 : Hid (Below W0.heap.size W0 w2) := show Below _ _ _ by rw [hw]; exact below_drewN Bw1.out _
        clear hw
        go_wp2_with fail
        refine (K3.out _ (HC.out _ Bw2.out).2).mono ?_
        rintro e w3 ⟨rfl, zw3, hw⟩
        have Bw3 : Hid (Below W0.heap.size W0 w3) := show Below _ _ _ by rw [hw]; exact below_drewN Bw2.out _
        clear hw
        go_wp2_with fail
        refine (K4.out _ (HC.out _ Bw3.out).2).mono ?_
        rintro e w4 ⟨rfl, zw4, hw⟩
        have Bw4 : Hid (Below W0.heap.size W0 w4) := show Below _ _ _ by rw [hw]; exact below_drewN Bw3.out _
        clear hw
        go_wp2_with fail
        refine (K5.out _ (HC.out _ Bw4.out).2).mono ?_
        rintro e w5 ⟨rfl, zw5, hw⟩
        have Bw5 : Hid (Below W0.heap.size W0 w5) := show Below _ _ _ by rw [hw]; exact below_drewN Bw4.out _
        clear hw
        have i1 := J1.out
        have i2 := J2.out
        have i3 := J3.out
        have i4 := J4.out
        have i5 := J5.out
        have j1 := J6.out
        have j2 := J7.out
        have j3 := J8.out
        by_cases hl : l1 < y
        · have o1 : decide (l1 < y) = true := decide_eq_true hl
          clear U9 hl
          go_wp2_with fail
          refine (KW.out _).mono ?_
          rintro e w6 ⟨rfl, hb⟩
          have Bw6 : Hid (Below W0.heap.size W0 w6) := show Below _ _ _ from Bw5.out.trans (hb.mono Bw5.out.size)
          clear hb
          go_wp2_with fail
          go_ret
          exact ⟨rfl, (by rw [← hg] at *; exact below_via BN.out Bw6.out)⟩
        · have o1 : decide (l1 < y) = false := decide_eq_false hl
          obtain rfl : A1 = 0 := U9.out.resolve_left hl
          clear U9 hl
          go_wp2_with fail
          refine (KW.out _).mono ?_
          rintro e w6 ⟨rfl, hb⟩
          have Bw6 : Hid (Below W0.heap.size W0 w6) := show Below _ _ _ from Bw5.out.trans (hb.mono Bw5.out.size)
          clear hb
          go_wp2_with fail
          go_ret
          exact ⟨rfl, (by rw [← hg] at *; exact below_via BN.out Bw6.out)⟩
    · have tx : decide (y < x) = false := decide_eq_false hyx
      have hxy : x ≤ y := by omega
      clear hyx
      go_wp2_with fail
      obtain ⟨⟨s0, s1, s2, s3⟩, -⟩ := HC.out _ BW2.out
      have e3 := E3.out
      have e4 := E4.out
      have e7 := E7.out
      have e8 := E8.out
      have v3 := V3.out
      have v4 := V4.out
      have v7 := V7.out
      have v8 := V8.out
      have v9 := V9.out
      have v10 := V10.out
      go_quiet (fail)
      have BW3 : Hid (Below W0.heap.size W0 (W2.drewN nq)) := show Below _ _ _ from below_drewN BW2.out _
      clear s0 s1 s2 s3
      generalize W2.drewN nq = W3 at *
      clear e3 e4 e7 e8 v3 v4 v7 v8 v9 v10
      by_cases hqp : q < p
      · have tq : decide (q < p) = true := decide_eq_true hqp
        have hpq : q ≤ p := by omega
        clear hqp
        obtain ⟨A1, B1, C1, l1, F1, u1, u2, u3, u4, u5, u6, u7, u8, u9, u10, u11, u12, u13, u14, u15⟩ := HF.out q p x y Hq0.out hpq Hp1.out Hx0.out hxy Hy1.out
        have K1 := Lib.hid (fun W gg => Income.ask_is zs q x A1 0 (.slice A zs.length cc) g W gg u1.1 u1.2)
        have K2 := Lib.hid (fun W gg => Income.ask_is zs q y B1 0 (.slice A zs.length cc) g W gg u2.1 u2.2)
        have K3 := Lib.hid (fun W gg => Income.ask_is zs p y C1 0 (.slice A zs.length cc) g W gg u3.1 u3.2)
        have K4 := Lib.hid (fun W gg => Income.line_is zs q l1 0 (.slice A zs.length cc) g W gg u4.1 u4.2)
        have K5 := Lib.hid (fun W gg => Income.free_is zs q y F1 0 (.slice A zs.length cc) g W gg u5.1 u5.2)
        have i1 : decide (B1 < A1) = false := decide_eq_false (by omega)
        have i2 : decide (B1 < C1) = false := decide_eq_false (by omega)
        have i3 : decide (l1 < 0) = false := decide_eq_false (by omega)
        have i4 : decide (120 * B1 ≤ F1 + 60) = true := decide_eq_true u10
        have i5 : decide (F1 ≤ 120 * B1 + 60) = true := decide_eq_true u11
        obtain ⟨j1, j2, j3⟩ : wrap64 (120 * B1) = 120 * B1 ∧ wrap64 (F1 + 60) = F1 + 60 ∧ wrap64 (120 * B1 + 60) = 120 * B1 + 60 := ⟨w64_small _ (by omega), w64_small _ (by omega), w64_small _ (by omega)⟩
        have U9 := Lib.hid u9
        clear u1 u2 u3 u4 u5 u6 u7 u8 u9 u10 u11 u12 u13 u14 u15
        have J1 := Lib.hid i1
        have J2 := Lib.hid i2
        have J3 := Lib.hid i3
        have J4 := Lib.hid i4
        have J5 := Lib.hid i5
        have J6 := Lib.hid j1
        have J7 := Lib.hid j2
        have J8 := Lib.hid j3
        clear i1 i2 i3 i4 i5 j1 j2 j3
        go_wp2_with fail
        refine (K1.out _ (HC.out _ BW3.out).2).mono ?_
        rintro e w1 ⟨rfl, zw1, hw⟩
        have Bw1 : Hid (Below W0.heap.size W0 w1) := show Below _ _ _ by rw [hw]; exact below_drewN BW3.out _
        clear hw
        go_wp2_with fail
        refine (K2.out _ (HC.out _ Bw1.out).2).mono ?_
        rintro e w2 ⟨rfl, zw2, hw⟩
        have Bw2 : Hid (Below W0.heap.size W0 w2) := show Below _ _ _ by rw [hw]; exact below_drewN Bw1.out _
        clear hw
        go_wp2_with fail
        refine (K3.out _ (HC.out _ Bw2.out).2).mono ?_
        rintro e w3 ⟨rfl, zw3, hw⟩
        have Bw3 : Hid (Below W0.heap.size W0 w3) := show Below _ _ _ by rw [hw]; exact below_drewN Bw2.out _
        clear hw
        go_wp2_with fail
        refine (K4.out _ (HC.out _ Bw3.out).2).mono ?_
        rintro e w4 ⟨rfl, zw4, hw⟩
        have Bw4 : Hid (Below W0.heap.size W0 w4) := show Below _ _ _ by rw [hw]; exact below_drewN Bw3.out _
        clear hw
        go_wp2_with fail
        refine (K5.out _ (HC.out _ Bw4.out).2).mono ?_
        rintro e w5 ⟨rfl, zw5, hw⟩
        have Bw5 : Hid (Below W0.heap.size W0 w5) := show Below _ _ _ by rw [hw]; exact below_drewN Bw4.out _
        clear hw
        have i1 := J1.out
        have i2 := J2.out
        have i3 := J3.out
        have i4 := J4.out
        have i5 := J5.out
        have j1 := J6.out
        have j2 := J7.out
        have j3 := J8.out
        by_cases hl : l1 < x
        · have o1 : decide (l1 < x) = true := decide_eq_true hl
          clear U9 hl
          go_wp2_with fail
          refine (KW.out _).mono ?_
          rintro e w6 ⟨rfl, hb⟩
          have Bw6 : Hid (Below W0.heap.size W0 w6) := show Below _ _ _ from Bw5.out.trans (hb.mono Bw5.out.size)
          clear hb
          go_wp2_with fail
          go_ret
          exact ⟨rfl, (by rw [← hg] at *; exact below_via BN.out Bw6.out)⟩
        · have o1 : decide (l1 < x) = false := decide_eq_false hl
          obtain rfl : A1 = 0 := U9.out.resolve_left hl
          clear U9 hl
          go_wp2_with fail
          refine (KW.out _).mono ?_
          rintro e w6 ⟨rfl, hb⟩
          have Bw6 : Hid (Below W0.heap.size W0 w6) := show Below _ _ _ from Bw5.out.trans (hb.mono Bw5.out.size)
          clear hb
          go_wp2_with fail
          go_ret
          exact ⟨rfl, (by rw [← hg] at *; exact below_via BN.out Bw6.out)⟩
      · have tq : decide (q < p) = false := decide_eq_false hqp
        have hpq : p ≤ q := by omega
        clear hqp
        obtain ⟨A1, B1, C1, l1, F1, u1, u2, u3, u4, u5, u6, u7, u8, u9, u10, u11, u12, u13, u14, u15⟩ := HF.out p q x y Hp0.out hpq Hq1.out Hx0.out hxy Hy1.out
        have K1 := Lib.hid (fun W gg => Income.ask_is zs p x A1 0 (.slice A zs.length cc) g W gg u1.1 u1.2)
        have K2 := Lib.hid (fun W gg => Income.ask_is zs p y B1 0 (.slice A zs.length cc) g W gg u2.1 u2.2)
        have K3 := Lib.hid (fun W gg => Income.ask_is zs q y C1 0 (.slice A zs.length cc) g W gg u3.1 u3.2)
        have K4 := Lib.hid (fun W gg => Income.line_is zs p l1 0 (.slice A zs.length cc) g W gg u4.1 u4.2)
        have K5 := Lib.hid (fun W gg => Income.free_is zs p y F1 0 (.slice A zs.length cc) g W gg u5.1 u5.2)
        have i1 : decide (B1 < A1) = false := decide_eq_false (by omega)
        have i2 : decide (B1 < C1) = false := decide_eq_false (by omega)
        have i3 : decide (l1 < 0) = false := decide_eq_false (by omega)
        have i4 : decide (120 * B1 ≤ F1 + 60) = true := decide_eq_true u10
        have i5 : decide (F1 ≤ 120 * B1 + 60) = true := decide_eq_true u11
        obtain ⟨j1, j2, j3⟩ : wrap64 (120 * B1) = 120 * B1 ∧ wrap64 (F1 + 60) = F1 + 60 ∧ wrap64 (120 * B1 + 60) = 120 * B1 + 60 := ⟨w64_small _ (by omega), w64_small _ (by omega), w64_small _ (by omega)⟩
        have U9 := Lib.hid u9
        clear u1 u2 u3 u4 u5 u6 u7 u8 u9 u10 u11 u12 u13 u14 u15
        have J1 := Lib.hid i1
        have J2 := Lib.hid i2
        have J3 := Lib.hid i3
        have J4 := Lib.hid i4
        have J5 := Lib.hid i5
        have J6 := Lib.hid j1
        have J7 := Lib.hid j2
        have J8 := Lib.hid j3
        clear i1 i2 i3 i4 i5 j1 j2 j3
        go_wp2_with fail
        refine (K1.out _ (HC.out _ BW3.out).2).mono ?_
        rintro e w1 ⟨rfl, zw1, hw⟩
        have Bw1 : Hid (Below W0.heap.size W0 w1) := show Below _ _ _ by rw [hw]; exact below_drewN BW3.out _
        clear hw
        go_wp2_with fail
        refine (K2.out _ (HC.out _ Bw1.out).2).mono ?_
        rintro e w2 ⟨rfl, zw2, hw⟩
        have Bw2 : Hid (Below W0.heap.size W0 w2) := show Below _ _ _ by rw [hw]; exact below_drewN Bw1.out _
        clear hw
        go_wp2_with fail
        refine (K3.out _ (HC.out _ Bw2.out).2).mono ?_
        rintro e w3 ⟨rfl, zw3, hw⟩
        have Bw3 : Hid (Below W0.heap.size W0 w3) := show Below _ _ _ by rw [hw]; exact below_drewN Bw2.out _
        clear hw
        go_wp2_with fail
        refine (K4.out _ (HC.out _ Bw3.out).2).mono ?_
        rintro e w4 ⟨rfl, zw4, hw⟩
        have Bw4 : Hid (Below W0.heap.size W0 w4) := show Below _ _ _ by rw [hw]; exact below_drewN Bw3.out _
        clear hw
        go_wp2_with fail
        refine (K5.out _ (HC.out _ Bw4.out).2).mono ?_
        rintro e w5 ⟨rfl, zw5, hw⟩
        have Bw5 : Hid (Below W0.heap.size W0 w5) := show Below _ _ _ by rw [hw]; exact below_drewN Bw4.out _
        clear hw
        have i1 := J1.out
        have i2 := J2.out
        have i3 := J3.out
        have i4 := J4.out
        have i5 := J5.out
        have j1 := J6.out
        have j2 := J7.out
        have j3 := J8.out
        by_cases hl : l1 < x
        · have o1 : decide (l1 < x) = true := decide_eq_true hl
          clear U9 hl
          go_wp2_with fail
          refine (KW.out _).mono ?_
          rintro e w6 ⟨rfl, hb⟩
          have Bw6 : Hid (Below W0.heap.size W0 w6) := show Below _ _ _ from Bw5.out.trans (hb.mono Bw5.out.size)
          clear hb
          go_wp2_with fail
          go_ret
          exact ⟨rfl, (by rw [← hg] at *; exact below_via BN.out Bw6.out)⟩
        · have o1 : decide (l1 < x) = false := decide_eq_false hl
          obtain rfl : A1 = 0 := U9.out.resolve_left hl
          clear U9 hl
          go_wp2_with fail
          refine (KW.out _).mono ?_
          rintro e w6 ⟨rfl, hb⟩
          have Bw6 : Hid (Below W0.heap.size W0 w6) := show Below _ _ _ from Bw5.out.trans (hb.mono Bw5.out.size)
          clear hb
          go_wp2_with fail
          go_ret
          exact ⟨rfl, (by rw [← hg] at *; exact below_via BN.out Bw6.out)⟩
  · have KG := Lib.hid (fun u B W g => RIncome.good_is zs u B false W g (tabB_no ht))
    clear h0 h1 h2 h3 a1 a2 c1 c2 x0 x1 y0 y1 p0 p1 q0 q1 ht
    go_enter Try.func4, Try.ntmps4
    go_wp2_with fail
    refine (KG.out _ _ _ ((HV.out.alloc (Nat.le_refl _) _).alloc (by simp) _)).mono ?_
    rintro e W1 ⟨rfl, nn, hw⟩
    have BW1 : Hid (Below w.heap.size w W1) := show Below _ _ _ by rw [hw]; exact below_drewN (below_new (below_new (Below.refl _ w) _) _) _
    clear hw
    go_wp2_with fail
    refine (KW.out _).mono ?_
    rintro e W2 ⟨rfl, hb⟩
    have BW2 : Hid (Below w.heap.size w W2) := show Below _ _ _ from below_via BW1.out hb
    clear hb
    go_wp2_with fail
    go_ret
    exact ⟨rfl, BW2.out⟩

set_option maxRecDepth 100000 in
theorem incomeFair_lifted (os : Os) (started : os.Started) (H : Type) (enc : TypeId × Value → H) :
    ReturnsInHanded {} Try.checked os 4 .any (Rows.incomeFairSpec.pre6 enc Try.prog Try.f4 Rows.incomeFairRow.domain false) (Rows.incomeFairSpec.post enc Try.prog Try.f4 false true false false) := by
  refine Shell.law_lifted (C := Try.checked) (tb := 4) (by kernel_rfl) started (by kernel_rfl) Try.func4
    (ChangeSpec.witness6 (enc := enc) (C := Try.checked) false ⟨#[], #[Value.slice none 0 0, Value.agg #[.int .u32 0, .int .u32 0], Value.agg #[.int .u8 0, .int .u8 0]], []⟩ 8 (by kernel_rfl) (by kernel_rfl) (by kernel_rfl) (by kernel_rfl))
    (by kernel_rfl) (by kernel_rfl) rfl rfl Try.underlying4 ?_
  intro W base args ds p hval0 hA0
  have hval : ∀ (j : Nat) t v, Try.f4.params[j]? = some t → args[j]? = some v → Value.okWide Try.prog W .any base t v := hval0
  have hA : DataW.TrodAll enc Try.prog W 0 (fun _ => true) true Try.f4.params.toList args.toList ds p := hA0
  clear hval0 hA0
  rw [Try.params4] at hA hval
  obtain ⟨v0, vs0, d0, ds0, p0, q0, hargs, rfl, rfl, h0, r0⟩ := trodAll_cons hA
  obtain ⟨v1, vs1, d1, ds1, p1, q1, rfl, rfl, rfl, h1, r1⟩ := trodAll_cons r0
  obtain ⟨v2, vs2, d2, ds2, p2, q2, rfl, rfl, rfl, h2, r2⟩ := trodAll_cons r1
  obtain ⟨rfl, rfl, rfl⟩ := trodAll_nil r2
  obtain rfl : args = #[v0, v1, v2] := by cases args; simp_all
  refine ⟨rfl, ?_⟩
  obtain ⟨zs, hzs, hwf⟩ := Slice.open_slice Try.underlying22 Try.underlying2 (by kernel_rfl) (hval 0 22 v0 rfl rfl) h0
  obtain ⟨zs1, hzl1, rfl, hz1⟩ := Shell.open_arr Try.underlying35 Try.underlying34 (by kernel_rfl) (by kernel_rfl) (hval 1 35 v1 rfl rfl) h1
  obtain ⟨n0, n1, rfl⟩ := Shell.list2 zs1 hzl1
  obtain ⟨zs2, hzl2, rfl, hz2⟩ := Shell.open_arr Try.underlying36 Try.underlying5 (by kernel_rfl) (by kernel_rfl) (hval 2 36 v2 rfl rfl) h2
  obtain ⟨k0, k1, rfl⟩ := Shell.list2 zs2 hzl2
  have x0 : 0 ≤ n0 ∧ n0 ≤ 4294967295 := by simpa [Lit.wf, IntKind.min, IntKind.max, IntKind.bits, IntKind.signed] using hz1 n0 (by simp)
  have x1 : 0 ≤ n1 ∧ n1 ≤ 4294967295 := by simpa [Lit.wf, IntKind.min, IntKind.max, IntKind.bits, IntKind.signed] using hz1 n1 (by simp)
  have x2 : 0 ≤ k0 ∧ k0 ≤ 255 := by simpa [Lit.wf, IntKind.min, IntKind.max, IntKind.bits, IntKind.signed] using hz2 k0 (by simp)
  have x3 : 0 ≤ k1 ∧ k1 ≤ 255 := by simpa [Lit.wf, IntKind.min, IntKind.max, IntKind.bits, IntKind.signed] using hz2 k1 (by simp)
  exact fair_walk zs n0 n1 k0 k1 v0 W hzs x0 x1 x2 x3

theorem incomeFair_over : Rows.incomeFairRow.holds Try.pinned (OpenSpec.ofChange Rows.incomeFairSpec) :=
  OpenClaim.holds_of_wide 4 Try.f4 rfl rfl rfl rfl rfl rfl rfl ⟨rfl, rfl, rfl, rfl, rfl⟩ rfl rfl rfl rfl rfl (by kernel_rfl) Try.func4 (by kernel_rfl)
    (of_decide_eq_true (by kernel_rfl)) (by unfold Func.isWrapper; first | (rw [if_pos (by decide +kernel)]; kernel_rfl) | (rw [if_neg (by decide +kernel)]; exact ⟨rfl, rfl⟩))
    (fun os st H enc _ => incomeFair_lifted os st H enc)

/-- The statement. -/
theorem incomeFair_proved : Rows.IncomeFairSaid := incomeFair_over
end Go.Proofs.Ytldcocckfemgbaa.Law
