/- The document's own answers of layer 17: Good, Line, Free, Ask. -/
import Derived.Test.YtldcocckfemgbaaIncome
import Derived.Test.YtldcocckfemgbaaRefMulDiv
import Derived.Test.YtldcocckfemgbaaWakes
namespace Go.Proofs.Ytldcocckfemgbaa.RIncome
open Go.ChangeShapes Go.WideShapes Go.ChangeAt Go.RowKit Bits Money Slice Income Law

/-- What the first numbers of a table are so far. -/
def Upto (zs : List Int) (j : Nat) : Prop := ∀ i : Nat, i < j → (0 ≤ zs.getD i 0 ∧ zs.getD i 0 ≤ 1000000000) ∧ ∀ k : Nat, i = k + 1 → zs.getD k 0 ≤ zs.getD i 0
theorem upto_zero (zs : List Int) : Upto zs 0 := fun i h => absurd h (Nat.not_lt_zero i)
theorem upto_more {zs : List Int} {j : Nat} (h : Upto zs j) (h1 : 0 ≤ zs.getD j 0) (h2 : zs.getD j 0 ≤ 1000000000) (h3 : ∀ k : Nat, j = k + 1 → zs.getD k 0 ≤ zs.getD j 0) : Upto zs (j + 1) := fun i hi => by
  by_cases e : i = j
  · subst e; exact ⟨⟨h1, h2⟩, h3⟩
  · exact h i (by omega)
theorem upto_tab {zs : List Int} (h : Upto zs zs.length) (h1 : 1 ≤ zs.length) (h2 : zs.length ≤ 30) : Tab zs :=
  ⟨h1, h2, fun j hj => (h j hj).1, fun j hj => (h (j + 1) hj).2 j rfl⟩

set_option maxHeartbeats 1000000 in
theorem r_good (zs : List Int) (v : Value) (B : Nat) (w : World) (hv : Ints w B .i64 v zs) :
    Calls Try.prog 13 #[v] w fun e w' => e = .returned (.bool (tabB zs)) ∧ ∃ n, w' = w.drewN n := by
  obtain ⟨A, c, rfl, hl, -, hcell⟩ := hv
  have HC := Lib.hid hcell
  have H1 : Hid (∀ j : Nat, j < zs.length → zs.getD j 0 < 0 → tabB zs = false) := fun j hj h => tabB_no fun g => by have := (g.2.2.1 j hj).1; omega
  have H2 : Hid (∀ j : Nat, j < zs.length → 1000000000 < zs.getD j 0 → tabB zs = false) := fun j hj h => tabB_no fun g => by have := (g.2.2.1 j hj).2; omega
  have H3 : Hid (∀ k : Nat, k + 1 < zs.length → zs.getD (k + 1) 0 < zs.getD k 0 → tabB zs = false) := fun k hk h => tabB_no fun g => by have := g.2.2.2 k hk; omega
  have H4 : Hid (zs.length < 1 → tabB zs = false) := fun h => tabB_no fun g => by have := g.1; omega
  have H5 : Hid (30 < zs.length → tabB zs = false) := fun h => tabB_no fun g => by have := g.2.1; omega
  have H6 : Hid (Upto zs zs.length → 1 ≤ zs.length → zs.length ≤ 30 → tabB zs = true) := fun a b c => tabB_yes (upto_tab a b c)
  clear hcell
  generalize tabB zs = R at *
  go_enter Try.func13, Try.ntmps13
  go_wp2_with fail
  go_loopw [3] (fun t wr => ∃ j : Nat, j ≤ zs.length ∧ t = .int .i64 j ∧ Hid (Upto zs j) ∧ ∃ n, wr = w.drewN n) (fun t _ => zs.length - (intOf t).toNat)
  case atStart => exact ⟨0, Nat.zero_le _, rfl, upto_zero zs, 0, rfl⟩
  case round =>
    obtain ⟨j, hj, rfl, HP, hwr⟩ := hrel
    have HW := Lib.hid hwr
    clear hwr
    by_cases hlt : j < zs.length
    · obtain ⟨b, off, rfl, hb, hcell⟩ := HC.out (by omega)
      have hx : wr.cell? ⟨b, off + j, none⟩ = some (.int .i64 (zs.getD j 0)) := by obtain ⟨n, e⟩ := HW.out; rw [e]; exact hcell j hlt
      have p0 : (0 : Int) ≤ (j : Int) := by omega
      by_cases h1 : zs.getD j 0 < 0
      · have HR := Lib.hid (H1.out j hlt h1)
        have t1 : decide (zs.getD j 0 < 0) = true := decide_eq_true h1
        clear hcell h1 H1 H2 H3 H4 H5 H6 HP HC
        generalize zs.getD j 0 = x at *
        go_wp2_with fail
        go_quiet (fail)
        go_wp2_with fail
        go_ret
        exact ⟨by rw [HR.out]; rfl, drew_more HW.out _⟩
      have t1 : decide (zs.getD j 0 < 0) = false := decide_eq_false h1
      by_cases h2 : 1000000000 < zs.getD j 0
      · have HR := Lib.hid (H2.out j hlt h2)
        have t2 : decide (1000000000 < zs.getD j 0) = true := decide_eq_true h2
        clear hcell h1 h2 H1 H2 H3 H4 H5 H6 HP HC
        generalize zs.getD j 0 = x at *
        go_wp2_with fail
        go_quiet (fail)
        go_wp2_with fail
        go_ret
        exact ⟨by rw [HR.out]; rfl, drew_more HW.out _⟩
      have t2 : decide (1000000000 < zs.getD j 0) = false := decide_eq_false h2
      by_cases h0 : j = 0
      · subst h0
        rw [Nat.add_zero] at hx
        have HQ : Hid (Upto zs (0 + 1)) := upto_more HP.out (by omega) (by omega) (fun k h => by omega)
        clear hcell h1 h2 H1 H2 H3 H4 H5 H6 HP HC p0
        generalize zs.getD 0 0 = x at *
        go_wp2_with fail
        go_quiet (fail)
        go_wp2_with fail
        go_roundw
        case rel => exact ⟨0 + 1, by omega, by go_num, HQ.out, drew_more HW.out _⟩
        case measure => simp [intOf]; omega
      obtain ⟨k, rfl⟩ : ∃ k : Nat, j = k + 1 := ⟨j - 1, by omega⟩
      have hy : wr.cell? ⟨b, off + k, none⟩ = some (.int .i64 (zs.getD k 0)) := by obtain ⟨n, e⟩ := HW.out; rw [e]; exact hcell k (by omega)
      have hq : wrap64 ((k : Int) + 1 - 1) = k := by unfold wrap64; omega
      have hq2 : IntKind.i64.wrap (k : Int) = k := IntWalk.i64_in _ (by omega)
      have hn1 : ((k : Int) + 1).toNat = k + 1 := by omega
      have p1 : (0 : Int) ≤ (k : Int) + 1 := by omega
      have p2 : (k : Int) + 1 < zs.length := by omega
      have p3 : (0 : Int) ≤ (k : Int) := by omega
      have p4 : (k : Int) < zs.length := by omega
      have p5 : decide ((0 : Int) < (k : Int) + 1) = true := decide_eq_true (by omega)
      by_cases h3 : zs.getD (k + 1) 0 < zs.getD k 0
      · have HR := Lib.hid (H3.out k hlt h3)
        have t3 : decide (zs.getD (k + 1) 0 < zs.getD k 0) = true := decide_eq_true h3
        clear hcell h1 h2 h3 H1 H2 H3 H4 H5 H6 HP HC p0 h0
        generalize zs.getD (k + 1) 0 = x at *
        generalize zs.getD k 0 = y at *
        go_wp2_with fail
        go_quiet (fail)
        go_wp2_with fail
        go_ret
        exact ⟨by rw [HR.out]; rfl, drew_more HW.out _⟩
      · have t3 : decide (zs.getD (k + 1) 0 < zs.getD k 0) = false := decide_eq_false h3
        have HQ : Hid (Upto zs (k + 1 + 1)) := upto_more HP.out (by omega) (by omega) (fun i h => by obtain rfl : i = k := by omega
                                                                                                     omega)
        clear hcell h1 h2 h3 H1 H2 H3 H4 H5 H6 HP HC p0 h0
        generalize zs.getD (k + 1) 0 = x at *
        generalize zs.getD k 0 = y at *
        go_wp2_with fail
        go_quiet (fail)
        go_wp2_with fail
        go_roundw
        case rel => exact ⟨k + 1 + 1, by omega, by go_num, HQ.out, drew_more HW.out _⟩
        case measure => simp [intOf]; omega
    · obtain rfl : j = zs.length := by omega
      by_cases h1 : zs.length < 1
      · have HR := Lib.hid (H4.out h1)
        have t1 : decide ((1 : Int) ≤ (zs.length : Int)) = false := decide_eq_false (by omega)
        clear H1 H2 H3 H4 H5 H6 HP HC h1
        go_wp2_with fail
        go_ret
        exact ⟨by rw [HR.out]; rfl, HW.out⟩
      have t1 : decide ((1 : Int) ≤ (zs.length : Int)) = true := decide_eq_true (by omega)
      by_cases h2 : 30 < zs.length
      · have HR := Lib.hid (H5.out h2)
        have t2 : decide ((zs.length : Int) ≤ 30) = false := decide_eq_false (by omega)
        clear H1 H2 H3 H4 H5 H6 HP HC
        go_wp2_with fail
        go_ret
        exact ⟨by rw [HR.out]; rfl, HW.out⟩
      have HR := Lib.hid (H6.out HP.out (by omega) (by omega))
      have t2 : decide ((zs.length : Int) ≤ 30) = true := decide_eq_true (by omega)
      clear H1 H2 H3 H4 H5 H6 HP HC
      go_wp2_with fail
      go_ret
      exact ⟨by rw [HR.out]; rfl, HW.out⟩

theorem rmd_small (a b c how : Int) (w : World) (a0 : 0 ≤ a) (a1 : a ≤ 9223372036854775807) (b0 : 0 ≤ b) (b1 : b ≤ 9223372036854775807) (c0 : 0 < c) (c1 : c ≤ 9223372036854775807) (m0 : 0 ≤ how) (m1 : how ≤ 2) (p1 : a * b ≤ 9000000000000) :
    Calls Try.prog 17 #[.int .i64 a, .int .i64 b, .int .i64 c, .int .i64 how] w fun e w' => e = .returned (.tuple #[.int .i64 (rnd a b c how), .int .i64 0]) ∧ Below w.heap.size w w' := by
  have h := md_in (a := a) (b := b) (c := c) (how := how) (by unfold mdBad; omega) (by have := (rnd_small (how := how) (Int.mul_nonneg a0 b0) p1 c0).2; omega)
  rw [← h.1, ← h.2]
  exact Ref.muldiv_any a b c how w a1 b1 c1
theorem line_md {zs : List Int} {f : Int} (h : Tab zs) (f1 : 1 ≤ f) (w : World) :
    Calls Try.prog 17 #[.int .i64 (num zs f), .int .i64 3, .int .i64 2, .int .i64 1] w fun e w' => e = .returned (.tuple #[.int .i64 (line zs f), .int .i64 0]) ∧ Below w.heap.size w w' := by
  obtain ⟨a, b⟩ := num_in h f1
  exact rmd_small (num zs f) 3 2 1 w a (by omega) (by omega) (by omega) (by omega) (by omega) (by omega) (by omega) (by omega)
theorem ask_md {zs : List Int} {f n : Int} (h : Tab zs) (f1 : 1 ≤ f) (n1 : 0 ≤ n) (n2 : n ≤ 1000000000) (w : World) :
    Calls Try.prog 17 #[.int .i64 (free zs f n), .int .i64 1, .int .i64 120, .int .i64 2] w fun e w' => e = .returned (.tuple #[.int .i64 (Income.ask zs f n), .int .i64 0]) ∧ Below w.heap.size w w' := by
  obtain ⟨a, b⟩ := free_in h f1 n1 n2
  exact rmd_small (free zs f n) 1 120 2 w a (by omega) (by omega) (by omega) (by omega) (by omega) (by omega) (by omega) (by omega)
theorem good_is (zs : List Int) (v : Value) (B : Nat) (b : Bool) (w : World) (hv : Ints w B .i64 v zs) (h : tabB zs = b) :
    Calls Try.prog 13 #[v] w fun e w' => e = .returned (.bool b) ∧ ∃ n, w' = w.drewN n := by
  rw [← h]; exact r_good zs v B w hv
set_option maxHeartbeats 400000 in
theorem r_line (zs : List Int) (f : Int) (v : Value) (B : Nat) (w : World) (hv : Ints w B .i64 v zs) :
    Calls Try.prog 7 #[v, .int .i64 f] w fun e w' => e = .returned (.tuple #[.int .i64 (lV zs f), .int .i64 (lE zs f)]) ∧ Below w.heap.size w w' := by
  have HV := Lib.hid hv
  obtain ⟨A, c, rfl, -, -, hcell⟩ := hv
  have HC := Lib.hid hcell
  clear hcell
  by_cases h : Tab zs
  · have K1 := Lib.hid (fun W g => good_is zs (.slice A zs.length c) B true W g (tabB_yes h))
    by_cases h1 : f < 1
    · obtain ⟨e1, e2⟩ := l_no (zs := zs) (f := f) fun g => by have := g.2.1; omega
      rw [e1, e2]
      clear e1 e2 h
      go_enter Try.func7, Try.ntmps7
      go_wp2_with fail
      refine (K1.out _ HV.out).mono ?_
      rintro e w1 ⟨rfl, n, rfl⟩
      go_wp2_with fail
      go_ret2
      exact ⟨rfl, below_drewN (Below.refl _ _) n⟩
    by_cases h2 : 30 < f
    · obtain ⟨e1, e2⟩ := l_no (zs := zs) (f := f) fun g => by have := g.2.2; omega
      rw [e1, e2]
      clear e1 e2 h
      go_enter Try.func7, Try.ntmps7
      go_wp2_with fail
      refine (K1.out _ HV.out).mono ?_
      rintro e w1 ⟨rfl, n, rfl⟩
      go_wp2_with fail
      go_ret2
      exact ⟨rfl, below_drewN (Below.refl _ _) n⟩
    obtain ⟨e1, e2⟩ := l_yes (zs := zs) (f := f) ⟨h, by omega, by omega⟩
    rw [e1, e2]
    have K3 := Lib.hid (fun W => line_md (f := f) h (by omega) W)
    obtain ⟨b, off, rfl, hb, hc⟩ := HC.out h.1
    obtain ⟨e3, e4⟩ := plc_pick h.1 h.2.1 (show 1 ≤ f by omega)
    have hx := hc _ e4
    generalize line zs f = l at *
    unfold num at K3
    have h30 := h.2.1
    clear e1 e2 h hc HC
    generalize zs.getD (plc zs.length f) 0 = x at *
    generalize plc zs.length f = k at *
    have hq : wrap64 ((k : Int) + 1 - 1) = k := by unfold wrap64; omega
    have hq2 : IntKind.i64.wrap (k : Int) = k := IntWalk.i64_in _ (by omega)
    have p3 : (0 : Int) ≤ (k : Int) := by omega
    have p4 : (k : Int) < zs.length := by omega
    clear h30
    go_enter Try.func7, Try.ntmps7
    go_wp2_with fail
    refine (K1.out _ HV.out).mono ?_
    rintro e w1 ⟨rfl, n, rfl⟩
    go_wp2_with fail
    refine (K3.out _).mono ?_
    rintro e w1 ⟨rfl, hb1⟩
    go_wp2_with fail
    go_ret2
    exact ⟨rfl, below_via (below_drewN (Below.refl _ _) n) hb1⟩
  · obtain ⟨e1, e2⟩ := l_no (zs := zs) (f := f) fun g => h g.1
    rw [e1, e2]
    have K1 := Lib.hid (fun W g => good_is zs (.slice A zs.length c) B false W g (tabB_no h))
    clear e1 e2 h HC
    go_enter Try.func7, Try.ntmps7
    go_wp2_with fail
    refine (K1.out _ HV.out).mono ?_
    rintro e w1 ⟨rfl, n, rfl⟩
    go_wp2_with fail
    go_ret2
    exact ⟨rfl, below_drewN (Below.refl _ _) n⟩
theorem line_is (zs : List Int) (f l x : Int) (v : Value) (B : Nat) (w : World) (hv : Ints w B .i64 v zs) (h1 : lV zs f = l) (h2 : lE zs f = x) :
    Calls Try.prog 7 #[v, .int .i64 f] w fun e w' => e = .returned (.tuple #[.int .i64 l, .int .i64 x]) ∧ Below w.heap.size w w' := by
  rw [← h1, ← h2]; exact r_line zs f v B w hv
set_option maxHeartbeats 400000 in
theorem r_free (zs : List Int) (f n : Int) (v : Value) (B : Nat) (w : World) (hv : Ints w B .i64 v zs) :
    Calls Try.prog 9 #[v, .int .i64 f, .int .i64 n] w fun e w' => e = .returned (.tuple #[.int .i64 (fV zs f n), .int .i64 (fE zs f n)]) ∧ Below w.heap.size w w' := by
  have HV := Lib.hid hv
  obtain ⟨A, c, rfl, -, -, -⟩ := hv
  by_cases h : okL zs f
  · obtain ⟨e3, e4⟩ := l_yes h
    have K1 := Lib.hid (fun W g => line_is zs f (line zs f) 0 (.slice A zs.length c) B W g e3 e4)
    by_cases h1 : n < 0
    · obtain ⟨e1, e2⟩ := f_no (zs := zs) (f := f) (n := n) fun g => by have := g.2.1; omega
      rw [e1, e2]
      clear e1 e2 e3 e4 h
      generalize line zs f = l at *
      go_enter Try.func9, Try.ntmps9
      go_wp2_with fail
      refine (K1.out _ HV.out).mono ?_
      rintro e w1 ⟨rfl, hb⟩
      go_wp2_with fail
      go_ret2
      exact ⟨rfl, hb⟩
    by_cases h2 : 1000000000 < n
    · obtain ⟨e1, e2⟩ := f_no (zs := zs) (f := f) (n := n) fun g => by have := g.2.2; omega
      rw [e1, e2]
      clear e1 e2 e3 e4 h
      generalize line zs f = l at *
      go_enter Try.func9, Try.ntmps9
      go_wp2_with fail
      refine (K1.out _ HV.out).mono ?_
      rintro e w1 ⟨rfl, hb⟩
      go_wp2_with fail
      go_ret2
      exact ⟨rfl, hb⟩
    obtain ⟨e1, e2⟩ := f_yes (zs := zs) (f := f) (n := n) ⟨h, by omega, by omega⟩
    rw [e1, e2]
    obtain ⟨b1, b2⟩ := line_in h.1 h.2.1
    unfold free
    clear e1 e2 e3 e4 h
    generalize line zs f = l at *
    obtain ⟨y, ey⟩ : ∃ y, n - l = y := ⟨_, rfl⟩
    have hw : wrap64 (n - l) = y := by unfold wrap64; omega
    rw [ey]
    clear b1 b2 ey
    by_cases hy : y < 0
    · rw [if_pos hy]
      have hy0 : ¬ 0 < y := by omega
      go_enter Try.func9, Try.ntmps9
      go_wp2_with fail
      refine (K1.out _ HV.out).mono ?_
      rintro e w1 ⟨rfl, hb⟩
      go_wp2_with fail
      go_ret2
      exact ⟨rfl, hb⟩
    · rw [if_neg hy]
      by_cases hz : 0 < y
      · go_enter Try.func9, Try.ntmps9
        go_wp2_with fail
        refine (K1.out _ HV.out).mono ?_
        rintro e w1 ⟨rfl, hb⟩
        go_wp2_with fail
        go_ret2
        exact ⟨rfl, hb⟩
      · obtain rfl : y = 0 := by omega
        clear hz hy
        go_enter Try.func9, Try.ntmps9
        go_wp2_with fail
        refine (K1.out _ HV.out).mono ?_
        rintro e w1 ⟨rfl, hb⟩
        go_wp2_with fail
        go_ret2
        exact ⟨rfl, hb⟩
  · obtain ⟨e1, e2⟩ := f_no (zs := zs) (f := f) (n := n) fun g => h g.1
    obtain ⟨e3, e4⟩ := l_no h
    rw [e1, e2]
    have K1 := Lib.hid (fun W g => line_is zs f 0 1 (.slice A zs.length c) B W g e3 e4)
    clear e1 e2 e3 e4 h
    go_enter Try.func9, Try.ntmps9
    go_wp2_with fail
    refine (K1.out _ HV.out).mono ?_
    rintro e w1 ⟨rfl, hb⟩
    go_wp2_with fail
    go_ret2
    exact ⟨rfl, hb⟩
theorem free_is (zs : List Int) (f n l x : Int) (v : Value) (B : Nat) (w : World) (hv : Ints w B .i64 v zs) (h1 : fV zs f n = l) (h2 : fE zs f n = x) :
    Calls Try.prog 9 #[v, .int .i64 f, .int .i64 n] w fun e w' => e = .returned (.tuple #[.int .i64 l, .int .i64 x]) ∧ Below w.heap.size w w' := by
  rw [← h1, ← h2]; exact r_free zs f n v B w hv
set_option maxHeartbeats 400000 in
theorem r_ask (zs : List Int) (f n : Int) (v : Value) (B : Nat) (w : World) (hv : Ints w B .i64 v zs) :
    Calls Try.prog 11 #[v, .int .i64 f, .int .i64 n] w fun e w' => e = .returned (.tuple #[.int .i64 (aV zs f n), .int .i64 (aE zs f n)]) ∧ Below w.heap.size w w' := by
  have HV := Lib.hid hv
  obtain ⟨A, c, rfl, -, -, -⟩ := hv
  by_cases h : okF zs f n
  · obtain ⟨e1, e2⟩ := a_yes h
    obtain ⟨e3, e4⟩ := f_yes h
    rw [e1, e2]
    have K1 := Lib.hid (fun W g => free_is zs f n (free zs f n) 0 (.slice A zs.length c) B W g e3 e4)
    have K2 := Lib.hid (fun W => ask_md (f := f) (n := n) h.1.1 h.1.2.1 h.2.1 h.2.2 W)
    clear e1 e2 e3 e4 h
    generalize Income.ask zs f n = a at *
    generalize free zs f n = y at *
    go_enter Try.func11, Try.ntmps11
    go_wp2_with fail
    refine (K1.out _ HV.out).mono ?_
    rintro e w1 ⟨rfl, hb⟩
    go_wp2_with fail
    refine (K2.out _).mono ?_
    rintro e w2 ⟨rfl, hb2⟩
    go_wp2_with fail
    go_ret2
    exact ⟨rfl, below_via hb hb2⟩
  · obtain ⟨e1, e2⟩ := a_no h
    obtain ⟨e3, e4⟩ := f_no h
    rw [e1, e2]
    have K1 := Lib.hid (fun W g => free_is zs f n 0 1 (.slice A zs.length c) B W g e3 e4)
    clear e1 e2 e3 e4 h
    go_enter Try.func11, Try.ntmps11
    go_wp2_with fail
    refine (K1.out _ HV.out).mono ?_
    rintro e w1 ⟨rfl, hb⟩
    go_wp2_with fail
    go_ret2
    exact ⟨rfl, hb⟩
end Go.Proofs.Ytldcocckfemgbaa.RIncome
