/- The program's own income: whether a table is good, the line, what is free, what is asked. -/
import Derived.Test.YtldcocckfemgbaaIncomeMath
import Derived.Test.YtldcocckfemgbaaSlice
import Derived.Deep.QuietTactic
import Derived.BigQuiet
namespace Go.Proofs.Ytldcocckfemgbaa.Income
open Go.ChangeShapes Go.WideShapes Go.ChangeAt Go.RowKit Bits Money Slice

theorem quiet_left {P : Program} {f : FuncId} {args : Array Value} {w : World} {n : Nat} {v : Value} (h : Calls P f args (w.drewN n) fun e w' => e = .returned v ∧ w.drewN n = w') :
    Calls P f args (w.drewN n) fun e w'' => e = .returned v ∧ ∃ m, w'' = w.drewN m := h.mono fun _ _ ⟨he, hm⟩ => ⟨he, n, hm.symm⟩
theorem drew_more {w wr : World} (h : ∃ n, wr = w.drewN n) (k : Nat) : ∃ m, wr.drewN k = w.drewN m := by
  obtain ⟨n, rfl⟩ := h
  exact ⟨n + k, by simp⟩
theorem nan_any (x : Int) (w : World) : Calls Try.prog 27 #[.int .i64 x] w fun e w' => e = .returned (.bool false) ∧ w = w' := by
  have t : (x == x) = true := by simp
  go_enter Try.func27, Try.ntmps27
  go_wp2_with fail
  go_ret
  exact ⟨rfl, rfl⟩
theorem less_any (x y : Int) (w : World) : Calls Try.prog 24 #[.int .i64 x, .int .i64 y] w fun e w' => e = .returned (.bool (decide (x < y))) ∧ w = w' := by
  have K := Lib.hid (fun W => nan_any x W)
  go_enter Try.func24, Try.ntmps24
  go_wp2_with fail
  refine (K.out _).mono ?_
  rintro e w1 ⟨rfl, rfl⟩
  go_wp2_with fail
  go_ret
  exact ⟨rfl, rfl⟩

set_option maxHeartbeats 400000 in
theorem sorted_any (zs : List Int) (v : Value) (B : Nat) (w : World) (hv : Ints w B .i64 v zs) :
    Calls Try.prog 18 #[v] w fun e w' => e = .returned (.bool (risB zs)) ∧ ∃ n, w' = w.drewN n := by
  obtain ⟨A, c, rfl, hl, -, hcell⟩ := hv
  have HC := Lib.hid hcell
  have HE : Hid ((∀ j : Nat, 0 ≤ j → j + 1 < zs.length → zs.getD j 0 ≤ zs.getD (j + 1) 0) → risB zs = true) := fun h => risB_yes fun j hj => h j (Nat.zero_le j) hj
  have HF : Hid (∀ j : Nat, j + 1 < zs.length → zs.getD (j + 1) 0 < zs.getD j 0 → risB zs = false) := fun j hj h => risB_no fun g => by have := g j hj; omega
  clear hcell
  have hw : wrap64 ((zs.length : Int) - 1) = (zs.length : Int) - 1 := by unfold wrap64; omega
  generalize hR : risB zs = R at *
  clear hR
  go_enter Try.func18, Try.ntmps18
  go_wp2_with fail
  go_loopw [3] (fun t wr => ∃ i : Int, -1 ≤ i ∧ i ≤ (zs.length : Int) - 1 ∧ t = .int .i64 i ∧ Hid (∀ j : Nat, i ≤ j → j + 1 < zs.length → zs.getD j 0 ≤ zs.getD (j + 1) 0) ∧ ∃ n, wr = w.drewN n) (fun t _ => (intOf t).toNat)
  case atStart => exact ⟨(zs.length : Int) - 1, by omega, by omega, rfl, fun j h1 h2 => by omega, 0, rfl⟩
  case round =>
    obtain ⟨i, hi, hj, rfl, HP, hwr⟩ := hrel
    have HW := Lib.hid hwr
    clear hwr
    by_cases hlt : 0 < i
    · obtain ⟨k, rfl⟩ : ∃ k : Nat, i = (k : Int) + 1 := ⟨(i - 1).toNat, by omega⟩
      obtain ⟨b, off, rfl, hb, hcell⟩ := HC.out (by omega)
      have hx : wr.cell? ⟨b, off + (k + 1), none⟩ = some (.int .i64 (zs.getD (k + 1) 0)) := by obtain ⟨n, e⟩ := HW.out; rw [e]; exact hcell (k + 1) (by omega)
      have hy : wr.cell? ⟨b, off + k, none⟩ = some (.int .i64 (zs.getD k 0)) := by obtain ⟨n, e⟩ := HW.out; rw [e]; exact hcell k (by omega)
      clear hcell
      have HG := Lib.hid (HF.out k (by omega))
      have hq : wrap64 ((k : Int) + 1 - 1) = k := by unfold wrap64; omega
      have hq2 : IntKind.i64.wrap (k : Int) = k := IntWalk.i64_in _ (by omega)
      have hn1 : ((k : Int) + 1).toNat = k + 1 := by omega
      have hp0 : (0 : Int) ≤ (k : Int) + 1 := by omega
      have hp1 : (k : Int) + 1 < zs.length := by omega
      have hp2 : (k : Int) < zs.length := by omega
      have hp3 : (0 : Int) ≤ (k : Int) := by omega
      have HS : Hid (¬ zs.getD (k + 1) 0 < zs.getD k 0 → ∀ j : Nat, (k : Int) ≤ j → j + 1 < zs.length → zs.getD j 0 ≤ zs.getD (j + 1) 0) := fun hh j h1 h2 => by
        by_cases e : j = k
        · subst e; omega
        · exact HP.out j (by omega) h2
      have HI := Lib.hid hi
      have HJ := Lib.hid hj
      clear HP hi hj
      generalize zs.getD (k + 1) 0 = x at *
      generalize zs.getD k 0 = y at *
      by_cases hxy : x < y
      · have HR := Lib.hid (HG.out hxy)
        have K := Lib.hid (fun W => (by have t := less_any x y W; rw [decide_eq_true hxy] at t; exact t : Calls Try.prog 24 #[.int .i64 x, .int .i64 y] W fun e w' => e = .returned (.bool true) ∧ W = w'))
        clear hxy
        go_wp2_with fail
        go_quiet ((exact quiet_left (K.out _)))
        go_wp2_with fail
        go_ret
        exact ⟨by rw [HR.out]; rfl, drew_more HW.out _⟩
      · have HQ := Lib.hid (HS.out hxy)
        have K := Lib.hid (fun W => (by have t := less_any x y W; rw [decide_eq_false hxy] at t; exact t : Calls Try.prog 24 #[.int .i64 x, .int .i64 y] W fun e w' => e = .returned (.bool false) ∧ W = w'))
        clear hxy
        go_wp2_with fail
        go_quiet ((exact quiet_left (K.out _)))
        go_wp2_with fail
        go_roundw
        case rel => exact ⟨k, by omega, by omega, rfl, HQ.out, drew_more HW.out _⟩
        case measure => simp [intOf]
    · have HR := Lib.hid (HE.out fun j h1 h2 => HP.out j (by omega) h2)
      go_wp2_with fail
      go_ret
      exact ⟨by rw [HR.out]; rfl, HW.out⟩

theorem sorted_is (zs : List Int) (v : Value) (B : Nat) (b : Bool) (w : World) (hv : Ints w B .i64 v zs) (h : risB zs = b) :
    Calls Try.prog 18 #[v] w fun e w' => e = .returned (.bool b) ∧ ∃ n, w' = w.drewN n := by
  rw [← h]; exact sorted_any zs v B w hv
set_option maxHeartbeats 400000 in
theorem good_any (zs : List Int) (v : Value) (B : Nat) (w : World) (hv : Ints w B .i64 v zs) :
    Calls Try.prog 12 #[v] w fun e w' => e = .returned (.bool (tabB zs)) ∧ ∃ n, w' = w.drewN n := by
  obtain ⟨A, c, rfl, hl, hn, hcell⟩ := hv
  have HV : Hid (Ints w B .i64 (.slice A zs.length c) zs) := ⟨A, c, rfl, hl, hn, hcell⟩
  clear hn
  by_cases h0 : zs.length = 0
  · have HR : Hid (tabB zs = false) := tabB_no fun h => by have := h.1; omega
    generalize hR : tabB zs = R at *
    clear hR hcell HV
    generalize zs.length = N at *
    subst h0
    go_enter Try.func12, Try.ntmps12
    go_wp2_with fail
    go_ret
    exact ⟨by rw [HR.out]; rfl, 0, rfl⟩
  obtain ⟨b, off, rfl, hb, hc⟩ := hcell (by omega)
  have hx := hc 0 (by omega)
  rw [Nat.add_zero] at hx
  have hy := hc (zs.length - 1) (by omega)
  clear hcell hc
  obtain ⟨R, hR⟩ : ∃ R, tabB zs = R := ⟨_, rfl⟩
  obtain ⟨k, hk⟩ : ∃ k : Nat, zs.length = k + 1 := ⟨zs.length - 1, by omega⟩
  have HS : Hid (∀ (g : Bool) (W : World), Ints W B .i64 (.slice (some ⟨b, off, none⟩) (k + 1) c) zs → risB zs = g → Calls Try.prog 18 #[.slice (some ⟨b, off, none⟩) (k + 1) c] W fun e w' => e = .returned (.bool g) ∧ ∃ n, w' = W.drewN n) := fun g W h => sorted_is zs _ B g W h
  have H1 : Hid (30 < k + 1 → R = false) := fun h => hR ▸ tabB_no fun g => by have := g.2.1; omega
  have H2 : Hid (¬ Rises zs → R = false) := fun h => hR ▸ tabB_no fun g => h g.2.2.2
  have H3 : Hid (zs.getD 0 0 < 0 → R = false) := fun h => hR ▸ tabB_no fun g => by have := (g.2.2.1 0 (by omega)).1; omega
  have H4 : Hid (1000000000 < zs.getD k 0 → R = false) := fun h => hR ▸ tabB_no fun g => by have := (g.2.2.1 k (by omega)).2; omega
  have H5 : Hid (k + 1 ≤ 30 → Rises zs → 0 ≤ zs.getD 0 0 → zs.getD k 0 ≤ 1000000000 → R = true) := fun a1 a2 a3 a4 => hR ▸ tabB_yes (tab_ends (by omega) (by omega) a2 a3 (by rw [show zs.length - 1 = k from by omega]; exact a4))
  rw [hR]
  rw [hk] at hy HV
  rw [show k + 1 - 1 = k from by omega] at hy
  simp only [hk]
  rw [hk] at hl
  clear hR h0 hk
  have hq : wrap64 ((k : Int) + 1 - 1) = k := by unfold wrap64; omega
  have hq2 : IntKind.i64.wrap (k : Int) = k := IntWalk.i64_in _ (by omega)
  have t0 : (((k : Int) + 1) == 0) = false := by rw [beq_eq_false_iff_ne]; omega
  have p3 : (0 : Int) ≤ (k : Int) := by omega
  have p4 : (k : Int) < (k : Int) + 1 := by omega
  have p5 : (0 : Int) < (k : Int) + 1 := by omega
  by_cases h1 : 30 < k + 1
  · have HR := Lib.hid (H1.out h1)
    have t1 : decide ((30 : Int) < (k : Int) + 1) = true := decide_eq_true (by omega)
    clear h1 HS hx hy HV H1 H2 H3 H4 H5
    go_enter Try.func12, Try.ntmps12
    go_wp2_with fail
    go_ret
    exact ⟨by rw [HR.out]; rfl, 0, rfl⟩
  have t1 : decide ((30 : Int) < (k : Int) + 1) = false := decide_eq_false (by omega)
  by_cases h2 : Rises zs
  · have K := Lib.hid (fun (_ : Unit) => HS.out true w HV.out (risB_yes h2))
    clear HS H1 H2
    by_cases h3 : zs.getD 0 0 < 0
    · have HR := Lib.hid (H3.out h3)
      have t2 : decide (0 ≤ zs.getD 0 0) = false := decide_eq_false (by omega)
      generalize zs.getD 0 0 = x at *
      generalize zs.getD k 0 = y at *
      clear h1 h2 h3 H3 H4 H5
      go_enter Try.func12, Try.ntmps12
      go_wp2_with fail
      refine (K.out ()).mono ?_
      rintro e w1 ⟨rfl, n, rfl⟩
      go_wp2_with fail
      go_ret
      exact ⟨by rw [HR.out]; rfl, n, rfl⟩
    by_cases h4 : 1000000000 < zs.getD k 0
    · have HR := Lib.hid (H4.out h4)
      have t2 : decide (0 ≤ zs.getD 0 0) = true := decide_eq_true (by omega)
      have t3 : decide (zs.getD k 0 ≤ 1000000000) = false := decide_eq_false (by omega)
      generalize zs.getD 0 0 = x at *
      generalize zs.getD k 0 = y at *
      clear h1 h2 h3 h4 H3 H4 H5
      go_enter Try.func12, Try.ntmps12
      go_wp2_with fail
      refine (K.out ()).mono ?_
      rintro e w1 ⟨rfl, n, rfl⟩
      go_wp2_with fail
      go_ret
      exact ⟨by rw [HR.out]; rfl, n, rfl⟩
    have HR := Lib.hid (H5.out (by omega) h2 (by omega) (by omega))
    have t2 : decide (0 ≤ zs.getD 0 0) = true := decide_eq_true (by omega)
    have t3 : decide (zs.getD k 0 ≤ 1000000000) = true := decide_eq_true (by omega)
    generalize zs.getD 0 0 = x at *
    generalize zs.getD k 0 = y at *
    clear h1 h2 h3 h4 H3 H4 H5
    go_enter Try.func12, Try.ntmps12
    go_wp2_with fail
    refine (K.out ()).mono ?_
    rintro e w1 ⟨rfl, n, rfl⟩
    go_wp2_with fail
    go_ret
    exact ⟨by rw [HR.out]; rfl, n, rfl⟩
  · have K := Lib.hid (fun (_ : Unit) => HS.out false w HV.out (risB_no h2))
    have HR := Lib.hid (H2.out h2)
    clear HS h1 h2 H1 H2 H3 H4 H5 hx hy HV
    go_enter Try.func12, Try.ntmps12
    go_wp2_with fail
    refine (K.out ()).mono ?_
    rintro e w1 ⟨rfl, n, rfl⟩
    go_wp2_with fail
    go_ret
    exact ⟨by rw [HR.out]; rfl, n, rfl⟩

/-- Two numbers' least, in the walk's spelling, and what it is as a place. -/
theorem plc_pick {N : Nat} {f : Int} (h : 1 ≤ N) (hN : N ≤ 30) (f1 : 1 ≤ f) :
    (if (N : Int) < f then (N : Int) else f) = (plc N f : Int) + 1 ∧ plc N f < N := by
  unfold plc
  constructor
  · split <;> split <;> omega
  · split <;> omega
set_option maxHeartbeats 400000 in
theorem number_any (zs : List Int) (f : Int) (v : Value) (B : Nat) (w : World) (hv : Ints w B .i64 v zs) (h : Tab zs) (f1 : 1 ≤ f) :
    Calls Try.prog 16 #[.int .i64 f, v] w fun e w' => e = .returned (.int .i64 (num zs f)) ∧ w = w' := by
  obtain ⟨A, c, rfl, hl, hn, hcell⟩ := hv
  obtain ⟨b, off, rfl, hb, hc⟩ := hcell h.1
  obtain ⟨e1, e2⟩ := plc_pick h.1 h.2.1 f1
  have hx := hc _ e2
  unfold num
  clear hcell hc
  generalize zs.getD (plc zs.length f) 0 = x at *
  generalize plc zs.length f = k at *
  have h30 := h.2.1
  clear h hn hb
  generalize zs.length = N at *
  have hq : wrap64 ((k : Int) + 1 - 1) = k := by unfold wrap64; omega
  have hq2 : IntKind.i64.wrap (k : Int) = k := IntWalk.i64_in _ (by omega)
  have p3 : (0 : Int) ≤ (k : Int) := by omega
  have p4 : (k : Int) < N := by omega
  clear h30 hl f1
  go_enter Try.func16, Try.ntmps16
  go_wp2_with fail
  go_ret
  exact ⟨rfl, rfl⟩

theorem line_md {zs : List Int} {f : Int} (h : Tab zs) (f1 : 1 ≤ f) (w : World) :
    Calls Try.prog 15 #[.int .i64 (num zs f), .int .i64 3, .int .i64 2, .int .i64 1] w fun e w' => e = .returned (.tuple #[.int .i64 (line zs f), .int .i64 0]) ∧ ∃ n, w' = w.drewN n := by
  obtain ⟨a, b⟩ := num_in h f1
  exact md_small (num zs f) 3 2 1 w a (by omega) (by omega) (by omega) (by omega) (by omega) (by omega) (by omega) (by omega)
theorem ask_md {zs : List Int} {f n : Int} (h : Tab zs) (f1 : 1 ≤ f) (n1 : 0 ≤ n) (n2 : n ≤ 1000000000) (w : World) :
    Calls Try.prog 15 #[.int .i64 (free zs f n), .int .i64 1, .int .i64 120, .int .i64 2] w fun e w' => e = .returned (.tuple #[.int .i64 (ask zs f n), .int .i64 0]) ∧ ∃ n, w' = w.drewN n := by
  obtain ⟨a, b⟩ := free_in h f1 n1 n2
  exact md_small (free zs f n) 1 120 2 w a (by omega) (by omega) (by omega) (by omega) (by omega) (by omega) (by omega) (by omega)
theorem good_is (zs : List Int) (v : Value) (B : Nat) (b : Bool) (w : World) (hv : Ints w B .i64 v zs) (h : tabB zs = b) :
    Calls Try.prog 12 #[v] w fun e w' => e = .returned (.bool b) ∧ ∃ n, w' = w.drewN n := by
  rw [← h]; exact good_any zs v B w hv
set_option maxHeartbeats 400000 in
theorem line_any (zs : List Int) (f : Int) (v : Value) (B : Nat) (w : World) (hv : Ints w B .i64 v zs) :
    Calls Try.prog 6 #[v, .int .i64 f] w fun e w' => e = .returned (.tuple #[.int .i64 (lV zs f), .int .i64 (lE zs f)]) ∧ ∃ n, w' = w.drewN n := by
  have HV := Lib.hid hv
  obtain ⟨A, c, rfl, -, -, -⟩ := hv
  by_cases h : Tab zs
  · have K1 := Lib.hid (fun W g => good_is zs (.slice A zs.length c) B true W g (tabB_yes h))
    by_cases h1 : f < 1
    · obtain ⟨e1, e2⟩ := l_no (zs := zs) (f := f) fun g => by have := g.2.1; omega
      rw [e1, e2]
      clear e1 e2 h
      go_enter Try.func6, Try.ntmps6
      go_wp2_with fail
      refine (K1.out _ HV.out).mono ?_
      rintro e w1 ⟨rfl, n, rfl⟩
      go_wp2_with fail
      go_ret2
      exact ⟨rfl, n, rfl⟩
    by_cases h2 : 30 < f
    · obtain ⟨e1, e2⟩ := l_no (zs := zs) (f := f) fun g => by have := g.2.2; omega
      rw [e1, e2]
      clear e1 e2 h
      go_enter Try.func6, Try.ntmps6
      go_wp2_with fail
      refine (K1.out _ HV.out).mono ?_
      rintro e w1 ⟨rfl, n, rfl⟩
      go_wp2_with fail
      go_ret2
      exact ⟨rfl, n, rfl⟩
    obtain ⟨e1, e2⟩ := l_yes (zs := zs) (f := f) ⟨h, by omega, by omega⟩
    rw [e1, e2]
    have K2 := Lib.hid (fun W g => number_any zs f (.slice A zs.length c) B W g h (by omega))
    have K3 := Lib.hid (fun W => line_md (f := f) h (by omega) W)
    generalize line zs f = l at *
    generalize num zs f = x at *
    clear e1 e2 h
    go_enter Try.func6, Try.ntmps6
    go_wp2_with fail
    refine (K1.out _ HV.out).mono ?_
    rintro e w1 ⟨rfl, n, rfl⟩
    go_wp2_with fail
    refine (K2.out _ (HV.out.drewN n)).mono ?_
    rintro e w1 ⟨rfl, rfl⟩
    go_wp2_with fail
    refine (K3.out _).mono ?_
    rintro e w1 ⟨rfl, m, rfl⟩
    go_wp2_with fail
    go_ret2
    exact ⟨rfl, _, rfl⟩
  · obtain ⟨e1, e2⟩ := l_no (zs := zs) (f := f) fun g => h g.1
    rw [e1, e2]
    have K1 := Lib.hid (fun W g => good_is zs (.slice A zs.length c) B false W g (tabB_no h))
    clear e1 e2 h
    go_enter Try.func6, Try.ntmps6
    go_wp2_with fail
    refine (K1.out _ HV.out).mono ?_
    rintro e w1 ⟨rfl, n, rfl⟩
    go_wp2_with fail
    go_ret2
    exact ⟨rfl, n, rfl⟩
theorem line_is (zs : List Int) (f l x : Int) (v : Value) (B : Nat) (w : World) (hv : Ints w B .i64 v zs) (h1 : lV zs f = l) (h2 : lE zs f = x) :
    Calls Try.prog 6 #[v, .int .i64 f] w fun e w' => e = .returned (.tuple #[.int .i64 l, .int .i64 x]) ∧ ∃ n, w' = w.drewN n := by
  rw [← h1, ← h2]; exact line_any zs f v B w hv
set_option maxHeartbeats 400000 in
theorem free_any (zs : List Int) (f n : Int) (v : Value) (B : Nat) (w : World) (hv : Ints w B .i64 v zs) :
    Calls Try.prog 8 #[v, .int .i64 f, .int .i64 n] w fun e w' => e = .returned (.tuple #[.int .i64 (fV zs f n), .int .i64 (fE zs f n)]) ∧ ∃ n, w' = w.drewN n := by
  have HV := Lib.hid hv
  obtain ⟨A, c, rfl, -, -, -⟩ := hv
  by_cases h1 : n < 0
  · obtain ⟨e1, e2⟩ := f_no (zs := zs) (f := f) (n := n) fun g => by have := g.2.1; omega
    rw [e1, e2]
    clear e1 e2
    go_enter Try.func8, Try.ntmps8
    go_wp2_with fail
    go_ret2
    exact ⟨rfl, 0, rfl⟩
  by_cases h2 : 1000000000 < n
  · obtain ⟨e1, e2⟩ := f_no (zs := zs) (f := f) (n := n) fun g => by have := g.2.2; omega
    rw [e1, e2]
    clear e1 e2
    go_enter Try.func8, Try.ntmps8
    go_wp2_with fail
    go_ret2
    exact ⟨rfl, 0, rfl⟩
  by_cases h : okL zs f
  · obtain ⟨e1, e2⟩ := f_yes (zs := zs) (f := f) (n := n) ⟨h, by omega, by omega⟩
    obtain ⟨e3, e4⟩ := l_yes h
    rw [e1, e2]
    have K1 := Lib.hid (fun W g => line_is zs f (line zs f) 0 (.slice A zs.length c) B W g e3 e4)
    obtain ⟨b1, b2⟩ := line_in h.1 h.2.1
    unfold free
    clear e1 e2 e3 e4 h
    generalize line zs f = l at *
    obtain ⟨y, ey⟩ : ∃ y, n - l = y := ⟨_, rfl⟩
    have hw : wrap64 (n - l) = y := by unfold wrap64; omega
    rw [ey]
    clear b1 b2 ey
    by_cases hy : y < 0
    · rw [if_pos hy]
      go_enter Try.func8, Try.ntmps8
      go_wp2_with fail
      refine (K1.out _ HV.out).mono ?_
      rintro e w1 ⟨rfl, m, rfl⟩
      go_wp2_with fail
      go_ret2
      exact ⟨rfl, m, rfl⟩
    · rw [if_neg hy]
      go_enter Try.func8, Try.ntmps8
      go_wp2_with fail
      refine (K1.out _ HV.out).mono ?_
      rintro e w1 ⟨rfl, m, rfl⟩
      go_wp2_with fail
      go_ret2
      exact ⟨rfl, m, rfl⟩
  · obtain ⟨e1, e2⟩ := f_no (zs := zs) (f := f) (n := n) fun g => h g.1
    obtain ⟨e3, e4⟩ := l_no h
    rw [e1, e2]
    have K1 := Lib.hid (fun W g => line_is zs f 0 1 (.slice A zs.length c) B W g e3 e4)
    clear e1 e2 e3 e4 h
    go_enter Try.func8, Try.ntmps8
    go_wp2_with fail
    refine (K1.out _ HV.out).mono ?_
    rintro e w1 ⟨rfl, m, rfl⟩
    go_wp2_with fail
    go_ret2
    exact ⟨rfl, m, rfl⟩
theorem free_is (zs : List Int) (f n l x : Int) (v : Value) (B : Nat) (w : World) (hv : Ints w B .i64 v zs) (h1 : fV zs f n = l) (h2 : fE zs f n = x) :
    Calls Try.prog 8 #[v, .int .i64 f, .int .i64 n] w fun e w' => e = .returned (.tuple #[.int .i64 l, .int .i64 x]) ∧ ∃ n, w' = w.drewN n := by
  rw [← h1, ← h2]; exact free_any zs f n v B w hv
set_option maxHeartbeats 400000 in
theorem ask_any (zs : List Int) (f n : Int) (v : Value) (B : Nat) (w : World) (hv : Ints w B .i64 v zs) :
    Calls Try.prog 10 #[v, .int .i64 f, .int .i64 n] w fun e w' => e = .returned (.tuple #[.int .i64 (aV zs f n), .int .i64 (aE zs f n)]) ∧ ∃ n, w' = w.drewN n := by
  have HV := Lib.hid hv
  obtain ⟨A, c, rfl, -, -, -⟩ := hv
  by_cases h : okF zs f n
  · obtain ⟨e1, e2⟩ := a_yes h
    obtain ⟨e3, e4⟩ := f_yes h
    rw [e1, e2]
    have K1 := Lib.hid (fun W g => free_is zs f n (free zs f n) 0 (.slice A zs.length c) B W g e3 e4)
    have K2 := Lib.hid (fun W => ask_md (f := f) (n := n) h.1.1 h.1.2.1 h.2.1 h.2.2 W)
    clear e1 e2 e3 e4 h
    generalize ask zs f n = a at *
    generalize free zs f n = y at *
    go_enter Try.func10, Try.ntmps10
    go_wp2_with fail
    refine (K1.out _ HV.out).mono ?_
    rintro e w1 ⟨rfl, m, rfl⟩
    go_wp2_with fail
    refine (K2.out _).mono ?_
    rintro e w1 ⟨rfl, k, rfl⟩
    go_wp2_with fail
    go_ret2
    exact ⟨rfl, _, rfl⟩
  · obtain ⟨e1, e2⟩ := a_no h
    obtain ⟨e3, e4⟩ := f_no h
    rw [e1, e2]
    have K1 := Lib.hid (fun W g => free_is zs f n 0 1 (.slice A zs.length c) B W g e3 e4)
    clear e1 e2 e3 e4 h
    go_enter Try.func10, Try.ntmps10
    go_wp2_with fail
    refine (K1.out _ HV.out).mono ?_
    rintro e w1 ⟨rfl, m, rfl⟩
    go_wp2_with fail
    go_ret2
    exact ⟨rfl, m, rfl⟩
theorem ask_is (zs : List Int) (f n l x : Int) (v : Value) (B : Nat) (w : World) (hv : Ints w B .i64 v zs) (h1 : aV zs f n = l) (h2 : aE zs f n = x) :
    Calls Try.prog 10 #[v, .int .i64 f, .int .i64 n] w fun e w' => e = .returned (.tuple #[.int .i64 l, .int .i64 x]) ∧ ∃ n, w' = w.drewN n := by
  rw [← h1, ← h2]; exact ask_any zs f n v B w hv
end Go.Proofs.Ytldcocckfemgbaa.Income
