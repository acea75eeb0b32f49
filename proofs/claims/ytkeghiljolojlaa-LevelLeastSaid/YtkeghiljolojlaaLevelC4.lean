/- sort.Search over a closure that tells 'no' below a number and 'yes' from there on; level.Of. -/
import Derived.Test.YtkeghiljolojlaaLevelC2
namespace Go.Proofs.Ytkeghiljolojlaa.Level
open Go.ChangeShapes Go.WideShapes Go.ChangeAt Go.RowKit Bits Law

set_option maxHeartbeats 400000 in
theorem search_any (F : FuncId) (cap : Array Value) (q N : Nat) (w : World) (hF : ∀ (args : Array Value) (w : World), (callFunc F args).run Try.prog w = .ok (.enter F args) w) (hq : q ≤ N) (hN : N ≤ 10000000000000)
    (hc : ∀ W, Below w.heap.size w W → ∀ h : Nat, h < N → Calls Try.prog F (#[.int .i64 (h : Int)] ++ cap) W fun e w' => e = .returned (.bool (decide (q ≤ h))) ∧ Below W.heap.size W w') :
    Calls Try.prog 27 #[.int .i64 (N : Int), .func (.func F) #[] cap] w fun e w' => e = .returned (.int .i64 (q : Int)) ∧ Below w.heap.size w w' := by
  have HC := Lib.hid hc
  clear hc
  go_enter Try.func27, Try.ntmps27
  go_wp2_with fail
  go_loopw [5, 6] (fun s t wr => ∃ (i j : Nat), i ≤ q ∧ q ≤ j ∧ j ≤ N ∧ s = .int .i64 i ∧ t = .int .i64 j ∧ Hid (Below w.heap.size w wr)) (fun s t _ => (intOf t).toNat - (intOf s).toNat)
  case atStart => exact ⟨0, N, Nat.zero_le _, hq, Nat.le_refl _, rfl, rfl, Below.refl _ _⟩
  case round =>
    obtain ⟨i, j, h1, h2, h3, rfl, rfl, HB⟩ := hrel
    by_cases hlt : i < j
    · obtain ⟨k, hk⟩ : ∃ k : Nat, k = (i + j) / 2 := ⟨_, rfl⟩
      have k1 : i ≤ k := by omega
      have k2 : k < j := by omega
      have w1 : IntKind.i64.wrap ((i : Int) + j) = (i : Int) + j := IntWalk.i64_in _ (by omega)
      have w2 : IntKind.u64.wrap ((i : Int) + j) = (i : Int) + j := IntWalk.u64_in _ (by omega)
      have w3 : ((i : Int) + j) / 2 = k := by omega
      have w4 : IntKind.u64.wrap (k : Int) = k := IntWalk.u64_in _ (by omega)
      have w5 : IntKind.i64.wrap (k : Int) = k := IntWalk.i64_in _ (by omega)
      have w6 : IntKind.i64.wrap ((k : Int) + 1) = (k : Int) + 1 := IntWalk.i64_in _ (by omega)
      have K := Lib.hid (HC.out _ HB.out k (by omega))
      have HK := Lib.hid hk
      clear hk
      by_cases hle : q ≤ k
      · rw [decide_eq_true hle] at K
        go_wp2_with fail
        refine (K.out).mono ?_
        rintro e w1 ⟨rfl, hb⟩
        have HB1 : Hid (Below w.heap.size w w1) := show Below _ _ _ from HB.out.trans (hb.mono HB.out.size)
        clear hb
        go_wp2_with fail
        go_roundw
        case rel => exact ⟨i, k, h1, hle, by omega, rfl, rfl, HB1⟩
        case measure => simp [intOf]; omega
      · rw [decide_eq_false hle] at K
        go_wp2_with fail
        refine (K.out).mono ?_
        rintro e w1 ⟨rfl, hb⟩
        have HB1 : Hid (Below w.heap.size w w1) := show Below _ _ _ from HB.out.trans (hb.mono HB.out.size)
        clear hb
        go_wp2_with fail
        go_roundw
        case rel => exact ⟨k + 1, j, by omega, h2, h3, by go_num, rfl, HB1⟩
        case measure => simp [intOf]; omega
    · have hi : i = q := by omega
      go_wp2_with fail
      go_ret
      exact ⟨by rw [← hi]; rfl, HB.out⟩

theorem of_enters : ∀ (args : Array Value) (w : World), (callFunc 28 args).run Try.prog w = .ok (.enter 28 args) w :=
  enters_of Try.func28 (by kernel_rfl) rfl
theorem of_fn (b r : Int) (N p g1 g2 g3 : Nat) (w : World) (h : okL b p r = true) (hN : N ≤ 360) (c1 : w.cell? ⟨g1, 0, none⟩ = some (.int .i64 b)) (c2 : w.cell? ⟨g2, 0, none⟩ = some (.int .i64 r)) (c3 : w.cell? ⟨g3, 0, none⟩ = some (.int .i64 (N : Int))) :
    Calls Try.prog 28 #[.int .i64 (p : Int), .pointer (some ⟨g1, 0, none⟩), .pointer (some ⟨g2, 0, none⟩), .pointer (some ⟨g3, 0, none⟩)] w fun e w' => e = .returned (.bool (pays b p r N)) ∧ Below w.heap.size w w' := by
  have K := Lib.hid (c_pays b p r N w h hN)
  generalize pays b p r N = x at *
  clear h
  go_enter Try.func28, Try.ntmps28
  go_wp2_with fail
  refine (K.out).mono ?_
  rintro e w1 ⟨rfl, hb⟩
  have HB := Lib.hid hb
  clear hb
  go_wp2_with fail
  go_ret
  exact ⟨rfl, HB.out⟩

theorem below_three (w : World) (a b c : Obj) : Below w.heap.size w (((w.alloc a).alloc b).alloc c) := below_new (below_new (below_new (Below.refl _ _) _) _) _
theorem c_of_no (b r n : Int) (w : World) (x y z : Bool) (h : (x && y && z) = false) (h1 : Hid (okL b 0 r = x)) (h2 : decide (n < 1) = !y) (h3 : decide (360 < n) = !z) :
    Calls Try.prog 16 #[.int .i64 b, .int .i64 r, .int .i64 n] w fun e w' => e = .returned (.tuple #[.int .i64 0, .int .i64 1]) ∧ Below w.heap.size w w' := by
  have HB := Lib.hid (below_three w (.cells #[.int .i64 b] 2) (.cells #[.int .i64 r] 3) (.cells #[.int .i64 n] 3))
  have K1 := Lib.hid (fun W => good_is b 0 r x W h1)
  clear h1
  go_enter Try.func16, Try.ntmps16
  cases x with
  | false =>
    go_wp2_with fail
    refine (K1.out _).mono ?_
    rintro e w' ⟨rfl, rfl⟩
    go_wp2_with fail
    go_ret2
    exact ⟨rfl, HB.out⟩
  | true =>
    cases y with
    | false =>
      go_wp2_with fail
      refine (K1.out _).mono ?_
      rintro e w' ⟨rfl, rfl⟩
      go_wp2_with fail
      go_ret2
      exact ⟨rfl, HB.out⟩
    | true =>
      cases z with
      | true => cases h
      | false =>
        go_wp2_with fail
        refine (K1.out _).mono ?_
        rintro e w' ⟨rfl, rfl⟩
        go_wp2_with fail
        go_ret2
        exact ⟨rfl, HB.out⟩
theorem c_of_over (b r : Int) (N : Nat) (w : World) (h : okL b 0 r = true) (n0 : 1 ≤ N) (n1 : N ≤ 360) (g : ¬ gr b r ≤ 10000000000000) :
    Calls Try.prog 16 #[.int .i64 b, .int .i64 r, .int .i64 (N : Int)] w fun e w' => e = .returned (.tuple #[.int .i64 0, .int .i64 14]) ∧ Below w.heap.size w w' := by
  have HB := Lib.hid (below_three w (.cells #[.int .i64 b] 2) (.cells #[.int .i64 r] 3) (.cells #[.int .i64 (N : Int)] 3))
  have K1 := Lib.hid (fun W => good_is b 0 r true W h)
  have K2 := Lib.hid (fun W => grown_over b r W h g)
  have t1 : decide ((N : Int) < 1) = false := decide_eq_false (by omega)
  have t2 : decide (360 < (N : Int)) = false := decide_eq_false (by omega)
  clear h g
  go_enter Try.func16, Try.ntmps16
  go_wp2_with fail
  refine (K1.out _).mono ?_
  rintro e w' ⟨rfl, rfl⟩
  go_wp2_with fail
  refine (K2.out _).mono ?_
  rintro e w1 ⟨rfl, hb⟩
  have HB1 := Lib.hid hb
  clear hb
  go_wp2_with fail
  go_ret2
  exact ⟨rfl, below_via HB.out HB1.out⟩
theorem c_of_yes (b r : Int) (N : Nat) (w : World) (h : okL b 0 r = true) (n0 : 1 ≤ N) (n1 : N ≤ 360) (g : gr b r ≤ 10000000000000) :
    Calls Try.prog 16 #[.int .i64 b, .int .i64 r, .int .i64 (N : Int)] w fun e w' => e = .returned (.tuple #[.int .i64 (ofQ b r N), .int .i64 0]) ∧ Below w.heap.size w w' := by
  have hmf : ∀ (fn : Fn) (first cap : Array Value) (w : World), (Instr.makeFunc fn first cap).run Try.prog w = .ok (.func fn first cap) w := fun _ _ _ _ => rfl
  obtain ⟨b0, b1, -, -, r0, r1⟩ := okL_iff.1 h
  obtain ⟨M, rfl⟩ : ∃ M, N = M + 1 := ⟨N - 1, by omega⟩
  obtain ⟨G, hG⟩ : ∃ G : Nat, gr b r = G := ⟨(gr b r).toNat, by have := gr_ge b0 r0; omega⟩
  obtain ⟨q, hq⟩ : ∃ q : Nat, ofQ b r (M + 1) = q := ⟨(ofQ b r (M + 1)).toNat, by have := of_ge b r (M + 1); omega⟩
  have q1 : q ≤ G := by have := of_le (M + 1) b0 r0; omega
  have HP : Hid (∀ p : Nat, p < G → okL b p r = true ∧ pays b p r (M + 1) = decide (q ≤ p)) := fun p hp => ⟨okL_iff.2 ⟨b0, b1, by omega, by omega, r0, r1⟩, by
    rw [of_pays M b0 r0 g (by omega), hq]; exact decide_eq_decide.2 (by omega)⟩
  have HB := Lib.hid (below_three w (.cells #[.int .i64 b] 2) (.cells #[.int .i64 r] 3) (.cells #[.int .i64 ((M + 1 : Nat) : Int)] 3))
  have K1 := Lib.hid (fun W => good_is b 0 r true W h)
  have K2 := Lib.hid (fun W => grown_in b r G W h hG (by omega))
  have G1 : (G : Int) ≤ 10000000000000 := by omega
  rw [hq]
  clear h g hG hq b0 b1 r0 r1
  generalize hN : M + 1 = N at *
  clear hN
  have t1 : decide ((N : Int) < 1) = false := decide_eq_false (by omega)
  have t2 : decide (360 < (N : Int)) = false := decide_eq_false (by omega)
  go_enter Try.func16, Try.ntmps16
  go_wp2_with fail
  refine (K1.out _).mono ?_
  rintro e w' ⟨rfl, rfl⟩
  go_wp2_with fail
  refine (K2.out _).mono ?_
  rintro e w1 ⟨rfl, hb⟩
  have HB1 : Hid (Below w.heap.size w w1) := show Below _ _ _ from below_via HB.out hb
  have HC : Hid (w.heap.size + 2 < w1.heap.size ∧ w1.cell? ⟨w.heap.size, 0, none⟩ = some (.int .i64 b) ∧ w1.cell? ⟨w.heap.size + 1, 0, none⟩ = some (.int .i64 r) ∧ w1.cell? ⟨w.heap.size + 2, 0, none⟩ = some (.int .i64 (N : Int))) :=
    ⟨Nat.lt_of_lt_of_le (by simp) hb.size, (hb.cell (p := ⟨w.heap.size, 0, none⟩) (by simp <;> omega)).trans (by simp [go_sem]), (hb.cell (p := ⟨w.heap.size + 1, 0, none⟩) (by simp <;> omega)).trans (by simp [go_sem]), (hb.cell (p := ⟨w.heap.size + 2, 0, none⟩) (by simp <;> omega)).trans (by simp [go_sem])⟩
  clear hb
  go_wp2_with fail
  refine (search_any 28 _ q G _ of_enters q1 (by omega) (fun W hW p hp => ?_)).mono ?_
  · have k := of_fn b r N p w.heap.size (w.heap.size + 1) (w.heap.size + 2) W (HP.out p hp).1 n1
      ((hW.cell (p := ⟨w.heap.size, 0, none⟩) (by have := HC.out.1; show w.heap.size < _; omega)).trans HC.out.2.1)
      ((hW.cell (p := ⟨w.heap.size + 1, 0, none⟩) (by have := HC.out.1; show w.heap.size + 1 < _; omega)).trans HC.out.2.2.1)
      ((hW.cell (p := ⟨w.heap.size + 2, 0, none⟩) (by have := HC.out.1; show w.heap.size + 2 < _; omega)).trans HC.out.2.2.2)
    rw [(HP.out p hp).2] at k
    exact k
  rintro e w2 ⟨rfl, hb⟩
  have HB2 := Lib.hid hb
  clear hb
  go_wp2_with fail
  go_ret2
  exact ⟨rfl, HB1.out.trans (HB2.out.mono HB1.out.size)⟩

/-! The calls, whatever they are given. -/
theorem c_of (b r n : Int) (w : World) : Calls Try.prog 16 #[.int .i64 b, .int .i64 r, .int .i64 n] w fun e w' => e = .returned (.tuple #[.int .i64 (oV b r n), .int .i64 (oE b r n)]) ∧ Below w.heap.size w w' := by
  cases h : okOf b r n with
  | false =>
    rw [(oV_no h).1, (oV_no h).2]
    refine c_of_no b r n w (okL b 0 r) (!decide (n < 1)) (!decide (360 < n)) ?_ (Lib.hid rfl) (Bool.not_not _).symm (Bool.not_not _).symm
    rw [Bool.eq_false_iff]
    intro k
    simp only [Bool.and_eq_true, Bool.not_eq_true', decide_eq_false_iff_not] at k
    have : okOf b r n = true := okOf_iff.2 ⟨k.1.1, by omega, by omega⟩
    rw [h] at this; cases this
  | true =>
    obtain ⟨h1, h2, h3⟩ := okOf_iff.1 h
    obtain ⟨N, rfl⟩ : ∃ N : Nat, n = N := ⟨n.toNat, by omega⟩
    by_cases g : gr b r ≤ 10000000000000
    · rw [(oV_yes h g).1, (oV_yes h g).2, Int.toNat_natCast]
      exact c_of_yes b r N w h1 (by omega) (by omega) g
    · rw [(oV_over h g).1, (oV_over h g).2]
      exact c_of_over b r N w h1 (by omega) (by omega) g
end Go.Proofs.Ytkeghiljolojlaa.Level
