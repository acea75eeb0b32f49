/- The program's own package date: Of, Civil, at every input, where its months' lengths lie as listed. -/
import Derived.Test.YthmmlgfechkohaaDoorDate
namespace Go.Proofs.YthmmlgfechkohaaDoor.Date
open Go.ChangeShapes Go.WideShapes Go.ChangeAt Go.RowKit Cal

theorem lenK (k i : Nat) (h : i < 12) : daysI (1960 + (k : Int)) ((i : Int) + 1) = (lenM (12 * k + i) : Nat) := by
  have := lenM_eq (12 * k + i)
  rw [show (12 * k + i) / 12 = k by omega, show (12 * k + i) % 12 = i by omega] at this
  rw [← this, Int.add_comm 1]
theorem st_le366 (k : Nat) : st (12 * k) ≤ 366 * k := by
  induction k with
  | zero => simp [st]
  | succ k ih =>
    rw [st_year_succ]
    split <;> omega
theorem p_of_ok (k j : Nat) (d : Int) (hk : k ≤ 239) (hj : j < 12) (hd : 1 ≤ d) (hd2 : d ≤ (lenM (12 * k + j) : Nat)) (w : World) (L : Laid w) :
    Calls Tryd.prog 36 #[.int .i64 (1960 + (k : Int)), .int .i64 ((j : Int) + 1), .int .i64 d] w fun e w' => e = .returned (.tuple #[.int .i64 ((st (12 * k + j) : Nat) + d - 1), .int .i64 0]) ∧ w = w' := by
  have D := lenK k j hj
  have hl := (lenM_range (12 * k + j)).2
  have s0 := st_mono (show 12 * k ≤ 2880 by omega)
  rw [st_all] at s0
  have t0 : decide (1960 + (k : Int) < 1960) = false := decide_eq_false (by omega)
  have t1 : decide (2199 < 1960 + (k : Int)) = false := decide_eq_false (by omega)
  have t2 := decide_eq_false (show ¬ d < 1 by omega)
  have t3 := decide_eq_false (show ¬ ((lenM (12 * k + j) : Nat) : Int) < d by omega)
  have d31 : d ≤ 31 := by omega
  have HL := Lib.hid L
  have HK := Lib.hid (And.intro hk hj)
  clear L hl
  go_enter Tryd.func36, Tryd.ntmps36
  go_wp2_with fail
  refine (p_days _ _ _ HL.out).mono ?_
  rw [D]
  rintro e w1 ⟨rfl, rfl⟩
  clear D
  generalize lenM (12 * k + j) = l0 at *
  go_wp2_with fail
  refine (d_begin k (Nat.le_succ_of_le HK.out.1) _).mono ?_
  rintro e w1 ⟨rfl, rfl⟩
  go_wp2_with fail
  clear t0 t1 t2 t3 s0 hk
  go_loop [8, 9] (fun n i => ∃ q : Nat, q ≤ j ∧ i = .int .i64 ((q : Int) + 1) ∧ n = .int .i64 ((st (12 * k + q) : Nat) + d - 1)) (fun _ i => j + 1 - (intOf i).toNat)
  case atStart => exact ⟨0, Nat.zero_le _, rfl, by simp⟩
  case round =>
    obtain ⟨q, q1, rfl, rfl⟩ := hrel
    have b1 := st_mono (show 12 * k + q ≤ 2880 by have := HK.out; omega)
    rw [st_all] at b1
    by_cases hlt : q < j
    · have W := Lib.hid (lenK k q (by have := HK.out.2; omega))
      have HT := Lib.hid (st_succ (12 * k + q))
      have b2 := (lenM_range (12 * k + q)).2
      have HLT := Lib.hid hlt
      have t4 : decide ((q : Int) + 1 < (j : Int) + 1) = true := decide_eq_true (by omega)
      have b3 : q ≤ 12 := by have := HK.out; omega
      clear q1 hlt
      generalize st (12 * k + q) = s at *
      generalize lenM (12 * k + q) = l at *
      go_wp2_with fail
      refine (p_days _ _ _ HL.out).mono ?_
      rw [W.out]
      rintro e w1 ⟨rfl, rfl⟩
      go_wp2_with fail
      go_round
      case rel => exact ⟨q + 1, HLT.out, rfl, by rw [show 12 * k + (q + 1) = 12 * k + q + 1 from rfl, HT.out]; congr 1; omega⟩
      case measure => simp [intOf]; have := HLT.out; omega
    · obtain rfl : q = j := by omega
      have t4 : decide ((q : Int) + 1 < (q : Int) + 1) = false := decide_eq_false (by omega)
      clear q1 hlt
      go_wp2_with fail
      go_ret2
      exact ⟨rfl, rfl⟩
theorem d_of (y m d : Int) (w : World) (L : Laid w) : Calls Tryd.prog 36 #[.int .i64 y, .int .i64 m, .int .i64 d] w fun e w' => e = .returned (.tuple #[.int .i64 (ofV y m d), .int .i64 (ofE y m d)]) ∧ Below w.heap.size w w' := by
  by_cases c0 : y < 1960
  · have H := Lib.hid (of_none (y := y) (m := m) (d := d) (by omega))
    have t0 := decide_eq_true c0
    clear L
    go_enter Tryd.func36, Tryd.ntmps36
    go_wp2_with fail
    go_ret2
    exact ⟨ret_two H.out.1.symm H.out.2.symm, Below.refl _ _⟩
  by_cases c1 : 2199 < y
  · have H := Lib.hid (of_none (y := y) (m := m) (d := d) (by omega))
    have t1 := decide_eq_true c1
    have t0 := decide_eq_false c0
    clear L
    go_enter Tryd.func36, Tryd.ntmps36
    go_wp2_with fail
    go_ret2
    exact ⟨ret_two H.out.1.symm H.out.2.symm, Below.refl _ _⟩
  by_cases c2 : d < 1
  · have H := Lib.hid (of_none (y := y) (m := m) (d := d) (by omega))
    have t2 := decide_eq_true c2
    have t1 := decide_eq_false c1
    have t0 := decide_eq_false c0
    clear L
    go_enter Tryd.func36, Tryd.ntmps36
    go_wp2_with fail
    go_ret2
    exact ⟨ret_two H.out.1.symm H.out.2.symm, Below.refl _ _⟩
  by_cases c3 : daysI y m < d
  · have H := Lib.hid (of_none (y := y) (m := m) (d := d) (by omega))
    have t3 := decide_eq_true c3
    have t2 := decide_eq_false c2
    have t1 := decide_eq_false c1
    have t0 := decide_eq_false c0
    have HL := Lib.hid L
    clear L
    go_enter Tryd.func36, Tryd.ntmps36
    go_wp2_with fail
    refine (p_days _ _ _ HL.out).mono ?_
    rintro e w1 ⟨rfl, rfl⟩
    go_wp2_with fail
    go_ret2
    exact ⟨ret_two H.out.1.symm H.out.2.symm, Below.refl _ _⟩
  have hm : 1 ≤ m ∧ m ≤ 12 := by
    by_cases h : m < 1 ∨ 12 < m
    · have := days_none (y := y) h
      omega
    · omega
  obtain ⟨k, hk⟩ := Int.eq_ofNat_of_zero_le (show 0 ≤ y - 1960 by omega)
  obtain ⟨j, hj⟩ := Int.eq_ofNat_of_zero_le (show 0 ≤ m - 1 by omega)
  obtain rfl : y = 1960 + (k : Int) := by omega
  obtain rfl : m = (j : Int) + 1 := by omega
  obtain ⟨h1, h2⟩ := of_some (y := 1960 + (k : Int)) (m := (j : Int) + 1) (d := d) (by omega)
  rw [lenK k j (by omega)] at c3
  refine (p_of_ok k j d (by omega) (by omega) (by omega) (by omega) w L).mono ?_
  rintro e w' ⟨rfl, rfl⟩
  rw [show (12 * (1960 + (k : Int) - 1960) + ((j : Int) + 1) - 1).toNat = 12 * k + j by omega] at h1
  exact ⟨ret_two h1.symm h2.symm, Below.refl _ _⟩

/-! The year of a day. -/
theorem mo_year (n : Nat) (h : n ≤ 87658) : mo n / 12 ≤ 239 ∧ st (12 * (mo n / 12)) ≤ n ∧ n < st (12 * (mo n / 12 + 1)) ∧ n / 366 ≤ mo n / 12 := by
  have h1 := mo_in n
  have h2 := mo_lt h
  have h3 := st_mono (show 12 * (mo n / 12) ≤ mo n by omega)
  have h4 := st_mono (show mo n + 1 ≤ 12 * (mo n / 12 + 1) by omega)
  have h5 := st_le366 (mo n / 12 + 1)
  omega
theorem p_year (n : Nat) (h : n ≤ 87658) (w : World) : Calls Tryd.prog 39 #[.int .i64 (n : Int)] w fun e w' => e = .returned (.int .i64 (1960 + ((mo n / 12 : Nat) : Int))) ∧ w = w' := by
  have H := Lib.hid (mo_year n h)
  have q1 : (n : Int).tdiv 366 = ((n / 366 : Nat) : Int) := rfl
  have q2 : n / 366 ≤ 239 := by omega
  have HN := Lib.hid h
  obtain ⟨K, hK⟩ : ∃ K, K = mo n / 12 := ⟨_, rfl⟩
  rw [← hK] at H
  rw [← hK]
  clear h hK
  have H4 := Lib.hid H.out.2.2.2
  generalize n / 366 = a at *
  go_enter Tryd.func39, Tryd.ntmps39
  go_wp2_with fail
  clear q1 q2
  go_loop [3] (fun y => ∃ k : Nat, k ≤ K ∧ y = .int .i64 (1960 + (k : Int))) (fun y => 1960 + K - (intOf y).toNat)
  case atStart => exact ⟨a, H4.out, rfl⟩
  case round =>
    obtain ⟨k, k1, rfl⟩ := hrel
    have k2 : k ≤ 239 := Nat.le_trans k1 H.out.1
    have b1 := st_mono (show 12 * (k + 1) ≤ 2880 by omega)
    rw [st_all] at b1
    have HB := Lib.hid b1
    have A := d_begin (k + 1) (Nat.succ_le_succ k2)
    rw [show (1960 : Int) + ((k + 1 : Nat) : Int) = 1960 + (k : Int) + 1 by omega] at A
    by_cases hlt : k < K
    · have t1 : decide (st (12 * (k + 1)) ≤ n) = true := decide_eq_true (by have h3 := st_mono (show 12 * (k + 1) ≤ 12 * K by omega); have := H.out.2.1; omega)
      have HLT := Lib.hid hlt
      clear b1 hlt k1
      go_wp2_with fail
      refine (A _).mono ?_
      rintro e w1 ⟨rfl, rfl⟩
      generalize st (12 * (k + 1)) = s at *
      go_wp2_with fail
      go_round
      case rel => exact ⟨k + 1, HLT.out, rfl⟩
      case measure => simp [intOf]; have := HLT.out; omega
    · obtain rfl : k = K := by omega
      have t1 : decide (st (12 * (k + 1)) ≤ n) = false := decide_eq_false (by have := H.out.2.2.1; omega)
      clear b1 hlt k1
      go_wp2_with fail
      refine (A _).mono ?_
      rintro e w1 ⟨rfl, rfl⟩
      generalize st (12 * (k + 1)) = s at *
      go_wp2_with fail
      go_ret
      exact ⟨rfl, rfl⟩
theorem p_civil_ok (n : Nat) (h : n ≤ 87658) (w : World) (L : Laid w) : Calls Tryd.prog 32 #[.int .i64 (n : Int)] w fun e w' => e = .returned (.tuple #[.int .i64 (yr n), .int .i64 (mn n), .int .i64 (dy n), .int .i64 0]) ∧ w = w' := by
  obtain ⟨y1, y2, y3, -⟩ := mo_year n h
  have HG : Hid (dayB (n : Int) = true) := decide_eq_true (by omega)
  have HM := Lib.hid (mo_in n)
  obtain ⟨K, hK⟩ : ∃ K, K = mo n / 12 := ⟨_, rfl⟩
  obtain ⟨J, hJ⟩ : ∃ J, J = mo n % 12 := ⟨_, rfl⟩
  have hJ2 : J < 12 := by omega
  have hm : mo n = 12 * K + J := by omega
  have EY : Hid (yr n = 1960 + (K : Int)) := show _ = _ by unfold yr; omega
  have EM : Hid (mn n = (J : Int) + 1) := show _ = _ by unfold mn; omega
  have ED : Hid (dy n = (n : Int) - (st (mo n) : Nat) + 1) := show _ = _ from rfl
  have Y := p_year n h
  rw [← hK] at Y y1 y2 y3
  rw [hm] at HM ED
  have B := d_begin K (by omega)
  have y4 := st_mono (show 12 * K ≤ 12 * K + J by omega)
  have y5 := (lenM_range (12 * K + J)).2
  have HL := Lib.hid L
  have H1 := Lib.hid (And.intro y1 hJ2)
  have H3 := Lib.hid y3
  have H2 := Lib.hid h
  have b0 : st (12 * K) ≤ 87658 := by omega
  clear hK hJ hJ2 hm y1 y3 y4 y5 L
  go_enter Tryd.func32, Tryd.ntmps32
  go_wp2_with fail
  refine (p_good _ _).mono ?_
  rw [HG.out]
  rintro e w1 ⟨rfl, rfl⟩
  go_wp2_with fail
  refine (Y _).mono ?_
  rintro e w1 ⟨rfl, rfl⟩
  have k1 := H1.out.1
  go_wp2_with fail
  refine (B _).mono ?_
  rintro e w1 ⟨rfl, rfl⟩
  go_wp2_with fail
  clear k1 h
  go_loop [3, 4] (fun m d => ∃ i r : Nat, i ≤ J ∧ m = .int .i64 ((i : Int) + 1) ∧ d = .int .i64 ((r : Int) + 1) ∧ st (12 * K + i) + r = n) (fun m _ => J + 1 - (intOf m).toNat)
  case atStart => exact ⟨0, n - st (12 * K), Nat.zero_le _, rfl, by congr 1; omega, by rw [Nat.add_zero]; omega⟩
  case round =>
    obtain ⟨i, r, i1, rfl, rfl, hr⟩ := hrel
    have HR := Lib.hid hr
    have W := Lib.hid (lenK K i (by have := H1.out.2; omega))
    have b1 : r ≤ 87658 := by have := H2.out; omega
    have HB1 := Lib.hid b1
    have b2 : i ≤ 12 := by have := H1.out.2; omega
    have b3 := (lenM_range (12 * K + i)).2
    have k1 := H1.out.1
    by_cases hlt : i < J
    · have hle := st_mono (show 12 * K + i + 1 ≤ 12 * K + J by omega)
      rw [st_succ] at hle
      have b4 : lenM (12 * K + i) ≤ r := by have := HM.out.1; omega
      have t4 : decide (((lenM (12 * K + i) : Nat) : Int) < (r : Int) + 1) = true := decide_eq_true (by omega)
      have HLT := Lib.hid hlt
      have HS : Hid (st (12 * K + (i + 1)) + (r - lenM (12 * K + i)) = n) := show _ = _ by rw [show 12 * K + (i + 1) = 12 * K + i + 1 from rfl, st_succ]; omega
      clear hlt hle hr i1
      generalize lenM (12 * K + i) = l at *
      go_wp2_with fail
      refine (p_days _ _ _ HL.out).mono ?_
      rw [W.out]
      rintro e w1 ⟨rfl, rfl⟩
      go_wp2_with fail
      refine (p_days _ _ _ HL.out).mono ?_
      rw [W.out]
      rintro e w1 ⟨rfl, rfl⟩
      go_wp2_with fail
      go_round
      case rel => exact ⟨i + 1, r - l, HLT.out, rfl, by congr 1; omega, HS.out⟩
      case measure => simp [intOf]; have := HLT.out; omega
    · obtain rfl : i = J := by omega
      have t4 : decide (((lenM (12 * K + i) : Nat) : Int) < (r : Int) + 1) = false := decide_eq_false (by have := HM.out.2; rw [st_succ] at this; omega)
      have HE : Hid ((r : Int) + 1 = dy n) := show _ = _ by rw [ED.out]; omega
      clear hlt hr i1
      generalize lenM (12 * K + i) = l at *
      go_wp2_with fail
      refine (p_days _ _ _ HL.out).mono ?_
      rw [W.out]
      rintro e w1 ⟨rfl, rfl⟩
      go_wp2_with fail
      go_returns
      exact ⟨by rw [EY.out, EM.out, ← HE.out], rfl⟩
theorem p_civil_no (n : Int) (h : dayB n = false) (w : World) : Calls Tryd.prog 32 #[.int .i64 n] w fun e w' => e = .returned (.tuple #[.int .i64 0, .int .i64 0, .int .i64 0, .int .i64 15]) ∧ w = w' := by
  have H := Lib.hid h
  clear h
  go_enter Tryd.func32, Tryd.ntmps32
  go_wp2_with fail
  refine (p_good _ _).mono ?_
  rw [H.out]
  rintro e w1 ⟨rfl, rfl⟩
  go_wp2_with fail
  go_returns
  exact ⟨rfl, rfl⟩
theorem d_civil (n : Int) (w : World) (L : Laid w) : Calls Tryd.prog 32 #[.int .i64 n] w fun e w' => e = .returned (.tuple #[.int .i64 (cY n), .int .i64 (cM n), .int .i64 (cD n), .int .i64 (civE n)]) ∧ Below w.heap.size w w' := by
  cases hd : dayB n with
  | false =>
    refine (p_civil_no n hd w).mono ?_
    rintro e w' ⟨rfl, rfl⟩
    refine ⟨?_, Below.refl _ _⟩
    unfold cY cM cD civE
    rw [hd]; rfl
  | true =>
    have hn := of_decide_eq_true hd
    obtain ⟨x, rfl⟩ := Int.eq_ofNat_of_zero_le hn.1
    refine (p_civil_ok x (by omega) w L).mono ?_
    rintro e w' ⟨rfl, rfl⟩
    obtain ⟨-, h1, h2, h3, h4⟩ := civ_good x (by omega)
    exact ⟨by rw [h1, h2, h3, h4], Below.refl _ _⟩
end Go.Proofs.YthmmlgfechkohaaDoor.Date
