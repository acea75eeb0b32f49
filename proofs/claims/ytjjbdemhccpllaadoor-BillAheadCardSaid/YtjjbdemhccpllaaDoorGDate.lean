/- The program's own package date: Long, Days, Good, at every input, where its months' lengths lie as listed. The program's own package date: Of, Civil, at every input, where its months' lengths lie as listed. The program's own package date: Month, First, Add, Week, at every input, where its months' lengths lie as listed. -/
import Derived.Test.YtjjbdemhccpllaaDoorGCal
import Derived.Test.YtjjbdemhccpllaaDoorGA
namespace Go.Proofs.YtjjbdemhccpllaaDoor.Date
open Go.ChangeShapes Go.WideShapes Go.ChangeAt Go.RowKit Cal

/-- The lengths of the months of a year that is not long. -/
def lens : List Int := [31, 28, 31, 30, 31, 30, 31, 31, 30, 31, 30, 31]
/-- The program's list of them lies as its text lays it. -/
def Laid (w : World) : Prop := 0 < w.heap.size ∧ ∀ i, i < 12 → w.cell? ⟨0, i, none⟩ = some (.int .i64 (lens.getD i 0))
theorem Laid.of {w w' : World} (h : Laid w) (hb : Below w.heap.size w w') : Laid w' := by
  refine ⟨Nat.lt_of_lt_of_le h.1 hb.size, fun i hi => ?_⟩
  rw [hb.cell (p := ⟨0, i, none⟩) h.1]
  exact h.2 i hi
theorem Laid.drewN {w : World} (h : Laid w) (n : Nat) : Laid (w.drewN n) := h.of (below_drewN (Below.refl _ _) n)
theorem Laid.alloc {w : World} (h : Laid w) (o : Obj) : Laid (w.alloc o) := h.of (below_new (Below.refl _ _) o)
theorem laid_of {laid : List (String × DataW Unit)} {w : World} (h : laidMet Tryd.prog laid w) (hm : ("annuity/date.lengths", Lib.tabData .i64 lens) ∈ laid) : Laid w := by
  have hT := Door.tab_of_mem (g := 0) (t := 78) (e := 3) (n := 12) (by kernel_rfl) (by kernel_rfl) Tryd.underlying78 Tryd.underlying3 (by kernel_rfl) (by kernel_rfl) h hm
  have hc := hT.cell (g := 0) (by kernel_rfl)
  refine ⟨?_, fun i hi => hc i hi⟩
  have h0 := hc 0 (by decide)
  exact World.block_lt_of_cell? _ _ h0
theorem p_long (y : Int) (w : World) : Calls Tryd.prog 51 #[.int .i64 y] w fun e w' => e = .returned (.bool (longB y)) ∧ w = w' := by
  have H := Lib.hid (long_tmod y)
  by_cases h4 : y.tmod 4 = 0 <;> by_cases h1 : y.tmod 100 = 0 <;> by_cases h0 : y.tmod 400 = 0 <;>
  · go_enter Tryd.func51, Tryd.ntmps51
    go_wp2
    go_ret
    exact ⟨ret_bool (by rw [H.out]; simp [h4, h1, h0]), rfl⟩
theorem p_good (n : Int) (w : World) : Calls Tryd.prog 35 #[.int .i64 n] w fun e w' => e = .returned (.bool (dayB n)) ∧ w = w' := by
  by_cases h1 : 0 ≤ n
  · by_cases h2 : n ≤ 87658
    · have H : Hid (dayB n = true) := decide_eq_true ⟨h1, h2⟩
      go_enter Tryd.func35, Tryd.ntmps35
      go_wp2
      go_ret
      exact ⟨ret_bool H.out.symm, rfl⟩
    · have H : Hid (dayB n = false) := decide_eq_false (by omega)
      go_enter Tryd.func35, Tryd.ntmps35
      go_wp2
      go_ret
      exact ⟨ret_bool H.out.symm, rfl⟩
  · have H : Hid (dayB n = false) := decide_eq_false (by omega)
    go_enter Tryd.func35, Tryd.ntmps35
    go_wp2
    go_ret
    exact ⟨ret_bool H.out.symm, rfl⟩
/-- The long years ahead of one. -/
theorem d_ahead (k : Nat) (h : k ≤ 3000) (w : World) : Calls Tryd.prog 52 #[.int .i64 ((k : Int) + 1)] w fun e w' => e = .returned (.int .i64 (leaps k : Nat)) ∧ w = w' := by
  have q1 : (k : Int).tdiv 4 = ((k / 4 : Nat) : Int) := rfl
  have q2 : (k : Int).tdiv 100 = ((k / 100 : Nat) : Int) := rfl
  have q3 : (k : Int).tdiv 400 = ((k / 400 : Nat) : Int) := rfl
  have H : Hid ((leaps k : Nat) = ((k / 4 : Nat) : Int) - ((k / 100 : Nat) : Int) + ((k / 400 : Nat) : Int)) := show _ = _ by unfold leaps; omega
  have b1 : k / 4 ≤ 750 := by omega
  have b2 : k / 100 ≤ 30 := by omega
  have b3 : k / 400 ≤ 8 := by omega
  have W : wrap64 ((k : Int) + 1 - 1) = k := by unfold wrap64; omega
  generalize k / 4 = a at *
  generalize k / 100 = b at *
  generalize k / 400 = c at *
  go_enter Tryd.func52, Tryd.ntmps52
  go_wp2
  go_ret
  exact ⟨ret_int H.out.symm, rfl⟩
theorem d_begin (k : Nat) (h : k ≤ 240) (w : World) : Calls Tryd.prog 49 #[.int .i64 (1960 + (k : Int))] w fun e w' => e = .returned (.int .i64 (st (12 * k) : Nat)) ∧ w = w' := by
  have H := Lib.hid (st_year k)
  have E : leaps 1959 = 474 := by decide
  have B : leaps (1959 + k) ≤ 600 := by unfold leaps; omega
  have A := d_ahead (1959 + k) (by omega)
  rw [show ((1959 + k : Nat) : Int) + 1 = 1960 + (k : Int) by omega] at A
  have A2 := d_ahead 1959 (by omega)
  rw [E] at A2 H
  rw [show ((1959 : Nat) : Int) + 1 = 1960 from rfl] at A2
  clear E
  go_enter Tryd.func49, Tryd.ntmps49
  go_wp2_with fail
  refine (A _).mono ?_
  rintro e w1 ⟨rfl, rfl⟩
  go_wp2_with fail
  refine (A2 _).mono ?_
  rintro e w1 ⟨rfl, rfl⟩
  go_wp2_with fail
  go_ret
  exact ⟨ret_int (by have := H.out; omega), rfl⟩
theorem days_lens (y : Int) (j : Nat) (hj : j < 12) (h : j = 1 → longB y = false) : daysI y ((j : Int) + 1) = lens.getD j 0 := by
  match j, hj with
  | 0, _ | 2, _ | 3, _ | 4, _ | 5, _ | 6, _ | 7, _ | 8, _ | 9, _ | 10, _ | 11, _ => rfl
  | 1, _ => show (if longB y = true then _ else _) = _; rw [h rfl]; rfl
theorem p_days (y m : Int) (w : World) (L : Laid w) : Calls Tryd.prog 48 #[.int .i64 y, .int .i64 m] w fun e w' => e = .returned (.int .i64 (daysI y m)) ∧ w = w' := by
  by_cases h1 : m < 1
  · have H := Lib.hid (days_none (y := y) (m := m) (Or.inl h1))
    have t1 := decide_eq_true h1
    clear L
    go_enter Tryd.func48, Tryd.ntmps48
    go_wp2_with fail
    go_ret
    exact ⟨ret_int H.out.symm, rfl⟩
  by_cases h2 : 12 < m
  · have H := Lib.hid (days_none (y := y) (m := m) (Or.inr h2))
    have t1 := decide_eq_false h1
    have t2 := decide_eq_true h2
    clear L
    go_enter Tryd.func48, Tryd.ntmps48
    go_wp2_with fail
    go_ret
    exact ⟨ret_int H.out.symm, rfl⟩
  obtain ⟨j, hj⟩ := Int.eq_ofNat_of_zero_le (show 0 ≤ m - 1 by omega)
  obtain rfl : m = (j : Int) + 1 := by omega
  have hj2 : j < 12 := by omega
  have C := L.2 j hj2
  clear hj h1 h2 L
  by_cases h3 : j = 1
  · subst h3
    have C' : w.cell? ⟨0, 1, none⟩ = some (.int .i64 28) := C
    clear C
    cases hl : longB y with
    | true =>
      have H : Hid (daysI y 2 = 29) := show daysI y 2 = 29 by unfold daysI; rw [hl]; rfl
      show Calls _ _ #[.int .i64 y, .int .i64 2] _ _
      go_enter Tryd.func48, Tryd.ntmps48
      go_wp2_with (go_at_call 51; refine (p_long _ _).mono ?_; rintro e w' ⟨rfl, rfl⟩)
      go_ret
      exact ⟨ret_int H.out.symm, rfl⟩
    | false =>
      have H : Hid (daysI y 2 = 28) := show daysI y 2 = 28 by unfold daysI; rw [hl]; rfl
      show Calls _ _ #[.int .i64 y, .int .i64 2] _ _
      go_enter Tryd.func48, Tryd.ntmps48
      go_wp2_with (go_at_call 51; refine (p_long _ _).mono ?_; rintro e w' ⟨rfl, rfl⟩)
      go_ret
      exact ⟨ret_int H.out.symm, rfl⟩
  · have H := Lib.hid (days_lens y j hj2 (fun h => absurd h h3))
    have t3 : ((j : Int) + 1 == 2) = false := by rw [beq_eq_false_iff_ne]; omega
    generalize lens.getD j 0 = v at *
    clear h3
    go_enter Tryd.func48, Tryd.ntmps48
    go_wp2_with fail
    go_ret
    exact ⟨ret_int H.out.symm, rfl⟩
end Go.Proofs.YtjjbdemhccpllaaDoor.Date
namespace Go.Proofs.YtjjbdemhccpllaaDoor.Date
open Go.ChangeShapes Go.WideShapes Go.ChangeAt Go.RowKit Cal

theorem lenK (k i : Nat) (h : i < 12) : daysI (1960 + (k : Int)) ((i : Int) + 1) = (lenM (12 * k + i) : Nat) := by
  have := lenM_eq (12 * k + i)
  rw [show (12 * k + i) / 12 = k by omega, show (12 * k + i) % 12 = i by omega] at this
  rw [← this, Int.add_comm 1]
theorem st_le366 (k : Nat) : st (12 * k) ≤ 366 * k := by
  induction k with
  | zero => simp [st]
  | succ k ih =>
    rw [st_year_succ]
    split <;> omega
theorem p_of_ok (k j : Nat) (d : Int) (hk : k ≤ 239) (hj : j < 12) (hd : 1 ≤ d) (hd2 : d ≤ (lenM (12 * k + j) : Nat)) (w : World) (L : Laid w) :
    Calls Tryd.prog 44 #[.int .i64 (1960 + (k : Int)), .int .i64 ((j : Int) + 1), .int .i64 d] w fun e w' => e = .returned (.tuple #[.int .i64 ((st (12 * k + j) : Nat) + d - 1), .int .i64 0]) ∧ w = w' := by
  have D := lenK k j hj
  have hl := (lenM_range (12 * k + j)).2
  have s0 := st_mono (show 12 * k ≤ 2880 by omega)
  rw [st_all] at s0
  have t0 : decide (1960 + (k : Int) < 1960) = false := decide_eq_false (by omega)
  have t1 : decide (2199 < 1960 + (k : Int)) = false := decide_eq_false (by omega)
  have t2 := decide_eq_false (show ¬ d < 1 by omega)
  have t3 := decide_eq_false (show ¬ ((lenM (12 * k + j) : Nat) : Int) < d by omega)
  have d31 : d ≤ 31 := by omega
  have HL := Lib.hid L
  have HK := Lib.hid (And.intro hk hj)
  clear L hl
  go_enter Tryd.func44, Tryd.ntmps44
  go_wp2_with fail
  refine (p_days _ _ _ HL.out).mono ?_
  rw [D]
  rintro e w1 ⟨rfl, rfl⟩
  clear D
  generalize lenM (12 * k + j) = l0 at *
  go_wp2_with fail
  refine (d_begin k (Nat.le_succ_of_le HK.out.1) _).mono ?_
  rintro e w1 ⟨rfl, rfl⟩
  go_wp2_with fail
  clear t0 t1 t2 t3 s0 hk
  go_loop [8, 9] (fun n i => ∃ q : Nat, q ≤ j ∧ i = .int .i64 ((q : Int) + 1) ∧ n = .int .i64 ((st (12 * k + q) : Nat) + d - 1)) (fun _ i => j + 1 - (intOf i).toNat)
  case atStart => exact ⟨0, Nat.zero_le _, rfl, by simp⟩
  case round =>
    obtain ⟨q, q1, rfl, rfl⟩ := hrel
    have b1 := st_mono (show 12 * k + q ≤ 2880 by have := HK.out; omega)
    rw [st_all] at b1
    by_cases hlt : q < j
    · have W := Lib.hid (lenK k q (by have := HK.out.2; omega))
      have HT := Lib.hid (st_succ (12 * k + q))
      have b2 := (lenM_range (12 * k + q)).2
      have HLT := Lib.hid hlt
      have t4 : decide ((q : Int) + 1 < (j : Int) + 1) = true := decide_eq_true (by omega)
      have b3 : q ≤ 12 := by have := HK.out; omega
      clear q1 hlt
      generalize st (12 * k + q) = s at *
      generalize lenM (12 * k + q) = l at *
      go_wp2_with fail
      refine (p_days _ _ _ HL.out).mono ?_
      rw [W.out]
      rintro e w1 ⟨rfl, rfl⟩
      go_wp2_with fail
      go_round
      case rel => exact ⟨q + 1, HLT.out, rfl, by rw [show 12 * k + (q + 1) = 12 * k + q + 1 from rfl, HT.out]; congr 1; omega⟩
      case measure => simp [intOf]; have := HLT.out; omega
    · obtain rfl : q = j := by omega
      have t4 : decide ((q : Int) + 1 < (q : Int) + 1) = false := decide_eq_false (by omega)
      clear q1 hlt
      go_wp2_with fail
      go_ret2
      exact ⟨rfl, rfl⟩
theorem d_of (y m d : Int) (w : World) (L : Laid w) : Calls Tryd.prog 44 #[.int .i64 y, .int .i64 m, .int .i64 d] w fun e w' => e = .returned (.tuple #[.int .i64 (ofV y m d), .int .i64 (ofE y m d)]) ∧ Below w.heap.size w w' := by
  by_cases c0 : y < 1960
  · have H := Lib.hid (of_none (y := y) (m := m) (d := d) (by omega))
    have t0 := decide_eq_true c0
    clear L
    go_enter Tryd.func44, Tryd.ntmps44
    go_wp2_with fail
    go_ret2
    exact ⟨ret_two H.out.1.symm H.out.2.symm, Below.refl _ _⟩
  by_cases c1 : 2199 < y
  · have H := Lib.hid (of_none (y := y) (m := m) (d := d) (by omega))
    have t1 := decide_eq_true c1
    have t0 := decide_eq_false c0
    clear L
    go_enter Tryd.func44, Tryd.ntmps44
    go_wp2_with fail
    go_ret2
    exact ⟨ret_two H.out.1.symm H.out.2.symm, Below.refl _ _⟩
  by_cases c2 : d < 1
  · have H := Lib.hid (of_none (y := y) (m := m) (d := d) (by omega))
    have t2 := decide_eq_true c2
    have t1 := decide_eq_false c1
    have t0 := decide_eq_false c0
    clear L
    go_enter Tryd.func44, Tryd.ntmps44
    go_wp2_with fail
    go_ret2
    exact ⟨ret_two H.out.1.symm H.out.2.symm, Below.refl _ _⟩
  by_cases c3 : daysI y m < d
  · have H := Lib.hid (of_none (y := y) (m := m) (d := d) (by omega))
    have t3 := decide_eq_true c3
    have t2 := decide_eq_false c2
    have t1 := decide_eq_false c1
    have t0 := decide_eq_false c0
    have HL := Lib.hid L
    clear L
    go_enter Tryd.func44, Tryd.ntmps44
    go_wp2_with fail
    refine (p_days _ _ _ HL.out).mono ?_
    rintro e w1 ⟨rfl, rfl⟩
    go_wp2_with fail
    go_ret2
    exact ⟨ret_two H.out.1.symm H.out.2.symm, Below.refl _ _⟩
  have hm : 1 ≤ m ∧ m ≤ 12 := by
    by_cases h : m < 1 ∨ 12 < m
    · have := days_none (y := y) h
      omega
    · omega
  obtain ⟨k, hk⟩ := Int.eq_ofNat_of_zero_le (show 0 ≤ y - 1960 by omega)
  obtain ⟨j, hj⟩ := Int.eq_ofNat_of_zero_le (show 0 ≤ m - 1 by omega)
  obtain rfl : y = 1960 + (k : Int) := by omega
  obtain rfl : m = (j : Int) + 1 := by omega
  obtain ⟨h1, h2⟩ := of_some (y := 1960 + (k : Int)) (m := (j : Int) + 1) (d := d) (by omega)
  rw [lenK k j (by omega)] at c3
  refine (p_of_ok k j d (by omega) (by omega) (by omega) (by omega) w L).mono ?_
  rintro e w' ⟨rfl, rfl⟩
  rw [show (12 * (1960 + (k : Int) - 1960) + ((j : Int) + 1) - 1).toNat = 12 * k + j by omega] at h1
  exact ⟨ret_two h1.symm h2.symm, Below.refl _ _⟩

/-! The year of a day. -/
theorem mo_year (n : Nat) (h : n ≤ 87658) : mo n / 12 ≤ 239 ∧ st (12 * (mo n / 12)) ≤ n ∧ n < st (12 * (mo n / 12 + 1)) ∧ n / 366 ≤ mo n / 12 := by
  have h1 := mo_in n
  have h2 := mo_lt h
  have h3 := st_mono (show 12 * (mo n / 12) ≤ mo n by omega)
  have h4 := st_mono (show mo n + 1 ≤ 12 * (mo n / 12 + 1) by omega)
  have h5 := st_le366 (mo n / 12 + 1)
  omega
end Go.Proofs.YtjjbdemhccpllaaDoor.Date
namespace Go.Proofs.YtjjbdemhccpllaaDoor.Date
open Go.ChangeShapes Go.WideShapes Go.ChangeAt Go.RowKit Cal

theorem p_named (T : Nat) (h : T ≤ 2879) (w : World) : Calls Tryd.prog 43 #[.int .i64 (T : Int)] w fun e w' => e = .returned (.tuple #[.int .i64 (1960 + ((T / 12 : Nat) : Int)), .int .i64 (((T % 12 : Nat) : Int) + 1)]) ∧ w = w' := by
  have q1 : (T : Int).tdiv 12 = ((T / 12 : Nat) : Int) := rfl
  have q2 : (T : Int).tmod 12 = ((T % 12 : Nat) : Int) := rfl
  have b1 : T / 12 ≤ 239 := by omega
  have b2 : T % 12 ≤ 11 := by omega
  have H := Lib.hid h
  clear h
  generalize T / 12 = a at *
  generalize T % 12 = b at *
  go_enter Tryd.func43, Tryd.ntmps43
  go_wp2_with fail
  go_ret2
  exact ⟨rfl, rfl⟩
theorem p_of_at (T : Nat) (hT : T ≤ 2879) (d : Int) (hd : 1 ≤ d) (hd2 : d ≤ (lenM T : Nat)) (w : World) (L : Laid w) :
    Calls Tryd.prog 44 #[.int .i64 (1960 + ((T / 12 : Nat) : Int)), .int .i64 (((T % 12 : Nat) : Int) + 1), .int .i64 d] w fun e w' => e = .returned (.tuple #[.int .i64 ((st T : Nat) + d - 1), .int .i64 0]) ∧ w = w' := by
  have h := p_of_ok (T / 12) (T % 12) d (by omega) (by omega) hd (by rw [show 12 * (T / 12) + T % 12 = T by omega]; exact hd2) w L
  rw [show 12 * (T / 12) + T % 12 = T by omega] at h
  exact h
theorem p_days_at (T : Nat) (w : World) (L : Laid w) : Calls Tryd.prog 48 #[.int .i64 (1960 + ((T / 12 : Nat) : Int)), .int .i64 (((T % 12 : Nat) : Int) + 1)] w fun e w' => e = .returned (.int .i64 (lenM T : Nat)) ∧ w = w' := by
  have h := p_days (1960 + ((T / 12 : Nat) : Int)) (((T % 12 : Nat) : Int) + 1) w L
  rw [lenK _ _ (by omega), show 12 * (T / 12) + T % 12 = T by omega] at h
  exact h

theorem d_first (m : Int) (w : World) (L : Laid w) : Calls Tryd.prog 36 #[.int .i64 m] w fun e w' => e = .returned (.tuple #[.int .i64 (firV m), .int .i64 (firE m)]) ∧ Below w.heap.size w w' := by
  by_cases h0 : m < 0
  · have H : Hid (firV m = 0 ∧ firE m = 15) := show _ ∧ _ by unfold firV firE; rw [if_neg (by omega), if_neg (by omega)]; exact ⟨rfl, rfl⟩
    clear L
    go_enter Tryd.func36, Tryd.ntmps36
    go_wp2_with fail
    go_ret2
    exact ⟨ret_two H.out.1.symm H.out.2.symm, Below.refl _ _⟩
  · by_cases h1 : 2879 < m
    · have H : Hid (firV m = 0 ∧ firE m = 15) := show _ ∧ _ by unfold firV firE; rw [if_neg (by omega), if_neg (by omega)]; exact ⟨rfl, rfl⟩
      clear L
      go_enter Tryd.func36, Tryd.ntmps36
      go_wp2_with fail
      go_ret2
      exact ⟨ret_two H.out.1.symm H.out.2.symm, Below.refl _ _⟩
    · obtain ⟨k, rfl⟩ := Int.eq_ofNat_of_zero_le (show 0 ≤ m by omega)
      have H : Hid (firV (k : Int) = (st k : Nat) ∧ firE (k : Int) = 0) := show _ ∧ _ by unfold firV firE; rw [if_pos (by omega), if_pos (by omega)]; exact ⟨rfl, rfl⟩
      have hk := Lib.hid (show k ≤ 2879 by omega)
      have A := p_of_at k hk.out 1 (by omega) (by have := lenM_range k; omega)
      have N := p_named k hk.out
      have HL := Lib.hid L
      clear L
      generalize st k = s at *
      go_enter Tryd.func36, Tryd.ntmps36
      go_wp2_with fail
      refine (N _).mono ?_
      rintro e w1 ⟨rfl, rfl⟩
      go_wp2_with fail
      refine (A _ HL.out).mono ?_
      rintro e w1 ⟨rfl, rfl⟩
      go_wp2_with fail
      go_ret2
      exact ⟨ret_two H.out.1.symm H.out.2.symm, Below.refl _ _⟩

/-! As the laws ask them. -/
theorem d_long (y : Int) (w : World) (_ : Laid w) : Calls Tryd.prog 51 #[.int .i64 y] w fun e w' => e = .returned (.bool (longB y)) ∧ Below w.heap.size w w' :=
  (p_long y w).mono fun _ _ ⟨h1, h2⟩ => ⟨h1, h2 ▸ Below.refl _ _⟩
theorem d_days (y m : Int) (w : World) (L : Laid w) : Calls Tryd.prog 48 #[.int .i64 y, .int .i64 m] w fun e w' => e = .returned (.int .i64 (daysI y m)) ∧ Below w.heap.size w w' :=
  (p_days y m w L).mono fun _ _ ⟨h1, h2⟩ => ⟨h1, h2 ▸ Below.refl _ _⟩
theorem d_good (n : Int) (w : World) (_ : Laid w) : Calls Tryd.prog 35 #[.int .i64 n] w fun e w' => e = .returned (.bool (dayB n)) ∧ Below w.heap.size w w' :=
  (p_good n w).mono fun _ _ ⟨h1, h2⟩ => ⟨h1, h2 ▸ Below.refl _ _⟩
end Go.Proofs.YtjjbdemhccpllaaDoor.Date
