/- The program's own package date: Month, First, Add, Week, at every input, where its months' lengths lie as listed. -/
import Derived.Test.YthmmlgfechkohaaDoorDate2
namespace Go.Proofs.YthmmlgfechkohaaDoor.Date
open Go.ChangeShapes Go.WideShapes Go.ChangeAt Go.RowKit Cal

theorem p_number (n : Nat) (h : n ≤ 87658) (w : World) : Calls Tryd.prog 33 #[.int .i64 (yr n), .int .i64 (mn n)] w fun e w' => e = .returned (.int .i64 (mo n : Nat)) ∧ w = w' := by
  obtain ⟨c1, c2, c3, c4, c5⟩ := civ_month n h
  have H : Hid ((yr n - 1960) * 12 + mn n - 1 = (mo n : Int)) := show _ = _ by omega
  clear c1 h
  generalize yr n = y at *
  generalize mn n = m at *
  go_enter Tryd.func33, Tryd.ntmps33
  go_wp2_with fail
  go_ret
  exact ⟨ret_int H.out, rfl⟩
theorem p_named (T : Nat) (h : T ≤ 2879) (w : World) : Calls Tryd.prog 35 #[.int .i64 (T : Int)] w fun e w' => e = .returned (.tuple #[.int .i64 (1960 + ((T / 12 : Nat) : Int)), .int .i64 (((T % 12 : Nat) : Int) + 1)]) ∧ w = w' := by
  have q1 : (T : Int).tdiv 12 = ((T / 12 : Nat) : Int) := rfl
  have q2 : (T : Int).tmod 12 = ((T % 12 : Nat) : Int) := rfl
  have b1 : T / 12 ≤ 239 := by omega
  have b2 : T % 12 ≤ 11 := by omega
  have H := Lib.hid h
  clear h
  generalize T / 12 = a at *
  generalize T % 12 = b at *
  go_enter Tryd.func35, Tryd.ntmps35
  go_wp2_with fail
  go_ret2
  exact ⟨rfl, rfl⟩
theorem p_of_at (T : Nat) (hT : T ≤ 2879) (d : Int) (hd : 1 ≤ d) (hd2 : d ≤ (lenM T : Nat)) (w : World) (L : Laid w) :
    Calls Tryd.prog 36 #[.int .i64 (1960 + ((T / 12 : Nat) : Int)), .int .i64 (((T % 12 : Nat) : Int) + 1), .int .i64 d] w fun e w' => e = .returned (.tuple #[.int .i64 ((st T : Nat) + d - 1), .int .i64 0]) ∧ w = w' := by
  have h := p_of_ok (T / 12) (T % 12) d (by omega) (by omega) hd (by rw [show 12 * (T / 12) + T % 12 = T by omega]; exact hd2) w L
  rw [show 12 * (T / 12) + T % 12 = T by omega] at h
  exact h
theorem p_days_at (T : Nat) (w : World) (L : Laid w) : Calls Tryd.prog 37 #[.int .i64 (1960 + ((T / 12 : Nat) : Int)), .int .i64 (((T % 12 : Nat) : Int) + 1)] w fun e w' => e = .returned (.int .i64 (lenM T : Nat)) ∧ w = w' := by
  have h := p_days (1960 + ((T / 12 : Nat) : Int)) (((T % 12 : Nat) : Int) + 1) w L
  rw [lenK _ _ (by omega), show 12 * (T / 12) + T % 12 = T by omega] at h
  exact h

theorem d_month (n : Int) (w : World) (L : Laid w) : Calls Tryd.prog 25 #[.int .i64 n] w fun e w' => e = .returned (.tuple #[.int .i64 (monV n), .int .i64 (monE n)]) ∧ Below w.heap.size w w' := by
  cases hd : dayB n with
  | false =>
    have H : Hid (monV n = 0 ∧ monE n = 15) := show _ ∧ _ by unfold monV monE; rw [hd]; exact ⟨rfl, rfl⟩
    have D := Lib.hid hd
    clear hd L
    go_enter Tryd.func25, Tryd.ntmps25
    go_wp2_with fail
    refine (p_civil_no n D.out _).mono ?_
    rintro e w1 ⟨rfl, rfl⟩
    go_wp2_with fail
    go_ret2
    exact ⟨ret_two H.out.1.symm H.out.2.symm, Below.refl _ _⟩
  | true =>
    have hn := of_decide_eq_true hd
    obtain ⟨k, rfl⟩ := Int.eq_ofNat_of_zero_le hn.1
    have H : Hid (monV (k : Int) = (mo k : Int) ∧ monE (k : Int) = 0) := show _ ∧ _ by unfold monV monE; rw [hd]; exact ⟨rfl, rfl⟩
    have hk := Lib.hid (show k ≤ 87658 by omega)
    have P := p_number k hk.out
    have HL := Lib.hid L
    clear hd hn L
    go_enter Tryd.func25, Tryd.ntmps25
    go_wp2_with fail
    refine (p_civil_ok k hk.out _ HL.out).mono ?_
    rintro e w1 ⟨rfl, rfl⟩
    generalize yr k = y at *
    generalize mn k = m at *
    generalize dy k = d at *
    go_wp2_with fail
    refine (P _).mono ?_
    rintro e w1 ⟨rfl, rfl⟩
    go_wp2_with fail
    go_ret2
    exact ⟨ret_two H.out.1.symm H.out.2.symm, Below.refl _ _⟩

theorem d_first (m : Int) (w : World) (L : Laid w) : Calls Tryd.prog 38 #[.int .i64 m] w fun e w' => e = .returned (.tuple #[.int .i64 (firV m), .int .i64 (firE m)]) ∧ Below w.heap.size w w' := by
  by_cases h0 : m < 0
  · have H : Hid (firV m = 0 ∧ firE m = 15) := show _ ∧ _ by unfold firV firE; rw [if_neg (by omega), if_neg (by omega)]; exact ⟨rfl, rfl⟩
    clear L
    go_enter Tryd.func38, Tryd.ntmps38
    go_wp2_with fail
    go_ret2
    exact ⟨ret_two H.out.1.symm H.out.2.symm, Below.refl _ _⟩
  · by_cases h1 : 2879 < m
    · have H : Hid (firV m = 0 ∧ firE m = 15) := show _ ∧ _ by unfold firV firE; rw [if_neg (by omega), if_neg (by omega)]; exact ⟨rfl, rfl⟩
      clear L
      go_enter Tryd.func38, Tryd.ntmps38
      go_wp2_with fail
      go_ret2
      exact ⟨ret_two H.out.1.symm H.out.2.symm, Below.refl _ _⟩
    · obtain ⟨k, rfl⟩ := Int.eq_ofNat_of_zero_le (show 0 ≤ m by omega)
      have H : Hid (firV (k : Int) = (st k : Nat) ∧ firE (k : Int) = 0) := show _ ∧ _ by unfold firV firE; rw [if_pos (by omega), if_pos (by omega)]; exact ⟨rfl, rfl⟩
      have hk := Lib.hid (show k ≤ 2879 by omega)
      have A := p_of_at k hk.out 1 (by omega) (by have := lenM_range k; omega)
      have N := p_named k hk.out
      have HL := Lib.hid L
      clear L
      generalize st k = s at *
      go_enter Tryd.func38, Tryd.ntmps38
      go_wp2_with fail
      refine (N _).mono ?_
      rintro e w1 ⟨rfl, rfl⟩
      go_wp2_with fail
      refine (A _ HL.out).mono ?_
      rintro e w1 ⟨rfl, rfl⟩
      go_wp2_with fail
      go_ret2
      exact ⟨ret_two H.out.1.symm H.out.2.symm, Below.refl _ _⟩

theorem d_add (n k : Int) (w : World) (L : Laid w) : Calls Tryd.prog 28 #[.int .i64 n, .int .i64 k] w fun e w' => e = .returned (.tuple #[.int .i64 (addV n k), .int .i64 (addE n k)]) ∧ Below w.heap.size w w' := by
  cases hd : dayB n with
  | false =>
    have H := Lib.hid (add_none (n := n) (k := k) (by unfold addB; rw [hd]; rfl))
    have D := Lib.hid hd
    clear hd L
    go_enter Tryd.func28, Tryd.ntmps28
    go_wp2_with fail
    refine (p_civil_no n D.out _).mono ?_
    rintro e w1 ⟨rfl, rfl⟩
    go_wp2_with fail
    go_ret2
    exact ⟨ret_two H.out.1.symm H.out.2.symm, Below.refl _ _⟩
  | true =>
    have hn := of_decide_eq_true hd
    obtain ⟨x, rfl⟩ := Int.eq_ofNat_of_zero_le hn.1
    have hx := Lib.hid (show x ≤ 87658 by omega)
    have hm := mo_lt hx.out
    have P := p_number x hx.out
    have C := fun w L => p_civil_ok x hx.out w L
    have HL := Lib.hid L
    have dd := @dy_range x
    by_cases h1 : k < -(mo x : Int)
    · have H := Lib.hid (add_none (n := (x : Int)) (k := k) (by unfold addB; rw [hd, Bool.true_and, Int.toNat_natCast]; exact decide_eq_false (by omega)))
      have t1 := decide_eq_true h1
      clear hd hn L
      generalize mo x = j at *
      go_enter Tryd.func28, Tryd.ntmps28
      go_wp2_with fail
      refine (C _ HL.out).mono ?_
      rintro e w1 ⟨rfl, rfl⟩
      generalize yr x = y at *
      generalize mn x = m at *
      generalize dy x = d at *
      go_wp2_with fail
      refine (P _).mono ?_
      rintro e w1 ⟨rfl, rfl⟩
      go_wp2_with fail
      go_ret2
      exact ⟨ret_two H.out.1.symm H.out.2.symm, Below.refl _ _⟩
    have t1 := decide_eq_false h1
    by_cases h2 : 2879 - (mo x : Int) < k
    · have H := Lib.hid (add_none (n := (x : Int)) (k := k) (by unfold addB; rw [hd, Bool.true_and, Int.toNat_natCast]; exact decide_eq_false (by omega)))
      have t2 := decide_eq_true h2
      clear hd hn L
      generalize mo x = j at *
      go_enter Tryd.func28, Tryd.ntmps28
      go_wp2_with fail
      refine (C _ HL.out).mono ?_
      rintro e w1 ⟨rfl, rfl⟩
      generalize yr x = y at *
      generalize mn x = m at *
      generalize dy x = d at *
      go_wp2_with fail
      refine (P _).mono ?_
      rintro e w1 ⟨rfl, rfl⟩
      go_wp2_with fail
      go_ret2
      exact ⟨ret_two H.out.1.symm H.out.2.symm, Below.refl _ _⟩
    have t2 := decide_eq_false h2
    obtain ⟨T, hT⟩ := Int.eq_ofNat_of_zero_le (show 0 ≤ (mo x : Int) + k by omega)
    have hT2 : T ≤ 2879 := by omega
    obtain ⟨q1, q2⟩ := add_some (n := (x : Int)) (k := k) (by unfold addB; rw [hd, Bool.true_and, Int.toNat_natCast]; exact decide_eq_true (by omega))
    rw [Int.toNat_natCast, hT, Int.toNat_natCast] at q1
    have hl := lenM_range T
    have N := p_named T hT2
    have DD := p_days_at T
    have A : ∀ (w : World) (L : Laid w), _ := fun w L => p_of_at T hT2 (min (dy x) (lenM T : Nat)) (by omega) (by omega) w L
    have HT2 := Lib.hid hT2
    by_cases hmin : (lenM T : Int) < dy x
    · rw [Int.min_eq_right (by omega)] at q1 A
      have H := Lib.hid (And.intro q1 q2)
      clear hd hn L q1 q2 hT2
      generalize mo x = j at *
      go_enter Tryd.func28, Tryd.ntmps28
      go_wp2_with fail
      refine (C _ HL.out).mono ?_
      rintro e w1 ⟨rfl, rfl⟩
      generalize yr x = y at *
      generalize mn x = m at *
      generalize dy x = d at *
      go_wp2_with fail
      refine (P _).mono ?_
      rintro e w1 ⟨rfl, rfl⟩
      go_wp2_with fail
      refine (N _).mono ?_
      rintro e w1 ⟨rfl, rfl⟩
      go_wp2_with fail
      refine (DD _ HL.out).mono ?_
      rintro e w1 ⟨rfl, rfl⟩
      go_wp2_with fail
      refine (A _ HL.out).mono ?_
      rintro e w1 ⟨rfl, rfl⟩
      go_wp2_with fail
      go_ret2
      exact ⟨ret_two H.out.1.symm H.out.2.symm, Below.refl _ _⟩
    · rw [Int.min_eq_left (by omega)] at q1 A
      have H := Lib.hid (And.intro q1 q2)
      clear hd hn L q1 q2 hT2
      generalize mo x = j at *
      go_enter Tryd.func28, Tryd.ntmps28
      go_wp2_with fail
      refine (C _ HL.out).mono ?_
      rintro e w1 ⟨rfl, rfl⟩
      generalize yr x = y at *
      generalize mn x = m at *
      generalize dy x = d at *
      go_wp2_with fail
      refine (P _).mono ?_
      rintro e w1 ⟨rfl, rfl⟩
      go_wp2_with fail
      refine (N _).mono ?_
      rintro e w1 ⟨rfl, rfl⟩
      go_wp2_with fail
      refine (DD _ HL.out).mono ?_
      rintro e w1 ⟨rfl, rfl⟩
      go_wp2_with fail
      refine (A _ HL.out).mono ?_
      rintro e w1 ⟨rfl, rfl⟩
      go_wp2_with fail
      go_ret2
      exact ⟨ret_two H.out.1.symm H.out.2.symm, Below.refl _ _⟩
/-! As the laws ask them. -/
theorem d_long (y : Int) (w : World) (_ : Laid w) : Calls Tryd.prog 41 #[.int .i64 y] w fun e w' => e = .returned (.bool (longB y)) ∧ Below w.heap.size w w' :=
  (p_long y w).mono fun _ _ ⟨h1, h2⟩ => ⟨h1, h2 ▸ Below.refl _ _⟩
theorem d_days (y m : Int) (w : World) (L : Laid w) : Calls Tryd.prog 37 #[.int .i64 y, .int .i64 m] w fun e w' => e = .returned (.int .i64 (daysI y m)) ∧ Below w.heap.size w w' :=
  (p_days y m w L).mono fun _ _ ⟨h1, h2⟩ => ⟨h1, h2 ▸ Below.refl _ _⟩
theorem d_good (n : Int) (w : World) (_ : Laid w) : Calls Tryd.prog 23 #[.int .i64 n] w fun e w' => e = .returned (.bool (dayB n)) ∧ Below w.heap.size w w' :=
  (p_good n w).mono fun _ _ ⟨h1, h2⟩ => ⟨h1, h2 ▸ Below.refl _ _⟩
end Go.Proofs.YthmmlgfechkohaaDoor.Date
