/- The document's own calendar: Long, Days, Good, Start, Of, Civil, Month, First, Add, Week, at every input. -/
import Derived.Test.YthmmlgfechkohaaDoorChecked
import Derived.Test.YthmmlgfechkohaaDoorCal
import Derived.WalkKit
import Derived.ProofKit
import Derived.OpenShut
import Derived.Handy
import Derived.Lib.Hide
import Derived.Deep.OwnRows
namespace Go.Proofs.YthmmlgfechkohaaDoor.Date
open Go.ChangeShapes Go.WideShapes Go.ChangeAt Go.RowKit Cal

theorem ret_bool {a b : Bool} (h : a = b) : Ending.returned (.bool a) = .returned (.bool b) := by rw [h]
theorem ret_int {k : IntKind} {a b : Int} (h : a = b) : Ending.returned (.int k a) = .returned (.int k b) := by rw [h]
theorem ret_two {j k : IntKind} {a b c d : Int} (h1 : a = c) (h2 : b = d) : Ending.returned (.tuple #[.int j a, .int k b]) = .returned (.tuple #[.int j c, .int k d]) := by rw [h1, h2]

theorem tmod_zero (y k : Int) : (y.tmod k == 0) = decide (y % k = 0) := by
  by_cases h : y % k = 0
  · rw [decide_eq_true h, beq_iff_eq]
    exact Int.tmod_eq_zero_of_dvd (Int.dvd_of_emod_eq_zero h)
  · rw [decide_eq_false h, beq_eq_false_iff_ne]
    exact fun h' => h (Int.emod_eq_zero_of_dvd (Int.dvd_of_tmod_eq_zero h'))

theorem long_tmod (y : Int) : longB y = ((y.tmod 4 == 0) && !(y.tmod 100 == 0) || (y.tmod 400 == 0)) := by
  rw [tmod_zero, tmod_zero, tmod_zero]
  unfold longB
  by_cases a : y % 4 = 0 <;> by_cases b : y % 100 = 0 <;> by_cases c : y % 400 = 0 <;> simp [a, b, c]
theorem rlong_any (y : Int) (w : World) : Calls Tryd.prog 34 #[.int .i64 y] w fun e w' => e = .returned (.bool (longB y)) ∧ w = w' := by
  have H := Lib.hid (long_tmod y)
  by_cases h4 : y.tmod 4 = 0 <;> by_cases h1 : y.tmod 100 = 0 <;> by_cases h0 : y.tmod 400 = 0 <;>
  · go_enter Tryd.func34, Tryd.ntmps34
    go_wp2
    go_ret
    exact ⟨ret_bool (by rw [H.out]; simp [h4, h1, h0]), rfl⟩

theorem rdays_any (y m : Int) (w : World) : Calls Tryd.prog 27 #[.int .i64 y, .int .i64 m] w fun e w' => e = .returned (.int .i64 (daysI y m)) ∧ w = w' := by
  by_cases hm : m < 1 ∨ 12 < m
  · have H := Lib.hid (days_none (y := y) hm)
    have n (k : Int) (hk : 1 ≤ k ∧ k ≤ 12) : (m == k) = false := by rw [beq_eq_false_iff_ne]; omega
    have n1 := n 1 (by decide)
    have n2 := n 2 (by decide)
    have n3 := n 3 (by decide)
    have n4 := n 4 (by decide)
    have n5 := n 5 (by decide)
    have n6 := n 6 (by decide)
    have n7 := n 7 (by decide)
    have n8 := n 8 (by decide)
    have n9 := n 9 (by decide)
    have n10 := n 10 (by decide)
    have n11 := n 11 (by decide)
    have n12 := n 12 (by decide)
    clear n hm
    go_enter Tryd.func27, Tryd.ntmps27
    go_wp2
    go_ret
    exact ⟨ret_int H.out.symm, rfl⟩
  · have h : m = 2 ∨ (m = 1 ∨ m = 3 ∨ m = 5 ∨ m = 7 ∨ m = 8 ∨ m = 10 ∨ m = 12) ∨ (m = 4 ∨ m = 6 ∨ m = 9 ∨ m = 11) := by omega
    rcases h with rfl | (rfl | rfl | rfl | rfl | rfl | rfl | rfl) | (rfl | rfl | rfl | rfl)
    · cases hl : longB y with
      | true =>
        have H : Hid (daysI y 2 = 29) := show daysI y 2 = 29 by unfold daysI; rw [hl]; rfl
        go_enter Tryd.func27, Tryd.ntmps27
        go_wp2_with (go_at_call 34; refine (rlong_any _ _).mono ?_; rintro e w' ⟨rfl, rfl⟩)
        go_ret
        exact ⟨ret_int H.out.symm, rfl⟩
      | false =>
        have H : Hid (daysI y 2 = 28) := show daysI y 2 = 28 by unfold daysI; rw [hl]; rfl
        go_enter Tryd.func27, Tryd.ntmps27
        go_wp2_with (go_at_call 34; refine (rlong_any _ _).mono ?_; rintro e w' ⟨rfl, rfl⟩)
        go_ret
        exact ⟨ret_int H.out.symm, rfl⟩
    all_goals
      clear hm
      go_enter Tryd.func27, Tryd.ntmps27
      go_wp2
      go_ret
      exact ⟨rfl, rfl⟩

def dayB (n : Int) : Bool := decide (0 ≤ n ∧ n ≤ 87658)
theorem rday_any (n : Int) (w : World) : Calls Tryd.prog 26 #[.int .i64 n] w fun e w' => e = .returned (.bool (dayB n)) ∧ w = w' := by
  by_cases h1 : 0 ≤ n
  · by_cases h2 : n ≤ 87658
    · have H : Hid (dayB n = true) := decide_eq_true ⟨h1, h2⟩
      go_enter Tryd.func26, Tryd.ntmps26
      go_wp2
      go_ret
      exact ⟨ret_bool H.out.symm, rfl⟩
    · have H : Hid (dayB n = false) := decide_eq_false (by omega)
      go_enter Tryd.func26, Tryd.ntmps26
      go_wp2
      go_ret
      exact ⟨ret_bool H.out.symm, rfl⟩
  · have H : Hid (dayB n = false) := decide_eq_false (by omega)
    go_enter Tryd.func26, Tryd.ntmps26
    go_wp2
    go_ret
    exact ⟨ret_bool H.out.symm, rfl⟩
end Go.Proofs.YthmmlgfechkohaaDoor.Date
