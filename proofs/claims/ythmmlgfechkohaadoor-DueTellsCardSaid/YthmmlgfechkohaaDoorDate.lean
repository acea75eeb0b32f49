/- The program's own package date: Long, Days, Good, at every input, where its months' lengths lie as listed. -/
import Derived.Test.YthmmlgfechkohaaDoorDateMath
import Derived.Test.YthmmlgfechkohaaDoorDoor
namespace Go.Proofs.YthmmlgfechkohaaDoor.Date
open Go.ChangeShapes Go.WideShapes Go.ChangeAt Go.RowKit Cal

/-- The lengths of the months of a year that is not long. -/
def lens : List Int := [31, 28, 31, 30, 31, 30, 31, 31, 30, 31, 30, 31]
/-- The program's list of them lies as its text lays it. -/
def Laid (w : World) : Prop := 0 < w.heap.size ∧ ∀ i, i < 12 → w.cell? ⟨0, i, none⟩ = some (.int .i64 (lens.getD i 0))
theorem Laid.of {w w' : World} (h : Laid w) (hb : Below w.heap.size w w') : Laid w' := by
  refine ⟨Nat.lt_of_lt_of_le h.1 hb.size, fun i hi => ?_⟩
  rw [hb.cell (p := ⟨0, i, none⟩) h.1]
  exact h.2 i hi
theorem Laid.drewN {w : World} (h : Laid w) (n : Nat) : Laid (w.drewN n) := h.of (below_drewN (Below.refl _ _) n)
theorem Laid.alloc {w : World} (h : Laid w) (o : Obj) : Laid (w.alloc o) := h.of (below_new (Below.refl _ _) o)
theorem laid_of {laid : List (String × DataW Unit)} {w : World} (h : laidMet Tryd.prog laid w) (hm : ("annuity/date.lengths", Lib.tabData .i64 lens) ∈ laid) : Laid w := by
  have hT := Door.tab_of_mem (g := 0) (t := 47) (e := 3) (n := 12) (by kernel_rfl) (by kernel_rfl) Tryd.underlying47 Tryd.underlying3 (by kernel_rfl) (by kernel_rfl) h hm
  have hc := hT.cell (g := 0) (by kernel_rfl)
  refine ⟨?_, fun i hi => hc i hi⟩
  have h0 := hc 0 (by decide)
  exact World.block_lt_of_cell? _ _ h0
theorem p_long (y : Int) (w : World) : Calls Tryd.prog 41 #[.int .i64 y] w fun e w' => e = .returned (.bool (longB y)) ∧ w = w' := by
  have H := Lib.hid (long_tmod y)
  by_cases h4 : y.tmod 4 = 0 <;> by_cases h1 : y.tmod 100 = 0 <;> by_cases h0 : y.tmod 400 = 0 <;>
  · go_enter Tryd.func41, Tryd.ntmps41
    go_wp2
    go_ret
    exact ⟨ret_bool (by rw [H.out]; simp [h4, h1, h0]), rfl⟩
theorem p_good (n : Int) (w : World) : Calls Tryd.prog 23 #[.int .i64 n] w fun e w' => e = .returned (.bool (dayB n)) ∧ w = w' := by
  by_cases h1 : 0 ≤ n
  · by_cases h2 : n ≤ 87658
    · have H : Hid (dayB n = true) := decide_eq_true ⟨h1, h2⟩
      go_enter Tryd.func23, Tryd.ntmps23
      go_wp2
      go_ret
      exact ⟨ret_bool H.out.symm, rfl⟩
    · have H : Hid (dayB n = false) := decide_eq_false (by omega)
      go_enter Tryd.func23, Tryd.ntmps23
      go_wp2
      go_ret
      exact ⟨ret_bool H.out.symm, rfl⟩
  · have H : Hid (dayB n = false) := decide_eq_false (by omega)
    go_enter Tryd.func23, Tryd.ntmps23
    go_wp2
    go_ret
    exact ⟨ret_bool H.out.symm, rfl⟩
/-- The long years ahead of one. -/
theorem d_ahead (k : Nat) (h : k ≤ 3000) (w : World) : Calls Tryd.prog 42 #[.int .i64 ((k : Int) + 1)] w fun e w' => e = .returned (.int .i64 (leaps k : Nat)) ∧ w = w' := by
  have q1 : (k : Int).tdiv 4 = ((k / 4 : Nat) : Int) := rfl
  have q2 : (k : Int).tdiv 100 = ((k / 100 : Nat) : Int) := rfl
  have q3 : (k : Int).tdiv 400 = ((k / 400 : Nat) : Int) := rfl
  have H : Hid ((leaps k : Nat) = ((k / 4 : Nat) : Int) - ((k / 100 : Nat) : Int) + ((k / 400 : Nat) : Int)) := show _ = _ by unfold leaps; omega
  have b1 : k / 4 ≤ 750 := by omega
  have b2 : k / 100 ≤ 30 := by omega
  have b3 : k / 400 ≤ 8 := by omega
  have W : wrap64 ((k : Int) + 1 - 1) = k := by unfold wrap64; omega
  generalize k / 4 = a at *
  generalize k / 100 = b at *
  generalize k / 400 = c at *
  go_enter Tryd.func42, Tryd.ntmps42
  go_wp2
  go_ret
  exact ⟨ret_int H.out.symm, rfl⟩
theorem d_begin (k : Nat) (h : k ≤ 240) (w : World) : Calls Tryd.prog 40 #[.int .i64 (1960 + (k : Int))] w fun e w' => e = .returned (.int .i64 (st (12 * k) : Nat)) ∧ w = w' := by
  have H := Lib.hid (st_year k)
  have E : leaps 1959 = 474 := by decide
  have B : leaps (1959 + k) ≤ 600 := by unfold leaps; omega
  have A := d_ahead (1959 + k) (by omega)
  rw [show ((1959 + k : Nat) : Int) + 1 = 1960 + (k : Int) by omega] at A
  have A2 := d_ahead 1959 (by omega)
  rw [E] at A2 H
  rw [show ((1959 : Nat) : Int) + 1 = 1960 from rfl] at A2
  clear E
  go_enter Tryd.func40, Tryd.ntmps40
  go_wp2_with fail
  refine (A _).mono ?_
  rintro e w1 ⟨rfl, rfl⟩
  go_wp2_with fail
  refine (A2 _).mono ?_
  rintro e w1 ⟨rfl, rfl⟩
  go_wp2_with fail
  go_ret
  exact ⟨ret_int (by have := H.out; omega), rfl⟩
theorem days_lens (y : Int) (j : Nat) (hj : j < 12) (h : j = 1 → longB y = false) : daysI y ((j : Int) + 1) = lens.getD j 0 := by
  match j, hj with
  | 0, _ | 2, _ | 3, _ | 4, _ | 5, _ | 6, _ | 7, _ | 8, _ | 9, _ | 10, _ | 11, _ => rfl
  | 1, _ => show (if longB y = true then _ else _) = _; rw [h rfl]; rfl
theorem p_days (y m : Int) (w : World) (L : Laid w) : Calls Tryd.prog 37 #[.int .i64 y, .int .i64 m] w fun e w' => e = .returned (.int .i64 (daysI y m)) ∧ w = w' := by
  by_cases h1 : m < 1
  · have H := Lib.hid (days_none (y := y) (m := m) (Or.inl h1))
    have t1 := decide_eq_true h1
    clear L
    go_enter Tryd.func37, Tryd.ntmps37
    go_wp2_with fail
    go_ret
    exact ⟨ret_int H.out.symm, rfl⟩
  by_cases h2 : 12 < m
  · have H := Lib.hid (days_none (y := y) (m := m) (Or.inr h2))
    have t1 := decide_eq_false h1
    have t2 := decide_eq_true h2
    clear L
    go_enter Tryd.func37, Tryd.ntmps37
    go_wp2_with fail
    go_ret
    exact ⟨ret_int H.out.symm, rfl⟩
  obtain ⟨j, hj⟩ := Int.eq_ofNat_of_zero_le (show 0 ≤ m - 1 by omega)
  obtain rfl : m = (j : Int) + 1 := by omega
  have hj2 : j < 12 := by omega
  have C := L.2 j hj2
  clear hj h1 h2 L
  by_cases h3 : j = 1
  · subst h3
    have C' : w.cell? ⟨0, 1, none⟩ = some (.int .i64 28) := C
    clear C
    cases hl : longB y with
    | true =>
      have H : Hid (daysI y 2 = 29) := show daysI y 2 = 29 by unfold daysI; rw [hl]; rfl
      show Calls _ _ #[.int .i64 y, .int .i64 2] _ _
      go_enter Tryd.func37, Tryd.ntmps37
      go_wp2_with (go_at_call 41; refine (p_long _ _).mono ?_; rintro e w' ⟨rfl, rfl⟩)
      go_ret
      exact ⟨ret_int H.out.symm, rfl⟩
    | false =>
      have H : Hid (daysI y 2 = 28) := show daysI y 2 = 28 by unfold daysI; rw [hl]; rfl
      show Calls _ _ #[.int .i64 y, .int .i64 2] _ _
      go_enter Tryd.func37, Tryd.ntmps37
      go_wp2_with (go_at_call 41; refine (p_long _ _).mono ?_; rintro e w' ⟨rfl, rfl⟩)
      go_ret
      exact ⟨ret_int H.out.symm, rfl⟩
  · have H := Lib.hid (days_lens y j hj2 (fun h => absurd h h3))
    have t3 : ((j : Int) + 1 == 2) = false := by rw [beq_eq_false_iff_ne]; omega
    generalize lens.getD j 0 = v at *
    clear h3
    go_enter Tryd.func37, Tryd.ntmps37
    go_wp2_with fail
    go_ret
    exact ⟨ret_int H.out.symm, rfl⟩
end Go.Proofs.YthmmlgfechkohaaDoor.Date
