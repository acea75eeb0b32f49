/- The document's own calendar: Start, Of, Civil, Month, First, Add, Week, at every input. -/
import Derived.Test.YthmmlgfechkohaaDoorRefDate
namespace Go.Proofs.YthmmlgfechkohaaDoor.Date
open Go.ChangeShapes Go.WideShapes Go.ChangeAt Go.RowKit Cal

theorem lenI (m : Nat) : daysI (1960 + (m : Int) / 12) (1 + (m : Int) % 12) = (lenM m : Nat) := by
  have := lenM_eq m
  rw [show ((m / 12 : Nat) : Int) = (m : Int) / 12 by omega, show ((m % 12 : Nat) : Int) = (m : Int) % 12 by omega] at this
  exact this

theorem rstart_any (m : Nat) (w : World) (hm : m ≤ 2880) : Calls Tryd.prog 31 #[.int .i64 (m : Int)] w fun e w' => e = .returned (.int .i64 (st m : Nat)) ∧ w = w' := by
  have HM := Lib.hid hm
  clear hm
  go_enter Tryd.func31, Tryd.ntmps31
  go_wp2
  go_loop [3, 4] (fun n i => ∃ j : Nat, j ≤ m ∧ i = .int .i64 (j : Int) ∧ n = .int .i64 (st j : Nat)) (fun _ i => m - (intOf i).toNat)
  case atStart => exact ⟨0, Nat.zero_le _, rfl, rfl⟩
  case round =>
    obtain ⟨j, j1, rfl, rfl⟩ := hrel
    by_cases hlt : j < m
    · have HL := Lib.hid hlt
      have W := Lib.hid (lenI j)
      have HS := Lib.hid (st_succ j)
      have b1 : st (j + 1) ≤ 87659 := by
        have := st_mono (show j + 1 ≤ 2880 by have := HM.out; omega)
        rw [st_all] at this; exact this
      rw [st_succ] at b1
      have b2 : j < 2880 := by have := HM.out; omega
      generalize st j = s at *
      go_wp2_with fail
      refine (rdays_any _ _ _).mono ?_
      rw [W.out]
      rintro e w1 ⟨rfl, rfl⟩
      generalize lenM j = l at *
      go_wp2_with fail
      go_round
      case rel => exact ⟨j + 1, HL.out, rfl, by rw [HS.out]; rfl⟩
      case measure => simp [intOf]; have := HL.out; omega
    · obtain rfl : j = m := by omega
      clear j1 hlt
      go_wp2
      go_ret
      exact ⟨rfl, rfl⟩

def dateB (y m d : Int) : Bool := decide (1960 ≤ y ∧ y ≤ 2199 ∧ 1 ≤ m ∧ m ≤ 12 ∧ 1 ≤ d ∧ d ≤ daysI y m)
def ofE (y m d : Int) : Int := if dateB y m d = true then 0 else 15
def ofV (y m d : Int) : Int := if dateB y m d = true then ((st (12 * (y - 1960) + m - 1).toNat : Nat) : Int) + d - 1 else 0
theorem of_none {y m d : Int} (h : ¬ (1960 ≤ y ∧ y ≤ 2199 ∧ 1 ≤ m ∧ m ≤ 12 ∧ 1 ≤ d ∧ d ≤ daysI y m)) : ofV y m d = 0 ∧ ofE y m d = 15 := by
  unfold ofV ofE
  rw [show dateB y m d = false from decide_eq_false h]
  exact ⟨rfl, rfl⟩
theorem of_some {y m d : Int} (h : 1960 ≤ y ∧ y ≤ 2199 ∧ 1 ≤ m ∧ m ≤ 12 ∧ 1 ≤ d ∧ d ≤ daysI y m) : ofV y m d = ((st (12 * (y - 1960) + m - 1).toNat : Nat) : Int) + d - 1 ∧ ofE y m d = 0 := by
  unfold ofV ofE
  rw [show dateB y m d = true from decide_eq_true h]
  exact ⟨rfl, rfl⟩

/-! The date of a number. -/
def yr (n : Nat) : Int := 1960 + (mo n : Int) / 12
def mn (n : Nat) : Int := 1 + (mo n : Int) % 12
def dy (n : Nat) : Int := (n : Int) - (st (mo n) : Nat) + 1
def civE (n : Int) : Int := if dayB n = true then 0 else 15
def civV (n : Int) : Value := if dayB n = true then .agg #[.int .i64 (yr n.toNat), .int .i64 (mn n.toNat), .int .i64 (dy n.toNat)] else .agg #[.int .i64 0, .int .i64 0, .int .i64 0]

theorem rcivil_no (n : Int) (w : World) (h : dayB n = false) : Calls Tryd.prog 30 #[.int .i64 n] w fun e w' => e = .returned (.tuple #[.agg #[.int .i64 0, .int .i64 0, .int .i64 0], .int .i64 15]) ∧ Below w.heap.size w w' := by
  have H := Lib.hid h
  clear h
  go_enter Tryd.func30, Tryd.ntmps30
  go_wp2_with fail
  refine (rday_any _ _).mono ?_
  rw [H.out]
  rintro e w' ⟨rfl, rfl⟩
  go_wp2_with fail
  go_returns
  exact ⟨rfl, by go_grown⟩

theorem rcivil_ok (n : Nat) (w : World) (h : n ≤ 87658) : Calls Tryd.prog 30 #[.int .i64 (n : Int)] w fun e w' => e = .returned (.tuple #[.agg #[.int .i64 (yr n), .int .i64 (mn n), .int .i64 (dy n)], .int .i64 0]) ∧ Below w.heap.size w w' := by
  have HB : Hid (dayB (n : Int) = true) := decide_eq_true (by omega)
  have HN := Lib.hid h
  have HM := Lib.hid (mo_in n)
  have HL := Lib.hid (mo_lt h)
  have EY : Hid (yr n = 1960 + (mo n : Int) / 12) := show yr n = _ from rfl
  have EM : Hid (mn n = 1 + (mo n : Int) % 12) := show mn n = _ from rfl
  have ED : Hid (dy n = (n : Int) - (st (mo n) : Nat) + 1) := show dy n = _ from rfl
  clear h
  go_enter Tryd.func30, Tryd.ntmps30
  go_wp2_with fail
  refine (rday_any _ _).mono ?_
  rw [HB.out]
  rintro e w' ⟨rfl, rfl⟩
  go_wp2_with fail
  go_loop [0, 4] (fun x i => ∃ j r : Nat, j ≤ mo n ∧ i = .int .i64 (j : Int) ∧ x = .int .i64 (r : Int) ∧ st j + r = n) (fun _ i => mo n - (intOf i).toNat)
  case atStart => exact ⟨0, n, Nat.zero_le _, rfl, rfl, by simp [st]⟩
  case round =>
    obtain ⟨j, r, j1, rfl, rfl, hr⟩ := hrel
    have HR := Lib.hid hr
    have W := Lib.hid (lenI j)
    have b1 : r ≤ 87658 := by have := HN.out; omega
    have b2 : j < 2880 := by have := HL.out; omega
    have b3 := (lenM_range j).2
    by_cases hlt : j < mo n
    · have hle : st (j + 1) ≤ st (mo n) := st_mono hlt
      rw [st_succ] at hle
      have b4 : lenM j ≤ r := by have := HM.out.1; omega
      have d4 : decide (lenM j ≤ r) = true := decide_eq_true b4
      have HLT := Lib.hid hlt
      have HS : Hid (st (j + 1) + (r - lenM j) = n) := show _ = _ by rw [st_succ]; omega
      clear hlt hle hr j1
      go_wp2_with fail
      refine (rdays_any _ _ _).mono ?_
      rw [W.out]
      rintro e w1 ⟨rfl, rfl⟩
      go_wp2_with fail
      refine (rdays_any _ _ _).mono ?_
      rw [W.out]
      rintro e w1 ⟨rfl, rfl⟩
      go_wp2_with fail
      go_round
      case rel => exact ⟨j + 1, r - lenM j, HLT.out, rfl, by congr 1; omega, HS.out⟩
      case measure => simp [intOf]; have := HLT.out; omega
    · obtain rfl : j = mo n := by omega
      have b4 : ¬ lenM (mo n) ≤ r := by have := HM.out.2; rw [st_succ] at this; omega
      have d4 : decide (lenM (mo n) ≤ r) = false := decide_eq_false b4
      have HE : Hid ((r : Int) + 1 = dy n) := show _ = _ by rw [ED.out]; omega
      clear hlt hr j1
      go_wp2_with fail
      refine (rdays_any _ _ _).mono ?_
      rw [W.out]
      rintro e w1 ⟨rfl, rfl⟩
      go_wp2_with fail
      go_returns
      exact ⟨by rw [EY.out, EM.out, ← HE.out], by go_grown⟩

/-! Month, First, Add, Week. -/
def monE (n : Int) : Int := if dayB n = true then 0 else 15
def monV (n : Int) : Int := if dayB n = true then (mo n.toNat : Int) else 0
def firE (m : Int) : Int := if 0 ≤ m ∧ m ≤ 2879 then 0 else 15
def firV (m : Int) : Int := if 0 ≤ m ∧ m ≤ 2879 then ((st m.toNat : Nat) : Int) else 0
def wekE (n : Int) : Int := if dayB n = true then 0 else 15
def wekV (n : Int) : Int := if dayB n = true then (n + 5) % 7 else 0
theorem civ_month (n : Nat) (h : n ≤ 87658) : 12 * (yr n - 1960) + mn n - 1 = (mo n : Int) ∧ 1960 ≤ yr n ∧ yr n ≤ 2199 ∧ 1 ≤ mn n ∧ mn n ≤ 12 := by
  have := mo_lt h
  unfold yr mn
  omega

theorem rfirst_any (m : Int) (w : World) : Calls Tryd.prog 22 #[.int .i64 m] w fun e w' => e = .returned (.tuple #[.int .i64 (firV m), .int .i64 (firE m)]) ∧ w = w' := by
  by_cases h0 : m < 0
  · have H : Hid (firV m = 0 ∧ firE m = 15) := show _ ∧ _ by unfold firV firE; rw [if_neg (by omega), if_neg (by omega)]; exact ⟨rfl, rfl⟩
    go_enter Tryd.func22, Tryd.ntmps22
    go_wp2_with fail
    go_ret2
    exact ⟨ret_two H.out.1.symm H.out.2.symm, rfl⟩
  · by_cases h1 : 2879 < m
    · have H : Hid (firV m = 0 ∧ firE m = 15) := show _ ∧ _ by unfold firV firE; rw [if_neg (by omega), if_neg (by omega)]; exact ⟨rfl, rfl⟩
      go_enter Tryd.func22, Tryd.ntmps22
      go_wp2_with fail
      go_ret2
      exact ⟨ret_two H.out.1.symm H.out.2.symm, rfl⟩
    · obtain ⟨k, rfl⟩ := Int.eq_ofNat_of_zero_le (show 0 ≤ m by omega)
      have H : Hid (firV (k : Int) = (st k : Nat) ∧ firE (k : Int) = 0) := show _ ∧ _ by unfold firV firE; rw [if_pos (by omega), if_pos (by omega)]; exact ⟨rfl, rfl⟩
      go_enter Tryd.func22, Tryd.ntmps22
      go_wp2_with fail
      refine (rstart_any k _ (by omega)).mono ?_
      rintro e w1 ⟨rfl, rfl⟩
      go_wp2_with fail
      go_ret2
      exact ⟨ret_two H.out.1.symm H.out.2.symm, rfl⟩

end Go.Proofs.YthmmlgfechkohaaDoor.Date
