/- level.Month, Left and Table, at every input. -/
import Derived.Test.YtkeghiljolojlaaLevelC3
import Derived.Test.YtkeghiljolojlaaLevelC4
namespace Go.Proofs.Ytkeghiljolojlaa.Level
open Go.ChangeShapes Go.WideShapes Go.ChangeAt Go.RowKit Bits Law Slice

theorem c_month (b p r : Int) (w : World) : Calls Try.prog 8 #[.int .i64 b, .int .i64 p, .int .i64 r] w fun e w' => e = .returned (.tuple #[.int .i64 (mV b p r), .int .i64 (mE b p r)]) ∧ Below w.heap.size w w' := by
  cases h : okL b p r with
  | false =>
    rw [(mV_no h).1, (mV_no h).2]
    have K1 := Lib.hid (fun W => good_is b p r false W h)
    clear h
    go_enter Try.func8, Try.ntmps8
    go_wp2_with fail
    refine (K1.out _).mono ?_
    rintro e w' ⟨rfl, rfl⟩
    go_wp2_with fail
    go_ret2
    exact ⟨rfl, Below.refl _ _⟩
  | true =>
    rw [(mV_yes h).1, (mV_yes h).2]
    have K1 := Lib.hid (fun W => good_is b p r true W h)
    have K2 := Lib.hid (fun W => month_err b p r W h)
    clear h
    generalize Money.valO (moO b p r) = v at *
    generalize Money.errO (moO b p r) = x at *
    go_enter Try.func8, Try.ntmps8
    go_wp2_with fail
    refine (K1.out _).mono ?_
    rintro e w' ⟨rfl, rfl⟩
    go_wp2_with fail
    refine (K2.out _).mono ?_
    rintro e w1 ⟨rfl, hb⟩
    have HB := Lib.hid hb
    clear hb
    go_wp2_with fail
    go_ret2
    exact ⟨rfl, HB.out⟩

theorem c_left_no (b p r n : Int) (w : World) (x y : Bool) (h : (x && y) = false) (h1 : Hid (okL b p r = x)) (h2 : Hid (decide (0 ≤ n ∧ n ≤ 360) = y)) :
    Calls Try.prog 10 #[.int .i64 b, .int .i64 p, .int .i64 r, .int .i64 n] w fun e w' => e = .returned (.tuple #[.int .i64 0, .int .i64 1]) ∧ Below w.heap.size w w' := by
  have K1 := Lib.hid (fun W => good_is b p r x W h1)
  have K2 := Lib.hid (fun W => within_is n 360 y W h2)
  clear h1 h2
  go_enter Try.func10, Try.ntmps10
  cases x with
  | false =>
    go_wp2_with fail
    refine (K1.out _).mono ?_
    rintro e w' ⟨rfl, rfl⟩
    go_wp2_with fail
    go_ret2
    exact ⟨rfl, Below.refl _ _⟩
  | true =>
    cases y with
    | true => cases h
    | false =>
      go_wp2_with fail
      refine (K1.out _).mono ?_
      rintro e w' ⟨rfl, rfl⟩
      go_wp2_with fail
      refine (K2.out _).mono ?_
      rintro e w' ⟨rfl, rfl⟩
      go_wp2_with fail
      go_ret2
      exact ⟨rfl, Below.refl _ _⟩
theorem c_leftc (b p r n : Int) (w : World) : Calls Try.prog 10 #[.int .i64 b, .int .i64 p, .int .i64 r, .int .i64 n] w fun e w' => e = .returned (.tuple #[.int .i64 (lV b p r n), .int .i64 (lE b p r n)]) ∧ Below w.heap.size w w' := by
  cases h : okM b p r n with
  | false =>
    rw [(lV_no h).1, (lV_no h).2]
    exact c_left_no b p r n w _ _ h (Lib.hid rfl) (Lib.hid rfl)
  | true =>
    rw [(lV_yes h).1, (lV_yes h).2]
    obtain ⟨h1, h2, h3⟩ := okM_iff.1 h
    obtain ⟨N, rfl⟩ : ∃ N : Nat, n = N := ⟨n.toNat, by omega⟩
    rw [Int.toNat_natCast]
    have K1 := Lib.hid (fun W => good_is b p r true W h1)
    have K2 := Lib.hid (fun W => within_is N 360 true W (decide_eq_true ⟨h2, h3⟩))
    have K3 := Lib.hid (fun W => c_left b p r N W h1 (by omega))
    clear h h1 h2 h3
    generalize Money.valO (lfO p r N b) = v at *
    generalize Money.errO (lfO p r N b) = x at *
    go_enter Try.func10, Try.ntmps10
    go_wp2_with fail
    refine (K1.out _).mono ?_
    rintro e w' ⟨rfl, rfl⟩
    go_wp2_with fail
    refine (K2.out _).mono ?_
    rintro e w' ⟨rfl, rfl⟩
    go_wp2_with fail
    refine (K3.out _).mono ?_
    rintro e w1 ⟨rfl, hb⟩
    have HB := Lib.hid hb
    clear hb
    go_wp2_with fail
    go_ret2
    exact ⟨rfl, HB.out⟩

/-- what Table tells. -/
def Tabs (b p r n : Int) (w : World) (e : Ending) (w' : World) : Prop :=
  ∃ v, e = .returned (.tuple #[v, .int .i64 (tE b p r n)]) ∧ Ints w' w'.heap.size .i64 v (tL b p r n) ∧ Below w.heap.size w w'
theorem c_table_no (b p r n : Int) (w : World) (x y : Bool) (h : (x && y) = false) (h1 : Hid (okL b p r = x)) (h2 : Hid (decide (0 ≤ n ∧ n ≤ 360) = y)) :
    Calls Try.prog 12 #[.int .i64 b, .int .i64 p, .int .i64 r, .int .i64 n] w fun e w' => e = .returned (.tuple #[.slice none 0 0, .int .i64 1]) ∧ Below w.heap.size w w' := by
  have K1 := Lib.hid (fun W => good_is b p r x W h1)
  have K2 := Lib.hid (fun W => within_is n 360 y W h2)
  clear h1 h2
  go_enter Try.func12, Try.ntmps12
  cases x with
  | false =>
    go_wp2_with fail
    refine (K1.out _).mono ?_
    rintro e w' ⟨rfl, rfl⟩
    go_wp2_with fail
    go_ret2
    exact ⟨rfl, Below.refl _ _⟩
  | true =>
    cases y with
    | true => cases h
    | false =>
      go_wp2_with fail
      refine (K1.out _).mono ?_
      rintro e w' ⟨rfl, rfl⟩
      go_wp2_with fail
      refine (K2.out _).mono ?_
      rintro e w' ⟨rfl, rfl⟩
      go_wp2_with fail
      go_ret2
      exact ⟨rfl, Below.refl _ _⟩
theorem c_table (b p r n : Int) (w : World) : Calls Try.prog 12 #[.int .i64 b, .int .i64 p, .int .i64 r, .int .i64 n] w (Tabs b p r n w) := by
  cases h : okM b p r n with
  | false =>
    refine (c_table_no b p r n w _ _ h (Lib.hid rfl) (Lib.hid rfl)).mono ?_
    rintro e w' ⟨rfl, hb⟩
    exact ⟨_, by rw [(tL_no h).2], by rw [(tL_no h).1]; exact Ints.nil_ _ _ _, hb⟩
  | true =>
    unfold Tabs
    rw [(tL_yes h).1, (tL_yes h).2]
    obtain ⟨h1, h2, h3⟩ := okM_iff.1 h
    obtain ⟨N, rfl⟩ : ∃ N : Nat, n = N := ⟨n.toNat, by omega⟩
    rw [Int.toNat_natCast]
    have K1 := Lib.hid (fun W => good_is b p r true W h1)
    have K2 := Lib.hid (fun W => within_is N 360 true W (decide_eq_true ⟨h2, h3⟩))
    have K3 := Lib.hid (fun W => c_tab b p r N W h1 (by omega))
    clear h h1 h2 h3
    generalize tbO p r N b = o at *
    go_enter Try.func12, Try.ntmps12
    go_wp2_with fail
    refine (K1.out _).mono ?_
    rintro e w' ⟨rfl, rfl⟩
    go_wp2_with fail
    refine (K2.out _).mono ?_
    rintro e w' ⟨rfl, rfl⟩
    go_wp2_with fail
    refine (K3.out _).mono ?_
    rintro e w1 ⟨v, rfl, hv, hb⟩
    have HB := Lib.hid hb
    obtain ⟨A, c, rfl, hr⟩ := hv
    have HV : Hid (Ints w1 w1.heap.size .i64 (.slice A (lstO o).length c) (lstO o)) := ⟨A, c, rfl, hr⟩
    clear hb hr
    go_wp2_with fail
    go_ret2
    exact ⟨_, rfl, HV.out, HB.out⟩
end Go.Proofs.Ytkeghiljolojlaa.Level
