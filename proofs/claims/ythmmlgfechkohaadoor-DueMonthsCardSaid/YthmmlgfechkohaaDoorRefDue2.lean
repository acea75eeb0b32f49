/- The document's own InTime, Late, Year, Whole, at every input; two lists of ints that are one are told alike. -/
import Derived.Test.YthmmlgfechkohaaDoorRefDue
namespace Go.Proofs.YthmmlgfechkohaaDoor.Due
open Go.ChangeShapes Go.WideShapes Go.ChangeAt Go.RowKit Cal Date Slice

theorem firE_yes {m : Int} (h : monB m = true) : firE m = 0 := by rw [firE_mon, h]; rfl
theorem firE_no {m : Int} (h : monB m = false) : firE m = 15 := by rw [firE_mon, h]; rfl
theorem r_in (m d : Int) (w : World) : Calls Tryd.prog 15 #[.int .i64 m, .int .i64 d] w fun e w' => e = .returned (.bool (inB m d)) ∧ w = w' := by
  cases hm : monB m with
  | false =>
    have H : Hid (inB m d = false) := show _ = _ by unfold inB; rw [hm]; rfl
    have F := rfirst_any m
    rw [firE_no hm] at F
    generalize firV m = f at *
    clear hm
    go_enter Tryd.func15, Tryd.ntmps15
    go_wp2_with fail
    refine (F _).mono ?_
    rintro e w1 ⟨rfl, rfl⟩
    go_wp2_with fail
    go_ret
    exact ⟨ret_bool H.out.symm, rfl⟩
  | true =>
    have F := rfirst_any m
    rw [firE_yes hm] at F
    obtain ⟨f0, f1⟩ := firV_range m
    cases hd : dayB d with
    | false =>
      have H : Hid (inB m d = false) := show _ = _ by unfold inB; rw [hm, hd]; rfl
      have G := rday_any d
      rw [hd] at G
      generalize firV m = f at *
      clear hm hd
      go_enter Tryd.func15, Tryd.ntmps15
      go_wp2_with fail
      refine (F _).mono ?_
      rintro e w1 ⟨rfl, rfl⟩
      go_wp2_with fail
      refine (G _).mono ?_
      rintro e w1 ⟨rfl, rfl⟩
      go_wp2_with fail
      go_ret
      exact ⟨ret_bool H.out.symm, rfl⟩
    | true =>
      have H : Hid (inB m d = decide (d ≤ firV m + 15)) := show _ = _ by unfold inB; rw [hm, hd]; rfl
      have G := rday_any d
      rw [hd] at G
      generalize firV m = f at *
      clear hm hd
      go_enter Tryd.func15, Tryd.ntmps15
      go_wp2_with fail
      refine (F _).mono ?_
      rintro e w1 ⟨rfl, rfl⟩
      go_wp2_with fail
      refine (G _).mono ?_
      rintro e w1 ⟨rfl, rfl⟩
      go_wp2_with fail
      go_ret
      exact ⟨ret_bool H.out.symm, rfl⟩
theorem r_late (m d : Int) (w : World) : Calls Tryd.prog 17 #[.int .i64 m, .int .i64 d] w fun e w' => e = .returned (.int .i64 (lateV m d)) ∧ w = w' := by
  cases hm : monB m with
  | false =>
    have H : Hid (lateV m d = 0) := show _ = _ by unfold lateV; rw [hm]; rfl
    have F := rfirst_any m
    rw [firE_no hm] at F
    generalize firV m = f at *
    clear hm
    go_enter Tryd.func17, Tryd.ntmps17
    go_wp2_with fail
    refine (F _).mono ?_
    rintro e w1 ⟨rfl, rfl⟩
    go_wp2_with fail
    go_ret
    exact ⟨ret_int H.out.symm, rfl⟩
  | true =>
    have F := rfirst_any m
    rw [firE_yes hm] at F
    obtain ⟨f0, f1⟩ := firV_range m
    cases hd : dayB d with
    | false =>
      have H : Hid (lateV m d = 0) := show _ = _ by unfold lateV; rw [hm, hd]; rfl
      have G := rday_any d
      rw [hd] at G
      generalize firV m = f at *
      clear hm hd
      go_enter Tryd.func17, Tryd.ntmps17
      go_wp2_with fail
      refine (F _).mono ?_
      rintro e w1 ⟨rfl, rfl⟩
      go_wp2_with fail
      refine (G _).mono ?_
      rintro e w1 ⟨rfl, rfl⟩
      go_wp2_with fail
      go_ret
      exact ⟨ret_int H.out.symm, rfl⟩
    | true =>
      have hn := of_decide_eq_true hd
      have G := rday_any d
      rw [hd] at G
      by_cases hx : d ≤ firV m + 15
      · have H : Hid (lateV m d = 0) := show _ = _ by unfold lateV; rw [hm, hd, Bool.and_self, if_pos rfl, Int.max_eq_left (by omega)]
        have t1 : decide ((0 : Int) < d - firV m - 15) = false := decide_eq_false (by omega)
        have t2 : ¬ (0 : Int) < d - firV m - 15 := by omega
        generalize firV m = f at *
        clear hm hd
        go_enter Tryd.func17, Tryd.ntmps17
        go_wp2_with fail
        refine (F _).mono ?_
        rintro e w1 ⟨rfl, rfl⟩
        go_wp2_with fail
        refine (G _).mono ?_
        rintro e w1 ⟨rfl, rfl⟩
        go_wp2_with fail
        go_ret
        exact ⟨ret_int H.out.symm, rfl⟩
      · have H : Hid (lateV m d = d - firV m - 15) := show _ = _ by unfold lateV; rw [hm, hd, Bool.and_self, if_pos rfl, Int.max_eq_right (by omega)]
        have t1 : decide ((0 : Int) < d - firV m - 15) = true := decide_eq_true (by omega)
        have t2 : (0 : Int) < d - firV m - 15 := by omega
        generalize firV m = f at *
        clear hm hd
        go_enter Tryd.func17, Tryd.ntmps17
        go_wp2_with fail
        refine (F _).mono ?_
        rintro e w1 ⟨rfl, rfl⟩
        go_wp2_with fail
        refine (G _).mono ?_
        rintro e w1 ⟨rfl, rfl⟩
        go_wp2_with fail
        go_ret
        exact ⟨ret_int H.out.symm, rfl⟩
theorem r_year (d n : Int) (w : World) : Calls Tryd.prog 13 #[.int .i64 d, .int .i64 n] w fun e w' => e = .returned (.tuple #[.int .i64 (yrV d n), .int .i64 (yrE d n)]) ∧ Below w.heap.size w w' := by
  by_cases h1 : n < 0
  · have hb : yrB n = false := decide_eq_false (by omega)
    have H : Hid (yrV d n = 0 ∧ yrE d n = 1) := show _ ∧ _ by unfold yrV yrE; rw [hb]; exact ⟨rfl, rfl⟩
    have t1 := decide_eq_true h1
    go_enter Tryd.func13, Tryd.ntmps13
    go_wp2_with fail
    go_ret2
    exact ⟨ret_two H.out.1.symm H.out.2.symm, Below.refl _ _⟩
  by_cases h2 : 240 < n
  · have hb : yrB n = false := decide_eq_false (by omega)
    have H : Hid (yrV d n = 0 ∧ yrE d n = 1) := show _ ∧ _ by unfold yrV yrE; rw [hb]; exact ⟨rfl, rfl⟩
    have t1 := decide_eq_false h1
    have t2 := decide_eq_true h2
    go_enter Tryd.func13, Tryd.ntmps13
    go_wp2_with fail
    go_ret2
    exact ⟨ret_two H.out.1.symm H.out.2.symm, Below.refl _ _⟩
  have hb : yrB n = true := decide_eq_true (by omega)
  have H : Hid (yrV d n = addV d (12 * n) ∧ yrE d n = addE d (12 * n)) := show _ ∧ _ by unfold yrV yrE; rw [hb]; exact ⟨rfl, rfl⟩
  have t1 := decide_eq_false h1
  have t2 := decide_eq_false h2
  have A := radd_any d (12 * n)
  generalize addV d (12 * n) = a at *
  generalize addE d (12 * n) = x at *
  go_enter Tryd.func13, Tryd.ntmps13
  go_wp2_with fail
  refine (A _).mono ?_
  rintro e w1 ⟨rfl, b1⟩
  go_wp2_with fail
  go_ret2
  exact ⟨ret_two H.out.1.symm H.out.2.symm, b1⟩
set_option maxHeartbeats 400000 in
/-- Two lists that are one are told alike. -/
theorem ints_same (zs : List Int) (v u : Value) (B : Nat) (w : World) (hv : Ints w B .i64 v zs) (hu : Ints w B .i64 u zs) :
    Calls Tryd.prog 8 #[v, u] w fun e w' => e = .returned (.bool true) ∧ ∃ n, w' = w.drewN n := by
  obtain ⟨A, c, rfl, hl, -, hcell⟩ := hv
  obtain ⟨A', c', rfl, -, -, hcell'⟩ := hu
  have HC := Lib.hid hcell
  have HC' := Lib.hid hcell'
  clear hcell hcell'
  go_enter Tryd.func8, Tryd.ntmps8
  go_wp2_with fail
  go_loopw [5] (fun t wr => ∃ j : Nat, j ≤ zs.length ∧ t = .int .i64 j ∧ ∃ n, wr = w.drewN n) (fun t _ => zs.length - (intOf t).toNat)
  case atStart => exact ⟨0, Nat.zero_le _, rfl, 0, rfl⟩
  case round =>
    obtain ⟨j, hj, rfl, n, rfl⟩ := hrel
    by_cases hlt : j < zs.length
    · obtain ⟨b, off, rfl, hb, hcell⟩ := HC.out (by omega)
      obtain ⟨b', off', rfl, hb', hcell'⟩ := HC'.out (by omega)
      have hx := hcell j hlt
      have hx' := hcell' j hlt
      clear hcell hcell'
      generalize zs.getD j 0 = x at *
      have h0 : (0 : Int) ≤ j := by omega
      go_wp2_with fail
      go_quiet (fail)
      go_wp2_with fail
      go_roundw
      case rel => exact ⟨j + 1, by omega, by go_num, _, rfl⟩
      case measure => simp [intOf]; omega
    · go_wp2_with fail
      go_ret
      exact ⟨rfl, _, rfl⟩
end Go.Proofs.YthmmlgfechkohaaDoor.Due
