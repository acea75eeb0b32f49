/- What the document's own answers of layer 13 are, at every input. The document's own package of layer 14: whether a loan is good, what it owes; two loans alike. The document's own package of layer 14: Owes, Accrue, Capitalize; two loans alike. -/
import Derived.Test.YtkddiaiohnbjpaaGreatDoorGLo
import Derived.Test.YtkddiaiohnbjpaaGreatDoorGAdd
namespace Go.Proofs.YtkddiaiohnbjpaaGreatDoor.RAccr
open Go.ChangeShapes Go.WideShapes Go.ChangeAt Go.RowKit Bits Law Accr Ref

theorem rgood_any (p : Int) (w : World) : Calls Tryz.prog 87 #[.int .i64 p] w fun e w' => e = .returned (.bool (Money.goodB p)) ∧ w = w' := by
  obtain ⟨B, hB⟩ : ∃ B : Bool, B = Money.goodB p := ⟨_, rfl⟩
  rw [← hB]
  by_cases h1 : -10000000000000 ≤ p
  · by_cases h2 : p ≤ 10000000000000
    · have H : Hid (B = true) := hB.trans ((Money.goodB_iff p).2 ⟨h1, h2⟩)
      clear hB
      go_enter Tryz.func87, Tryz.ntmps87
      go_wp2
      go_ret
      exact ⟨ret_b H.out.symm, rfl⟩
    · have H : Hid (B = false) := hB.trans (by rw [Bool.eq_false_iff]; intro h; exact h2 ((Money.goodB_iff p).1 h).2)
      clear hB
      go_enter Tryz.func87, Tryz.ntmps87
      go_wp2
      go_ret
      exact ⟨ret_b H.out.symm, rfl⟩
  · have H : Hid (B = false) := hB.trans (by rw [Bool.eq_false_iff]; intro h; exact h1 ((Money.goodB_iff p).1 h).1)
    clear hB
    go_enter Tryz.func87, Tryz.ntmps87
    go_wp2
    go_ret
    exact ⟨ret_b H.out.symm, rfl⟩

theorem rgood_is (p : Int) (b : Bool) (w : World) (h : Hid (Money.goodB p = b)) : Calls Tryz.prog 87 #[.int .i64 p] w fun e w' => e = .returned (.bool b) ∧ w = w' := by
  have t := rgood_any p w
  rw [h.out] at t; exact t

theorem rmul_small (a b : Int) (w : World) (a0 : 0 ≤ a) (a1 : a ≤ 18446744073709551615) (b0 : 0 ≤ b) (b1 : b ≤ 18446744073709551615) (h : a * b ≤ 18446744073709551615) :
    Calls Tryz.prog 92 #[.int .u64 a, .int .u64 b] w fun e w' => e = .returned (.agg #[.int .u64 0, .int .u64 (a * b)]) ∧ Below w.heap.size w w' := by
  have t := Ref.mul_any a b w a0 a1 b0 b1
  have h0 := Int.mul_nonneg a0 b0
  rw [Int.ediv_eq_zero_of_lt h0 (by omega), Int.emod_eq_of_lt h0 (by omega)] at t
  exact t

theorem rdiv_small (a c : Int) (w : World) (a0 : 0 ≤ a) (a1 : a ≤ 18446744073709551615) (c0 : 0 < c) (c1 : c ≤ 18446744073709551615) :
    Calls Tryz.prog 93 #[.int .u64 0, .int .u64 a, .int .u64 c] w fun e w' => e = .returned (.agg #[.int .u64 (a / c), .int .u64 (a % c), .bool true]) ∧ Below w.heap.size w w' := by
  have t := Ref.div_ok 0 a c w (by omega) c0 c1 a0 a1
  rw [Int.zero_mul, Int.zero_add] at t
  exact t

theorem r_whole (m : Int) (w : World) (h : m ≤ 9223372036854775807) : Calls Tryz.prog 50 #[.int .i64 m] w fun e w' => e = .returned (.int .i64 (wholeI m)) ∧ w = w' := by
  by_cases h1 : m < 0
  · have E : Hid (wholeI m = 0) := by show wholeI m = 0; unfold wholeI; rw [if_pos h1]
    rw [E.out]
    go_enter Tryz.func50, Tryz.ntmps50
    go_wp2
    go_ret
    exact ⟨rfl, rfl⟩
  · have E : Hid (wholeI m = m / 1000000) := by show wholeI m = m / 1000000; unfold wholeI; rw [if_neg h1]
    rw [E.out]
    go_enter Tryz.func50, Tryz.ntmps50
    go_wp2
    go_ret
    exact ⟨rfl, rfl⟩

end Go.Proofs.YtkddiaiohnbjpaaGreatDoor.RAccr
namespace Go.Proofs.YtkddiaiohnbjpaaGreatDoor.RLoan
open Go.ChangeShapes Go.WideShapes Go.ChangeAt Go.RowKit Accr Box Loan Money

theorem money_r (n : Int) (w : World) : Calls Tryz.prog 65 #[.int .i64 n] w fun e w' => e = .returned (.bool (wB n 0 10000000000000)) ∧ w = w' := by
  by_cases h0 : 0 ≤ n
  · have hq : Money.goodB n = wB n 0 10000000000000 := by
      rw [Bool.eq_iff_iff, Money.goodB_iff, wB_iff]; omega
    have K := Lib.hid (fun W => Ref.good_any n W)
    rw [hq] at K
    clear hq
    generalize wB n 0 10000000000000 = B at *
    go_enter Tryz.func65, Tryz.ntmps65
    go_wp2_with fail
    refine (K.out _).mono ?_
    rintro e w' ⟨rfl, rfl⟩
    go_wp2_with fail
    go_ret
    exact ⟨rfl, rfl⟩
  · rw [show wB n 0 10000000000000 = false from wB_not.2 fun h => h0 h.1]
    go_enter Tryz.func65, Tryz.ntmps65
    go_wp2
    go_ret
    exact ⟨rfl, rfl⟩
theorem micro_r (n : Int) (w : World) : Calls Tryz.prog 66 #[.int .i64 n] w fun e w' => e = .returned (.bool (wB n 0 1000000000000000000)) ∧ w = w' := by
  obtain ⟨B, hB⟩ : ∃ B : Bool, B = wB n 0 1000000000000000000 := ⟨_, rfl⟩
  rw [← hB]
  by_cases h1 : 0 ≤ n
  · by_cases h2 : n ≤ 1000000000000000000
    · have H : Hid (B = true) := hB.trans (wB_iff.2 ⟨h1, h2⟩)
      clear hB
      go_enter Tryz.func66, Tryz.ntmps66
      go_wp2
      go_ret
      exact ⟨ret_b H.out.symm, rfl⟩
    · have H : Hid (B = false) := hB.trans (wB_not.2 fun h => h2 h.2)
      clear hB
      go_enter Tryz.func66, Tryz.ntmps66
      go_wp2
      go_ret
      exact ⟨ret_b H.out.symm, rfl⟩
  · have H : Hid (B = false) := hB.trans (wB_not.2 fun h => h1 h.1)
    clear hB
    go_enter Tryz.func66, Tryz.ntmps66
    go_wp2
    go_ret
    exact ⟨ret_b H.out.symm, rfl⟩
theorem day_r (n : Int) (w : World) : Calls Tryz.prog 43 #[.int .i64 n] w fun e w' => e = .returned (.bool (wB n 0 87658)) ∧ w = w' := by
  obtain ⟨B, hB⟩ : ∃ B : Bool, B = wB n 0 87658 := ⟨_, rfl⟩
  rw [← hB]
  by_cases h1 : 0 ≤ n
  · by_cases h2 : n ≤ 87658
    · have H : Hid (B = true) := hB.trans (wB_iff.2 ⟨h1, h2⟩)
      clear hB
      go_enter Tryz.func43, Tryz.ntmps43
      go_wp2
      go_ret
      exact ⟨ret_b H.out.symm, rfl⟩
    · have H : Hid (B = false) := hB.trans (wB_not.2 fun h => h2 h.2)
      clear hB
      go_enter Tryz.func43, Tryz.ntmps43
      go_wp2
      go_ret
      exact ⟨ret_b H.out.symm, rfl⟩
  · have H : Hid (B = false) := hB.trans (wB_not.2 fun h => h1 h.1)
    clear hB
    go_enter Tryz.func43, Tryz.ntmps43
    go_wp2
    go_ret
    exact ⟨ret_b H.out.symm, rfl⟩
theorem good_tests (l : Ln) : goodL l = (!decide (l.id < 1) && (!decide (1000 < l.id) && (wB l.prin 0 10000000000000 && (wB l.fees 0 10000000000000 && (wB l.intr 0 1000000000000000000 && (wB l.subs 0 1000000000000000000 && (!decide (l.ppm < 0) && (!decide (1000000 < l.ppm) && (!decide (l.status < 1) && (!decide (5 < l.status) && (!decide (l.closed < 0) && (!decide (4 < l.closed) && (!decide (l.entered < -1) && (!decide (87658 < l.entered) && (wB l.level 0 10000000000000 && (wB l.far 0 10000000000000 && (!decide (l.count < 0) && ((l.closed == 0) || ((l.prin == 0) && (l.intr == 0) && (l.fees == 0)))))))))))))))))))) := by
  rw [Bool.eq_iff_iff, goodL_iff]
  simp only [Bool.and_eq_true, Bool.or_eq_true, Bool.not_eq_true', decide_eq_false_iff_not, wB_iff, beq_iff_eq]
  constructor
  · intro h
    have h1 := h.id0
    have h2 := h.id1
    have h3 := h.ppm0
    have h4 := h.ppm1
    have h5 := h.status0
    have h6 := h.status1
    have h7 := h.closed0
    have h8 := h.closed1
    have h9 := h.entered0
    have h10 := h.entered1
    have h11 := h.count0
    exact ⟨by omega, by omega, ⟨h.prin0, h.prin1⟩, ⟨h.fees0, h.fees1⟩, ⟨h.intr0, h.intr1⟩, ⟨h.subs0, h.subs1⟩, by omega, by omega, by omega, by omega, by omega, by omega, by omega, by omega, ⟨h.level0, h.level1⟩, ⟨h.far0, h.far1⟩, by omega, h.empty.imp id fun q => ⟨⟨q.1, q.2.1⟩, q.2.2⟩⟩
  · rintro ⟨a1, a2, a3, a4, a5, a6, a7, a8, a9, a10, a11, a12, a13, a14, a15, a16, a17, a18⟩
    exact ⟨by omega, by omega, a3.1, a3.2, a4.1, a4.2, a5.1, a5.2, a6.1, a6.2, by omega, by omega, by omega, by omega, by omega, by omega, by omega, by omega, a15.1, a15.2, a16.1, a16.2, by omega, a18.imp id fun q => ⟨q.1.1, q.1.2, q.2⟩⟩
set_option maxRecDepth 20000 in
set_option maxHeartbeats 4000000 in
theorem r_good (l : Ln) (w : World) : Calls Tryz.prog 26 #[.agg l.cells] w fun e w' => e = .returned (.bool (goodL l)) ∧ Below w.heap.size w w' := by
  rw [good_tests]
  obtain ⟨g, wb, e1, e2, hB, hb⟩ := boxd_new w l.cells 23
  have c0 : wb.cell? ⟨g, 0, none⟩ = some (.int .i64 l.id) := hB.cell
  have c1 : wb.cell? ⟨g, 1, none⟩ = some (.int .i64 l.prin) := hB.cell
  have c2 : wb.cell? ⟨g, 2, none⟩ = some (.int .i64 l.intr) := hB.cell
  have c3 : wb.cell? ⟨g, 3, none⟩ = some (.int .i64 l.subs) := hB.cell
  have c4 : wb.cell? ⟨g, 4, none⟩ = some (.int .i64 l.fees) := hB.cell
  have c5 : wb.cell? ⟨g, 5, none⟩ = some (.int .i64 l.ppm) := hB.cell
  have c7 : wb.cell? ⟨g, 7, none⟩ = some (.int .i64 l.status) := hB.cell
  have c8 : wb.cell? ⟨g, 8, none⟩ = some (.int .i64 l.closed) := hB.cell
  have c9 : wb.cell? ⟨g, 9, none⟩ = some (.int .i64 l.entered) := hB.cell
  have c10 : wb.cell? ⟨g, 10, none⟩ = some (.int .i64 l.level) := hB.cell
  have c11 : wb.cell? ⟨g, 11, none⟩ = some (.int .i64 l.far) := hB.cell
  have c12 : wb.cell? ⟨g, 12, none⟩ = some (.int .i64 l.count) := hB.cell
  have HW := Lib.hid hb
  clear hB hb
  have Kprin := Lib.hid (fun W => money_r l.prin W)
  have Kfees := Lib.hid (fun W => money_r l.fees W)
  have Klevel := Lib.hid (fun W => money_r l.level W)
  have Kfar := Lib.hid (fun W => money_r l.far W)
  have Kintr := Lib.hid (fun W => micro_r l.intr W)
  have Ksubs := Lib.hid (fun W => micro_r l.subs W)
  generalize wB l.prin 0 10000000000000 = b2 at *
  generalize wB l.fees 0 10000000000000 = b3 at *
  generalize wB l.intr 0 1000000000000000000 = b4 at *
  generalize wB l.subs 0 1000000000000000000 = b5 at *
  generalize wB l.level 0 10000000000000 = b14 at *
  generalize wB l.far 0 10000000000000 = b15 at *
  generalize l.id = x0 at *
  generalize l.prin = x1 at *
  generalize l.intr = x2 at *
  generalize l.subs = x3 at *
  generalize l.fees = x4 at *
  generalize l.ppm = x5 at *
  generalize l.status = x7 at *
  generalize l.closed = x8 at *
  generalize l.entered = x9 at *
  generalize l.level = x10 at *
  generalize l.far = x11 at *
  generalize l.count = x12 at *
  generalize l.cells = C at *
  obtain ⟨b0, t0⟩ : ∃ b0 : Bool, decide (x0 < 1) = b0 := ⟨_, rfl⟩
  obtain ⟨b1, t1⟩ : ∃ b1 : Bool, decide (1000 < x0) = b1 := ⟨_, rfl⟩
  obtain ⟨b6, t6⟩ : ∃ b6 : Bool, decide (x5 < 0) = b6 := ⟨_, rfl⟩
  obtain ⟨b7, t7⟩ : ∃ b7 : Bool, decide (1000000 < x5) = b7 := ⟨_, rfl⟩
  obtain ⟨b8, t8⟩ : ∃ b8 : Bool, decide (x7 < 1) = b8 := ⟨_, rfl⟩
  obtain ⟨b9, t9⟩ : ∃ b9 : Bool, decide (5 < x7) = b9 := ⟨_, rfl⟩
  obtain ⟨b10, t10⟩ : ∃ b10 : Bool, decide (x8 < 0) = b10 := ⟨_, rfl⟩
  obtain ⟨b11, t11⟩ : ∃ b11 : Bool, decide (4 < x8) = b11 := ⟨_, rfl⟩
  obtain ⟨b12, t12⟩ : ∃ b12 : Bool, decide (x9 < -1) = b12 := ⟨_, rfl⟩
  obtain ⟨b13, t13⟩ : ∃ b13 : Bool, decide (87658 < x9) = b13 := ⟨_, rfl⟩
  obtain ⟨b16, t16⟩ : ∃ b16 : Bool, decide (x12 < 0) = b16 := ⟨_, rfl⟩
  obtain ⟨b17, t17⟩ : ∃ b17 : Bool, (x8 == 0) = b17 := ⟨_, rfl⟩
  obtain ⟨b18, t18⟩ : ∃ b18 : Bool, (x1 == 0) = b18 := ⟨_, rfl⟩
  obtain ⟨b19, t19⟩ : ∃ b19 : Bool, (x2 == 0) = b19 := ⟨_, rfl⟩
  obtain ⟨b20, t20⟩ : ∃ b20 : Bool, (x4 == 0) = b20 := ⟨_, rfl⟩
  rw [t0, t1, t6, t7, t8, t9, t10, t11, t12, t13, t16, t17, t18, t19, t20]
  go_enter Tryz.func26, Tryz.ntmps26
  go_upto_region 1 with fail
  rw [← e2, ← e1]
  clear e1 e2
  cases b0 with
  | true =>
    clear c1 c2 c3 c4 c5 c7 c8 c9 c10 c11 c12 t1 t6 t7 t8 t9 t10 t11 t12 t13 t16 t17 t18 t19 t20 Kprin Kfees Kintr Ksubs Klevel Kfar
    go_wp2_with fail
    go_ret
    exact ⟨rfl, HW.out⟩
  | false =>
    cases b1 with
    | true =>
      clear c1 c2 c3 c4 c5 c7 c8 c9 c10 c11 c12 t6 t7 t8 t9 t10 t11 t12 t13 t16 t17 t18 t19 t20 Kprin Kfees Kintr Ksubs Klevel Kfar
      go_wp2_with fail
      go_ret
      exact ⟨rfl, HW.out⟩
    | false =>
      go_wp2_with fail
      refine (Kprin.out _).mono ?_
      rintro e w' ⟨rfl, rfl⟩
      cases b2 with
      | false =>
        clear c0 c1 c2 c3 c4 c5 c7 c8 c9 c10 c11 c12 t0 t1 t6 t7 t8 t9 t10 t11 t12 t13 t16 t17 t18 t19 t20 Kprin Kfees Kintr Ksubs Klevel Kfar
        go_wp2_with fail
        go_ret
        exact ⟨rfl, HW.out⟩
      | true =>
        go_wp2_with fail
        refine (Kfees.out _).mono ?_
        rintro e w' ⟨rfl, rfl⟩
        cases b3 with
        | false =>
          clear c0 c1 c2 c3 c4 c5 c7 c8 c9 c10 c11 c12 t0 t1 t6 t7 t8 t9 t10 t11 t12 t13 t16 t17 t18 t19 t20 Kprin Kfees Kintr Ksubs Klevel Kfar
          go_wp2_with fail
          go_ret
          exact ⟨rfl, HW.out⟩
        | true =>
          go_wp2_with fail
          refine (Kintr.out _).mono ?_
          rintro e w' ⟨rfl, rfl⟩
          cases b4 with
          | false =>
            clear c0 c1 c2 c3 c4 c5 c7 c8 c9 c10 c11 c12 t0 t1 t6 t7 t8 t9 t10 t11 t12 t13 t16 t17 t18 t19 t20 Kprin Kfees Kintr Ksubs Klevel Kfar
            go_wp2_with fail
            go_ret
            exact ⟨rfl, HW.out⟩
          | true =>
            go_wp2_with fail
            refine (Ksubs.out _).mono ?_
            rintro e w' ⟨rfl, rfl⟩
            cases b5 with
            | false =>
              clear c0 c1 c2 c3 c4 c5 c7 c8 c9 c10 c11 c12 t0 t1 t6 t7 t8 t9 t10 t11 t12 t13 t16 t17 t18 t19 t20 Kprin Kfees Kintr Ksubs Klevel Kfar
              go_wp2_with fail
              go_ret
              exact ⟨rfl, HW.out⟩
            | true =>
              cases b6 with
              | true =>
                clear c0 c1 c2 c3 c4 c7 c8 c9 c10 c11 c12 t0 t1 t7 t8 t9 t10 t11 t12 t13 t16 t17 t18 t19 t20 Kprin Kfees Kintr Ksubs Klevel Kfar
                go_wp2_with fail
                go_ret
                exact ⟨rfl, HW.out⟩
              | false =>
                cases b7 with
                | true =>
                  clear c0 c1 c2 c3 c4 c7 c8 c9 c10 c11 c12 t0 t1 t8 t9 t10 t11 t12 t13 t16 t17 t18 t19 t20 Kprin Kfees Kintr Ksubs Klevel Kfar
                  go_wp2_with fail
                  go_ret
                  exact ⟨rfl, HW.out⟩
                | false =>
                  cases b8 with
                  | true =>
                    clear c0 c1 c2 c3 c4 c8 c9 c10 c11 c12 t0 t1 t9 t10 t11 t12 t13 t16 t17 t18 t19 t20 Kprin Kfees Kintr Ksubs Klevel Kfar
                    go_wp2_with fail
                    go_ret
                    exact ⟨rfl, HW.out⟩
                  | false =>
                    cases b9 with
                    | true =>
                      clear c0 c1 c2 c3 c4 c8 c9 c10 c11 c12 t0 t1 t10 t11 t12 t13 t16 t17 t18 t19 t20 Kprin Kfees Kintr Ksubs Klevel Kfar
                      go_wp2_with fail
                      go_ret
                      exact ⟨rfl, HW.out⟩
                    | false =>
                      cases b10 with
                      | true =>
                        clear c0 c1 c2 c3 c4 c9 c10 c11 c12 t0 t1 t11 t12 t13 t16 t17 t18 t19 t20 Kprin Kfees Kintr Ksubs Klevel Kfar
                        go_wp2_with fail
                        go_ret
                        exact ⟨rfl, HW.out⟩
                      | false =>
                        cases b11 with
                        | true =>
                          clear c0 c1 c2 c3 c4 c9 c10 c11 c12 t0 t1 t12 t13 t16 t17 t18 t19 t20 Kprin Kfees Kintr Ksubs Klevel Kfar
                          go_wp2_with fail
                          go_ret
                          exact ⟨rfl, HW.out⟩
                        | false =>
                          cases b12 with
                          | true =>
                            clear c0 c1 c2 c3 c4 c10 c11 c12 t0 t1 t13 t16 t17 t18 t19 t20 Kprin Kfees Kintr Ksubs Klevel Kfar
                            go_wp2_with fail
                            go_ret
                            exact ⟨rfl, HW.out⟩
                          | false =>
                            cases b13 with
                            | true =>
                              clear c0 c1 c2 c3 c4 c10 c11 c12 t0 t1 t16 t17 t18 t19 t20 Kprin Kfees Kintr Ksubs Klevel Kfar
                              go_wp2_with fail
                              go_ret
                              exact ⟨rfl, HW.out⟩
                            | false =>
                              go_wp2_with fail
                              refine (Klevel.out _).mono ?_
                              rintro e w' ⟨rfl, rfl⟩
                              cases b14 with
                              | false =>
                                clear c0 c1 c2 c3 c4 c5 c7 c8 c9 c10 c11 c12 t0 t1 t6 t7 t8 t9 t10 t11 t12 t13 t16 t17 t18 t19 t20 Kprin Kfees Kintr Ksubs Klevel Kfar
                                go_wp2_with fail
                                go_ret
                                exact ⟨rfl, HW.out⟩
                              | true =>
                                go_wp2_with fail
                                refine (Kfar.out _).mono ?_
                                rintro e w' ⟨rfl, rfl⟩
                                cases b15 with
                                | false =>
                                  clear c0 c1 c2 c3 c4 c5 c7 c8 c9 c10 c11 c12 t0 t1 t6 t7 t8 t9 t10 t11 t12 t13 t16 t17 t18 t19 t20 Kprin Kfees Kintr Ksubs Klevel Kfar
                                  go_wp2_with fail
                                  go_ret
                                  exact ⟨rfl, HW.out⟩
                                | true =>
                                  cases b16 with
                                  | true =>
                                    clear c0 c1 c2 c3 c4 c5 c7 c8 c9 c10 c11 t0 t1 t6 t7 t8 t9 t10 t11 t12 t13 t17 t18 t19 t20 Kprin Kfees Kintr Ksubs Klevel Kfar
                                    go_wp2_with fail
                                    go_ret
                                    exact ⟨rfl, HW.out⟩
                                  | false =>
                                    clear c0 c3 c5 c7 c9 c10 c11 t0 t1 t6 t7 t8 t9 t10 t11 t12 t13 Kprin Kfees Kintr Ksubs Klevel Kfar
                                    cases b17 with
                                    | true =>
                                      go_wp2_with fail
                                      go_ret
                                      exact ⟨rfl, HW.out⟩
                                    | false =>
                                      cases b18 with
                                      | false =>
                                        go_wp2_with fail
                                        go_ret
                                        exact ⟨rfl, HW.out⟩
                                      | true =>
                                        cases b19 with
                                        | false =>
                                          go_wp2_with fail
                                          go_ret
                                          exact ⟨rfl, HW.out⟩
                                        | true =>
                                          cases b20 with
                                          | false =>
                                            go_wp2_with fail
                                            go_ret
                                            exact ⟨rfl, HW.out⟩
                                          | true =>
                                            go_wp2_with fail
                                            go_ret
                                            exact ⟨rfl, HW.out⟩
end Go.Proofs.YtkddiaiohnbjpaaGreatDoor.RLoan
namespace Go.Proofs.YtkddiaiohnbjpaaGreatDoor.RLoan
open Go.ChangeShapes Go.WideShapes Go.ChangeAt Go.RowKit Accr Box Loan Money

theorem radd3 (a b : Int) (w : World) (a0 : 0 ≤ a) (a1 : a ≤ 10000000000000) (b0 : 0 ≤ b) (b1 : b ≤ 10000000000000) :
    Calls Tryz.prog 49 #[.int .i64 a, .int .i64 b] w fun e w' => e = .returned (.tuple #[.int .i64 (if a + b ≤ 10000000000000 then a + b else 0), .int .i64 (if a + b ≤ 10000000000000 then 0 else 14)]) ∧ w = w' := by
  have h := Ref.add_tells a b w
  by_cases hq : a + b ≤ 10000000000000
  · rw [plusO_some (by simp only [goodB_iff]; omega)] at h
    rw [if_pos hq, if_pos hq]
    exact h
  · rw [plusO_none (by simp only [goodB_iff]; omega)] at h
    rw [if_neg hq, if_neg hq]
    exact h
set_option maxRecDepth 20000 in
set_option maxHeartbeats 2000000 in
theorem alike (l : Ln) (w : World) : Calls Tryz.prog 9 #[.agg l.cells, .agg l.cells] w fun e w' => e = .returned (.bool true) ∧ Below w.heap.size w w' := by
  obtain ⟨g, w0, e0, f0, hB, hb⟩ := boxd_new w l.cells 23
  obtain ⟨k, w1, e1, f1, hK, hb2⟩ := boxd_new w0 l.cells 23
  have b1 : k = g + 1 := by rw [e1, f0, Deep.nblk_alloc, ← e0]
  have HW := Lib.hid (below_to hb hb2)
  replace hB := hB.below hb2
  have c0 : w1.cell? ⟨g, 0, none⟩ = some (.int .i64 l.id) := hB.cell
  have d0 : w1.cell? ⟨k, 0, none⟩ = some (.int .i64 l.id) := hK.cell
  have c1 : w1.cell? ⟨g, 1, none⟩ = some (.int .i64 l.prin) := hB.cell
  have d1 : w1.cell? ⟨k, 1, none⟩ = some (.int .i64 l.prin) := hK.cell
  have c2 : w1.cell? ⟨g, 2, none⟩ = some (.int .i64 l.intr) := hB.cell
  have d2 : w1.cell? ⟨k, 2, none⟩ = some (.int .i64 l.intr) := hK.cell
  have c3 : w1.cell? ⟨g, 3, none⟩ = some (.int .i64 l.subs) := hB.cell
  have d3 : w1.cell? ⟨k, 3, none⟩ = some (.int .i64 l.subs) := hK.cell
  have c4 : w1.cell? ⟨g, 4, none⟩ = some (.int .i64 l.fees) := hB.cell
  have d4 : w1.cell? ⟨k, 4, none⟩ = some (.int .i64 l.fees) := hK.cell
  have c5 : w1.cell? ⟨g, 5, none⟩ = some (.int .i64 l.ppm) := hB.cell
  have d5 : w1.cell? ⟨k, 5, none⟩ = some (.int .i64 l.ppm) := hK.cell
  have c6 : w1.cell? ⟨g, 6, none⟩ = some (.bool l.subd) := hB.cell
  have d6 : w1.cell? ⟨k, 6, none⟩ = some (.bool l.subd) := hK.cell
  have c7 : w1.cell? ⟨g, 7, none⟩ = some (.int .i64 l.status) := hB.cell
  have d7 : w1.cell? ⟨k, 7, none⟩ = some (.int .i64 l.status) := hK.cell
  have c8 : w1.cell? ⟨g, 8, none⟩ = some (.int .i64 l.closed) := hB.cell
  have d8 : w1.cell? ⟨k, 8, none⟩ = some (.int .i64 l.closed) := hK.cell
  have c9 : w1.cell? ⟨g, 9, none⟩ = some (.int .i64 l.entered) := hB.cell
  have d9 : w1.cell? ⟨k, 9, none⟩ = some (.int .i64 l.entered) := hK.cell
  have c10 : w1.cell? ⟨g, 10, none⟩ = some (.int .i64 l.level) := hB.cell
  have d10 : w1.cell? ⟨k, 10, none⟩ = some (.int .i64 l.level) := hK.cell
  have c11 : w1.cell? ⟨g, 11, none⟩ = some (.int .i64 l.far) := hB.cell
  have d11 : w1.cell? ⟨k, 11, none⟩ = some (.int .i64 l.far) := hK.cell
  have c12 : w1.cell? ⟨g, 12, none⟩ = some (.int .i64 l.count) := hB.cell
  have d12 : w1.cell? ⟨k, 12, none⟩ = some (.int .i64 l.count) := hK.cell
  clear hB hK hb hb2
  have t0 : (l.id == l.id) = true := by simp
  have t1 : (l.prin == l.prin) = true := by simp
  have t2 : (l.intr == l.intr) = true := by simp
  have t3 : (l.subs == l.subs) = true := by simp
  have t4 : (l.fees == l.fees) = true := by simp
  have t5 : (l.ppm == l.ppm) = true := by simp
  have t6 : (l.subd == l.subd) = true := by simp
  have t7 : (l.status == l.status) = true := by simp
  have t8 : (l.closed == l.closed) = true := by simp
  have t9 : (l.entered == l.entered) = true := by simp
  have t10 : (l.level == l.level) = true := by simp
  have t11 : (l.far == l.far) = true := by simp
  have t12 : (l.count == l.count) = true := by simp
  generalize l.id = x0 at *
  generalize l.prin = x1 at *
  generalize l.intr = x2 at *
  generalize l.subs = x3 at *
  generalize l.fees = x4 at *
  generalize l.ppm = x5 at *
  generalize l.subd = x6 at *
  generalize l.status = x7 at *
  generalize l.closed = x8 at *
  generalize l.entered = x9 at *
  generalize l.level = x10 at *
  generalize l.far = x11 at *
  generalize l.count = x12 at *
  generalize l.cells = C at *
  go_enter Tryz.func9, Tryz.ntmps9
  go_upto_region 1 with fail
  rw [← f0, ← e0]
  rw [← f1, ← b1]
  clear e0 f0 e1 f1 b1
  go_wp2_with fail
  go_ret
  exact ⟨rfl, HW.out⟩
theorem owes_arg (l : Ln) (w : World) (hg : goodL l = false) : Calls Tryz.prog 19 #[.agg l.cells] w fun e w' => e = .returned (.tuple #[.int .i64 0, .int .i64 1]) ∧ Below w.heap.size w w' := by
  obtain ⟨g, wb, e1, e2, hB, hb⟩ := boxd_new w l.cells 23
  have HB := Lib.hid hB
  have HW := Lib.hid hb
  clear hB hb
  have HS := Lib.hid (ln_info l)
  have KG := Lib.hid (fun W => r_good l W)
  rw [hg] at KG
  clear hg
  generalize l.cells = C at *
  go_enter Tryz.func19, Tryz.ntmps19
  go_upto_region 1 with fail
  rw [← e2, ← e1]
  clear e1 e2
  go_wp2_with (first
    | (refine o_load rfl 23 _ rfl _ rfl _ _ _ HB.out Tryz.underlying23 rfl HS.out ?_)
    | (go_at_call 26; with_reducible refine (KG.out _).mono ?_; rintro e y ⟨rfl, hb⟩; replace HB := Lib.hid (HB.out.below hb); replace HW := Lib.hid (below_to HW.out hb); clear hb))
  go_ret2
  exact ⟨rfl, HW.out⟩
theorem owes_far (l : Ln) (w : World) (hg : goodL l = true) (hl : ¬ l.prin + l.fees ≤ 10000000000000) : Calls Tryz.prog 19 #[.agg l.cells] w fun e w' => e = .returned (.tuple #[.int .i64 0, .int .i64 14]) ∧ Below w.heap.size w w' := by
  obtain ⟨g, wb, e1, e2, hB, hb⟩ := boxd_new w l.cells 23
  have HB := Lib.hid hB
  have HW := Lib.hid hb
  clear hB hb
  have HS := Lib.hid (ln_info l)
  have KG := Lib.hid (fun W => r_good l W)
  have G := goodL_iff.1 hg
  rw [hg] at KG
  obtain ⟨q0, q1, q2⟩ := cents_le G
  have X1 : Hid (l.cells[1]? = some (.int .i64 l.prin)) := show _ = _ from rfl
  have X2 : Hid (l.cells[2]? = some (.int .i64 l.intr)) := show _ = _ from rfl
  have X4 : Hid (l.cells[4]? = some (.int .i64 l.fees)) := show _ = _ from rfl
  have KA := Lib.hid (fun W => radd3 l.prin l.fees W G.prin0 G.prin1 G.fees0 G.fees1)
  rw [if_neg hl, if_neg hl] at KA
  clear hg hl G q0 q1 q2
  generalize l.prin = p at *
  generalize l.fees = f at *
  generalize l.intr = m at *
  generalize l.cells = C at *
  go_enter Tryz.func19, Tryz.ntmps19
  go_upto_region 1 with fail
  rw [← e2, ← e1]
  clear e1 e2
  go_wp2_with (first
    | (refine o_load rfl 23 _ rfl _ rfl _ _ _ HB.out Tryz.underlying23 rfl HS.out ?_)
    | (go_at_call 26; with_reducible refine (KG.out _).mono ?_; rintro e y ⟨rfl, hb⟩; replace HB := Lib.hid (HB.out.below hb); replace HW := Lib.hid (below_to HW.out hb); clear hb; have c1 := (HB.out.cell (i := 1)).trans X1.out; have c4 := (HB.out.cell (i := 4)).trans X4.out; have c2 := (HB.out.cell (i := 2)).trans X2.out)
    | (go_at_call 49; with_reducible refine (KA.out _).mono ?_; rintro e w' ⟨rfl, rfl⟩))
  go_ret2
  exact ⟨rfl, HW.out⟩
theorem owes_over (l : Ln) (w : World) (hg : goodL l = true) (hl : l.prin + l.fees ≤ 10000000000000) (h2 : ¬ sumL l ≤ 10000000000000) : Calls Tryz.prog 19 #[.agg l.cells] w fun e w' => e = .returned (.tuple #[.int .i64 0, .int .i64 14]) ∧ Below w.heap.size w w' := by
  obtain ⟨g, wb, e1, e2, hB, hb⟩ := boxd_new w l.cells 23
  have HB := Lib.hid hB
  have HW := Lib.hid hb
  clear hB hb
  have HS := Lib.hid (ln_info l)
  have KG := Lib.hid (fun W => r_good l W)
  have G := goodL_iff.1 hg
  rw [hg] at KG
  obtain ⟨q0, q1, q2⟩ := cents_le G
  have X1 : Hid (l.cells[1]? = some (.int .i64 l.prin)) := show _ = _ from rfl
  have X2 : Hid (l.cells[2]? = some (.int .i64 l.intr)) := show _ = _ from rfl
  have X4 : Hid (l.cells[4]? = some (.int .i64 l.fees)) := show _ = _ from rfl
  have KA := Lib.hid (fun W => radd3 l.prin l.fees W G.prin0 G.prin1 G.fees0 G.fees1)
  rw [if_pos hl, if_pos hl] at KA
  have KW : Hid (∀ W, Calls Tryz.prog 50 #[.int .i64 l.intr] W fun e w' => e = .returned (.int .i64 (centsL l)) ∧ W = w') := fun W => RAccr.r_whole l.intr W (by have := G.intr1; omega)
  have KB := Lib.hid (fun W => radd3 (l.prin + l.fees) (centsL l) W (by have := G.prin0; have := G.fees0; omega) hl q0 (by omega))
  unfold sumL at h2
  rw [if_neg h2, if_neg h2] at KB
  clear hg hl h2 G q0 q1 q2
  generalize centsL l = c at *
  generalize l.prin + l.fees = s at *
  generalize l.prin = p at *
  generalize l.fees = f at *
  generalize l.intr = m at *
  generalize l.cells = C at *
  go_enter Tryz.func19, Tryz.ntmps19
  go_upto_region 1 with fail
  rw [← e2, ← e1]
  clear e1 e2
  go_wp2_with (first
    | (refine o_load rfl 23 _ rfl _ rfl _ _ _ HB.out Tryz.underlying23 rfl HS.out ?_)
    | (go_at_call 26; with_reducible refine (KG.out _).mono ?_; rintro e y ⟨rfl, hb⟩; replace HB := Lib.hid (HB.out.below hb); replace HW := Lib.hid (below_to HW.out hb); clear hb; have c1 := (HB.out.cell (i := 1)).trans X1.out; have c4 := (HB.out.cell (i := 4)).trans X4.out; have c2 := (HB.out.cell (i := 2)).trans X2.out)
    | (go_at_call 49; with_reducible refine (KA.out _).mono ?_; rintro e w' ⟨rfl, rfl⟩)
    | (go_at_call 49; with_reducible refine (KB.out _).mono ?_; rintro e w' ⟨rfl, rfl⟩)
    | (go_at_call 50; with_reducible refine (KW.out _).mono ?_; rintro e w' ⟨rfl, rfl⟩))
  go_ret2
  exact ⟨rfl, HW.out⟩
theorem owes_all (l : Ln) (w : World) (hg : goodL l = true) (hl : l.prin + l.fees ≤ 10000000000000) (h2 : sumL l ≤ 10000000000000) : Calls Tryz.prog 19 #[.agg l.cells] w fun e w' => e = .returned (.tuple #[.int .i64 (sumL l), .int .i64 0]) ∧ Below w.heap.size w w' := by
  obtain ⟨g, wb, e1, e2, hB, hb⟩ := boxd_new w l.cells 23
  have HB := Lib.hid hB
  have HW := Lib.hid hb
  clear hB hb
  have HS := Lib.hid (ln_info l)
  have KG := Lib.hid (fun W => r_good l W)
  have G := goodL_iff.1 hg
  rw [hg] at KG
  obtain ⟨q0, q1, q2⟩ := cents_le G
  have X1 : Hid (l.cells[1]? = some (.int .i64 l.prin)) := show _ = _ from rfl
  have X2 : Hid (l.cells[2]? = some (.int .i64 l.intr)) := show _ = _ from rfl
  have X4 : Hid (l.cells[4]? = some (.int .i64 l.fees)) := show _ = _ from rfl
  have KA := Lib.hid (fun W => radd3 l.prin l.fees W G.prin0 G.prin1 G.fees0 G.fees1)
  rw [if_pos hl, if_pos hl] at KA
  have KW : Hid (∀ W, Calls Tryz.prog 50 #[.int .i64 l.intr] W fun e w' => e = .returned (.int .i64 (centsL l)) ∧ W = w') := fun W => RAccr.r_whole l.intr W (by have := G.intr1; omega)
  have KB := Lib.hid (fun W => radd3 (l.prin + l.fees) (centsL l) W (by have := G.prin0; have := G.fees0; omega) hl q0 (by omega))
  unfold sumL at *
  rw [if_pos h2, if_pos h2] at KB
  clear hg hl h2 G q0 q1 q2
  generalize centsL l = c at *
  generalize l.prin + l.fees = s at *
  generalize l.prin = p at *
  generalize l.fees = f at *
  generalize l.intr = m at *
  generalize l.cells = C at *
  go_enter Tryz.func19, Tryz.ntmps19
  go_upto_region 1 with fail
  rw [← e2, ← e1]
  clear e1 e2
  go_wp2_with (first
    | (refine o_load rfl 23 _ rfl _ rfl _ _ _ HB.out Tryz.underlying23 rfl HS.out ?_)
    | (go_at_call 26; with_reducible refine (KG.out _).mono ?_; rintro e y ⟨rfl, hb⟩; replace HB := Lib.hid (HB.out.below hb); replace HW := Lib.hid (below_to HW.out hb); clear hb; have c1 := (HB.out.cell (i := 1)).trans X1.out; have c4 := (HB.out.cell (i := 4)).trans X4.out; have c2 := (HB.out.cell (i := 2)).trans X2.out)
    | (go_at_call 49; with_reducible refine (KA.out _).mono ?_; rintro e w' ⟨rfl, rfl⟩)
    | (go_at_call 49; with_reducible refine (KB.out _).mono ?_; rintro e w' ⟨rfl, rfl⟩)
    | (go_at_call 50; with_reducible refine (KW.out _).mono ?_; rintro e w' ⟨rfl, rfl⟩))
  go_ret2
  exact ⟨rfl, HW.out⟩
theorem r_owes (l : Ln) (w : World) : Calls Tryz.prog 19 #[.agg l.cells] w fun e w' => e = .returned (.tuple #[.int .i64 (owesR l).1, .int .i64 (owesR l).2]) ∧ Below w.heap.size w w' := by
  cases hg : goodL l with
  | false =>
    rw [show owesR l = (0, 1) by unfold owesR; simp only [hg]; rfl]
    exact owes_arg l w hg
  | true =>
    have G := goodL_iff.1 hg
    by_cases h2 : sumL l ≤ 10000000000000
    · rw [show owesR l = (sumL l, 0) by unfold owesR; simp only [hg, if_pos h2]; rfl]
      exact owes_all l w hg (by obtain ⟨q0, q1, q2⟩ := cents_le G; unfold sumL at h2; omega) h2
    · rw [show owesR l = (0, 14) by unfold owesR; simp only [hg, if_neg h2]; rfl]
      by_cases hl : l.prin + l.fees ≤ 10000000000000
      · exact owes_over l w hg hl h2
      · exact owes_far l w hg hl
theorem day_tests (d : Int) : dayB d = (!decide (d < 0) && !decide (87658 < d)) := by
  unfold dayB
  rw [Bool.eq_iff_iff, wB_iff]
  simp only [Bool.and_eq_true, Bool.not_eq_true', decide_eq_false_iff_not]
  omega
theorem shut_test {l : Ln} (h : openB l = false) : (l.closed != 0) = true := by
  unfold openB at h
  rw [bne, h]; rfl
theorem open_test {l : Ln} (h : openB l = true) : (l.closed != 0) = false := by
  unfold openB at h
  rw [bne, h]; rfl
end Go.Proofs.YtkddiaiohnbjpaaGreatDoor.RLoan
