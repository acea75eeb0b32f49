/- The document's own package of layer 14: whether a loan is good, what it owes; two loans alike. -/
import Derived.Test.YtkegmgjagcefhaaLoanMath
import Derived.Test.YtkegmgjagcefhaaRefAdd
import Derived.Test.YtkegmgjagcefhaaRefAccrue
namespace Go.Proofs.Ytkegmgjagcefhaa.RLoan
open Go.ChangeShapes Go.WideShapes Go.ChangeAt Go.RowKit Accr Box Loan Money

theorem money_r (n : Int) (w : World) : Calls Try.prog 48 #[.int .i64 n] w fun e w' => e = .returned (.bool (wB n 0 10000000000000)) ∧ w = w' := by
  by_cases h0 : 0 ≤ n
  · have hq : Money.goodB n = wB n 0 10000000000000 := by
      rw [Bool.eq_iff_iff, Money.goodB_iff, wB_iff]; omega
    have K := Lib.hid (fun W => Ref.good_any n W)
    rw [hq] at K
    clear hq
    generalize wB n 0 10000000000000 = B at *
    go_enter Try.func48, Try.ntmps48
    go_wp2_with fail
    refine (K.out _).mono ?_
    rintro e w' ⟨rfl, rfl⟩
    go_wp2_with fail
    go_ret
    exact ⟨rfl, rfl⟩
  · rw [show wB n 0 10000000000000 = false from wB_not.2 fun h => h0 h.1]
    go_enter Try.func48, Try.ntmps48
    go_wp2
    go_ret
    exact ⟨rfl, rfl⟩
theorem micro_r (n : Int) (w : World) : Calls Try.prog 49 #[.int .i64 n] w fun e w' => e = .returned (.bool (wB n 0 1000000000000000000)) ∧ w = w' := by
  obtain ⟨B, hB⟩ : ∃ B : Bool, B = wB n 0 1000000000000000000 := ⟨_, rfl⟩
  rw [← hB]
  by_cases h1 : 0 ≤ n
  · by_cases h2 : n ≤ 1000000000000000000
    · have H : Hid (B = true) := hB.trans (wB_iff.2 ⟨h1, h2⟩)
      clear hB
      go_enter Try.func49, Try.ntmps49
      go_wp2
      go_ret
      exact ⟨ret_b H.out.symm, rfl⟩
    · have H : Hid (B = false) := hB.trans (wB_not.2 fun h => h2 h.2)
      clear hB
      go_enter Try.func49, Try.ntmps49
      go_wp2
      go_ret
      exact ⟨ret_b H.out.symm, rfl⟩
  · have H : Hid (B = false) := hB.trans (wB_not.2 fun h => h1 h.1)
    clear hB
    go_enter Try.func49, Try.ntmps49
    go_wp2
    go_ret
    exact ⟨ret_b H.out.symm, rfl⟩
theorem day_r (n : Int) (w : World) : Calls Try.prog 52 #[.int .i64 n] w fun e w' => e = .returned (.bool (wB n 0 87658)) ∧ w = w' := by
  obtain ⟨B, hB⟩ : ∃ B : Bool, B = wB n 0 87658 := ⟨_, rfl⟩
  rw [← hB]
  by_cases h1 : 0 ≤ n
  · by_cases h2 : n ≤ 87658
    · have H : Hid (B = true) := hB.trans (wB_iff.2 ⟨h1, h2⟩)
      clear hB
      go_enter Try.func52, Try.ntmps52
      go_wp2
      go_ret
      exact ⟨ret_b H.out.symm, rfl⟩
    · have H : Hid (B = false) := hB.trans (wB_not.2 fun h => h2 h.2)
      clear hB
      go_enter Try.func52, Try.ntmps52
      go_wp2
      go_ret
      exact ⟨ret_b H.out.symm, rfl⟩
  · have H : Hid (B = false) := hB.trans (wB_not.2 fun h => h1 h.1)
    clear hB
    go_enter Try.func52, Try.ntmps52
    go_wp2
    go_ret
    exact ⟨ret_b H.out.symm, rfl⟩
theorem good_tests (l : Ln) : goodL l = (!decide (l.id < 1) && (!decide (1000 < l.id) && (wB l.prin 0 10000000000000 && (wB l.fees 0 10000000000000 && (wB l.intr 0 1000000000000000000 && (wB l.subs 0 1000000000000000000 && (!decide (l.ppm < 0) && (!decide (1000000 < l.ppm) && (!decide (l.status < 1) && (!decide (5 < l.status) && (!decide (l.closed < 0) && (!decide (4 < l.closed) && (!decide (l.entered < -1) && (!decide (87658 < l.entered) && (wB l.level 0 10000000000000 && (wB l.far 0 10000000000000 && (!decide (l.count < 0) && ((l.closed == 0) || ((l.prin == 0) && (l.intr == 0) && (l.fees == 0)))))))))))))))))))) := by
  rw [Bool.eq_iff_iff, goodL_iff]
  simp only [Bool.and_eq_true, Bool.or_eq_true, Bool.not_eq_true', decide_eq_false_iff_not, wB_iff, beq_iff_eq]
  constructor
  · intro h
    have h1 := h.id0
    have h2 := h.id1
    have h3 := h.ppm0
    have h4 := h.ppm1
    have h5 := h.status0
    have h6 := h.status1
    have h7 := h.closed0
    have h8 := h.closed1
    have h9 := h.entered0
    have h10 := h.entered1
    have h11 := h.count0
    exact ⟨by omega, by omega, ⟨h.prin0, h.prin1⟩, ⟨h.fees0, h.fees1⟩, ⟨h.intr0, h.intr1⟩, ⟨h.subs0, h.subs1⟩, by omega, by omega, by omega, by omega, by omega, by omega, by omega, by omega, ⟨h.level0, h.level1⟩, ⟨h.far0, h.far1⟩, by omega, h.empty.imp id fun q => ⟨⟨q.1, q.2.1⟩, q.2.2⟩⟩
  · rintro ⟨a1, a2, a3, a4, a5, a6, a7, a8, a9, a10, a11, a12, a13, a14, a15, a16, a17, a18⟩
    exact ⟨by omega, by omega, a3.1, a3.2, a4.1, a4.2, a5.1, a5.2, a6.1, a6.2, by omega, by omega, by omega, by omega, by omega, by omega, by omega, by omega, a15.1, a15.2, a16.1, a16.2, by omega, a18.imp id fun q => ⟨q.1.1, q.1.2, q.2⟩⟩
set_option maxRecDepth 20000 in
set_option maxHeartbeats 4000000 in
theorem r_good (l : Ln) (w : World) : Calls Try.prog 15 #[.agg l.cells] w fun e w' => e = .returned (.bool (goodL l)) ∧ Below w.heap.size w w' := by
  rw [good_tests]
  obtain ⟨g, wb, e1, e2, hB, hb⟩ := boxd_new w l.cells 23
  have c0 : wb.cell? ⟨g, 0, none⟩ = some (.int .i64 l.id) := hB.cell
  have c1 : wb.cell? ⟨g, 1, none⟩ = some (.int .i64 l.prin) := hB.cell
  have c2 : wb.cell? ⟨g, 2, none⟩ = some (.int .i64 l.intr) := hB.cell
  have c3 : wb.cell? ⟨g, 3, none⟩ = some (.int .i64 l.subs) := hB.cell
  have c4 : wb.cell? ⟨g, 4, none⟩ = some (.int .i64 l.fees) := hB.cell
  have c5 : wb.cell? ⟨g, 5, none⟩ = some (.int .i64 l.ppm) := hB.cell
  have c7 : wb.cell? ⟨g, 7, none⟩ = some (.int .i64 l.status) := hB.cell
  have c8 : wb.cell? ⟨g, 8, none⟩ = some (.int .i64 l.closed) := hB.cell
  have c9 : wb.cell? ⟨g, 9, none⟩ = some (.int .i64 l.entered) := hB.cell
  have c10 : wb.cell? ⟨g, 10, none⟩ = some (.int .i64 l.level) := hB.cell
  have c11 : wb.cell? ⟨g, 11, none⟩ = some (.int .i64 l.far) := hB.cell
  have c12 : wb.cell? ⟨g, 12, none⟩ = some (.int .i64 l.count) := hB.cell
  have HW := Lib.hid hb
  clear hB hb
  have Kprin := Lib.hid (fun W => money_r l.prin W)
  have Kfees := Lib.hid (fun W => money_r l.fees W)
  have Klevel := Lib.hid (fun W => money_r l.level W)
  have Kfar := Lib.hid (fun W => money_r l.far W)
  have Kintr := Lib.hid (fun W => micro_r l.intr W)
  have Ksubs := Lib.hid (fun W => micro_r l.subs W)
  generalize wB l.prin 0 10000000000000 = b2 at *
  generalize wB l.fees 0 10000000000000 = b3 at *
  generalize wB l.intr 0 1000000000000000000 = b4 at *
  generalize wB l.subs 0 1000000000000000000 = b5 at *
  generalize wB l.level 0 10000000000000 = b14 at *
  generalize wB l.far 0 10000000000000 = b15 at *
  generalize l.id = x0 at *
  generalize l.prin = x1 at *
  generalize l.intr = x2 at *
  generalize l.subs = x3 at *
  generalize l.fees = x4 at *
  generalize l.ppm = x5 at *
  generalize l.status = x7 at *
  generalize l.closed = x8 at *
  generalize l.entered = x9 at *
  generalize l.level = x10 at *
  generalize l.far = x11 at *
  generalize l.count = x12 at *
  generalize l.cells = C at *
  obtain ⟨b0, t0⟩ : ∃ b0 : Bool, decide (x0 < 1) = b0 := ⟨_, rfl⟩
  obtain ⟨b1, t1⟩ : ∃ b1 : Bool, decide (1000 < x0) = b1 := ⟨_, rfl⟩
  obtain ⟨b6, t6⟩ : ∃ b6 : Bool, decide (x5 < 0) = b6 := ⟨_, rfl⟩
  obtain ⟨b7, t7⟩ : ∃ b7 : Bool, decide (1000000 < x5) = b7 := ⟨_, rfl⟩
  obtain ⟨b8, t8⟩ : ∃ b8 : Bool, decide (x7 < 1) = b8 := ⟨_, rfl⟩
  obtain ⟨b9, t9⟩ : ∃ b9 : Bool, decide (5 < x7) = b9 := ⟨_, rfl⟩
  obtain ⟨b10, t10⟩ : ∃ b10 : Bool, decide (x8 < 0) = b10 := ⟨_, rfl⟩
  obtain ⟨b11, t11⟩ : ∃ b11 : Bool, decide (4 < x8) = b11 := ⟨_, rfl⟩
  obtain ⟨b12, t12⟩ : ∃ b12 : Bool, decide (x9 < -1) = b12 := ⟨_, rfl⟩
  obtain ⟨b13, t13⟩ : ∃ b13 : Bool, decide (87658 < x9) = b13 := ⟨_, rfl⟩
  obtain ⟨b16, t16⟩ : ∃ b16 : Bool, decide (x12 < 0) = b16 := ⟨_, rfl⟩
  obtain ⟨b17, t17⟩ : ∃ b17 : Bool, (x8 == 0) = b17 := ⟨_, rfl⟩
  obtain ⟨b18, t18⟩ : ∃ b18 : Bool, (x1 == 0) = b18 := ⟨_, rfl⟩
  obtain ⟨b19, t19⟩ : ∃ b19 : Bool, (x2 == 0) = b19 := ⟨_, rfl⟩
  obtain ⟨b20, t20⟩ : ∃ b20 : Bool, (x4 == 0) = b20 := ⟨_, rfl⟩
  rw [t0, t1, t6, t7, t8, t9, t10, t11, t12, t13, t16, t17, t18, t19, t20]
  go_enter Try.func15, Try.ntmps15
  go_upto_region 1 with fail
  rw [← e2, ← e1]
  clear e1 e2
  cases b0 with
  | true =>
    clear c1 c2 c3 c4 c5 c7 c8 c9 c10 c11 c12 t1 t6 t7 t8 t9 t10 t11 t12 t13 t16 t17 t18 t19 t20 Kprin Kfees Kintr Ksubs Klevel Kfar
    go_wp2_with fail
    go_ret
    exact ⟨rfl, HW.out⟩
  | false =>
    cases b1 with
    | true =>
      clear c1 c2 c3 c4 c5 c7 c8 c9 c10 c11 c12 t6 t7 t8 t9 t10 t11 t12 t13 t16 t17 t18 t19 t20 Kprin Kfees Kintr Ksubs Klevel Kfar
      go_wp2_with fail
      go_ret
      exact ⟨rfl, HW.out⟩
    | false =>
      go_wp2_with fail
      refine (Kprin.out _).mono ?_
      rintro e w' ⟨rfl, rfl⟩
      cases b2 with
      | false =>
        clear c0 c1 c2 c3 c4 c5 c7 c8 c9 c10 c11 c12 t0 t1 t6 t7 t8 t9 t10 t11 t12 t13 t16 t17 t18 t19 t20 Kprin Kfees Kintr Ksubs Klevel Kfar
        go_wp2_with fail
        go_ret
        exact ⟨rfl, HW.out⟩
      | true =>
        go_wp2_with fail
        refine (Kfees.out _).mono ?_
        rintro e w' ⟨rfl, rfl⟩
        cases b3 with
        | false =>
          clear c0 c1 c2 c3 c4 c5 c7 c8 c9 c10 c11 c12 t0 t1 t6 t7 t8 t9 t10 t11 t12 t13 t16 t17 t18 t19 t20 Kprin Kfees Kintr Ksubs Klevel Kfar
          go_wp2_with fail
          go_ret
          exact ⟨rfl, HW.out⟩
        | true =>
          go_wp2_with fail
          refine (Kintr.out _).mono ?_
          rintro e w' ⟨rfl, rfl⟩
          cases b4 with
          | false =>
            clear c0 c1 c2 c3 c4 c5 c7 c8 c9 c10 c11 c12 t0 t1 t6 t7 t8 t9 t10 t11 t12 t13 t16 t17 t18 t19 t20 Kprin Kfees Kintr Ksubs Klevel Kfar
            go_wp2_with fail
            go_ret
            exact ⟨rfl, HW.out⟩
          | true =>
            go_wp2_with fail
            refine (Ksubs.out _).mono ?_
            rintro e w' ⟨rfl, rfl⟩
            cases b5 with
            | false =>
              clear c0 c1 c2 c3 c4 c5 c7 c8 c9 c10 c11 c12 t0 t1 t6 t7 t8 t9 t10 t11 t12 t13 t16 t17 t18 t19 t20 Kprin Kfees Kintr Ksubs Klevel Kfar
              go_wp2_with fail
              go_ret
              exact ⟨rfl, HW.out⟩
            | true =>
              cases b6 with
              | true =>
                clear c0 c1 c2 c3 c4 c7 c8 c9 c10 c11 c12 t0 t1 t7 t8 t9 t10 t11 t12 t13 t16 t17 t18 t19 t20 Kprin Kfees Kintr Ksubs Klevel Kfar
                go_wp2_with fail
                go_ret
                exact ⟨rfl, HW.out⟩
              | false =>
                cases b7 with
                | true =>
                  clear c0 c1 c2 c3 c4 c7 c8 c9 c10 c11 c12 t0 t1 t8 t9 t10 t11 t12 t13 t16 t17 t18 t19 t20 Kprin Kfees Kintr Ksubs Klevel Kfar
                  go_wp2_with fail
                  go_ret
                  exact ⟨rfl, HW.out⟩
                | false =>
                  cases b8 with
                  | true =>
                    clear c0 c1 c2 c3 c4 c8 c9 c10 c11 c12 t0 t1 t9 t10 t11 t12 t13 t16 t17 t18 t19 t20 Kprin Kfees Kintr Ksubs Klevel Kfar
                    go_wp2_with fail
                    go_ret
                    exact ⟨rfl, HW.out⟩
                  | false =>
                    cases b9 with
                    | true =>
                      clear c0 c1 c2 c3 c4 c8 c9 c10 c11 c12 t0 t1 t10 t11 t12 t13 t16 t17 t18 t19 t20 Kprin Kfees Kintr Ksubs Klevel Kfar
                      go_wp2_with fail
                      go_ret
                      exact ⟨rfl, HW.out⟩
                    | false =>
                      cases b10 with
                      | true =>
                        clear c0 c1 c2 c3 c4 c9 c10 c11 c12 t0 t1 t11 t12 t13 t16 t17 t18 t19 t20 Kprin Kfees Kintr Ksubs Klevel Kfar
                        go_wp2_with fail
                        go_ret
                        exact ⟨rfl, HW.out⟩
                      | false =>
                        cases b11 with
                        | true =>
                          clear c0 c1 c2 c3 c4 c9 c10 c11 c12 t0 t1 t12 t13 t16 t17 t18 t19 t20 Kprin Kfees Kintr Ksubs Klevel Kfar
                          go_wp2_with fail
                          go_ret
                          exact ⟨rfl, HW.out⟩
                        | false =>
                          cases b12 with
                          | true =>
                            clear c0 c1 c2 c3 c4 c10 c11 c12 t0 t1 t13 t16 t17 t18 t19 t20 Kprin Kfees Kintr Ksubs Klevel Kfar
                            go_wp2_with fail
                            go_ret
                            exact ⟨rfl, HW.out⟩
                          | false =>
                            cases b13 with
                            | true =>
                              clear c0 c1 c2 c3 c4 c10 c11 c12 t0 t1 t16 t17 t18 t19 t20 Kprin Kfees Kintr Ksubs Klevel Kfar
                              go_wp2_with fail
                              go_ret
                              exact ⟨rfl, HW.out⟩
                            | false =>
                              go_wp2_with fail
                              refine (Klevel.out _).mono ?_
                              rintro e w' ⟨rfl, rfl⟩
                              cases b14 with
                              | false =>
                                clear c0 c1 c2 c3 c4 c5 c7 c8 c9 c10 c11 c12 t0 t1 t6 t7 t8 t9 t10 t11 t12 t13 t16 t17 t18 t19 t20 Kprin Kfees Kintr Ksubs Klevel Kfar
                                go_wp2_with fail
                                go_ret
                                exact ⟨rfl, HW.out⟩
                              | true =>
                                go_wp2_with fail
                                refine (Kfar.out _).mono ?_
                                rintro e w' ⟨rfl, rfl⟩
                                cases b15 with
                                | false =>
                                  clear c0 c1 c2 c3 c4 c5 c7 c8 c9 c10 c11 c12 t0 t1 t6 t7 t8 t9 t10 t11 t12 t13 t16 t17 t18 t19 t20 Kprin Kfees Kintr Ksubs Klevel Kfar
                                  go_wp2_with fail
                                  go_ret
                                  exact ⟨rfl, HW.out⟩
                                | true =>
                                  cases b16 with
                                  | true =>
                                    clear c0 c1 c2 c3 c4 c5 c7 c8 c9 c10 c11 t0 t1 t6 t7 t8 t9 t10 t11 t12 t13 t17 t18 t19 t20 Kprin Kfees Kintr Ksubs Klevel Kfar
                                    go_wp2_with fail
                                    go_ret
                                    exact ⟨rfl, HW.out⟩
                                  | false =>
                                    clear c0 c3 c5 c7 c9 c10 c11 t0 t1 t6 t7 t8 t9 t10 t11 t12 t13 Kprin Kfees Kintr Ksubs Klevel Kfar
                                    cases b17 with
                                    | true =>
                                      go_wp2_with fail
                                      go_ret
                                      exact ⟨rfl, HW.out⟩
                                    | false =>
                                      cases b18 with
                                      | false =>
                                        go_wp2_with fail
                                        go_ret
                                        exact ⟨rfl, HW.out⟩
                                      | true =>
                                        cases b19 with
                                        | false =>
                                          go_wp2_with fail
                                          go_ret
                                          exact ⟨rfl, HW.out⟩
                                        | true =>
                                          cases b20 with
                                          | false =>
                                            go_wp2_with fail
                                            go_ret
                                            exact ⟨rfl, HW.out⟩
                                          | true =>
                                            go_wp2_with fail
                                            go_ret
                                            exact ⟨rfl, HW.out⟩
end Go.Proofs.Ytkegmgjagcefhaa.RLoan
