/- The program's own package loan: what only reads. -/
import Derived.Test.YtkegmgjagcefhaaLoanMath
import Derived.Test.YtkegmgjagcefhaaSum
namespace Go.Proofs.Ytkegmgjagcefhaa.Loan
open Go.ChangeShapes Go.WideShapes Go.ChangeAt Go.RowKit Accr Box

theorem within_i (n a b : Int) (w : World) : Calls Try.prog 44 #[.int .i64 n, .int .i64 a, .int .i64 b] w fun e w' => e = .returned (.bool (wB n a b)) ∧ w = w' := by
  obtain ⟨B, hB⟩ : ∃ B : Bool, B = wB n a b := ⟨_, rfl⟩
  rw [← hB]
  by_cases h1 : a ≤ n
  · by_cases h2 : n ≤ b
    · have H : Hid (B = true) := hB.trans (wB_iff.2 ⟨h1, h2⟩)
      clear hB
      go_enter Try.func44, Try.ntmps44
      go_wp2
      go_ret
      exact ⟨ret_b H.out.symm, rfl⟩
    · have H : Hid (B = false) := hB.trans (wB_not.2 fun h => h2 h.2)
      clear hB
      go_enter Try.func44, Try.ntmps44
      go_wp2
      go_ret
      exact ⟨ret_b H.out.symm, rfl⟩
  · have H : Hid (B = false) := hB.trans (wB_not.2 fun h => h1 h.1)
    clear hB
    go_enter Try.func44, Try.ntmps44
    go_wp2
    go_ret
    exact ⟨ret_b H.out.symm, rfl⟩
theorem within_l (n a b : Int) (w : World) : Calls Try.prog 79 #[.int .i64 n, .int .i64 a, .int .i64 b] w fun e w' => e = .returned (.bool (wB n a b)) ∧ w = w' := by
  obtain ⟨B, hB⟩ : ∃ B : Bool, B = wB n a b := ⟨_, rfl⟩
  rw [← hB]
  by_cases h1 : a ≤ n
  · by_cases h2 : n ≤ b
    · have H : Hid (B = true) := hB.trans (wB_iff.2 ⟨h1, h2⟩)
      clear hB
      go_enter Try.func79, Try.ntmps79
      go_wp2
      go_ret
      exact ⟨ret_b H.out.symm, rfl⟩
    · have H : Hid (B = false) := hB.trans (wB_not.2 fun h => h2 h.2)
      clear hB
      go_enter Try.func79, Try.ntmps79
      go_wp2
      go_ret
      exact ⟨ret_b H.out.symm, rfl⟩
  · have H : Hid (B = false) := hB.trans (wB_not.2 fun h => h1 h.1)
    clear hB
    go_enter Try.func79, Try.ntmps79
    go_wp2
    go_ret
    exact ⟨ret_b H.out.symm, rfl⟩
theorem micro_c (n : Int) (w : World) : Calls Try.prog 77 #[.int .i64 n] w fun e w' => e = .returned (.bool (wB n 0 1000000000000000000)) ∧ w = w' := by
  have K := Lib.hid (fun W => within_l n 0 1000000000000000000 W)
  generalize wB n 0 1000000000000000000 = B at *
  go_enter Try.func77, Try.ntmps77
  go_wp2_with fail
  refine (K.out _).mono ?_
  rintro e w' ⟨rfl, rfl⟩
  go_wp2_with fail
  go_ret
  exact ⟨rfl, rfl⟩
theorem amount_c (n : Int) (w : World) : Calls Try.prog 54 #[.int .i64 n] w fun e w' => e = .returned (.bool (wB n 1 1000000000)) ∧ w = w' := by
  have K := Lib.hid (fun W => within_l n 1 1000000000 W)
  generalize wB n 1 1000000000 = B at *
  go_enter Try.func54, Try.ntmps54
  go_wp2_with fail
  refine (K.out _).mono ?_
  rintro e w' ⟨rfl, rfl⟩
  go_wp2_with fail
  go_ret
  exact ⟨rfl, rfl⟩
theorem day_c (n : Int) (w : World) : Calls Try.prog 36 #[.int .i64 n] w fun e w' => e = .returned (.bool (wB n 0 87658)) ∧ w = w' := by
  have K := Lib.hid (fun W => within_i n 0 87658 W)
  generalize wB n 0 87658 = B at *
  go_enter Try.func36, Try.ntmps36
  go_wp2_with fail
  refine (K.out _).mono ?_
  rintro e w' ⟨rfl, rfl⟩
  go_wp2_with fail
  go_ret
  exact ⟨rfl, rfl⟩
theorem status_c (n : Int) (w : World) : Calls Try.prog 78 #[.int .i64 n] w fun e w' => e = .returned (.bool (wB n 1 5)) ∧ w = w' := by
  have K := Lib.hid (fun W => within_i n 1 5 W)
  generalize wB n 1 5 = B at *
  go_enter Try.func78, Try.ntmps78
  go_wp2_with fail
  refine (K.out _).mono ?_
  rintro e w' ⟨rfl, rfl⟩
  go_wp2_with fail
  go_ret
  exact ⟨rfl, rfl⟩
theorem money_c (n : Int) (w : World) : Calls Try.prog 76 #[.int .i64 n] w fun e w' => e = .returned (.bool (wB n 0 10000000000000)) ∧ w = w' := by
  by_cases h0 : 0 ≤ n
  · have hq : Money.goodB n = wB n 0 10000000000000 := by
      rw [Bool.eq_iff_iff, Money.goodB_iff, wB_iff]; omega
    have K := Lib.hid (fun W => Money.good_any n W)
    rw [hq] at K
    clear hq
    generalize wB n 0 10000000000000 = B at *
    go_enter Try.func76, Try.ntmps76
    go_wp2_with fail
    refine (K.out _).mono ?_
    rintro e w' ⟨rfl, rfl⟩
    go_wp2_with fail
    go_ret
    exact ⟨rfl, rfl⟩
  · rw [show wB n 0 10000000000000 = false from wB_not.2 fun h => h0 h.1]
    go_enter Try.func76, Try.ntmps76
    go_wp2
    go_ret
    exact ⟨rfl, rfl⟩
theorem bal_c (l : Ln) (w : World) : Calls Try.prog 45 #[.agg l.cells] w fun e w' => e = .returned (.bool (balB l)) ∧ Below w.heap.size w w' := by
  unfold balB
  obtain ⟨g, wb, e1, e2, hB, hb⟩ := boxd_new w l.cells 23
  have c1 : wb.cell? ⟨g, 1, none⟩ = some (.int .i64 l.prin) := hB.cell
  have c4 : wb.cell? ⟨g, 4, none⟩ = some (.int .i64 l.fees) := hB.cell
  have c2 : wb.cell? ⟨g, 2, none⟩ = some (.int .i64 l.intr) := hB.cell
  have c3 : wb.cell? ⟨g, 3, none⟩ = some (.int .i64 l.subs) := hB.cell
  have HW := Lib.hid hb
  clear hB hb
  have K0 := Lib.hid (fun W => money_c l.prin W)
  have K1 := Lib.hid (fun W => money_c l.fees W)
  have K2 := Lib.hid (fun W => micro_c l.intr W)
  have K3 := Lib.hid (fun W => micro_c l.subs W)
  generalize wB l.prin 0 10000000000000 = b0 at *
  generalize wB l.fees 0 10000000000000 = b1 at *
  generalize wB l.intr 0 1000000000000000000 = b2 at *
  generalize wB l.subs 0 1000000000000000000 = b3 at *
  generalize l.prin = x1 at *
  generalize l.fees = x4 at *
  generalize l.intr = x2 at *
  generalize l.subs = x3 at *
  generalize l.cells = C at *
  go_enter Try.func45, Try.ntmps45
  go_upto_region 1 with fail
  rw [← e2, ← e1]
  clear e1 e2
  cases b0 with
  | false =>
    go_wp2_with fail
    refine (K0.out _).mono ?_
    rintro e w' ⟨rfl, rfl⟩
    go_wp2_with fail
    go_ret
    exact ⟨rfl, HW.out⟩
  | true =>
    cases b1 with
    | false =>
      go_wp2_with fail
      refine (K0.out _).mono ?_
      rintro e w' ⟨rfl, rfl⟩
      go_wp2_with fail
      refine (K1.out _).mono ?_
      rintro e w' ⟨rfl, rfl⟩
      go_wp2_with fail
      go_ret
      exact ⟨rfl, HW.out⟩
    | true =>
      cases b2 with
      | false =>
        go_wp2_with fail
        refine (K0.out _).mono ?_
        rintro e w' ⟨rfl, rfl⟩
        go_wp2_with fail
        refine (K1.out _).mono ?_
        rintro e w' ⟨rfl, rfl⟩
        go_wp2_with fail
        refine (K2.out _).mono ?_
        rintro e w' ⟨rfl, rfl⟩
        go_wp2_with fail
        go_ret
        exact ⟨rfl, HW.out⟩
      | true =>
        go_wp2_with fail
        refine (K0.out _).mono ?_
        rintro e w' ⟨rfl, rfl⟩
        go_wp2_with fail
        refine (K1.out _).mono ?_
        rintro e w' ⟨rfl, rfl⟩
        go_wp2_with fail
        refine (K2.out _).mono ?_
        rintro e w' ⟨rfl, rfl⟩
        go_wp2_with fail
        refine (K3.out _).mono ?_
        rintro e w' ⟨rfl, rfl⟩
        go_wp2_with fail
        go_ret
        exact ⟨rfl, HW.out⟩
theorem term_c (l : Ln) (w : World) : Calls Try.prog 46 #[.agg l.cells] w fun e w' => e = .returned (.bool (termB l)) ∧ Below w.heap.size w w' := by
  unfold termB
  obtain ⟨g, wb, e1, e2, hB, hb⟩ := boxd_new w l.cells 23
  have c5 : wb.cell? ⟨g, 5, none⟩ = some (.int .i64 l.ppm) := hB.cell
  have c7 : wb.cell? ⟨g, 7, none⟩ = some (.int .i64 l.status) := hB.cell
  have c8 : wb.cell? ⟨g, 8, none⟩ = some (.int .i64 l.closed) := hB.cell
  have c9 : wb.cell? ⟨g, 9, none⟩ = some (.int .i64 l.entered) := hB.cell
  have c10 : wb.cell? ⟨g, 10, none⟩ = some (.int .i64 l.level) := hB.cell
  have c11 : wb.cell? ⟨g, 11, none⟩ = some (.int .i64 l.far) := hB.cell
  have c12 : wb.cell? ⟨g, 12, none⟩ = some (.int .i64 l.count) := hB.cell
  have HW := Lib.hid hb
  clear hB hb
  have K0 := Lib.hid (fun W => within_i l.ppm 0 1000000 W)
  have K1 := Lib.hid (fun W => status_c l.status W)
  have K2 := Lib.hid (fun W => within_i l.closed 0 4 W)
  have K3 := Lib.hid (fun W => within_i l.entered (-1) 87658 W)
  have K4 := Lib.hid (fun W => money_c l.level W)
  have K5 := Lib.hid (fun W => money_c l.far W)
  generalize wB l.ppm 0 1000000 = b0 at *
  generalize wB l.status 1 5 = b1 at *
  generalize wB l.closed 0 4 = b2 at *
  generalize wB l.entered (-1) 87658 = b3 at *
  generalize wB l.level 0 10000000000000 = b4 at *
  generalize wB l.far 0 10000000000000 = b5 at *
  obtain ⟨b6, t6⟩ : ∃ b6 : Bool, decide (0 ≤ l.count) = b6 := ⟨_, rfl⟩
  rw [t6]
  generalize l.ppm = x5 at *
  generalize l.status = x7 at *
  generalize l.closed = x8 at *
  generalize l.entered = x9 at *
  generalize l.level = x10 at *
  generalize l.far = x11 at *
  generalize l.count = x12 at *
  generalize l.cells = C at *
  go_enter Try.func46, Try.ntmps46
  go_upto_region 1 with fail
  rw [← e2, ← e1]
  clear e1 e2
  cases b0 with
  | false =>
    go_wp2_with fail
    refine (K0.out _).mono ?_
    rintro e w' ⟨rfl, rfl⟩
    go_wp2_with fail
    go_ret
    exact ⟨rfl, HW.out⟩
  | true =>
    cases b1 with
    | false =>
      go_wp2_with fail
      refine (K0.out _).mono ?_
      rintro e w' ⟨rfl, rfl⟩
      go_wp2_with fail
      refine (K1.out _).mono ?_
      rintro e w' ⟨rfl, rfl⟩
      go_wp2_with fail
      go_ret
      exact ⟨rfl, HW.out⟩
    | true =>
      cases b2 with
      | false =>
        go_wp2_with fail
        refine (K0.out _).mono ?_
        rintro e w' ⟨rfl, rfl⟩
        go_wp2_with fail
        refine (K1.out _).mono ?_
        rintro e w' ⟨rfl, rfl⟩
        go_wp2_with fail
        refine (K2.out _).mono ?_
        rintro e w' ⟨rfl, rfl⟩
        go_wp2_with fail
        go_ret
        exact ⟨rfl, HW.out⟩
      | true =>
        cases b3 with
        | false =>
          go_wp2_with fail
          refine (K0.out _).mono ?_
          rintro e w' ⟨rfl, rfl⟩
          go_wp2_with fail
          refine (K1.out _).mono ?_
          rintro e w' ⟨rfl, rfl⟩
          go_wp2_with fail
          refine (K2.out _).mono ?_
          rintro e w' ⟨rfl, rfl⟩
          go_wp2_with fail
          refine (K3.out _).mono ?_
          rintro e w' ⟨rfl, rfl⟩
          go_wp2_with fail
          go_ret
          exact ⟨rfl, HW.out⟩
        | true =>
          cases b4 with
          | false =>
            go_wp2_with fail
            refine (K0.out _).mono ?_
            rintro e w' ⟨rfl, rfl⟩
            go_wp2_with fail
            refine (K1.out _).mono ?_
            rintro e w' ⟨rfl, rfl⟩
            go_wp2_with fail
            refine (K2.out _).mono ?_
            rintro e w' ⟨rfl, rfl⟩
            go_wp2_with fail
            refine (K3.out _).mono ?_
            rintro e w' ⟨rfl, rfl⟩
            go_wp2_with fail
            refine (K4.out _).mono ?_
            rintro e w' ⟨rfl, rfl⟩
            go_wp2_with fail
            go_ret
            exact ⟨rfl, HW.out⟩
          | true =>
            cases b5 with
            | false =>
              go_wp2_with fail
              refine (K0.out _).mono ?_
              rintro e w' ⟨rfl, rfl⟩
              go_wp2_with fail
              refine (K1.out _).mono ?_
              rintro e w' ⟨rfl, rfl⟩
              go_wp2_with fail
              refine (K2.out _).mono ?_
              rintro e w' ⟨rfl, rfl⟩
              go_wp2_with fail
              refine (K3.out _).mono ?_
              rintro e w' ⟨rfl, rfl⟩
              go_wp2_with fail
              refine (K4.out _).mono ?_
              rintro e w' ⟨rfl, rfl⟩
              go_wp2_with fail
              refine (K5.out _).mono ?_
              rintro e w' ⟨rfl, rfl⟩
              go_wp2_with fail
              go_ret
              exact ⟨rfl, HW.out⟩
            | true =>
              go_wp2_with fail
              refine (K0.out _).mono ?_
              rintro e w' ⟨rfl, rfl⟩
              go_wp2_with fail
              refine (K1.out _).mono ?_
              rintro e w' ⟨rfl, rfl⟩
              go_wp2_with fail
              refine (K2.out _).mono ?_
              rintro e w' ⟨rfl, rfl⟩
              go_wp2_with fail
              refine (K3.out _).mono ?_
              rintro e w' ⟨rfl, rfl⟩
              go_wp2_with fail
              refine (K4.out _).mono ?_
              rintro e w' ⟨rfl, rfl⟩
              go_wp2_with fail
              refine (K5.out _).mono ?_
              rintro e w' ⟨rfl, rfl⟩
              go_wp2_with fail
              go_ret
              exact ⟨rfl, HW.out⟩
theorem open_c (l : Ln) (w : World) : Calls Try.prog 37 #[.agg l.cells] w fun e w' => e = .returned (.bool (openB l)) ∧ Below w.heap.size w w' := by
  unfold openB
  obtain ⟨g, wb, e1, e2, hB, hb⟩ := boxd_new w l.cells 23
  have c8 : wb.cell? ⟨g, 8, none⟩ = some (.int .i64 l.closed) := hB.cell
  have HW := Lib.hid hb
  clear hB hb
  generalize l.closed = x8 at *
  generalize l.cells = C at *
  go_enter Try.func37, Try.ntmps37
  go_upto_region 1 with fail
  rw [← e2, ← e1]
  clear e1 e2
  go_wp2
  go_ret
  exact ⟨rfl, HW.out⟩
theorem empty_c (l : Ln) (w : World) : Calls Try.prog 47 #[.agg l.cells] w fun e w' => e = .returned (.bool (emptyB l)) ∧ Below w.heap.size w w' := by
  unfold emptyB
  obtain ⟨g, wb, e1, e2, hB, hb⟩ := boxd_new w l.cells 23
  have c1 : wb.cell? ⟨g, 1, none⟩ = some (.int .i64 l.prin) := hB.cell
  have c2 : wb.cell? ⟨g, 2, none⟩ = some (.int .i64 l.intr) := hB.cell
  have c4 : wb.cell? ⟨g, 4, none⟩ = some (.int .i64 l.fees) := hB.cell
  have HW := Lib.hid hb
  clear hB hb
  generalize l.prin = x1 at *
  generalize l.intr = x2 at *
  generalize l.fees = x4 at *
  generalize l.cells = C at *
  obtain ⟨b0, t0⟩ : ∃ b0 : Bool, (x1 == 0) = b0 := ⟨_, rfl⟩
  obtain ⟨b1, t1⟩ : ∃ b1 : Bool, (x2 == 0) = b1 := ⟨_, rfl⟩
  obtain ⟨b2, t2⟩ : ∃ b2 : Bool, (x4 == 0) = b2 := ⟨_, rfl⟩
  rw [t0, t1, t2]
  go_enter Try.func47, Try.ntmps47
  go_upto_region 1 with fail
  rw [← e2, ← e1]
  clear e1 e2
  cases b0 with
  | false =>
    go_wp2_with fail
    go_ret
    exact ⟨rfl, HW.out⟩
  | true =>
    cases b1 with
    | false =>
      go_wp2_with fail
      go_ret
      exact ⟨rfl, HW.out⟩
    | true =>
      cases b2 with
      | false =>
        go_wp2_with fail
        go_ret
        exact ⟨rfl, HW.out⟩
      | true =>
        go_wp2_with fail
        go_ret
        exact ⟨rfl, HW.out⟩
theorem spared_c (l : Ln) (w : World) (h1 : 1 ≤ l.status) : Calls Try.prog 38 #[.agg l.cells] w fun e w' => e = .returned (.bool (sparedB l)) ∧ Below w.heap.size w w' := by
  have hv : sparedB l = (l.subd && ((l.status == 1 || l.status == 2) || l.status == 3)) := by
    unfold sparedB
    congr 1
    rw [Bool.eq_iff_iff, decide_eq_true_iff]
    simp only [Bool.or_eq_true, beq_iff_eq]
    omega
  rw [hv]
  clear hv h1
  obtain ⟨g, wb, e1, e2, hB, hb⟩ := boxd_new w l.cells 23
  have c6 : wb.cell? ⟨g, 6, none⟩ = some (.bool l.subd) := hB.cell
  have c7 : wb.cell? ⟨g, 7, none⟩ = some (.int .i64 l.status) := hB.cell
  have HW := Lib.hid hb
  clear hB hb
  generalize l.subd = b0 at *
  generalize l.status = x at *
  generalize l.cells = C at *
  obtain ⟨b1, t1⟩ : ∃ b1 : Bool, (x == 1) = b1 := ⟨_, rfl⟩
  obtain ⟨b2, t2⟩ : ∃ b2 : Bool, (x == 2) = b2 := ⟨_, rfl⟩
  obtain ⟨b3, t3⟩ : ∃ b3 : Bool, (x == 3) = b3 := ⟨_, rfl⟩
  rw [t1, t2, t3]
  go_enter Try.func38, Try.ntmps38
  go_upto_region 1 with fail
  rw [← e2, ← e1]
  clear e1 e2
  cases b0 with
  | false =>
    go_wp2_with fail
    go_ret
    exact ⟨rfl, HW.out⟩
  | true =>
    cases b1 with
    | true =>
      go_wp2_with fail
      go_ret
      exact ⟨rfl, HW.out⟩
    | false =>
      cases b2 with
      | true =>
        go_wp2_with fail
        go_ret
        exact ⟨rfl, HW.out⟩
      | false =>
        cases b3 with
        | true =>
          go_wp2_with fail
          go_ret
          exact ⟨rfl, HW.out⟩
        | false =>
          go_wp2_with fail
          go_ret
          exact ⟨rfl, HW.out⟩
theorem cents_c (l : Ln) (w : World) (h : l.intr ≤ 9223372036854775807) : Calls Try.prog 59 #[.agg l.cells] w fun e w' => e = .returned (.int .i64 (centsL l)) ∧ Below w.heap.size w w' := by
  obtain ⟨g, wb, e1, e2, hB, hb⟩ := boxd_new w l.cells 23
  have c2 : wb.cell? ⟨g, 2, none⟩ = some (.int .i64 l.intr) := hB.cell
  have HW := Lib.hid hb
  clear hB hb
  have K0 := Lib.hid (fun W => whole_any l.intr W h)
  clear h
  unfold centsL
  generalize wholeI l.intr = v at *
  generalize l.intr = x at *
  generalize l.cells = C at *
  go_enter Try.func59, Try.ntmps59
  go_upto_region 1 with fail
  rw [← e2, ← e1]
  clear e1 e2
  go_wp2_with fail
  refine (K0.out _).mono ?_
  rintro e w' ⟨rfl, rfl⟩
  go_wp2_with fail
  go_ret
  exact ⟨rfl, HW.out⟩
theorem good_c (l : Ln) (w : World) : Calls Try.prog 14 #[.agg l.cells] w fun e w' => e = .returned (.bool (goodL l)) ∧ Below w.heap.size w w' := by
  unfold goodL
  obtain ⟨g, wb, e1, e2, hB, hb⟩ := boxd_new w l.cells 23
  have c0 : wb.cell? ⟨g, 0, none⟩ = some (.int .i64 l.id) := hB.cell
  have HB := Lib.hid hB
  have HW := Lib.hid hb
  clear hB hb
  have K0 := Lib.hid (fun W => within_i l.id 1 1000 W)
  have K1 := Lib.hid (fun W => bal_c l W)
  have K2 := Lib.hid (fun W => term_c l W)
  have K3 := Lib.hid (fun W => open_c l W)
  have K4 := Lib.hid (fun W => empty_c l W)
  have HS := Lib.hid (ln_info l)
  generalize wB l.id 1 1000 = b0 at *
  generalize balB l = b1 at *
  generalize termB l = b2 at *
  generalize openB l = b3 at *
  generalize emptyB l = b4 at *
  generalize l.id = x at *
  generalize l.cells = C at *
  go_enter Try.func14, Try.ntmps14
  go_upto_region 1 with fail
  rw [← e2, ← e1]
  clear e1 e2
  cases b0 with
  | false =>
    go_wp2_with (first
      | (refine o_load rfl 23 _ rfl _ rfl _ _ _ HB.out Try.underlying23 rfl HS.out ?_)
      | (go_at_call 44; refine (K0.out _).mono ?_; rintro e y ⟨rfl, rfl⟩)
      | (go_at_call 45; refine (K1.out _).mono ?_; rintro e y ⟨rfl, hb⟩; replace HB := Lib.hid (HB.out.below hb); replace HW := Lib.hid (below_to HW.out hb); clear hb)
      | (go_at_call 46; refine (K2.out _).mono ?_; rintro e y ⟨rfl, hb⟩; replace HB := Lib.hid (HB.out.below hb); replace HW := Lib.hid (below_to HW.out hb); clear hb)
      | (go_at_call 37; refine (K3.out _).mono ?_; rintro e y ⟨rfl, hb⟩; replace HB := Lib.hid (HB.out.below hb); replace HW := Lib.hid (below_to HW.out hb); clear hb)
      | (go_at_call 47; refine (K4.out _).mono ?_; rintro e y ⟨rfl, hb⟩; replace HB := Lib.hid (HB.out.below hb); replace HW := Lib.hid (below_to HW.out hb); clear hb))
    go_ret
    exact ⟨rfl, HW.out⟩
  | true =>
    cases b1 with
    | false =>
      go_wp2_with (first
        | (refine o_load rfl 23 _ rfl _ rfl _ _ _ HB.out Try.underlying23 rfl HS.out ?_)
        | (go_at_call 44; refine (K0.out _).mono ?_; rintro e y ⟨rfl, rfl⟩)
        | (go_at_call 45; refine (K1.out _).mono ?_; rintro e y ⟨rfl, hb⟩; replace HB := Lib.hid (HB.out.below hb); replace HW := Lib.hid (below_to HW.out hb); clear hb)
        | (go_at_call 46; refine (K2.out _).mono ?_; rintro e y ⟨rfl, hb⟩; replace HB := Lib.hid (HB.out.below hb); replace HW := Lib.hid (below_to HW.out hb); clear hb)
        | (go_at_call 37; refine (K3.out _).mono ?_; rintro e y ⟨rfl, hb⟩; replace HB := Lib.hid (HB.out.below hb); replace HW := Lib.hid (below_to HW.out hb); clear hb)
        | (go_at_call 47; refine (K4.out _).mono ?_; rintro e y ⟨rfl, hb⟩; replace HB := Lib.hid (HB.out.below hb); replace HW := Lib.hid (below_to HW.out hb); clear hb))
      go_ret
      exact ⟨rfl, HW.out⟩
    | true =>
      cases b2 with
      | false =>
        go_wp2_with (first
          | (refine o_load rfl 23 _ rfl _ rfl _ _ _ HB.out Try.underlying23 rfl HS.out ?_)
          | (go_at_call 44; refine (K0.out _).mono ?_; rintro e y ⟨rfl, rfl⟩)
          | (go_at_call 45; refine (K1.out _).mono ?_; rintro e y ⟨rfl, hb⟩; replace HB := Lib.hid (HB.out.below hb); replace HW := Lib.hid (below_to HW.out hb); clear hb)
          | (go_at_call 46; refine (K2.out _).mono ?_; rintro e y ⟨rfl, hb⟩; replace HB := Lib.hid (HB.out.below hb); replace HW := Lib.hid (below_to HW.out hb); clear hb)
          | (go_at_call 37; refine (K3.out _).mono ?_; rintro e y ⟨rfl, hb⟩; replace HB := Lib.hid (HB.out.below hb); replace HW := Lib.hid (below_to HW.out hb); clear hb)
          | (go_at_call 47; refine (K4.out _).mono ?_; rintro e y ⟨rfl, hb⟩; replace HB := Lib.hid (HB.out.below hb); replace HW := Lib.hid (below_to HW.out hb); clear hb))
        go_ret
        exact ⟨rfl, HW.out⟩
      | true =>
        cases b3 with
        | true =>
          go_wp2_with (first
            | (refine o_load rfl 23 _ rfl _ rfl _ _ _ HB.out Try.underlying23 rfl HS.out ?_)
            | (go_at_call 44; refine (K0.out _).mono ?_; rintro e y ⟨rfl, rfl⟩)
            | (go_at_call 45; refine (K1.out _).mono ?_; rintro e y ⟨rfl, hb⟩; replace HB := Lib.hid (HB.out.below hb); replace HW := Lib.hid (below_to HW.out hb); clear hb)
            | (go_at_call 46; refine (K2.out _).mono ?_; rintro e y ⟨rfl, hb⟩; replace HB := Lib.hid (HB.out.below hb); replace HW := Lib.hid (below_to HW.out hb); clear hb)
            | (go_at_call 37; refine (K3.out _).mono ?_; rintro e y ⟨rfl, hb⟩; replace HB := Lib.hid (HB.out.below hb); replace HW := Lib.hid (below_to HW.out hb); clear hb)
            | (go_at_call 47; refine (K4.out _).mono ?_; rintro e y ⟨rfl, hb⟩; replace HB := Lib.hid (HB.out.below hb); replace HW := Lib.hid (below_to HW.out hb); clear hb))
          go_ret
          exact ⟨rfl, HW.out⟩
        | false =>
          go_wp2_with (first
            | (refine o_load rfl 23 _ rfl _ rfl _ _ _ HB.out Try.underlying23 rfl HS.out ?_)
            | (go_at_call 44; refine (K0.out _).mono ?_; rintro e y ⟨rfl, rfl⟩)
            | (go_at_call 45; refine (K1.out _).mono ?_; rintro e y ⟨rfl, hb⟩; replace HB := Lib.hid (HB.out.below hb); replace HW := Lib.hid (below_to HW.out hb); clear hb)
            | (go_at_call 46; refine (K2.out _).mono ?_; rintro e y ⟨rfl, hb⟩; replace HB := Lib.hid (HB.out.below hb); replace HW := Lib.hid (below_to HW.out hb); clear hb)
            | (go_at_call 37; refine (K3.out _).mono ?_; rintro e y ⟨rfl, hb⟩; replace HB := Lib.hid (HB.out.below hb); replace HW := Lib.hid (below_to HW.out hb); clear hb)
            | (go_at_call 47; refine (K4.out _).mono ?_; rintro e y ⟨rfl, hb⟩; replace HB := Lib.hid (HB.out.below hb); replace HW := Lib.hid (below_to HW.out hb); clear hb))
          go_ret
          exact ⟨rfl, HW.out⟩
end Go.Proofs.Ytkegmgjagcefhaa.Loan
