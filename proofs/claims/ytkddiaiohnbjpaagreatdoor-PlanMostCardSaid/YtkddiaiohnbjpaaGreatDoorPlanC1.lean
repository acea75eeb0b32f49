/- Of layer 18: Part, Counts, Holds, and the plans' askings that read a loan alone. -/
import Derived.Test.YtkddiaiohnbjpaaGreatDoorPlanMath
import Derived.Test.YtkddiaiohnbjpaaGreatDoorGLo
import Derived.Test.YtkddiaiohnbjpaaGreatDoorGDate
namespace Go.Proofs.YtkddiaiohnbjpaaGreatDoor.Plan
open Go.ChangeShapes Go.WideShapes Go.ChangeAt Go.RowKit Loan Money Box

theorem c_part (l : Ln) (w : World) : Calls Tryz.prog 69 #[.agg l.cells] w fun e w' => e = .returned (.bool (partB l)) ∧ Below w.heap.size w w' := by
  obtain ⟨g, wb, e1, e2, hB, hb⟩ := boxd_new w l.cells 23
  have c7 : wb.cell? ⟨g, 7, none⟩ = some (.int .i64 l.status) := hB.cell
  have c8 : wb.cell? ⟨g, 8, none⟩ = some (.int .i64 l.closed) := hB.cell
  have HW := Lib.hid hb
  clear hB hb
  unfold partB
  generalize l.status = x at *
  generalize l.closed = y at *
  generalize l.cells = C at *
  obtain ⟨b1, t1⟩ : ∃ b : Bool, (y == 0) = b := ⟨_, rfl⟩
  obtain ⟨b2, t2⟩ : ∃ b : Bool, (x == 5) = b := ⟨_, rfl⟩
  rw [t1, t2]
  go_enter Tryz.func69, Tryz.ntmps69
  go_upto_region 1 with fail
  rw [← e2, ← e1]
  clear e1 e2
  cases b1 <;> cases b2
  all_goals
    go_wp2_with fail
    go_ret
    exact ⟨rfl, HW.out⟩
theorem r_part (l : Ln) (w : World) : Calls Tryz.prog 18 #[.agg l.cells] w fun e w' => e = .returned (.bool (partB l)) ∧ Below w.heap.size w w' := by
  obtain ⟨g, wb, e1, e2, hB, hb⟩ := boxd_new w l.cells 23
  have c7 : wb.cell? ⟨g, 7, none⟩ = some (.int .i64 l.status) := hB.cell
  have c8 : wb.cell? ⟨g, 8, none⟩ = some (.int .i64 l.closed) := hB.cell
  have HW := Lib.hid hb
  clear hB hb
  unfold partB
  generalize l.status = x at *
  generalize l.closed = y at *
  generalize l.cells = C at *
  obtain ⟨b1, t1⟩ : ∃ b : Bool, (y == 0) = b := ⟨_, rfl⟩
  obtain ⟨b2, t2⟩ : ∃ b : Bool, (x == 5) = b := ⟨_, rfl⟩
  rw [t1, t2]
  go_enter Tryz.func18, Tryz.ntmps18
  go_upto_region 1 with fail
  rw [← e2, ← e1]
  clear e1 e2
  cases b1 <;> cases b2
  all_goals
    go_wp2_with fail
    go_ret
    exact ⟨rfl, HW.out⟩
theorem c_counts (h : Int) (w : World) : Calls Tryz.prog 29 #[.int .i64 h] w fun e w' => e = .returned (.bool (countsB h)) ∧ w = w' := by
  unfold countsB
  obtain ⟨b1, t1⟩ : ∃ b : Bool, (h == 1) = b := ⟨_, rfl⟩
  obtain ⟨b2, t2⟩ : ∃ b : Bool, (h == 4) = b := ⟨_, rfl⟩
  rw [t1, t2]
  go_enter Tryz.func29, Tryz.ntmps29
  cases b1 <;> cases b2
  all_goals
    go_wp2_with fail
    go_ret
    exact ⟨rfl, rfl⟩
theorem c_bad (l : Ln) (w : World) : Calls Tryz.prog 35 #[.agg l.cells] w fun e w' => e = .returned (.bool (!goodL l)) ∧ Below w.heap.size w w' := by
  obtain ⟨g, wb, e1, e2, hB, hb⟩ := boxd_new w l.cells 23
  have HB := Lib.hid hB
  have HW := Lib.hid hb
  clear hB hb
  have KG := Lib.hid (fun W => good_c l W)
  have HS := Lib.hid (ln_info l)
  generalize goodL l = b at *
  generalize l.cells = C at *
  go_enter Tryz.func35, Tryz.ntmps35
  go_upto_region 1 with fail
  rw [← e2, ← e1]
  clear e1 e2
  go_wp2_with (first
    | (refine o_load rfl 23 _ rfl _ rfl _ _ _ HB.out Tryz.underlying23 rfl HS.out ?_)
    | (go_at_call 24; with_reducible refine (KG.out _).mono ?_; rintro e y ⟨rfl, hb⟩; replace HW := Lib.hid (below_to HW.out hb); clear hb))
  go_ret
  exact ⟨rfl, HW.out⟩
theorem c_one (l : Ln) (w : World) : Calls Tryz.prog 73 #[.agg l.cells] w fun e w' => e = .returned (.tuple #[.int .i64 l.level, .int .i64 0]) ∧ Below w.heap.size w w' := by
  obtain ⟨g, wb, e1, e2, hB, hb⟩ := boxd_new w l.cells 23
  have c0 : wb.cell? ⟨g, 10, none⟩ = some (.int .i64 l.level) := hB.cell
  have HW := Lib.hid hb
  clear hB hb
  generalize l.level = x at *
  generalize l.cells = C at *
  go_enter Tryz.func73, Tryz.ntmps73
  go_upto_region 1 with fail
  rw [← e2, ← e1]
  clear e1 e2
  go_wp2_with fail
  go_ret2
  exact ⟨rfl, HW.out⟩
theorem c_two (l : Ln) (w : World) : Calls Tryz.prog 74 #[.agg l.cells] w fun e w' => e = .returned (.tuple #[.int .i64 l.far, .int .i64 0]) ∧ Below w.heap.size w w' := by
  obtain ⟨g, wb, e1, e2, hB, hb⟩ := boxd_new w l.cells 23
  have c0 : wb.cell? ⟨g, 11, none⟩ = some (.int .i64 l.far) := hB.cell
  have HW := Lib.hid hb
  clear hB hb
  generalize l.far = x at *
  generalize l.cells = C at *
  go_enter Tryz.func74, Tryz.ntmps74
  go_upto_region 1 with fail
  rw [← e2, ← e1]
  clear e1 e2
  go_wp2_with fail
  go_ret2
  exact ⟨rfl, HW.out⟩
set_option maxHeartbeats 1000000 in
theorem c_holds (s : Sc) (lv bv : Value) (day : Int) (w : World) (L : Date.Laid w) : Calls Tryz.prog 23 #[.agg (s.cells lv bv), .int .i64 day] w fun e w' => e = .returned (.int .i64 (holdsI s.plan s.since day)) ∧ Below w.heap.size w w' := by
  obtain ⟨g, wb, e1, e2, hB, hb⟩ := boxd_new w (s.cells lv bv) 38
  have c2 : wb.cell? ⟨g, 2, none⟩ = some (.int .i64 s.plan) := hB.cell
  have HB := Lib.hid hB
  have X2 : Hid ((s.cells lv bv)[2]? = some (.int .i64 s.plan)) := show _ = _ from rfl
  have X3 : Hid ((s.cells lv bv)[3]? = some (.int .i64 s.since)) := show _ = _ from rfl
  have HW := Lib.hid hb
  have HL : Hid (Date.Laid wb) := L.of hb
  clear hB hb L
  unfold holdsI
  generalize s.plan = p at *
  generalize s.since = q at *
  have KA := Lib.hid (fun W (hL : Date.Laid W) => Date.d_add q 12 W hL)
  generalize s.cells lv bv = C at *
  generalize Date.addV q 12 = a at *
  generalize Date.addE q 12 = x at *
  have t1 : (p == 0) = decide (p = 0) := rfl
  have t2 : (p == 4) = decide (p = 4) := rfl
  by_cases h1 : p = 0
  · rw [if_pos h1]
    have HP := Lib.hid h1
    rw [decide_eq_true h1] at t1
    clear h1 t2
    go_enter Tryz.func23, Tryz.ntmps23
    go_upto_region 1 with fail
    rw [← e2, ← e1]
    clear e1 e2
    go_wp2_with fail
    go_ret
    exact ⟨rfl, HW.out⟩
  · rw [if_neg h1]
    rw [decide_eq_false h1] at t1
    by_cases h2 : p = 4
    · rw [if_pos h2]
      rw [decide_eq_true h2] at t2
      have HP := Lib.hid h2
      clear h1 h2
      have c3 := (HB.out.cell (i := 3)).trans X3.out
      have t3 : (x != 0) = !decide (x = 0) := rfl
      have t4 : (x == 0) = decide (x = 0) := rfl
      by_cases h3 : x = 0
      · rw [decide_eq_true h3] at t3 t4
        by_cases h4 : day < a
        · rw [if_pos ⟨h3, h4⟩]
          have t5 : decide (a ≤ day) = false := decide_eq_false (by omega)
          have t6 : decide (day < a) = true := decide_eq_true h4
          clear h3 h4
          go_enter Tryz.func23, Tryz.ntmps23
          go_upto_region 1 with fail
          rw [← e2, ← e1]
          clear e1 e2
          go_wp2_with (go_at_call 54; with_reducible refine (KA.out _ HL.out).mono ?_; rintro e y ⟨rfl, hb⟩; replace HB := Lib.hid (HB.out.below hb); replace HW := Lib.hid (below_to HW.out hb); clear hb; have c2 := (HB.out.cell (i := 2)).trans X2.out)
          go_ret
          exact ⟨by rw [HP.out]; rfl, HW.out⟩
        · rw [if_neg (fun h => h4 h.2)]
          have t5 : decide (a ≤ day) = true := decide_eq_true (by omega)
          have t6 : decide (day < a) = false := decide_eq_false h4
          clear h3 h4
          go_enter Tryz.func23, Tryz.ntmps23
          go_upto_region 1 with fail
          rw [← e2, ← e1]
          clear e1 e2
          go_wp2_with (go_at_call 54; with_reducible refine (KA.out _ HL.out).mono ?_; rintro e y ⟨rfl, hb⟩; replace HB := Lib.hid (HB.out.below hb); replace HW := Lib.hid (below_to HW.out hb); clear hb; have c2 := (HB.out.cell (i := 2)).trans X2.out)
          go_ret
          exact ⟨rfl, HW.out⟩
      · rw [if_neg (fun h => h3 h.1)]
        rw [decide_eq_false h3] at t3 t4
        clear h3
        go_enter Tryz.func23, Tryz.ntmps23
        go_upto_region 1 with fail
        rw [← e2, ← e1]
        clear e1 e2
        go_wp2_with (go_at_call 54; with_reducible refine (KA.out _ HL.out).mono ?_; rintro e y ⟨rfl, hb⟩; replace HB := Lib.hid (HB.out.below hb); replace HW := Lib.hid (below_to HW.out hb); clear hb; have c2 := (HB.out.cell (i := 2)).trans X2.out)
        go_ret
        exact ⟨rfl, HW.out⟩
    · rw [if_neg h2]
      rw [decide_eq_false h2] at t2
      clear h1 h2
      go_enter Tryz.func23, Tryz.ntmps23
      go_upto_region 1 with fail
      rw [← e2, ← e1]
      clear e1 e2
      go_wp2_with fail
      go_ret
      exact ⟨rfl, HW.out⟩
set_option maxHeartbeats 1000000 in
theorem r_holds (s : Sc) (lv bv : Value) (day : Int) (w : World) : Calls Tryz.prog 20 #[.agg (s.cells lv bv), .int .i64 day] w fun e w' => e = .returned (.int .i64 (holdsI s.plan s.since day)) ∧ Below w.heap.size w w' := by
  obtain ⟨g, wb, e1, e2, hB, hb⟩ := boxd_new w (s.cells lv bv) 38
  have c2 : wb.cell? ⟨g, 2, none⟩ = some (.int .i64 s.plan) := hB.cell
  have HB := Lib.hid hB
  have X2 : Hid ((s.cells lv bv)[2]? = some (.int .i64 s.plan)) := show _ = _ from rfl
  have X3 : Hid ((s.cells lv bv)[3]? = some (.int .i64 s.since)) := show _ = _ from rfl
  have HW := Lib.hid hb
  clear hB hb
  unfold holdsI
  generalize s.plan = p at *
  generalize s.since = q at *
  have KA := Lib.hid (fun W => Date.radd_any q 12 W)
  generalize s.cells lv bv = C at *
  generalize Date.addV q 12 = a at *
  generalize Date.addE q 12 = x at *
  have t1 : (p == 0) = decide (p = 0) := rfl
  have t2 : (p == 4) = decide (p = 4) := rfl
  by_cases h1 : p = 0
  · rw [if_pos h1]
    have HP := Lib.hid h1
    rw [decide_eq_true h1] at t1
    clear h1 t2
    go_enter Tryz.func20, Tryz.ntmps20
    go_upto_region 1 with fail
    rw [← e2, ← e1]
    clear e1 e2
    go_wp2_with fail
    go_ret
    exact ⟨rfl, HW.out⟩
  · rw [if_neg h1]
    rw [decide_eq_false h1] at t1
    by_cases h2 : p = 4
    · rw [if_pos h2]
      rw [decide_eq_true h2] at t2
      have HP := Lib.hid h2
      clear h1 h2
      have c3 := (HB.out.cell (i := 3)).trans X3.out
      have t3 : (x != 0) = !decide (x = 0) := rfl
      have t4 : (x == 0) = decide (x = 0) := rfl
      by_cases h3 : x = 0
      · rw [decide_eq_true h3] at t3 t4
        by_cases h4 : day < a
        · rw [if_pos ⟨h3, h4⟩]
          have t5 : decide (a ≤ day) = false := decide_eq_false (by omega)
          have t6 : decide (day < a) = true := decide_eq_true h4
          clear h3 h4
          go_enter Tryz.func20, Tryz.ntmps20
          go_upto_region 1 with fail
          rw [← e2, ← e1]
          clear e1 e2
          go_wp2_with (go_at_call 51; with_reducible refine (KA.out _).mono ?_; rintro e y ⟨rfl, hb⟩; replace HB := Lib.hid (HB.out.below hb); replace HW := Lib.hid (below_to HW.out hb); clear hb; have c2 := (HB.out.cell (i := 2)).trans X2.out)
          go_ret
          exact ⟨rfl, HW.out⟩
        · rw [if_neg (fun h => h4 h.2)]
          have t5 : decide (a ≤ day) = true := decide_eq_true (by omega)
          have t6 : decide (day < a) = false := decide_eq_false h4
          clear h3 h4
          go_enter Tryz.func20, Tryz.ntmps20
          go_upto_region 1 with fail
          rw [← e2, ← e1]
          clear e1 e2
          go_wp2_with (go_at_call 51; with_reducible refine (KA.out _).mono ?_; rintro e y ⟨rfl, hb⟩; replace HB := Lib.hid (HB.out.below hb); replace HW := Lib.hid (below_to HW.out hb); clear hb; have c2 := (HB.out.cell (i := 2)).trans X2.out)
          go_ret
          exact ⟨rfl, HW.out⟩
      · rw [if_neg (fun h => h3 h.1)]
        rw [decide_eq_false h3] at t3 t4
        clear h3
        go_enter Tryz.func20, Tryz.ntmps20
        go_upto_region 1 with fail
        rw [← e2, ← e1]
        clear e1 e2
        go_wp2_with (go_at_call 51; with_reducible refine (KA.out _).mono ?_; rintro e y ⟨rfl, hb⟩; replace HB := Lib.hid (HB.out.below hb); replace HW := Lib.hid (below_to HW.out hb); clear hb; have c2 := (HB.out.cell (i := 2)).trans X2.out)
        go_ret
        exact ⟨rfl, HW.out⟩
    · rw [if_neg h2]
      rw [decide_eq_false h2] at t2
      clear h1 h2
      go_enter Tryz.func20, Tryz.ntmps20
      go_upto_region 1 with fail
      rw [← e2, ← e1]
      clear e1 e2
      go_wp2_with fail
      go_ret
      exact ⟨rfl, HW.out⟩
end Go.Proofs.YtkddiaiohnbjpaaGreatDoor.Plan
