/- Of two dates the later one has the greater number; a year has 365 days, or, if it is long, 366; seven days later it is the same day of the week, at any two numbers and any year; no condition. -/
import Derived.Test.YtkhimogdkcibmaaDoorCards
import Derived.Test.YtkhimogdkcibmaaDoorTie
import Derived.Test.YtkhimogdkcibmaaDoorDoor
import Derived.Test.YtkhimogdkcibmaaDoorDateWakes
import Derived.Test.YtkhimogdkcibmaaDoorMod
namespace Go.Proofs.YtkhimogdkcibmaaDoor.Law
open Go.ChangeShapes Go.WideShapes Go.ChangeAt Go.RowKit Cal Date

theorem small2 {k : Nat} (h : (k : Int) < 87659) : k ≤ 87658 := by omega
theorem years_facts (r : Nat) (h : r ≤ 238) : ofE (1960 + (r : Int)) 1 1 = 0 ∧ ofE (1960 + (r : Int) + 1) 1 1 = 0 ∧ ofV (1960 + (r : Int) + 1) 1 1 - ofV (1960 + (r : Int)) 1 1 = (if longB (1960 + (r : Int)) = true then 366 else 365) := year_len _ (by omega) (by omega)
theorem week_facts (x : Nat) (h : x ≤ 87658) : wekV (x : Int) = ((x : Int) + 5) % 7 ∧ wekE (x : Int) = 0 ∧
    ((decide ((87658 : Int) < (x : Int) + 7) = true ∧ (87658 : Int) < (x : Int) + 7 ∧ wekV ((x : Int) + 7) = 0 ∧ wekE ((x : Int) + 7) = 15) ∨
     (decide ((87658 : Int) < (x : Int) + 7) = false ∧ ¬ (87658 : Int) < (x : Int) + 7 ∧ wekV ((x : Int) + 7) = ((x : Int) + 5) % 7 ∧ wekE ((x : Int) + 7) = 0)) := by
  obtain ⟨g, -⟩ := civ_good x h
  refine ⟨by unfold wekV; rw [g]; rfl, by unfold wekE; rw [g]; rfl, ?_⟩
  by_cases hx : (87658 : Int) < (x : Int) + 7
  · left
    have g2 : dayB ((x : Int) + 7) = false := decide_eq_false (by omega)
    refine ⟨decide_eq_true hx, hx, ?_, ?_⟩
    · unfold wekV; rw [g2]; rfl
    · unfold wekE; rw [g2]; rfl
  · right
    have g2 : dayB ((x : Int) + 7) = true := decide_eq_true (by omega)
    refine ⟨decide_eq_false hx, hx, ?_, ?_⟩
    · unfold wekV; rw [g2, if_pos rfl]; omega
    · unfold wekE; rw [g2]; rfl
theorem order_facts (x y : Nat) {p q m n d f : Int} (h : x < y ↔ (p < q ∨ p = q ∧ (m < n ∨ m = n ∧ d < f))) :
    (decide (x < y) = true ∧ decide (p < q) = true) ∨ (decide (x < y) = true ∧ decide (p < q) = false ∧ (p == q) = true ∧ decide (m < n) = true) ∨
    (decide (x < y) = true ∧ decide (p < q) = false ∧ (p == q) = true ∧ decide (m < n) = false ∧ (m == n) = true ∧ decide (d < f) = true) ∨
    (decide (x < y) = false ∧ decide (p < q) = false ∧ (p == q) = true ∧ decide (m < n) = false ∧ (m == n) = true ∧ decide (d < f) = false) ∨
    (decide (x < y) = false ∧ decide (p < q) = false ∧ (p == q) = true ∧ decide (m < n) = false ∧ (m == n) = false) ∨
    (decide (x < y) = false ∧ decide (p < q) = false ∧ (p == q) = false) := by
  simp only [decide_eq_true_eq, decide_eq_false_iff_not, beq_iff_eq, beq_eq_false_iff_ne]
  omega
theorem order_wraps {x r : Nat} (h : x ≤ 87658) (h2 : r ≤ 238) : wrap64 ((x : Int) + 7) = (x : Int) + 7 ∧ wrap64 (1960 + (r : Int)) = 1960 + (r : Int) ∧ wrap64 (1960 + (r : Int) + 1) = 1960 + (r : Int) + 1 := by
  unfold wrap64; omega
theorem year_wrap {a b : Int} (h : b - a = 365 ∨ b - a = 366) : wrap64 (b - a) = b - a := by unfold wrap64; omega
theorem rest_239 (v : Nat) (h : v < 256) : ∃ r : Nat, r ≤ 238 ∧ (v : Int).tmod 239 = (r : Int) ∧ wrap64 (v : Int) = v := by
  refine ⟨v % 239, by omega, ?_, by unfold wrap64; omega⟩
  rw [Int.tmod_eq_emod_of_nonneg (by omega)]; omega
set_option maxHeartbeats 4000000 in
theorem order_walk (a b : Int) (v : Nat) (w : World) (hv : v < 256) (LD : Laid w) :
    Calls Tryd.prog 8 #[.int .i64 a, .int .i64 b, .int .u8 (v : Int)] w fun e w' => e = .returned (.bool true) ∧ Below w.heap.size w w' := by
  obtain ⟨r, hr, hR, hW⟩ := rest_239 v hv
  have HR := Lib.hid hr
  clear hr hv
  go_enter Tryd.func8, Tryd.ntmps8
  go_wp2_with fail
  refine (Mod.mod_any _ 87659 _ (by decide) (by decide)).mono ?_
  rintro e w0 ⟨⟨x, hx0, rfl⟩, rfl⟩
  have hx := small2 hx0
  clear hx0
  go_wp2_with fail
  refine (Mod.mod_any _ 87659 _ (by decide) (by decide)).mono ?_
  rintro e w0 ⟨⟨y, hy0, rfl⟩, rfl⟩
  have hy := small2 hy0
  clear hy0
  obtain ⟨-, x1, x2, x3, x4⟩ := civ_good x hx
  obtain ⟨-, y1, y2, y3, y4⟩ := civ_good y hy
  have X := Lib.hid (And.intro x1 (And.intro x2 (And.intro x3 x4)))
  have Y := Lib.hid (And.intro y1 (And.intro y2 (And.intro y3 y4)))
  have ORD := Lib.hid (order_facts x y (civ_lt x y))
  obtain ⟨v1, v2, s⟩ := week_facts x hx
  have V1 := Lib.hid v1
  have V2 := Lib.hid v2
  have S := Lib.hid s
  obtain ⟨k1, k2, k3⟩ := years_facts r HR.out
  have Y1 := Lib.hid k1
  have Y2 := Lib.hid k2
  have YL := Lib.hid k3
  have HWL := Lib.hid (year_wrap (a := ofV (1960 + (r : Int)) 1 1) (b := ofV (1960 + (r : Int) + 1) 1 1) (by rw [k3]; split <;> simp))
  have OW := Lib.hid (order_wraps hx HR.out)
  clear x1 x2 x3 x4 y1 y2 y3 y4 v1 v2 s k1 k2 k3 hx hy
  go_wp2_with fail
  refine (d_civil _ _ LD).mono ?_
  rw [X.out.1, X.out.2.1, X.out.2.2.1, X.out.2.2.2]
  rintro e w1 ⟨rfl, b1⟩
  replace LD := LD.of b1
  go_wp2_with fail
  refine (d_civil _ _ LD).mono ?_
  rw [Y.out.1, Y.out.2.1, Y.out.2.2.1, Y.out.2.2.2]
  rintro e w2 ⟨rfl, b2⟩
  replace LD := LD.of b2
  have B := Lib.hid (below_via b1 b2)
  clear b1 b2 X Y
  have O := ORD.out
  clear ORD
  generalize yr x = p at *
  generalize yr y = q at *
  generalize mn x = m at *
  generalize mn y = n at *
  generalize dy x = d at *
  generalize dy y = f at *
  obtain ⟨g1, hg1⟩ : ∃ g1, g1 = ofV (1960 + (r : Int)) 1 1 := ⟨_, rfl⟩
  obtain ⟨g2, hg2⟩ : ∃ g2, g2 = ofV (1960 + (r : Int) + 1) 1 1 := ⟨_, rfl⟩
  rw [← hg1, ← hg2] at HWL YL
  have G1 := Lib.hid hg1.symm
  have G2 := Lib.hid hg2.symm
  clear hg1 hg2
  obtain ⟨W7, WK, WK1⟩ := OW.out
  rcases O with ⟨o1, o2⟩ | ⟨o1, o2, o3, o4⟩ | ⟨o1, o2, o3, o4, o5, o6⟩ | ⟨o1, o2, o3, o4, o5, o6⟩ | ⟨o1, o2, o3, o4, o5⟩ | ⟨o1, o2, o3⟩
  · skip
    go_wp2_with fail
    refine (d_of _ _ _ _ LD).mono ?_
    rw [G1.out, Y1.out]
    rintro e w3 ⟨rfl, b3⟩
    replace LD := LD.of b3
    go_wp2_with fail
    refine (d_of _ _ _ _ LD).mono ?_
    rw [G2.out, Y2.out]
    rintro e w4 ⟨rfl, b4⟩
    replace LD := LD.of b4
    go_wp2_with fail
    refine (d_long _ _ LD).mono ?_
    rintro e w5 ⟨rfl, b5⟩
    replace LD := LD.of b5
    have WL := HWL.out
    have B5 := Lib.hid (below_via (below_via (below_via B.out b3) b4) b5)
    clear b3 b4 b5
    cases hl : longB (1960 + (r : Int)) with
    | true =>
      have L := YL.out
      rw [hl, if_pos rfl] at L
      rw [L] at WL
      go_wp2_with fail
      refine (d_week _ _ LD).mono ?_
      rw [V1.out, V2.out]
      rintro e w6 ⟨rfl, b6⟩
      replace LD := LD.of b6
      go_wp2_with fail
      refine (d_week _ _ LD).mono ?_
      rcases S.out with ⟨z1, z2, z3, z4⟩ | ⟨z1, z2, z3, z4⟩
      · rw [z3, z4]
        rintro e w7 ⟨rfl, b7⟩
        replace LD := LD.of b7
        go_wp2_with fail
        refine (wakes_date _ LD).mono ?_
        rintro e wk ⟨rfl, bk⟩
        replace LD := LD.of bk
        go_wp2_with fail
        go_ret
        exact ⟨rfl, below_via (below_via (below_via B5.out b6) b7) bk⟩
      · rw [z3, z4]
        rintro e w7 ⟨rfl, b7⟩
        replace LD := LD.of b7
        have uu := fun x : Int => (by simp : (x == x) = true)
        go_wp2_with fail
        refine (wakes_date _ LD).mono ?_
        rintro e wk ⟨rfl, bk⟩
        replace LD := LD.of bk
        go_wp2_with fail
        go_ret
        exact ⟨rfl, below_via (below_via (below_via B5.out b6) b7) bk⟩
    | false =>
      have L := YL.out
      rw [hl, if_neg (by decide)] at L
      rw [L] at WL
      go_wp2_with fail
      refine (d_week _ _ LD).mono ?_
      rw [V1.out, V2.out]
      rintro e w6 ⟨rfl, b6⟩
      replace LD := LD.of b6
      go_wp2_with fail
      refine (d_week _ _ LD).mono ?_
      rcases S.out with ⟨z1, z2, z3, z4⟩ | ⟨z1, z2, z3, z4⟩
      · rw [z3, z4]
        rintro e w7 ⟨rfl, b7⟩
        replace LD := LD.of b7
        go_wp2_with fail
        refine (wakes_date _ LD).mono ?_
        rintro e wk ⟨rfl, bk⟩
        replace LD := LD.of bk
        go_wp2_with fail
        go_ret
        exact ⟨rfl, below_via (below_via (below_via B5.out b6) b7) bk⟩
      · rw [z3, z4]
        rintro e w7 ⟨rfl, b7⟩
        replace LD := LD.of b7
        have uu := fun x : Int => (by simp : (x == x) = true)
        go_wp2_with fail
        refine (wakes_date _ LD).mono ?_
        rintro e wk ⟨rfl, bk⟩
        replace LD := LD.of bk
        go_wp2_with fail
        go_ret
        exact ⟨rfl, below_via (below_via (below_via B5.out b6) b7) bk⟩
  · skip
    go_wp2_with fail
    refine (d_of _ _ _ _ LD).mono ?_
    rw [G1.out, Y1.out]
    rintro e w3 ⟨rfl, b3⟩
    replace LD := LD.of b3
    go_wp2_with fail
    refine (d_of _ _ _ _ LD).mono ?_
    rw [G2.out, Y2.out]
    rintro e w4 ⟨rfl, b4⟩
    replace LD := LD.of b4
    go_wp2_with fail
    refine (d_long _ _ LD).mono ?_
    rintro e w5 ⟨rfl, b5⟩
    replace LD := LD.of b5
    have WL := HWL.out
    have B5 := Lib.hid (below_via (below_via (below_via B.out b3) b4) b5)
    clear b3 b4 b5
    cases hl : longB (1960 + (r : Int)) with
    | true =>
      have L := YL.out
      rw [hl, if_pos rfl] at L
      rw [L] at WL
      go_wp2_with fail
      refine (d_week _ _ LD).mono ?_
      rw [V1.out, V2.out]
      rintro e w6 ⟨rfl, b6⟩
      replace LD := LD.of b6
      go_wp2_with fail
      refine (d_week _ _ LD).mono ?_
      rcases S.out with ⟨z1, z2, z3, z4⟩ | ⟨z1, z2, z3, z4⟩
      · rw [z3, z4]
        rintro e w7 ⟨rfl, b7⟩
        replace LD := LD.of b7
        go_wp2_with fail
        refine (wakes_date _ LD).mono ?_
        rintro e wk ⟨rfl, bk⟩
        replace LD := LD.of bk
        go_wp2_with fail
        go_ret
        exact ⟨rfl, below_via (below_via (below_via B5.out b6) b7) bk⟩
      · rw [z3, z4]
        rintro e w7 ⟨rfl, b7⟩
        replace LD := LD.of b7
        have uu := fun x : Int => (by simp : (x == x) = true)
        go_wp2_with fail
        refine (wakes_date _ LD).mono ?_
        rintro e wk ⟨rfl, bk⟩
        replace LD := LD.of bk
        go_wp2_with fail
        go_ret
        exact ⟨rfl, below_via (below_via (below_via B5.out b6) b7) bk⟩
    | false =>
      have L := YL.out
      rw [hl, if_neg (by decide)] at L
      rw [L] at WL
      go_wp2_with fail
      refine (d_week _ _ LD).mono ?_
      rw [V1.out, V2.out]
      rintro e w6 ⟨rfl, b6⟩
      replace LD := LD.of b6
      go_wp2_with fail
      refine (d_week _ _ LD).mono ?_
      rcases S.out with ⟨z1, z2, z3, z4⟩ | ⟨z1, z2, z3, z4⟩
      · rw [z3, z4]
        rintro e w7 ⟨rfl, b7⟩
        replace LD := LD.of b7
        go_wp2_with fail
        refine (wakes_date _ LD).mono ?_
        rintro e wk ⟨rfl, bk⟩
        replace LD := LD.of bk
        go_wp2_with fail
        go_ret
        exact ⟨rfl, below_via (below_via (below_via B5.out b6) b7) bk⟩
      · rw [z3, z4]
        rintro e w7 ⟨rfl, b7⟩
        replace LD := LD.of b7
        have uu := fun x : Int => (by simp : (x == x) = true)
        go_wp2_with fail
        refine (wakes_date _ LD).mono ?_
        rintro e wk ⟨rfl, bk⟩
        replace LD := LD.of bk
        go_wp2_with fail
        go_ret
        exact ⟨rfl, below_via (below_via (below_via B5.out b6) b7) bk⟩
  · skip
    go_wp2_with fail
    refine (d_of _ _ _ _ LD).mono ?_
    rw [G1.out, Y1.out]
    rintro e w3 ⟨rfl, b3⟩
    replace LD := LD.of b3
    go_wp2_with fail
    refine (d_of _ _ _ _ LD).mono ?_
    rw [G2.out, Y2.out]
    rintro e w4 ⟨rfl, b4⟩
    replace LD := LD.of b4
    go_wp2_with fail
    refine (d_long _ _ LD).mono ?_
    rintro e w5 ⟨rfl, b5⟩
    replace LD := LD.of b5
    have WL := HWL.out
    have B5 := Lib.hid (below_via (below_via (below_via B.out b3) b4) b5)
    clear b3 b4 b5
    cases hl : longB (1960 + (r : Int)) with
    | true =>
      have L := YL.out
      rw [hl, if_pos rfl] at L
      rw [L] at WL
      go_wp2_with fail
      refine (d_week _ _ LD).mono ?_
      rw [V1.out, V2.out]
      rintro e w6 ⟨rfl, b6⟩
      replace LD := LD.of b6
      go_wp2_with fail
      refine (d_week _ _ LD).mono ?_
      rcases S.out with ⟨z1, z2, z3, z4⟩ | ⟨z1, z2, z3, z4⟩
      · rw [z3, z4]
        rintro e w7 ⟨rfl, b7⟩
        replace LD := LD.of b7
        go_wp2_with fail
        refine (wakes_date _ LD).mono ?_
        rintro e wk ⟨rfl, bk⟩
        replace LD := LD.of bk
        go_wp2_with fail
        go_ret
        exact ⟨rfl, below_via (below_via (below_via B5.out b6) b7) bk⟩
      · rw [z3, z4]
        rintro e w7 ⟨rfl, b7⟩
        replace LD := LD.of b7
        have uu := fun x : Int => (by simp : (x == x) = true)
        go_wp2_with fail
        refine (wakes_date _ LD).mono ?_
        rintro e wk ⟨rfl, bk⟩
        replace LD := LD.of bk
        go_wp2_with fail
        go_ret
        exact ⟨rfl, below_via (below_via (below_via B5.out b6) b7) bk⟩
    | false =>
      have L := YL.out
      rw [hl, if_neg (by decide)] at L
      rw [L] at WL
      go_wp2_with fail
      refine (d_week _ _ LD).mono ?_
      rw [V1.out, V2.out]
      rintro e w6 ⟨rfl, b6⟩
      replace LD := LD.of b6
      go_wp2_with fail
      refine (d_week _ _ LD).mono ?_
      rcases S.out with ⟨z1, z2, z3, z4⟩ | ⟨z1, z2, z3, z4⟩
      · rw [z3, z4]
        rintro e w7 ⟨rfl, b7⟩
        replace LD := LD.of b7
        go_wp2_with fail
        refine (wakes_date _ LD).mono ?_
        rintro e wk ⟨rfl, bk⟩
        replace LD := LD.of bk
        go_wp2_with fail
        go_ret
        exact ⟨rfl, below_via (below_via (below_via B5.out b6) b7) bk⟩
      · rw [z3, z4]
        rintro e w7 ⟨rfl, b7⟩
        replace LD := LD.of b7
        have uu := fun x : Int => (by simp : (x == x) = true)
        go_wp2_with fail
        refine (wakes_date _ LD).mono ?_
        rintro e wk ⟨rfl, bk⟩
        replace LD := LD.of bk
        go_wp2_with fail
        go_ret
        exact ⟨rfl, below_via (below_via (below_via B5.out b6) b7) bk⟩
  · skip
    go_wp2_with fail
    refine (d_of _ _ _ _ LD).mono ?_
    rw [G1.out, Y1.out]
    rintro e w3 ⟨rfl, b3⟩
    replace LD := LD.of b3
    go_wp2_with fail
    refine (d_of _ _ _ _ LD).mono ?_
    rw [G2.out, Y2.out]
    rintro e w4 ⟨rfl, b4⟩
    replace LD := LD.of b4
    go_wp2_with fail
    refine (d_long _ _ LD).mono ?_
    rintro e w5 ⟨rfl, b5⟩
    replace LD := LD.of b5
    have WL := HWL.out
    have B5 := Lib.hid (below_via (below_via (below_via B.out b3) b4) b5)
    clear b3 b4 b5
    cases hl : longB (1960 + (r : Int)) with
    | true =>
      have L := YL.out
      rw [hl, if_pos rfl] at L
      rw [L] at WL
      go_wp2_with fail
      refine (d_week _ _ LD).mono ?_
      rw [V1.out, V2.out]
      rintro e w6 ⟨rfl, b6⟩
      replace LD := LD.of b6
      go_wp2_with fail
      refine (d_week _ _ LD).mono ?_
      rcases S.out with ⟨z1, z2, z3, z4⟩ | ⟨z1, z2, z3, z4⟩
      · rw [z3, z4]
        rintro e w7 ⟨rfl, b7⟩
        replace LD := LD.of b7
        go_wp2_with fail
        refine (wakes_date _ LD).mono ?_
        rintro e wk ⟨rfl, bk⟩
        replace LD := LD.of bk
        go_wp2_with fail
        go_ret
        exact ⟨rfl, below_via (below_via (below_via B5.out b6) b7) bk⟩
      · rw [z3, z4]
        rintro e w7 ⟨rfl, b7⟩
        replace LD := LD.of b7
        have uu := fun x : Int => (by simp : (x == x) = true)
        go_wp2_with fail
        refine (wakes_date _ LD).mono ?_
        rintro e wk ⟨rfl, bk⟩
        replace LD := LD.of bk
        go_wp2_with fail
        go_ret
        exact ⟨rfl, below_via (below_via (below_via B5.out b6) b7) bk⟩
    | false =>
      have L := YL.out
      rw [hl, if_neg (by decide)] at L
      rw [L] at WL
      go_wp2_with fail
      refine (d_week _ _ LD).mono ?_
      rw [V1.out, V2.out]
      rintro e w6 ⟨rfl, b6⟩
      replace LD := LD.of b6
      go_wp2_with fail
      refine (d_week _ _ LD).mono ?_
      rcases S.out with ⟨z1, z2, z3, z4⟩ | ⟨z1, z2, z3, z4⟩
      · rw [z3, z4]
        rintro e w7 ⟨rfl, b7⟩
        replace LD := LD.of b7
        go_wp2_with fail
        refine (wakes_date _ LD).mono ?_
        rintro e wk ⟨rfl, bk⟩
        replace LD := LD.of bk
        go_wp2_with fail
        go_ret
        exact ⟨rfl, below_via (below_via (below_via B5.out b6) b7) bk⟩
      · rw [z3, z4]
        rintro e w7 ⟨rfl, b7⟩
        replace LD := LD.of b7
        have uu := fun x : Int => (by simp : (x == x) = true)
        go_wp2_with fail
        refine (wakes_date _ LD).mono ?_
        rintro e wk ⟨rfl, bk⟩
        replace LD := LD.of bk
        go_wp2_with fail
        go_ret
        exact ⟨rfl, below_via (below_via (below_via B5.out b6) b7) bk⟩
  · skip
    go_wp2_with fail
    refine (d_of _ _ _ _ LD).mono ?_
    rw [G1.out, Y1.out]
    rintro e w3 ⟨rfl, b3⟩
    replace LD := LD.of b3
    go_wp2_with fail
    refine (d_of _ _ _ _ LD).mono ?_
    rw [G2.out, Y2.out]
    rintro e w4 ⟨rfl, b4⟩
    replace LD := LD.of b4
    go_wp2_with fail
    refine (d_long _ _ LD).mono ?_
    rintro e w5 ⟨rfl, b5⟩
    replace LD := LD.of b5
    have WL := HWL.out
    have B5 := Lib.hid (below_via (below_via (below_via B.out b3) b4) b5)
    clear b3 b4 b5
    cases hl : longB (1960 + (r : Int)) with
    | true =>
      have L := YL.out
      rw [hl, if_pos rfl] at L
      rw [L] at WL
      go_wp2_with fail
      refine (d_week _ _ LD).mono ?_
      rw [V1.out, V2.out]
      rintro e w6 ⟨rfl, b6⟩
      replace LD := LD.of b6
      go_wp2_with fail
      refine (d_week _ _ LD).mono ?_
      rcases S.out with ⟨z1, z2, z3, z4⟩ | ⟨z1, z2, z3, z4⟩
      · rw [z3, z4]
        rintro e w7 ⟨rfl, b7⟩
        replace LD := LD.of b7
        go_wp2_with fail
        refine (wakes_date _ LD).mono ?_
        rintro e wk ⟨rfl, bk⟩
        replace LD := LD.of bk
        go_wp2_with fail
        go_ret
        exact ⟨rfl, below_via (below_via (below_via B5.out b6) b7) bk⟩
      · rw [z3, z4]
        rintro e w7 ⟨rfl, b7⟩
        replace LD := LD.of b7
        have uu := fun x : Int => (by simp : (x == x) = true)
        go_wp2_with fail
        refine (wakes_date _ LD).mono ?_
        rintro e wk ⟨rfl, bk⟩
        replace LD := LD.of bk
        go_wp2_with fail
        go_ret
        exact ⟨rfl, below_via (below_via (below_via B5.out b6) b7) bk⟩
    | false =>
      have L := YL.out
      rw [hl, if_neg (by decide)] at L
      rw [L] at WL
      go_wp2_with fail
      refine (d_week _ _ LD).mono ?_
      rw [V1.out, V2.out]
      rintro e w6 ⟨rfl, b6⟩
      replace LD := LD.of b6
      go_wp2_with fail
      refine (d_week _ _ LD).mono ?_
      rcases S.out with ⟨z1, z2, z3, z4⟩ | ⟨z1, z2, z3, z4⟩
      · rw [z3, z4]
        rintro e w7 ⟨rfl, b7⟩
        replace LD := LD.of b7
        go_wp2_with fail
        refine (wakes_date _ LD).mono ?_
        rintro e wk ⟨rfl, bk⟩
        replace LD := LD.of bk
        go_wp2_with fail
        go_ret
        exact ⟨rfl, below_via (below_via (below_via B5.out b6) b7) bk⟩
      · rw [z3, z4]
        rintro e w7 ⟨rfl, b7⟩
        replace LD := LD.of b7
        have uu := fun x : Int => (by simp : (x == x) = true)
        go_wp2_with fail
        refine (wakes_date _ LD).mono ?_
        rintro e wk ⟨rfl, bk⟩
        replace LD := LD.of bk
        go_wp2_with fail
        go_ret
        exact ⟨rfl, below_via (below_via (below_via B5.out b6) b7) bk⟩
  · skip
    go_wp2_with fail
    refine (d_of _ _ _ _ LD).mono ?_
    rw [G1.out, Y1.out]
    rintro e w3 ⟨rfl, b3⟩
    replace LD := LD.of b3
    go_wp2_with fail
    refine (d_of _ _ _ _ LD).mono ?_
    rw [G2.out, Y2.out]
    rintro e w4 ⟨rfl, b4⟩
    replace LD := LD.of b4
    go_wp2_with fail
    refine (d_long _ _ LD).mono ?_
    rintro e w5 ⟨rfl, b5⟩
    replace LD := LD.of b5
    have WL := HWL.out
    have B5 := Lib.hid (below_via (below_via (below_via B.out b3) b4) b5)
    clear b3 b4 b5
    cases hl : longB (1960 + (r : Int)) with
    | true =>
      have L := YL.out
      rw [hl, if_pos rfl] at L
      rw [L] at WL
      go_wp2_with fail
      refine (d_week _ _ LD).mono ?_
      rw [V1.out, V2.out]
      rintro e w6 ⟨rfl, b6⟩
      replace LD := LD.of b6
      go_wp2_with fail
      refine (d_week _ _ LD).mono ?_
      rcases S.out with ⟨z1, z2, z3, z4⟩ | ⟨z1, z2, z3, z4⟩
      · rw [z3, z4]
        rintro e w7 ⟨rfl, b7⟩
        replace LD := LD.of b7
        go_wp2_with fail
        refine (wakes_date _ LD).mono ?_
        rintro e wk ⟨rfl, bk⟩
        replace LD := LD.of bk
        go_wp2_with fail
        go_ret
        exact ⟨rfl, below_via (below_via (below_via B5.out b6) b7) bk⟩
      · rw [z3, z4]
        rintro e w7 ⟨rfl, b7⟩
        replace LD := LD.of b7
        have uu := fun x : Int => (by simp : (x == x) = true)
        go_wp2_with fail
        refine (wakes_date _ LD).mono ?_
        rintro e wk ⟨rfl, bk⟩
        replace LD := LD.of bk
        go_wp2_with fail
        go_ret
        exact ⟨rfl, below_via (below_via (below_via B5.out b6) b7) bk⟩
    | false =>
      have L := YL.out
      rw [hl, if_neg (by decide)] at L
      rw [L] at WL
      go_wp2_with fail
      refine (d_week _ _ LD).mono ?_
      rw [V1.out, V2.out]
      rintro e w6 ⟨rfl, b6⟩
      replace LD := LD.of b6
      go_wp2_with fail
      refine (d_week _ _ LD).mono ?_
      rcases S.out with ⟨z1, z2, z3, z4⟩ | ⟨z1, z2, z3, z4⟩
      · rw [z3, z4]
        rintro e w7 ⟨rfl, b7⟩
        replace LD := LD.of b7
        go_wp2_with fail
        refine (wakes_date _ LD).mono ?_
        rintro e wk ⟨rfl, bk⟩
        replace LD := LD.of bk
        go_wp2_with fail
        go_ret
        exact ⟨rfl, below_via (below_via (below_via B5.out b6) b7) bk⟩
      · rw [z3, z4]
        rintro e w7 ⟨rfl, b7⟩
        replace LD := LD.of b7
        have uu := fun x : Int => (by simp : (x == x) = true)
        go_wp2_with fail
        refine (wakes_date _ LD).mono ?_
        rintro e wk ⟨rfl, bk⟩
        replace LD := LD.of bk
        go_wp2_with fail
        go_ret
        exact ⟨rfl, below_via (below_via (below_via B5.out b6) b7) bk⟩

set_option maxRecDepth 100000 in
theorem dateOrder_lifted (os : Os) (started : os.Started) (H : Type) (enc : TypeId × Value → H) :
    ReturnsInHanded {} Tryd.checked os 8 .any (fun w args => (Rows.dateOrderSpec.pre enc Tryd.prog Tryd.f8 Rows.dateOrderRow.domain false w args ∧ laidMetH Tryd.prog Rows.dateOrderRow.laid w) ∧ sizedMet enc Tryd.prog Tryd.f8 (OpenSpec.ofChange Rows.dateOrderSpec) false w args) (Rows.dateOrderSpec.post enc Tryd.prog Tryd.f8 false true false false) := by
  refine Door.law_lifted (C := Tryd.checked) (tb := 4) (by kernel_rfl) started (by kernel_rfl) Tryd.func8
    (ChangeSpec.witness_shaped (enc := enc) (C := Tryd.checked) (os := os) (X := fun w _ => laidMetH Tryd.prog Rows.dateOrderRow.laid w) false (World.laidAll Tryd.prog os Rows.dateOrderRow.laid) #[.int .i64 0, .int .i64 0, .int .u8 0] 8 (World.laidAll_os _ _ _)
      (World.shaped_of_ZipB (by kernel_rfl) (by kernel_rfl)) (by kernel_rfl) (by kernel_rfl) (by kernel_rfl)
      (by rw [MakeChecks.laidMetH_plain _ _ _ (by kernel_rfl)]; exact laidMet_laidAll _ (by kernel_rfl) (by kernel_rfl)))
    (by kernel_rfl) (by kernel_rfl) rfl rfl Tryd.underlying4 ?_
  intro W base args ds p hval0 hA0 hL
  have hval : ∀ (j : Nat) t v, Tryd.f8.params[j]? = some t → args[j]? = some v → Value.okWide Tryd.prog W .any base t v := hval0
  have hA : DataW.TrodAll enc Tryd.prog W 0 (fun _ => true) true Tryd.f8.params.toList args.toList ds p := hA0
  clear hval0 hA0
  rw [MakeChecks.laidMetH_plain _ _ _ (by kernel_rfl)] at hL
  rw [Tryd.params8] at hA hval
  obtain ⟨v0, vs0, d0, ds0, p0, q0, hargs, rfl, rfl, h0, r0⟩ := trodAll_cons hA
  obtain ⟨v1, vs1, d1, ds1, p1, q1, rfl, rfl, rfl, h1, r1⟩ := trodAll_cons r0
  obtain ⟨v2, vs2, d2, ds2, p2, q2, rfl, rfl, rfl, h2, r2⟩ := trodAll_cons r1
  obtain ⟨rfl, rfl, rfl⟩ := trodAll_nil r2
  obtain rfl : args = #[v0, v1, v2] := by cases args; simp_all
  refine ⟨rfl, ?_⟩
  obtain ⟨a, rfl, -, -, ha⟩ := open_int Tryd.underlying3 (hval 0 3 v0 rfl rfl) h0
  obtain ⟨b, rfl, -, -, hb⟩ := open_int Tryd.underlying3 (hval 1 3 v1 rfl rfl) h1
  obtain ⟨s, rfl, -, -, hs⟩ := open_int Tryd.underlying5 (hval 2 5 v2 rfl rfl) h2
  obtain ⟨v, rfl, hv⟩ := Mod.u8_nat hs
  have LD := Date.laid_of hL (by exact List.mem_cons_self ..)
  exact order_walk a b v W hv LD

theorem dateOrder_over : Rows.dateOrderRow.holds Tryd.pinned (OpenSpec.ofChange Rows.dateOrderSpec) :=
  OpenClaim.holds_of_wide 8 Tryd.f8 rfl rfl rfl rfl rfl rfl rfl ⟨rfl, rfl, rfl, rfl, rfl⟩ rfl rfl rfl rfl rfl (by kernel_rfl) Tryd.func8 (by kernel_rfl)
    (of_decide_eq_true (by kernel_rfl)) (by unfold Func.isWrapper; first | (rw [if_pos (by decide +kernel)]; kernel_rfl) | (rw [if_neg (by decide +kernel)]; exact ⟨rfl, rfl⟩))
    (fun os st H enc _ => dateOrder_lifted os st H enc)

/-- The statement: the card. -/
theorem dateOrder_proved : Rows.DateOrderCardSaid :=
  Claim7.holds_tied_plain_at .later [] [.data] true Rows.dateOrderCard.stood.harness false
    dateOrder_over (fun _ h => by cases h) (by kernel_rfl) (fun _ h => by cases h) dateOrder_row_tie rfl ⟨rfl, rfl⟩ (by kernel_rfl) rfl
    (fun f fn hf hfn => by
      obtain rfl : f = 8 := Option.some.inj ((show Tryd.prog.funcNamed "annuity/annuitylaw04.DateOrder" = some 8 by kernel_rfl).symm.trans hf) |>.symm
      obtain rfl : fn = Tryd.f8 := (Option.some.inj (Tryd.func8.symm.trans hfn)).symm
      exact ⟨by kernel_rfl, fun j t ht => by
        have hall : (Tryd.f8.params.toList.all fun u => !Tryd.prog.wantsStandIn u) = true := by kernel_rfl
        exact (show Tryd.prog.wantsStandIn t = false by simpa using List.all_eq_true.1 hall t (Array.mem_def.1 (Array.mem_of_getElem? ht)))⟩)
    (by kernel_rfl)
end Go.Proofs.YtkhimogdkcibmaaDoor.Law
