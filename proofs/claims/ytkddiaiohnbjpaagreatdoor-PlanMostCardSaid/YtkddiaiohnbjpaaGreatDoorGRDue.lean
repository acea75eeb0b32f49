/- The document's own Months, InTime, Late, Year, Whole, at every input. The document's own InTime, Late, Year, Whole, at every input; two lists of ints that are one are told alike. The document's own Whole, at every two numbers. -/
import Derived.Test.YtkddiaiohnbjpaaGreatDoorGDue
import Derived.Test.YtkddiaiohnbjpaaGreatDoorGA
namespace Go.Proofs.YtkddiaiohnbjpaaGreatDoor.Due
open Go.ChangeShapes Go.WideShapes Go.ChangeAt Go.RowKit Cal Date Slice

theorem int_info : (Tryz.prog.info? 3).map (fun i => (i.zero, i.size, i.bytes)) = some (some (.int .i64 0), 1, 8) := by kernel_rfl
/-- The document's Months ahead of month j. -/
def MRun (a : Int) (w : World) (j : Nat) (u : Value) (wr : World) : Prop :=
  Below w.heap.size w wr ∧ wr.ownsRow w.heap.size 3 1 u (j - cnt a) ((seqL (cnt a) (j - cnt a)).map (Value.int .i64))
theorem mRun_skip {a : Int} {w wr : World} {j : Nat} {u : Value} (h : MRun a w j u wr) (hj : j < cnt a) : MRun a w (j + 1) u wr := by
  unfold MRun at *
  rw [show j - cnt a = 0 by omega] at h
  rw [show j + 1 - cnt a = 0 by omega]
  exact h
theorem mRun_step {a : Int} {w wr w3 : World} {j : Nat} {u v : Value} (h : MRun a w j u wr) (hj : ¬ j < cnt a)
    (ho : w3.ownsRow w.heap.size 3 1 v (j - cnt a + 1) ((seqL (cnt a) (j - cnt a)).map (Value.int .i64) ++ [.int .i64 (j : Int)])) (hg : wr.grownBy w3 u.ownBlock) : MRun a w (j + 1) v w3 := by
  unfold MRun at *
  obtain ⟨hb, hu⟩ := h
  refine ⟨hb.grown hg (by have := hb.size; omega) (fun g hg => (hu.lt g hg).1), ?_⟩
  rw [show j + 1 - cnt a = j - cnt a + 1 by omega, seq_succ, List.map_append, show cnt a + (j - cnt a) = j by omega]
  exact ho
theorem mRun_ints {a : Int} {w wr : World} {j : Nat} {u : Value} (h : MRun a w j u wr) : Ints wr wr.heap.size .i64 u (seqL (cnt a) (j - cnt a)) :=
  Ints.of_own (by rw [seq_len]) h.2
end Go.Proofs.YtkddiaiohnbjpaaGreatDoor.Due
namespace Go.Proofs.YtkddiaiohnbjpaaGreatDoor.Due
open Go.ChangeShapes Go.WideShapes Go.ChangeAt Go.RowKit Cal Date Slice

theorem firE_yes {m : Int} (h : monB m = true) : firE m = 0 := by rw [firE_mon, h]; rfl
theorem firE_no {m : Int} (h : monB m = false) : firE m = 15 := by rw [firE_mon, h]; rfl
set_option maxHeartbeats 400000 in
/-- Two lists that are one are told alike. -/
theorem ints_same (zs : List Int) (v u : Value) (B : Nat) (w : World) (hv : Ints w B .i64 v zs) (hu : Ints w B .i64 u zs) :
    Calls Tryz.prog 15 #[v, u] w fun e w' => e = .returned (.bool true) ∧ ∃ n, w' = w.drewN n := by
  obtain ⟨A, c, rfl, hl, -, hcell⟩ := hv
  obtain ⟨A', c', rfl, -, -, hcell'⟩ := hu
  have HC := Lib.hid hcell
  have HC' := Lib.hid hcell'
  clear hcell hcell'
  go_enter Tryz.func15, Tryz.ntmps15
  go_wp2_with fail
  go_loopw [5] (fun t wr => ∃ j : Nat, j ≤ zs.length ∧ t = .int .i64 j ∧ ∃ n, wr = w.drewN n) (fun t _ => zs.length - (intOf t).toNat)
  case atStart => exact ⟨0, Nat.zero_le _, rfl, 0, rfl⟩
  case round =>
    obtain ⟨j, hj, rfl, n, rfl⟩ := hrel
    by_cases hlt : j < zs.length
    · obtain ⟨b, off, rfl, hb, hcell⟩ := HC.out (by omega)
      obtain ⟨b', off', rfl, hb', hcell'⟩ := HC'.out (by omega)
      have hx := hcell j hlt
      have hx' := hcell' j hlt
      clear hcell hcell'
      generalize zs.getD j 0 = x at *
      have h0 : (0 : Int) ≤ j := by omega
      go_wp2_with fail
      go_quiet (fail)
      go_wp2_with fail
      go_roundw
      case rel => exact ⟨j + 1, by omega, by go_num, _, rfl⟩
      case measure => simp [intOf]; omega
    · go_wp2_with fail
      go_ret
      exact ⟨rfl, _, rfl⟩
end Go.Proofs.YtkddiaiohnbjpaaGreatDoor.Due
namespace Go.Proofs.YtkddiaiohnbjpaaGreatDoor.Due
open Go.ChangeShapes Go.WideShapes Go.ChangeAt Go.RowKit Cal Date Slice

/-- A cell of the block that was laid just ahead, behind calls that make memory of their own. -/
theorem kept_cell {a b : World} {C : Array Value} {T : TypeId} (hb : Below (a.alloc (.cells C T)).heap.size (a.alloc (.cells C T)) b) (i : Nat) : b.cell? ⟨a.heap.size, i, none⟩ = C[i]? := by
  have hz : a.heap.size < (a.alloc (.cells C T)).heap.size := by simp
  rw [hb.cell (p := ⟨a.heap.size, i, none⟩) hz]
  exact World.cell?_alloc_new _ _ _ _
theorem gap_is (x y : Nat) (hx : x ≤ 87658) (hy : y ≤ 87658) : 12 * (yr y - yr x) + mn y - mn x = (mo y : Int) - mo x := by
  have h1 := (civ_month x hx).1
  have h2 := (civ_month y hy).1
  omega
set_option maxHeartbeats 400000 in
theorem r_whole_ok (x y : Nat) (hx : x ≤ y) (hy : y ≤ 87658) (w : World) : Calls Tryz.prog 85 #[.int .i64 (x : Int), .int .i64 (y : Int)] w fun e w' => e = .returned (.int .i64 (whoV x y)) ∧ Below w.heap.size w w' := by
  have G1 := rday_any (x : Int)
  rw [show dayB (x : Int) = true from decide_eq_true (by omega)] at G1
  have G2 := rday_any (y : Int)
  rw [show dayB (y : Int) = true from decide_eq_true (by omega)] at G2
  have t0 : decide (y < x) = false := decide_eq_false (by omega)
  have C1 := fun w => rcivil_ok x w (by omega)
  have C2 := fun w => rcivil_ok y w hy
  have Q := gap_is x y (by omega) hy
  have A := radd_any (x : Int) ((mo y : Int) - mo x)
  have W := who_yes hx hy
  have m1 := mo_lt hy
  have m2 := mo_mono hx
  obtain ⟨c1, c2, c3, c4, c5⟩ := civ_month x (by omega)
  obtain ⟨d1, d2, d3, d4, d5⟩ := civ_month y hy
  have HX := Lib.hid hx
  have HY := Lib.hid hy
  clear hx hy c1 d1
  have Q' := Lib.hid Q
  clear Q
  generalize addV (x : Int) ((mo y : Int) - mo x) = a at *
  generalize addE (x : Int) ((mo y : Int) - mo x) = e0 at *
  generalize hg : (mo y : Int) - mo x = g at *
  have g0 : 0 ≤ g ∧ g ≤ 2879 := by omega
  clear hg m1 m2
  generalize yr x = y1 at *
  generalize mn x = m1 at *
  generalize dy x = z1 at *
  generalize yr y = y2 at *
  generalize mn y = m2 at *
  generalize dy y = z2 at *
  have HW := Lib.hid W
  clear W
  go_enter Tryz.func85, Tryz.ntmps85
  go_wp2_with fail
  refine (G1 _).mono ?_
  rintro e w1 ⟨rfl, rfl⟩
  go_wp2_with fail
  refine (G2 _).mono ?_
  rintro e w1 ⟨rfl, rfl⟩
  go_wp2_with fail
  refine (C1 _).mono ?_
  rintro e w1 ⟨rfl, b1⟩
  go_wp2_with fail
  refine (C2 _).mono ?_
  rintro e w2 ⟨rfl, b2⟩
  have k0 : w2.cell? ⟨w1.heap.size, 0, none⟩ = some (.int .i64 y1) := kept_cell b2 0
  have k1 : w2.cell? ⟨w1.heap.size, 1, none⟩ = some (.int .i64 m1) := kept_cell b2 1
  have l1 : w1.heap.size < w2.heap.size := by have := b2.size; simp at this; omega
  have B := Lib.hid (below_via (below_new b1 _) b2)
  clear b1 b2
  go_wp2_with fail
  rw [Q'.out]
  refine (A _).mono ?_
  rintro e w3 ⟨rfl, b3⟩
  have B2 := Lib.hid (below_via (below_new B.out _) b3)
  clear b3 k0 k1 l1 B
  by_cases hc : (y : Int) < a
  · have u1 : decide ((y : Int) < a) = true := decide_eq_true hc
    have V : Hid (whoV x y = g - 1) := show _ = _ by rw [HW.out, if_pos hc]
    go_wp2_with fail
    go_ret
    exact ⟨ret_int V.out.symm, B2.out⟩
  · have u1 : decide ((y : Int) < a) = false := decide_eq_false hc
    have V : Hid (whoV x y = g) := show _ = _ by rw [HW.out, if_neg hc]
    go_wp2_with fail
    go_ret
    exact ⟨ret_int V.out.symm, B2.out⟩
theorem r_whole (a b : Int) (w : World) : Calls Tryz.prog 85 #[.int .i64 a, .int .i64 b] w fun e w' => e = .returned (.int .i64 (whoV a b)) ∧ Below w.heap.size w w' := by
  cases ha : dayB a with
  | false =>
    have H := Lib.hid (who_no (a := a) (b := b) (by unfold whoB; rw [ha]; rfl))
    have G := rday_any a
    rw [ha] at G
    clear ha
    go_enter Tryz.func85, Tryz.ntmps85
    go_wp2_with fail
    refine (G _).mono ?_
    rintro e w1 ⟨rfl, rfl⟩
    go_wp2_with fail
    go_ret
    exact ⟨ret_int H.out.symm, Below.refl _ _⟩
  | true =>
    cases hb : dayB b with
    | false =>
      have H := Lib.hid (who_no (a := a) (b := b) (by unfold whoB; rw [ha, hb]; rfl))
      have G := rday_any a
      have G2 := rday_any b
      rw [ha] at G
      rw [hb] at G2
      clear ha hb
      go_enter Tryz.func85, Tryz.ntmps85
      go_wp2_with fail
      refine (G _).mono ?_
      rintro e w1 ⟨rfl, rfl⟩
      go_wp2_with fail
      refine (G2 _).mono ?_
      rintro e w1 ⟨rfl, rfl⟩
      go_wp2_with fail
      go_ret
      exact ⟨ret_int H.out.symm, Below.refl _ _⟩
    | true =>
      by_cases hc : b < a
      · have H := Lib.hid (who_no (a := a) (b := b) (by unfold whoB; rw [ha, hb]; exact decide_eq_false (by omega)))
        have G := rday_any a
        have G2 := rday_any b
        have t := decide_eq_true hc
        rw [ha] at G
        rw [hb] at G2
        clear ha hb
        go_enter Tryz.func85, Tryz.ntmps85
        go_wp2_with fail
        refine (G _).mono ?_
        rintro e w1 ⟨rfl, rfl⟩
        go_wp2_with fail
        refine (G2 _).mono ?_
        rintro e w1 ⟨rfl, rfl⟩
        go_wp2_with fail
        go_ret
        exact ⟨ret_int H.out.symm, Below.refl _ _⟩
      · have h1 := of_decide_eq_true ha
        have h2 := of_decide_eq_true hb
        obtain ⟨x, rfl⟩ := Int.eq_ofNat_of_zero_le h1.1
        obtain ⟨y, rfl⟩ := Int.eq_ofNat_of_zero_le h2.1
        exact r_whole_ok x y (by omega) (by omega) w
end Go.Proofs.YtkddiaiohnbjpaaGreatDoor.Due
