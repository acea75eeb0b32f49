/- The program's own package bill: what only reads: Good, Open, Late. -/
import Derived.Test.YtjjbdemhccpllaaDoorBillMath
import Derived.Test.YtjjbdemhccpllaaDoorGDate
import Derived.Shelf.Abstract
namespace Go.Proofs.YtjjbdemhccpllaaDoor.Bill
open Go.ChangeShapes Go.WideShapes Go.ChangeAt Go.RowKit Plan Date Cal Money Box Rws Slice

theorem p_plain (n : Int) (w : World) : Calls Tryd.prog 39 #[.int .i64 n] w fun e w' => e = .returned (.bool (moneyB n)) ∧ w = w' := by
  have K := Lib.hid (fun W => Money.good_any n W)
  by_cases h : 0 ≤ n
  · have t1 : decide (0 ≤ n) = true := decide_eq_true h
    rw [money_pos h]
    clear h
    generalize goodB n = g at *
    go_enter Tryd.func39, Tryd.ntmps39
    go_wp2_with (go_at_call 46; refine (K.out _).mono ?_; rintro e y ⟨rfl, rfl⟩)
    go_ret
    exact ⟨rfl, rfl⟩
  · have t1 : decide (0 ≤ n) = false := decide_eq_false h
    rw [money_neg (by omega)]
    clear h
    go_enter Tryd.func39, Tryd.ntmps39
    go_wp2_with fail
    go_ret
    exact ⟨rfl, rfl⟩
theorem fir_ok {m : Int} (h : 0 ≤ m ∧ m ≤ 2879) : firE m = 0 := by unfold firE; rw [if_pos h]
theorem fir_no {m : Int} (h : ¬ (0 ≤ m ∧ m ≤ 2879)) : firE m = 15 := by unfold firE; rw [if_neg h]
theorem okB_month {x : Bl} (h : ¬ (0 ≤ x.month ∧ x.month ≤ 2879)) : okB x = false := by
  rw [Bool.eq_false_iff]
  exact fun k => h ⟨(ok_iff.1 k).m0, (ok_iff.1 k).m1⟩
theorem okB_money {x : Bl} (h : moneyB x.amount = false) : okB x = false := by
  rw [Bool.eq_false_iff]
  exact fun k => by have := (ok_iff.1 k).money; rw [h] at this; cases this
theorem okB_neg {x : Bl} (h : x.left < 0) : okB x = false := by
  rw [Bool.eq_false_iff]
  exact fun k => by have := (ok_iff.1 k).l0; omega
theorem okB_more {x : Bl} (h : x.amount < x.left) : okB x = false := by
  rw [Bool.eq_false_iff]
  exact fun k => by have := (ok_iff.1 k).l1; omega
theorem okB_open {x : Bl} (h1 : 0 ≤ x.month ∧ x.month ≤ 2879) (h2 : moneyB x.amount = true) (h3 : 0 < x.left) (h4 : x.left ≤ x.amount) : okB x = (x.covered == -1) := by
  unfold okB
  rw [decide_eq_true h1, h2, decide_eq_true ⟨by omega, h4⟩, if_neg (by omega)]
  rfl
theorem okB_done {x : Bl} (h1 : 0 ≤ x.month ∧ x.month ≤ 2879) (h2 : moneyB x.amount = true) (h3 : x.left = 0) : okB x = dayB x.covered := by
  have := (money_iff.1 h2).1
  unfold okB
  rw [decide_eq_true h1, h2, decide_eq_true ⟨by omega, by omega⟩, if_pos h3]
  rfl
set_option maxRecDepth 20000 in
set_option maxHeartbeats 1000000 in
theorem b_good (x : Bl) (w : World) (L : Laid w) : Calls Tryd.prog 31 #[.agg x.cells] w fun e w' => e = .returned (.bool (okB x)) ∧ Below w.heap.size w w' := by
  obtain ⟨g, wb, e1, e2, hB, hb⟩ := boxd_new w x.cells 28
  have LD := Lib.hid (L.of hb)
  have KF := Lib.hid (fun W => d_first x.month W)
  have KP := Lib.hid (fun W => p_plain x.amount W)
  have KD := Lib.hid (fun W => d_good x.covered W)
  have HW := Lib.hid hb
  have HB := Lib.hid hB
  have X0 : Hid (x.cells[0]? = some (.int .i64 x.month)) := show _ = _ from rfl
  have X1 : Hid (x.cells[1]? = some (.int .i64 x.amount)) := show _ = _ from rfl
  have X2 : Hid (x.cells[2]? = some (.int .i64 x.left)) := show _ = _ from rfl
  have X3 : Hid (x.cells[3]? = some (.int .i64 x.covered)) := show _ = _ from rfl
  have c0 := (HB.out.cell (i := 0)).trans X0.out
  clear hB hb L
  by_cases h1 : 0 ≤ x.month ∧ x.month ≤ 2879
  · rw [fir_ok h1] at KF
    generalize firV x.month = f at *
    cases h2 : moneyB x.amount with
    | false =>
      rw [okB_money h2]
      rw [h2] at KP
      clear h1 h2
      generalize x.cells = C at *
      go_enter Tryd.func31, Tryd.ntmps31
      go_upto_region 1 with fail
      rw [← e2, ← e1]
      clear e1 e2
      go_wp2_with (first
        | (go_at_call 36; (with_reducible refine (KF.out _ LD.out).mono ?_); rintro e y ⟨rfl, hb⟩; have HY := Lib.hid (below_to HW.out hb); have c1 := ((HB.out.below hb).cell (i := 1)).trans X1.out; clear hb)
        | (go_at_call 39; (with_reducible refine (KP.out _).mono ?_); rintro e y ⟨rfl, rfl⟩))
      go_ret
      exact ⟨rfl, HY.out⟩
    | true =>
      rw [h2] at KP
      by_cases h3 : x.left < 0
      · rw [okB_neg h3]
        have t3 : decide (x.left < 0) = true := decide_eq_true h3
        clear h1 h2 h3
        generalize x.cells = C at *
        go_enter Tryd.func31, Tryd.ntmps31
        go_upto_region 1 with fail
        rw [← e2, ← e1]
        clear e1 e2
        go_wp2_with (first
          | (go_at_call 36; (with_reducible refine (KF.out _ LD.out).mono ?_); rintro e y ⟨rfl, hb⟩; have HY := Lib.hid (below_to HW.out hb); have c1 := ((HB.out.below hb).cell (i := 1)).trans X1.out; have c2 := ((HB.out.below hb).cell (i := 2)).trans X2.out; clear hb)
          | (go_at_call 39; (with_reducible refine (KP.out _).mono ?_); rintro e y ⟨rfl, rfl⟩))
        go_ret
        exact ⟨rfl, HY.out⟩
      · have t3 : decide (x.left < 0) = false := decide_eq_false h3
        by_cases h4 : x.amount < x.left
        · rw [okB_more h4]
          have t4 : decide (x.amount < x.left) = true := decide_eq_true h4
          clear h1 h2 h3 h4
          generalize x.cells = C at *
          go_enter Tryd.func31, Tryd.ntmps31
          go_upto_region 1 with fail
          rw [← e2, ← e1]
          clear e1 e2
          go_wp2_with (first
            | (go_at_call 36; (with_reducible refine (KF.out _ LD.out).mono ?_); rintro e y ⟨rfl, hb⟩; have HY := Lib.hid (below_to HW.out hb); have c1 := ((HB.out.below hb).cell (i := 1)).trans X1.out; have c2 := ((HB.out.below hb).cell (i := 2)).trans X2.out; clear hb)
            | (go_at_call 39; (with_reducible refine (KP.out _).mono ?_); rintro e y ⟨rfl, rfl⟩))
          go_ret
          exact ⟨rfl, HY.out⟩
        · have t4 : decide (x.amount < x.left) = false := decide_eq_false h4
          by_cases h5 : 0 < x.left
          · have t5 : decide (0 < x.left) = true := decide_eq_true h5
            rw [okB_open h1 h2 h5 (by omega)]
            clear h1 h2 h3 h4 h5
            generalize x.cells = C at *
            go_enter Tryd.func31, Tryd.ntmps31
            go_upto_region 1 with fail
            rw [← e2, ← e1]
            clear e1 e2
            go_wp2_with (first
              | (go_at_call 36; (with_reducible refine (KF.out _ LD.out).mono ?_); rintro e y ⟨rfl, hb⟩; have HY := Lib.hid (below_to HW.out hb); have c1 := ((HB.out.below hb).cell (i := 1)).trans X1.out; have c2 := ((HB.out.below hb).cell (i := 2)).trans X2.out; have c3 := ((HB.out.below hb).cell (i := 3)).trans X3.out; clear hb)
              | (go_at_call 39; (with_reducible refine (KP.out _).mono ?_); rintro e y ⟨rfl, rfl⟩))
            go_ret
            exact ⟨rfl, HY.out⟩
          · have t5 : decide (0 < x.left) = false := decide_eq_false h5
            rw [okB_done h1 h2 (by omega)]
            generalize dayB x.covered = dd at *
            clear h1 h2 h3 h4 h5
            generalize x.cells = C at *
            go_enter Tryd.func31, Tryd.ntmps31
            go_upto_region 1 with fail
            rw [← e2, ← e1]
            clear e1 e2
            go_wp2_with (first
              | (go_at_call 36; (with_reducible refine (KF.out _ LD.out).mono ?_); rintro e y ⟨rfl, hb⟩; have HY := Lib.hid (below_to HW.out hb); have LY := Lib.hid (LD.out.of hb); have c1 := ((HB.out.below hb).cell (i := 1)).trans X1.out; have c2 := ((HB.out.below hb).cell (i := 2)).trans X2.out; have c3 := ((HB.out.below hb).cell (i := 3)).trans X3.out; clear hb)
              | (go_at_call 39; (with_reducible refine (KP.out _).mono ?_); rintro e y ⟨rfl, rfl⟩)
              | (go_at_call 35; (with_reducible refine (KD.out _ LY.out).mono ?_); rintro e y3 ⟨rfl, hb⟩; have HZ := Lib.hid (below_to HY.out hb); clear hb))
            go_ret
            exact ⟨rfl, HZ.out⟩
  · rw [okB_month h1]
    rw [fir_no h1] at KF
    clear h1
    generalize firV x.month = f at *
    generalize x.cells = C at *
    go_enter Tryd.func31, Tryd.ntmps31
    go_upto_region 1 with fail
    rw [← e2, ← e1]
    clear e1 e2
    go_wp2_with (first
      | (go_at_call 36; (with_reducible refine (KF.out _ LD.out).mono ?_); rintro e y ⟨rfl, hb⟩; have HY := Lib.hid (below_to HW.out hb); clear hb))
    go_ret
    exact ⟨rfl, HY.out⟩
theorem drop_at {M : List Bl} {j : Nat} {x : Bl} (hx : M[j]? = some x) : M.drop j = x :: M.drop (j + 1) := by
  obtain ⟨h, rfl⟩ := List.getElem?_eq_some_iff.1 hx
  exact List.drop_eq_getElem_cons h
set_option maxRecDepth 20000 in
set_option maxHeartbeats 1000000 in
theorem b_goodM (M : List Bl) (v : Value) (B : Nat) (w : World) (hB : B ≤ w.heap.size) (hv : Bls w B v M) (L : Laid w) : Calls Tryd.prog 13 #[v] w fun e w' => e = .returned (.bool (goodM M)) ∧ Below w.heap.size w w' := by
  obtain ⟨A, k, rfl⟩ := hv.1.shape
  have lM := hv.1.len
  have HV := Lib.hid hv.1
  have HB := Lib.hid hB
  have LD := Lib.hid L
  clear hv hB L
  go_enter Tryd.func13, Tryd.ntmps13
  go_wp2_with fail
  go_loopw [3, 7] (fun u t wr => ∃ (j : Nat) (n : Int), j ≤ M.length ∧ u = .int .i64 n ∧ t = .int .i64 j ∧ Hid (goodM M = goodF n (M.drop j) ∧ Below w.heap.size w wr)) (fun _ t _ => M.length - (intOf t).toNat)
  case atStart => exact ⟨0, 0, Nat.zero_le _, rfl, rfl, rfl, Below.refl _ _⟩
  case round =>
    obtain ⟨j, n, hj, rfl, rfl, HX⟩ := hrel
    by_cases hlt : j < M.length
    · obtain ⟨b, off, k', e0, hb, -⟩ := HV.out.open (by omega)
      injection e0 with e0 _ e2
      subst e0 e2
      obtain ⟨x, hx⟩ : ∃ x, M[j]? = some x := ⟨_, List.getElem?_eq_getElem hlt⟩
      have HBL := Lib.hid hb
      have HR : Hid (wr.rangeAt b (off + j * 6) x.cells.toList) := range_keep (HV.out.at_ hx) (HX.out.2.mono HB.out) hb
      have HS := Lib.hid (bl_info' x)
      have KG := Lib.hid (fun W => b_good x W)
      have hd := drop_at hx
      have c0 : wr.cell? ⟨b, off + j * 6, none⟩ = some (.int .i64 x.month) := HR.out 0 _ rfl
      have X0 : Hid (x.cells.toList[0]? = some (.int .i64 x.month)) := show _ = _ from rfl
      have LR := Lib.hid (LD.out.of HX.out.2)
      by_cases h1 : x.month < n
      · have HQ : Hid (goodM M = false) := HX.out.1.trans (by rw [hd]; exact good_low h1)
        have t1 : decide (x.month < n) = true := decide_eq_true h1
        clear hx hd h1 hb
        generalize x.cells = C at *
        generalize x.month = m at *
        go_wp2_with fail
        go_ret
        exact ⟨by rw [HQ.out]; rfl, HX.out.2⟩
      · have t1 : decide (x.month < n) = false := decide_eq_false h1
        cases h2 : okB x with
        | false =>
          have HQ : Hid (goodM M = false) := HX.out.1.trans (by rw [hd]; exact good_bad h2)
          rw [h2] at KG
          clear hx hd h1 hb h2
          generalize x.cells = C at *
          generalize x.month = m at *
          go_wp2_with (first
            | (refine load_mid_want (by rfl) 28 _ rfl _ _ rfl C _ HR.out Tryd.underlying28 rfl HS.out ?_)
            | (go_at_call 31; (with_reducible refine (KG.out _ LR.out).mono ?_); rintro e y ⟨rfl, hb⟩; have HY := Lib.hid (below_to HX.out.2 hb); clear hb))
          go_ret
          exact ⟨by rw [HQ.out]; rfl, HY.out⟩
        | true =>
          have hm := ok_iff.1 h2
          have HQ : Hid (goodM M = goodF (x.month + 1) (M.drop (j + 1))) := HX.out.1.trans (by rw [hd]; exact good_step (by omega) h2)
          have hw : wrap64 (x.month + 1) = x.month + 1 := by
            have h3 := hm.m0
            have h4 := hm.m1
            unfold wrap64
            omega
          have HWR := Lib.hid hw
          rw [h2] at KG
          clear hx hd h1 hb h2 hm hw
          generalize x.cells = C at *
          generalize x.month = m at *
          go_wp2_with (first
            | (refine load_mid_want (by rfl) 28 _ rfl _ _ rfl C _ HR.out Tryd.underlying28 rfl HS.out ?_)
            | (go_at_call 31; (with_reducible refine (KG.out _ LR.out).mono ?_); rintro e y ⟨rfl, hb⟩; have HY := Lib.hid (below_to HX.out.2 hb); have c0' : y.cell? ⟨b, off + j * 6, none⟩ = some (.int .i64 m) := range_keep HR.out (hb.mono HX.out.2.size) (Nat.lt_of_lt_of_le HBL.out HB.out) 0 _ X0.out; clear hb))
          go_roundw
          case rel => exact ⟨j + 1, m + 1, by omega, by rw [HWR.out], rfl, HQ.out, HY.out⟩
          case measure => simp [intOf]; omega
    · obtain rfl : j = M.length := by omega
      have HQ : Hid (goodM M = true) := HX.out.1.trans (by rw [List.drop_length]; rfl)
      go_wp2_with fail
      go_ret
      exact ⟨by rw [HQ.out]; rfl, HX.out.2⟩
set_option maxRecDepth 20000 in
set_option maxHeartbeats 1000000 in
theorem index_any (F : FuncId) (cap : Array Value) (p : Bl → Bool) (M : List Bl) (v : Value) (B : Nat) (w : World) (hF : ∀ (args : Array Value) (w : World), (callFunc F args).run Tryd.prog w = .ok (.enter F args) w) (hB : B ≤ w.heap.size) (hv : Bls w B v M)
    (hc : ∀ W, Below w.heap.size w W → ∀ x : Bl, Calls Tryd.prog F (#[.agg x.cells] ++ cap) W fun e w' => e = .returned (.bool (p x)) ∧ Below W.heap.size W w') :
    Calls Tryd.prog 28 #[v, .func (.func F) #[] cap] w fun e w' => e = .returned (.int .i64 (idx p M)) ∧ Below w.heap.size w w' := by
  obtain ⟨A, k, rfl⟩ := hv.1.shape
  have lM := hv.1.len
  have HV := Lib.hid hv.1
  have HB := Lib.hid hB
  have HC := Lib.hid hc
  clear hv hB hc
  go_enter Tryd.func28, Tryd.ntmps28
  go_wp2_with fail
  go_loopw [8] (fun t wr => ∃ j : Nat, j ≤ M.length ∧ t = .int .i64 j ∧ Hid ((∀ i, i < j → ∀ y, M[i]? = some y → p y = false) ∧ Below w.heap.size w wr)) (fun t _ => M.length - (intOf t).toNat)
  case atStart => exact ⟨0, Nat.zero_le _, rfl, fun i hi => absurd hi (Nat.not_lt_zero _), Below.refl _ _⟩
  case round =>
    obtain ⟨j, hj, rfl, HX⟩ := hrel
    by_cases hlt : j < M.length
    · obtain ⟨b, off, k', e0, hb, -⟩ := HV.out.open (by omega)
      injection e0 with e0 _ e2
      subst e0 e2
      obtain ⟨x, hx⟩ : ∃ x, M[j]? = some x := ⟨_, List.getElem?_eq_getElem hlt⟩
      have HR : Hid (wr.rangeAt b (off + j * 6) x.cells.toList) := range_keep (HV.out.at_ hx) (HX.out.2.mono HB.out) hb
      have HS := Lib.hid (bl_info' x)
      have K := Lib.hid (fun (_ : Unit) => HC.out _ HX.out.2 x)
      cases h1 : p x with
      | true =>
        have HQ : Hid (idx p M = j) := idx_at hx h1 HX.out.1
        rw [h1] at K
        clear hx h1 hb
        generalize x.cells = C at *
        go_wp2_with (first
          | (refine load_mid_want (by rfl) 28 _ rfl _ _ rfl C _ HR.out Tryd.underlying28 rfl HS.out ?_))
        refine (K.out ()).mono ?_
        rintro e y ⟨rfl, hb⟩
        have HY := Lib.hid (below_to HX.out.2 hb)
        clear hb
        go_wp2_with fail
        go_ret
        exact ⟨by rw [HQ.out]; rfl, HY.out⟩
      | false =>
        have HN : Hid (∀ i, i < j + 1 → ∀ y, M[i]? = some y → p y = false) := fun i hi y hy => by
          by_cases hij : i = j
          · subst hij
            rw [hx] at hy
            obtain rfl := Option.some.inj hy
            exact h1
          · exact HX.out.1 i (by omega) y hy
        rw [h1] at K
        clear hx h1 hb
        generalize x.cells = C at *
        go_wp2_with (first
          | (refine load_mid_want (by rfl) 28 _ rfl _ _ rfl C _ HR.out Tryd.underlying28 rfl HS.out ?_))
        refine (K.out ()).mono ?_
        rintro e y ⟨rfl, hb⟩
        have HY := Lib.hid (below_to HX.out.2 hb)
        clear hb
        go_wp2_with fail
        go_roundw
        case rel => exact ⟨j + 1, by omega, rfl, HN.out, HY.out⟩
        case measure => simp [intOf]; omega
    · obtain rfl : j = M.length := by omega
      have HQ : Hid (idx p M = -1) := idx_none HX.out.1
      go_wp2_with fail
      go_ret
      exact ⟨by rw [HQ.out]; rfl, HX.out.2⟩
theorem open_enters : ∀ (args : Array Value) (w : World), (callFunc 34 args).run Tryd.prog w = .ok (.enter 34 args) w :=
  enters_of Tryd.func34 (by kernel_rfl) rfl
theorem find_enters : ∀ (args : Array Value) (w : World), (callFunc 29 args).run Tryd.prog w = .ok (.enter 29 args) w :=
  enters_of Tryd.func29 (by kernel_rfl) rfl
set_option maxRecDepth 20000 in
theorem open_fn (x : Bl) (w : World) : Calls Tryd.prog 34 #[.agg x.cells] w fun e w' => e = .returned (.bool (someB x)) ∧ Below w.heap.size w w' := by
  obtain ⟨g, wb, e1, e2, hB, hb⟩ := boxd_new w x.cells 28
  have c2 : wb.cell? ⟨g, 2, none⟩ = some (.int .i64 x.left) := hB.cell
  have HW := Lib.hid hb
  unfold someB
  clear hB hb
  generalize x.cells = C at *
  generalize x.left = m at *
  go_enter Tryd.func34, Tryd.ntmps34
  go_upto_region 1 with fail
  rw [← e2, ← e1]
  clear e1 e2
  go_wp2_with fail
  go_ret
  exact ⟨rfl, HW.out⟩
set_option maxRecDepth 20000 in
theorem find_fn (x : Bl) (m : Int) (k : Nat) (w : World) (hk : w.cell? ⟨k, 0, none⟩ = some (.int .i64 m)) : Calls Tryd.prog 29 #[.agg x.cells, .pointer (some ⟨k, 0, none⟩)] w fun e w' => e = .returned (.bool (isB m x)) ∧ Below w.heap.size w w' := by
  obtain ⟨g, wb, e1, e2, hB, hb⟩ := boxd_new w x.cells 28
  have c0 : wb.cell? ⟨g, 0, none⟩ = some (.int .i64 x.month) := hB.cell
  have c1 : wb.cell? ⟨k, 0, none⟩ = some (.int .i64 m) := (hb.cell (p := ⟨k, 0, none⟩) (World.block_lt_of_cell? _ _ hk)).trans hk
  have HW := Lib.hid hb
  unfold isB
  clear hB hb hk
  generalize x.cells = C at *
  generalize x.month = n at *
  go_enter Tryd.func29, Tryd.ntmps29
  go_upto_region 1 with fail
  rw [← e2, ← e1]
  clear e1 e2
  go_wp2_with fail
  go_ret
  exact ⟨rfl, HW.out⟩
set_option maxRecDepth 20000 in
theorem b_open (M : List Bl) (v : Value) (B : Nat) (w : World) (hB : B ≤ w.heap.size) (hv : Bls w B v M) (L : Laid w) : Calls Tryd.prog 15 #[v] w fun e w' => e = .returned (.int .i64 (openI M)) ∧ Below w.heap.size w w' := by
  have KG := Lib.hid (fun (_ : Unit) => b_goodM M v B w hB hv L)
  have KI := Lib.hid (fun W (h : Below w.heap.size w W) => index_any 34 #[] someB M v B W open_enters (Nat.le_trans hB h.size) (hv.below (h.mono hB)) (fun W' _ x => open_fn x W'))
  obtain ⟨A, k, rfl⟩ := hv.1.shape
  unfold openI
  clear hv hB L
  cases h : goodM M with
  | false =>
    rw [h] at KG
    rw [if_neg (by simp)]
    clear h
    go_enter Tryd.func15, Tryd.ntmps15
    go_wp2_with (first
      | (go_at_call 13; (with_reducible refine (KG.out ()).mono ?_); rintro e y ⟨rfl, hb⟩; have HY := Lib.hid hb; clear hb))
    go_ret
    exact ⟨rfl, HY.out⟩
  | true =>
    rw [h] at KG
    rw [if_pos rfl]
    clear h
    generalize idx someB M = i at *
    go_enter Tryd.func15, Tryd.ntmps15
    go_wp2_with (first
      | (go_at_call 13; (with_reducible refine (KG.out ()).mono ?_); rintro e y ⟨rfl, hb⟩; have HY := Lib.hid hb; clear hb)
      | (go_at_call 28; (refine (KI.out _ HY.out).mono ?_); rintro e y2 ⟨rfl, hb⟩; have HZ := Lib.hid (below_to HY.out hb); clear hb))
    go_ret
    exact ⟨rfl, HZ.out⟩
theorem open_cases (M : List Bl) : openI M = -1 ∨ ∃ (i : Nat) (x : Bl), goodM M = true ∧ i < M.length ∧ M[i]? = some x ∧ openI M = i ∧ someB x = true := by
  unfold openI
  by_cases h : goodM M = true
  · rw [if_pos h]
    rcases idx_cases someB M with ⟨h1, -⟩ | ⟨i, x, h1, h2, h3, h4, -⟩
    · exact Or.inl h1
    · exact Or.inr ⟨i, x, h, h1, h2, h4, h3⟩
  · rw [if_neg h]
    exact Or.inl rfl
theorem firV_small (m : Int) : 0 ≤ firV m ∧ firV m ≤ 87658 := by
  unfold firV
  by_cases h : 0 ≤ m ∧ m ≤ 2879
  · rw [if_pos h]
    have := st_in (m := m.toNat) (by omega)
    omega
  · rw [if_neg h]
    omega
set_option maxRecDepth 20000 in
theorem b_late (M : List Bl) (d : Int) (v : Value) (B : Nat) (w : World) (hB : B ≤ w.heap.size) (hv : Bls w B v M) (L : Laid w) : Calls Tryd.prog 17 #[v, .int .i64 d] w fun e w' => e = .returned (.int .i64 (lateI M d)) ∧ Below w.heap.size w w' := by
  have KO := Lib.hid (fun (_ : Unit) => b_open M v B w hB hv L)
  have KD := Lib.hid (fun W => d_good d W)
  have HV := Lib.hid hv.1
  have HB := Lib.hid hB
  have LD := Lib.hid L
  rcases open_cases M with h1 | ⟨i, x, -, hi, hx, h1, -⟩
  · have hq : lateI M d = 0 := by unfold lateI; rw [h1, if_neg (by omega)]
    rw [h1] at KO
    obtain ⟨A, k, rfl⟩ := hv.1.shape
    rw [hq]
    clear hv hB L h1 hq
    go_enter Tryd.func17, Tryd.ntmps17
    go_wp2_with (first
      | (go_at_call 15; (with_reducible refine (KO.out ()).mono ?_); rintro e y ⟨rfl, hb⟩; have HY := Lib.hid hb; clear hb))
    go_ret
    exact ⟨rfl, HY.out⟩
  · rw [h1] at KO
    cases h2 : dayB d with
    | false =>
      have hq : lateI M d = 0 := by unfold lateI; rw [h2, if_neg (by simp)]
      obtain ⟨A, k, rfl⟩ := hv.1.shape
      rw [hq]
      rw [h2] at KD
      have t1 : decide ((i : Int) < 0) = false := decide_eq_false (by omega)
      clear hv hB L h1 hq hx hi h2
      go_enter Tryd.func17, Tryd.ntmps17
      go_wp2_with (first
        | (go_at_call 15; (with_reducible refine (KO.out ()).mono ?_); rintro e y ⟨rfl, hb⟩; have HY := Lib.hid hb; have LY := Lib.hid (LD.out.of hb); clear hb)
        | (go_at_call 35; (with_reducible refine (KD.out _ LY.out).mono ?_); rintro e y2 ⟨rfl, hb⟩; have HZ := Lib.hid (below_to HY.out hb); clear hb))
      go_ret
      exact ⟨rfl, HZ.out⟩
    | true =>
      have hd : 0 ≤ d ∧ d ≤ 87658 := of_decide_eq_true h2
      have hf := firV_small x.month
      have hq : lateI M d = max (d - firV x.month) 0 := by
        unfold lateI
        rw [h1, if_pos ⟨by omega, h2⟩]
        congr 3
        rw [show ((i : Int)).toNat = i from rfl, List.getD_eq_getElem?_getD, hx]
        rfl
      obtain ⟨b, off, k, rfl, hb, -⟩ := hv.1.open (by omega)
      rw [hq]
      rw [h2] at KD
      have KF := Lib.hid (fun W => d_first x.month W)
      have HR : Hid (w.rangeAt b (off + i * 6) x.cells.toList) := HV.out.at_ hx
      have X0 : Hid (x.cells.toList[0]? = some (.int .i64 x.month)) := show _ = _ from rfl
      have HBL := Lib.hid (Nat.lt_of_lt_of_le hb hB)
      have t1 : decide ((i : Int) < 0) = false := decide_eq_false (by omega)
      have hw : wrap64 (d - firV x.month) = d - firV x.month := by unfold wrap64; omega
      have lM := hv.1.len
      clear hv hB L h1 hq hx h2 hb hd hf
      generalize firV x.month = f at *
      generalize firE x.month = fe at *
      generalize x.cells = C at *
      generalize x.month = m at *
      go_enter Tryd.func17, Tryd.ntmps17
      go_wp2_with (first
        | (go_at_call 15; (with_reducible refine (KO.out ()).mono ?_); rintro e y ⟨rfl, hb⟩; have HY := Lib.hid hb; have LY := Lib.hid (LD.out.of hb); clear hb)
        | (go_at_call 35; (with_reducible refine (KD.out _ LY.out).mono ?_); rintro e y2 ⟨rfl, hb⟩; have HZ := Lib.hid (below_to HY.out hb); have LZ := Lib.hid (LY.out.of hb); have c0 : y2.cell? ⟨b, off + i * 6, none⟩ = some (.int .i64 m) := range_keep HR.out (HZ.out) HBL.out 0 _ X0.out; clear hb)
        | (go_at_call 36; (with_reducible refine (KF.out _ LZ.out).mono ?_); rintro e y3 ⟨rfl, hb⟩; have HE := Lib.hid (below_to HZ.out hb); clear hb))
      · go_ret
        exact ⟨by rw [show max (d - f) 0 = 0 by omega]; rfl, HE.out⟩
      · go_ret
        exact ⟨by rw [show max (d - f) 0 = d - f by omega]; rfl, HE.out⟩
end Go.Proofs.YtjjbdemhccpllaaDoor.Bill
