/- The document's own package of layer 19: Good, Open, Late, Find. -/
import Derived.Test.YtjjbdemhccpllaaDoorBillC3
import Derived.Test.YtjjbdemhccpllaaDoorGAdd
namespace Go.Proofs.YtjjbdemhccpllaaDoor.RBill
open Go.ChangeShapes Go.WideShapes Go.ChangeAt Go.RowKit Plan Date Cal Money Box Rws Slice Bill

theorem r_money (n : Int) (w : World) : Calls Tryd.prog 32 #[.int .i64 n] w fun e w' => e = .returned (.bool (moneyB n)) ∧ w = w' := by
  have K := Lib.hid (fun W => Ref.good_any n W)
  by_cases h : 0 ≤ n
  · have t1 : decide (0 ≤ n) = true := decide_eq_true h
    rw [money_pos h]
    clear h
    generalize goodB n = g at *
    go_enter Tryd.func32, Tryd.ntmps32
    go_wp2_with (go_at_call 42; refine (K.out _).mono ?_; rintro e y ⟨rfl, rfl⟩)
    go_ret
    exact ⟨rfl, rfl⟩
  · have t1 : decide (0 ≤ n) = false := decide_eq_false h
    rw [money_neg (by omega)]
    clear h
    go_enter Tryd.func32, Tryd.ntmps32
    go_wp2_with fail
    go_ret
    exact ⟨rfl, rfl⟩
theorem quietB {P : Program} {f : FuncId} {args : Array Value} {w : World} {n : Nat} {v : Value} (h : Calls P f args (w.drewN n) fun e w' => e = .returned v ∧ w.drewN n = w') :
    Calls P f args (w.drewN n) fun e w'' => e = .returned v ∧ ∃ m, w'' = w.drewN m := h.mono fun _ _ ⟨he, hm⟩ => ⟨he, n, hm.symm⟩
theorem belowN {B : Nat} {a w : World} (h : Below B a w) (n : Nat) : Below B a (w.drewN n) := ⟨h.os, h.tape, h.output, h.size, h.block⟩
theorem good_yes {n : Int} {M : List Bl} (h1 : goodF n M = true) : goodF n M = true := h1
set_option maxRecDepth 20000 in
set_option maxHeartbeats 4000000 in
theorem r_good (M : List Bl) (v : Value) (B : Nat) (w : World) (hB : B ≤ w.heap.size) (hv : Bls w B v M) (hN : M.length ≤ 2880) : Calls Tryd.prog 14 #[v] w fun e w' => e = .returned (.bool (goodM M)) ∧ Below w.heap.size w w' := by
  obtain ⟨A, k, rfl⟩ := hv.1.shape
  have lM := hv.1.len
  have HV := Lib.hid hv.1
  have HB := Lib.hid hB
  have HO := Lib.hid (fun (x : Bl) (hx : x ∈ M) => by
    obtain ⟨Ax, cx, hxv, -⟩ := hv.2 x hx
    exact bl_one x hxv)
  clear hv hB
  go_enter Tryd.func14, Tryd.ntmps14
  go_wp2_with fail
  go_loopw [3] (fun t wr => ∃ (j : Nat) (n : Int), j ≤ M.length ∧ t = .int .i64 j ∧ Hid (goodM M = goodF n (M.drop j) ∧ (j = 0 → n = 0) ∧ (∀ i p, j = i + 1 → M[i]? = some p → n = p.month + 1) ∧ Below w.heap.size w wr)) (fun t _ => M.length - (intOf t).toNat)
  case atStart => exact ⟨0, 0, Nat.zero_le _, rfl, rfl, fun _ => rfl, fun i p hi => by omega, Below.refl _ _⟩
  case round =>
    obtain ⟨j, n, hj, rfl, HX⟩ := hrel
    by_cases hlt : j < M.length
    · obtain ⟨b, off, k', e0, hb, -⟩ := HV.out.open (by omega)
      injection e0 with e0 el e2
      clear el
      subst e0 e2
      obtain ⟨x, hx⟩ : ∃ x, M[j]? = some x := ⟨_, List.getElem?_eq_getElem hlt⟩
      have HPX : Hid (∀ i p, j + 1 = i + 1 → M[i]? = some p → p.month = x.month) := fun i p hi hp => by
        obtain rfl : j = i := by omega
        rw [hx] at hp
        rw [Option.some.inj hp]
      have HR : Hid (wr.rangeAt b (off + j * 6) x.cells.toList) := range_keep (HV.out.at_ hx) (HX.out.2.2.2.mono HB.out) hb
      have HS := Lib.hid (bl_info' x)
      have HSA := Lib.hid (bl_info x)
      have HZA : Hid (6 = x.cells.size) := show _ = _ from rfl
      have HOA := Lib.hid (HO.out x (List.mem_of_getElem? hx))
      have X0 : Hid (x.cells[0]? = some (.int .i64 x.month)) := show _ = _ from rfl
      have X1 : Hid (x.cells[1]? = some (.int .i64 x.amount)) := show _ = _ from rfl
      have X2 : Hid (x.cells[2]? = some (.int .i64 x.left)) := show _ = _ from rfl
      have X3 : Hid (x.cells[3]? = some (.int .i64 x.covered)) := show _ = _ from rfl
      have KM := Lib.hid (fun W => r_money x.amount W)
      have KD := Lib.hid (fun W => rday_any x.covered W)
      have hd := drop_at hx
      obtain ⟨C, hC⟩ : ∃ C, C = x.cells := ⟨_, rfl⟩
      rw [← hC] at HR HS HSA HZA HOA X0 X1 X2 X3
      have HCC := Lib.hid hC
      clear hC
      go_upto_region 5 with (first
        | (refine load_mid_want (by rfl) 28 _ rfl _ _ rfl C _ HR.out Tryd.underlying28 rfl HS.out ?_)
        | (refine o_store rfl 28 _ _ rfl rfl wr.heap.size C rfl rfl _ _ (heap_alloc_last _ _) HSA.out HZA.out HOA.out ?_; intro z hr ho; have HBX := Lib.hid hr; have HZ := Lib.hid (below_to HX.out.2.2.2 (below_one_of (below_one wr _) ho (Nat.le_refl _) (below_one wr _).size)); clear hr ho))
      obtain ⟨gz, hgz⟩ : ∃ g, g = wr.heap.size := ⟨_, rfl⟩
      rw [← hgz]
      rw [← hgz] at HBX
      clear hgz
      have c0 := HBX.out.cell.trans X0.out
      have c1 := HBX.out.cell.trans X1.out
      have c2 := HBX.out.cell.trans X2.out
      have c3 := HBX.out.cell.trans X3.out
      clear HCC HR HS HSA HZA HOA X0 X1 X2 X3 HO
      cases j with
      | zero =>
        by_cases h1 : x.month < 0
        · have HQ : Hid (goodM M = false) := HX.out.1.trans (by rw [hd]; exact good_bad (okB_month (by omega)))
          have t1 : decide (x.month < 0) = true := decide_eq_true h1
          clear hx hd hb h1
          generalize x.month = m at *
          generalize x.amount = a at *
          generalize x.left = l at *
          generalize x.covered = cv at *
          go_quiet (first | exact quietB (KM.out _))
          go_wp2_with fail
          go_ret
          exact ⟨by rw [HQ.out]; rfl, belowN HZ.out _⟩
        · have t1 : decide (x.month < 0) = false := decide_eq_false h1
          by_cases h2 : 2879 < x.month
          · have HQ : Hid (goodM M = false) := HX.out.1.trans (by rw [hd]; exact good_bad (okB_month (by omega)))
            have t2 : decide (2879 < x.month) = true := decide_eq_true h2
            clear hx hd hb h1 h2
            generalize x.month = m at *
            generalize x.amount = a at *
            generalize x.left = l at *
            generalize x.covered = cv at *
            go_quiet (first | exact quietB (KM.out _))
            go_wp2_with fail
            go_ret
            exact ⟨by rw [HQ.out]; rfl, belowN HZ.out _⟩
          · have t2 : decide (2879 < x.month) = false := decide_eq_false h2
            have hn := HX.out.2.1 rfl
            cases hmo : moneyB x.amount with
            | false =>
              have HQ : Hid (goodM M = false) := HX.out.1.trans (by rw [hd]; exact good_bad (okB_money hmo))
              rw [hmo] at KM
              clear hx hd hb hmo
              generalize x.month = m at *
              generalize x.amount = a at *
              generalize x.left = l at *
              generalize x.covered = cv at *
              go_quiet (first | exact quietB (KM.out _))
              go_wp2_with fail
              go_ret
              exact ⟨by rw [HQ.out]; rfl, belowN HZ.out _⟩
            | true =>
              by_cases h3 : x.left < 0
              · have HQ : Hid (goodM M = false) := HX.out.1.trans (by rw [hd]; exact good_bad (okB_neg h3))
                rw [hmo] at KM
                have t3 : decide (x.left < 0) = true := decide_eq_true h3
                clear hx hd hb hmo h3
                generalize x.month = m at *
                generalize x.amount = a at *
                generalize x.left = l at *
                generalize x.covered = cv at *
                go_quiet (first | exact quietB (KM.out _))
                go_wp2_with fail
                go_ret
                exact ⟨by rw [HQ.out]; rfl, belowN HZ.out _⟩
              · have t3 : decide (x.left < 0) = false := decide_eq_false h3
                by_cases h4 : x.amount < x.left
                · have HQ : Hid (goodM M = false) := HX.out.1.trans (by rw [hd]; exact good_bad (okB_more h4))
                  rw [hmo] at KM
                  have t4 : decide (x.amount < x.left) = true := decide_eq_true h4
                  clear hx hd hb hmo h3 h4
                  generalize x.month = m at *
                  generalize x.amount = a at *
                  generalize x.left = l at *
                  generalize x.covered = cv at *
                  go_quiet (first | exact quietB (KM.out _))
                  go_wp2_with fail
                  go_ret
                  exact ⟨by rw [HQ.out]; rfl, belowN HZ.out _⟩
                · have t4 : decide (x.amount < x.left) = false := decide_eq_false h4
                  by_cases h5 : x.left = 0
                  · have t5 : (x.left == 0) = true := by simp [h5]
                    have t5' : decide (0 < x.left) = false := decide_eq_false (by omega)
                    have hok := okB_done ⟨by omega, by omega⟩ hmo h5
                    cases hdd : dayB x.covered with
                    | false =>
                      rw [hdd] at hok KD
                      have HQ : Hid (goodM M = false) := HX.out.1.trans (by rw [hd]; exact good_bad hok)
                      rw [hmo] at KM
                      clear hx hd hb hmo h3 h4 h5 hok hdd
                      generalize x.month = m at *
                      generalize x.amount = a at *
                      generalize x.left = l at *
                      generalize x.covered = cv at *
                      go_quiet (first | exact quietB (KM.out _))
                      go_wp2_with (first
                        | (go_at_call 33; (with_reducible refine (KD.out _).mono ?_); rintro e y ⟨rfl, rfl⟩))
                      go_ret
                      exact ⟨by rw [HQ.out]; rfl, belowN HZ.out _⟩
                    | true =>
                      rw [hdd] at hok KD
                      have HQ : Hid (goodM M = goodF (x.month + 1) (M.drop (0 + 1))) := HX.out.1.trans (by rw [hd]; exact good_step (by omega) hok)
                      rw [hmo] at KM
                      clear hx hd hb hmo h3 h4 h5 hok hdd
                      generalize x.month = m at *
                      generalize x.amount = a at *
                      generalize x.left = l at *
                      generalize x.covered = cv at *
                      go_quiet (first | exact quietB (KM.out _))
                      go_wp2_with (first
                        | (go_at_call 33; (with_reducible refine (KD.out _).mono ?_); rintro e y ⟨rfl, rfl⟩))
                      go_roundw
                      case rel => exact ⟨1, m + 1, by omega, rfl, HQ.out, fun h => by omega, fun i p hi hp => by rw [HPX.out i p hi hp], belowN HZ.out _⟩
                      case measure => simp [intOf]; omega
                  · have t5 : (x.left == 0) = false := by simp [h5]
                    have t5' : decide (0 < x.left) = true := decide_eq_true (by omega)
                    have hok := okB_open ⟨by omega, by omega⟩ hmo (by omega) (by omega)
                    cases hcc : (x.covered == -1) with
                    | false =>
                      rw [hcc] at hok
                      have t6 : (x.covered != -1) = true := by rw [bne, hcc]; rfl
                      have HQ : Hid (goodM M = false) := HX.out.1.trans (by rw [hd]; exact good_bad hok)
                      rw [hmo] at KM
                      clear hx hd hb hmo h3 h4 h5 hok hcc
                      generalize x.month = m at *
                      generalize x.amount = a at *
                      generalize x.left = l at *
                      generalize x.covered = cv at *
                      go_quiet (first | exact quietB (KM.out _))
                      go_wp2_with fail
                      go_ret
                      exact ⟨by rw [HQ.out]; rfl, belowN HZ.out _⟩
                    | true =>
                      rw [hcc] at hok
                      have t6 : (x.covered != -1) = false := by rw [bne, hcc]; rfl
                      have HQ : Hid (goodM M = goodF (x.month + 1) (M.drop (0 + 1))) := HX.out.1.trans (by rw [hd]; exact good_step (by omega) hok)
                      rw [hmo] at KM
                      clear hx hd hb hmo h3 h4 h5 hok hcc
                      generalize x.month = m at *
                      generalize x.amount = a at *
                      generalize x.left = l at *
                      generalize x.covered = cv at *
                      go_quiet (first | exact quietB (KM.out _))
                      go_wp2_with fail
                      go_roundw
                      case rel => exact ⟨1, m + 1, by omega, rfl, HQ.out, fun h => by omega, fun i p hi hp => by rw [HPX.out i p hi hp], belowN HZ.out _⟩
                      case measure => simp [intOf]; omega
      | succ i =>
        obtain ⟨p, hp⟩ : ∃ p, M[i]? = some p := ⟨_, List.getElem?_eq_getElem (by omega)⟩
        have hn := HX.out.2.2.1 i p rfl hp
        have cp : z.cell? ⟨b, off + i * 6, none⟩ = some (.int .i64 p.month) := range_keep (HV.out.at_ hp) (HZ.out.mono HB.out) hb 0 _ rfl
        have w1 : wrap64 (((i + 1 : Nat) : Int) - 1) = (i : Int) := by unfold wrap64; omega
        have w2 : wrap64 ((i : Int) + 1 - 1) = (i : Int) := by unfold wrap64; omega
        have w3 : ((i : Int) + 1 - 1) = (i : Int) := by omega
        have u1 : decide ((0 : Int) < ((i + 1 : Nat) : Int)) = true := decide_eq_true (by omega)
        have u2 : decide ((0 : Int) < (i : Int) + 1) = true := decide_eq_true (by omega)
        have u3 : (i : Int) < M.length := by omega
        by_cases h1 : x.month < 0
        · have HQ : Hid (goodM M = false) := HX.out.1.trans (by rw [hd]; exact good_bad (okB_month (by omega)))
          have t1 : decide (x.month < 0) = true := decide_eq_true h1
          clear hx hd hb hp h1
          generalize x.month = m at *
          generalize p.month = pm at *
          generalize x.amount = a at *
          generalize x.left = l at *
          generalize x.covered = cv at *
          go_quiet (first | exact quietB (KM.out _))
          go_wp2_with fail
          go_ret
          exact ⟨by rw [HQ.out]; rfl, belowN HZ.out _⟩
        · have t1 : decide (x.month < 0) = false := decide_eq_false h1
          by_cases h2 : 2879 < x.month
          · have HQ : Hid (goodM M = false) := HX.out.1.trans (by rw [hd]; exact good_bad (okB_month (by omega)))
            have t2 : decide (2879 < x.month) = true := decide_eq_true h2
            clear hx hd hb hp h1 h2
            generalize x.month = m at *
            generalize p.month = pm at *
            generalize x.amount = a at *
            generalize x.left = l at *
            generalize x.covered = cv at *
            go_quiet (first | exact quietB (KM.out _))
            go_wp2_with fail
            go_ret
            exact ⟨by rw [HQ.out]; rfl, belowN HZ.out _⟩
          · have t2 : decide (2879 < x.month) = false := decide_eq_false h2
            by_cases h0 : x.month ≤ p.month
            · have HQ : Hid (goodM M = false) := HX.out.1.trans (by rw [hd]; exact good_low (by omega))
              have t0 : decide (x.month ≤ p.month) = true := decide_eq_true h0
              clear hx hd hb hp h0 h1 h2 hn
              generalize x.month = m at *
              generalize p.month = pm at *
              generalize x.amount = a at *
              generalize x.left = l at *
              generalize x.covered = cv at *
              go_quiet (first | exact quietB (KM.out _))
              go_wp2_with fail
              go_ret
              exact ⟨by rw [HQ.out]; rfl, belowN HZ.out _⟩
            · have t0 : decide (x.month ≤ p.month) = false := decide_eq_false h0
              cases hmo : moneyB x.amount with
              | false =>
                have HQ : Hid (goodM M = false) := HX.out.1.trans (by rw [hd]; exact good_bad (okB_money hmo))
                rw [hmo] at KM
                clear hx hd hb hp hmo
                generalize x.month = m at *
                generalize p.month = pm at *
                generalize x.amount = a at *
                generalize x.left = l at *
                generalize x.covered = cv at *
                go_quiet (first | exact quietB (KM.out _))
                go_wp2_with fail
                go_ret
                exact ⟨by rw [HQ.out]; rfl, belowN HZ.out _⟩
              | true =>
                by_cases h3 : x.left < 0
                · have HQ : Hid (goodM M = false) := HX.out.1.trans (by rw [hd]; exact good_bad (okB_neg h3))
                  rw [hmo] at KM
                  have t3 : decide (x.left < 0) = true := decide_eq_true h3
                  clear hx hd hb hp hmo h3
                  generalize x.month = m at *
                  generalize p.month = pm at *
                  generalize x.amount = a at *
                  generalize x.left = l at *
                  generalize x.covered = cv at *
                  go_quiet (first | exact quietB (KM.out _))
                  go_wp2_with fail
                  go_ret
                  exact ⟨by rw [HQ.out]; rfl, belowN HZ.out _⟩
                · have t3 : decide (x.left < 0) = false := decide_eq_false h3
                  by_cases h4 : x.amount < x.left
                  · have HQ : Hid (goodM M = false) := HX.out.1.trans (by rw [hd]; exact good_bad (okB_more h4))
                    rw [hmo] at KM
                    have t4 : decide (x.amount < x.left) = true := decide_eq_true h4
                    clear hx hd hb hp hmo h3 h4
                    generalize x.month = m at *
                    generalize p.month = pm at *
                    generalize x.amount = a at *
                    generalize x.left = l at *
                    generalize x.covered = cv at *
                    go_quiet (first | exact quietB (KM.out _))
                    go_wp2_with fail
                    go_ret
                    exact ⟨by rw [HQ.out]; rfl, belowN HZ.out _⟩
                  · have t4 : decide (x.amount < x.left) = false := decide_eq_false h4
                    by_cases h5 : x.left = 0
                    · have t5 : (x.left == 0) = true := by simp [h5]
                      have t5' : decide (0 < x.left) = false := decide_eq_false (by omega)
                      have hok := okB_done ⟨by omega, by omega⟩ hmo h5
                      cases hdd : dayB x.covered with
                      | false =>
                        rw [hdd] at hok KD
                        have HQ : Hid (goodM M = false) := HX.out.1.trans (by rw [hd]; exact good_bad hok)
                        rw [hmo] at KM
                        clear hx hd hb hp hmo h3 h4 h5 hok hdd
                        generalize x.month = m at *
                        generalize p.month = pm at *
                        generalize x.amount = a at *
                        generalize x.left = l at *
                        generalize x.covered = cv at *
                        go_quiet (first | exact quietB (KM.out _))
                        go_wp2_with (first
                          | (go_at_call 33; (with_reducible refine (KD.out _).mono ?_); rintro e y ⟨rfl, rfl⟩))
                        go_ret
                        exact ⟨by rw [HQ.out]; rfl, belowN HZ.out _⟩
                      | true =>
                        rw [hdd] at hok KD
                        have HQ : Hid (goodM M = goodF (x.month + 1) (M.drop (i + 1 + 1))) := HX.out.1.trans (by rw [hd]; exact good_step (by omega) hok)
                        rw [hmo] at KM
                        clear hx hd hb hp hmo h3 h4 h5 hok hdd
                        generalize x.month = m at *
                        generalize p.month = pm at *
                        generalize x.amount = a at *
                        generalize x.left = l at *
                        generalize x.covered = cv at *
                        go_quiet (first | exact quietB (KM.out _))
                        go_wp2_with (first
                          | (go_at_call 33; (with_reducible refine (KD.out _).mono ?_); rintro e y ⟨rfl, rfl⟩))
                        go_roundw
                        case rel => exact ⟨i + 1 + 1, m + 1, by omega, rfl, HQ.out, fun h => by omega, fun i p hi hp => by rw [HPX.out i p hi hp], belowN HZ.out _⟩
                        case measure => simp [intOf]; omega
                    · have t5 : (x.left == 0) = false := by simp [h5]
                      have t5' : decide (0 < x.left) = true := decide_eq_true (by omega)
                      have hok := okB_open ⟨by omega, by omega⟩ hmo (by omega) (by omega)
                      cases hcc : (x.covered == -1) with
                      | false =>
                        rw [hcc] at hok
                        have t6 : (x.covered != -1) = true := by rw [bne, hcc]; rfl
                        have HQ : Hid (goodM M = false) := HX.out.1.trans (by rw [hd]; exact good_bad hok)
                        rw [hmo] at KM
                        clear hx hd hb hp hmo h3 h4 h5 hok hcc
                        generalize x.month = m at *
                        generalize p.month = pm at *
                        generalize x.amount = a at *
                        generalize x.left = l at *
                        generalize x.covered = cv at *
                        go_quiet (first | exact quietB (KM.out _))
                        go_wp2_with fail
                        go_ret
                        exact ⟨by rw [HQ.out]; rfl, belowN HZ.out _⟩
                      | true =>
                        rw [hcc] at hok
                        have t6 : (x.covered != -1) = false := by rw [bne, hcc]; rfl
                        have HQ : Hid (goodM M = goodF (x.month + 1) (M.drop (i + 1 + 1))) := HX.out.1.trans (by rw [hd]; exact good_step (by omega) hok)
                        rw [hmo] at KM
                        clear hx hd hb hp hmo h3 h4 h5 hok hcc
                        generalize x.month = m at *
                        generalize p.month = pm at *
                        generalize x.amount = a at *
                        generalize x.left = l at *
                        generalize x.covered = cv at *
                        go_quiet (first | exact quietB (KM.out _))
                        go_wp2_with fail
                        go_roundw
                        case rel => exact ⟨i + 1 + 1, m + 1, by omega, rfl, HQ.out, fun h => by omega, fun i p hi hp => by rw [HPX.out i p hi hp], belowN HZ.out _⟩
                        case measure => simp [intOf]; omega
    · obtain rfl : j = M.length := by omega
      have HQ : Hid (goodM M = true) := HX.out.1.trans (by rw [List.drop_length]; rfl)
      have u0 : decide ((M.length : Int) ≤ 2880) = true := decide_eq_true (by omega)
      go_wp2_with fail
      go_ret
      exact ⟨by rw [HQ.out]; rfl, HX.out.2.2.2⟩
set_option maxRecDepth 20000 in
set_option maxHeartbeats 1000000 in
theorem r_open (M : List Bl) (v : Value) (B : Nat) (w : World) (hB : B ≤ w.heap.size) (hv : Bls w B v M) (hN : M.length ≤ 2880) : Calls Tryd.prog 16 #[v] w fun e w' => e = .returned (.int .i64 (openI M)) ∧ Below w.heap.size w w' := by
  have KG := Lib.hid (fun W (h : Below w.heap.size w W) => r_good M v B W (Nat.le_trans hB h.size) (hv.below (h.mono hB)) hN)
  obtain ⟨A, k, rfl⟩ := hv.1.shape
  have lM := hv.1.len
  have HV := Lib.hid hv.1
  have HB := Lib.hid hB
  clear hv hB
  have HOP : Hid (openI M = if goodM M = true then idx someB M else -1) := show _ = _ from rfl
  go_enter Tryd.func16, Tryd.ntmps16
  go_wp2_with fail
  cases hg : goodM M with
  | false =>
    have HQ : Hid (openI M = -1) := HOP.out.trans (by rw [hg, if_neg (by simp)])
    rw [hg] at KG
    clear hg
    have HX : Hid (True ∧ Below w.heap.size w w) := ⟨trivial, Below.refl _ _⟩
    go_loopw [3] (fun t wr => t = .int .i64 0 ∧ Hid (True ∧ Below w.heap.size w wr)) (fun _ _ => 0)
    case atStart => exact ⟨rfl, HX.out⟩
    case round =>
      obtain ⟨rfl, HX⟩ := hrel
      go_wp2_with (first
        | (go_at_call 14; (refine (KG.out _ HX.out.2).mono ?_); rintro e y ⟨rfl, hb⟩; have HY := Lib.hid (below_to HX.out.2 hb); clear hb))
      go_ret
      exact ⟨by rw [HQ.out]; rfl, HY.out⟩
  | true =>
    have HI : Hid (openI M = idx someB M) := HOP.out.trans (by rw [hg, if_pos rfl])
    rw [hg] at KG
    clear hg
    go_loopw [3] (fun t wr => ∃ j : Nat, j ≤ M.length ∧ t = .int .i64 j ∧ Hid ((∀ i, i < j → ∀ y, M[i]? = some y → someB y = false) ∧ Below w.heap.size w wr)) (fun t _ => M.length - (intOf t).toNat)
    case atStart => exact ⟨0, Nat.zero_le _, rfl, fun i hi => absurd hi (Nat.not_lt_zero _), Below.refl _ _⟩
    case round =>
      obtain ⟨j, hj, rfl, HX⟩ := hrel
      by_cases hlt : j < M.length
      · obtain ⟨b, off, k', e0, hb, -⟩ := HV.out.open (by omega)
        injection e0 with e0 el e2
        clear el
        subst e0 e2
        obtain ⟨x, hx⟩ : ∃ x, M[j]? = some x := ⟨_, List.getElem?_eq_getElem hlt⟩
        have HR : Hid (w.rangeAt b (off + j * 6) x.cells.toList) := HV.out.at_ hx
        have HBL := Lib.hid (Nat.lt_of_lt_of_le hb HB.out)
        have X2 : Hid (x.cells.toList[2]? = some (.int .i64 x.left)) := show _ = _ from rfl
        have u1 : decide ((j : Int) < M.length) = true := decide_eq_true (by omega)
        cases h1 : someB x with
        | true =>
          have HQ : Hid (openI M = j) := HI.out.trans (idx_at hx h1 HX.out.1)
          have t1 : decide (0 < x.left) = true := h1
          clear hx h1 hb
          generalize x.cells = C at *
          generalize x.left = l at *
          go_wp2_with (first
            | (go_at_call 14; (refine (KG.out _ HX.out.2).mono ?_); rintro e y ⟨rfl, hb⟩; have HY := Lib.hid (below_to HX.out.2 hb); have c2 : y.cell? ⟨b, off + j * 6 + 2, none⟩ = some (.int .i64 l) := range_keep HR.out HY.out HBL.out 2 _ X2.out; clear hb))
          go_ret
          exact ⟨by rw [HQ.out]; rfl, HY.out⟩
        | false =>
          have t1 : decide (0 < x.left) = false := h1
          have HN : Hid (∀ i, i < j + 1 → ∀ y, M[i]? = some y → someB y = false) := fun i hi y hy => by
            by_cases hij : i = j
            · subst hij
              rw [hx] at hy
              obtain rfl := Option.some.inj hy
              exact h1
            · exact HX.out.1 i (by omega) y hy
          clear hx h1 hb
          generalize x.cells = C at *
          generalize x.left = l at *
          go_wp2_with (first
            | (go_at_call 14; (refine (KG.out _ HX.out.2).mono ?_); rintro e y ⟨rfl, hb⟩; have HY := Lib.hid (below_to HX.out.2 hb); have c2 : y.cell? ⟨b, off + j * 6 + 2, none⟩ = some (.int .i64 l) := range_keep HR.out HY.out HBL.out 2 _ X2.out; clear hb))
          go_roundw
          case rel => exact ⟨j + 1, by omega, rfl, HN.out, HY.out⟩
          case measure => simp [intOf]; omega
      · obtain rfl : j = M.length := by omega
        have HQ : Hid (openI M = -1) := HI.out.trans (idx_none HX.out.1)
        go_wp2_with (first
          | (go_at_call 14; (refine (KG.out _ HX.out.2).mono ?_); rintro e y ⟨rfl, hb⟩; have HY := Lib.hid (below_to HX.out.2 hb); clear hb))
        go_ret
        exact ⟨by rw [HQ.out]; rfl, HY.out⟩
set_option maxRecDepth 20000 in
theorem r_late (M : List Bl) (d : Int) (v : Value) (B : Nat) (w : World) (hB : B ≤ w.heap.size) (hv : Bls w B v M) (hN : M.length ≤ 2880) : Calls Tryd.prog 18 #[v, .int .i64 d] w fun e w' => e = .returned (.int .i64 (lateI M d)) ∧ Below w.heap.size w w' := by
  have KO := Lib.hid (fun (_ : Unit) => r_open M v B w hB hv hN)
  have KD := Lib.hid (fun W => rday_any d W)
  have HV := Lib.hid hv.1
  have HB := Lib.hid hB
  rcases open_cases M with h1 | ⟨i, x, -, hi, hx, h1, -⟩
  · have hq : lateI M d = 0 := by unfold lateI; rw [h1, if_neg (by omega)]
    rw [h1] at KO
    obtain ⟨A, k, rfl⟩ := hv.1.shape
    rw [hq]
    clear hv hB h1 hq
    go_enter Tryd.func18, Tryd.ntmps18
    go_wp2_with (first
      | (go_at_call 16; (with_reducible refine (KO.out ()).mono ?_); rintro e y ⟨rfl, hb⟩; have HY := Lib.hid hb; clear hb))
    go_ret
    exact ⟨rfl, HY.out⟩
  · rw [h1] at KO
    have t1 : decide ((i : Int) < 0) = false := decide_eq_false (by omega)
    cases h2 : dayB d with
    | false =>
      have hq : lateI M d = 0 := by unfold lateI; rw [h2, if_neg (by simp)]
      obtain ⟨A, k, rfl⟩ := hv.1.shape
      rw [hq]
      rw [h2] at KD
      clear hv hB h1 hq hx hi h2
      go_enter Tryd.func18, Tryd.ntmps18
      go_wp2_with (first
        | (go_at_call 16; (with_reducible refine (KO.out ()).mono ?_); rintro e y ⟨rfl, hb⟩; have HY := Lib.hid hb; clear hb)
        | (go_at_call 33; (with_reducible refine (KD.out _).mono ?_); rintro e y2 ⟨rfl, rfl⟩))
      go_ret
      exact ⟨rfl, HY.out⟩
    | true =>
      have hd : 0 ≤ d ∧ d ≤ 87658 := of_decide_eq_true h2
      have hf := firV_small x.month
      have hq : lateI M d = max (d - firV x.month) 0 := by
        unfold lateI
        rw [h1, if_pos ⟨by omega, h2⟩]
        congr 3
        rw [show ((i : Int)).toNat = i from rfl, List.getD_eq_getElem?_getD, hx]
        rfl
      obtain ⟨b, off, k, rfl, hb, -⟩ := hv.1.open (by omega)
      rw [hq]
      rw [h2] at KD
      have KF := Lib.hid (fun W => rfirst_any x.month W)
      have HR : Hid (w.rangeAt b (off + i * 6) x.cells.toList) := HV.out.at_ hx
      have X0 : Hid (x.cells.toList[0]? = some (.int .i64 x.month)) := show _ = _ from rfl
      have HBL := Lib.hid (Nat.lt_of_lt_of_le hb hB)
      have hw : wrap64 (d - firV x.month) = d - firV x.month := by unfold wrap64; omega
      have lM := hv.1.len
      clear hv hB h1 hq hx h2 hb hd hf
      generalize firV x.month = f at *
      generalize firE x.month = fe at *
      generalize x.cells = C at *
      generalize x.month = m at *
      go_enter Tryd.func18, Tryd.ntmps18
      go_wp2_with (first
        | (go_at_call 16; (with_reducible refine (KO.out ()).mono ?_); rintro e y ⟨rfl, hb⟩; have HY := Lib.hid hb; have c0 : y.cell? ⟨b, off + i * 6, none⟩ = some (.int .i64 m) := range_keep HR.out (HY.out) HBL.out 0 _ X0.out; clear hb)
        | (go_at_call 33; (with_reducible refine (KD.out _).mono ?_); rintro e y2 ⟨rfl, rfl⟩)
        | (go_at_call 37; (with_reducible refine (KF.out _).mono ?_); rintro e y3 ⟨rfl, rfl⟩))
      · go_ret
        exact ⟨by rw [show max (d - f) 0 = d - f by omega]; rfl, HY.out⟩
      · go_ret
        exact ⟨by rw [show max (d - f) 0 = 0 by omega]; rfl, HY.out⟩
/-- The document's Find tells a bill, and whether there is one. -/
def gotC (x : Bl) (ok : Bool) : Array Value := #[.int .i64 x.month, .int .i64 x.amount, .int .i64 x.left, .int .i64 x.covered, .int .i64 x.how, x.v, .bool ok]
theorem got_info (C : Array Value) (h : C.size = 7) : (Tryd.prog.info? 32).map (·.size) = some C.size := by
  rw [h]
  kernel_rfl
theorem got_one (x : Bl) (ok : Bool) {A : Option Addr} {n c : Nat} (h : x.v = .slice A n c) : (gotC x ok).all (·.oneCell') = true := by
  unfold gotC
  rw [h]
  simp [Value.oneCell']
theorem got_build (w : World) : (Instr.build 32 #[]).run Tryd.prog w = .ok (.agg (gotC bl0 false)) w := by kernel_rfl
theorem got_make (x : Bl) (w : World) : (Instr.build 32 #[(0, .agg x.cells), (1, .bool true)]).run Tryd.prog w = .ok (.agg (gotC x true)) w := by kernel_rfl
set_option maxRecDepth 20000 in
set_option maxHeartbeats 1000000 in
theorem r_find (M : List Bl) (m : Int) (v : Value) (B : Nat) (w : World) (hB : B ≤ w.heap.size) (hv : Bls w B v M) (hN : M.length ≤ 2880) : Calls Tryd.prog 12 #[v, .int .i64 m] w fun e w' => e = .returned (.agg (gotC (foundB M m) (decide (0 ≤ findI M m)))) ∧ Below w.heap.size w w' := by
  obtain ⟨g, w0, e0, f0, hG, hb⟩ := boxd_new w #[.int .i64 0, .int .i64 0, .int .i64 0, .int .i64 0, .int .i64 0, .slice none 0 0, .bool false] 32
  have KG := Lib.hid (fun W (h : Below w.heap.size w W) => r_good M v B W (Nat.le_trans hB h.size) (hv.below (h.mono hB)) hN)
  have HO := Lib.hid (fun (x : Bl) (hx : x ∈ M) => by
    obtain ⟨Ax, cx, hxv, -⟩ := hv.2 x hx
    exact got_one x true hxv)
  obtain ⟨A, k, rfl⟩ := hv.1.shape
  have lM := hv.1.len
  have HV := Lib.hid hv.1
  have HB := Lib.hid hB
  have HG := Lib.hid hG
  have HGW : Hid (w.heap.size ≤ g) := show _ ≤ _ by rw [e0]; exact Nat.le_refl _
  have HW := Lib.hid hb
  have KB := Lib.hid (fun W => got_build W)
  have HS7 := Lib.hid (got_info (gotC bl0 false) rfl)
  have HO7 := Lib.hid (got_one bl0 false rfl)
  have HZ7 : Hid (7 = (gotC bl0 false).size) := show _ = _ from rfl
  clear hv hB hG hb
  have HFI : Hid (findI M m = if goodM M = true then idx (isB m) M else -1) := show _ = _ from rfl
  have HNO : Hid (findI M m = -1 → gotC (foundB M m) (decide (0 ≤ findI M m)) = gotC bl0 false) := fun h => by unfold foundB; rw [h]; rfl
  have HYE : Hid (∀ (i : Nat) (x : Bl), findI M m = i → M[i]? = some x → gotC (foundB M m) (decide (0 ≤ findI M m)) = gotC x true) := fun i x h hx => by
    unfold foundB
    rw [h, if_pos (by omega), List.getD_eq_getElem?_getD, show ((i : Int)).toNat = i from rfl, hx, decide_eq_true (by omega)]
    rfl
  go_enter Tryd.func12, Tryd.ntmps12
  go_upto_region 1 with fail
  rw [← f0, ← e0]
  clear e0 f0
  go_wp2_with fail
  cases hg : goodM M with
  | false =>
    have HQ := Lib.hid (HNO.out (HFI.out.trans (by rw [hg, if_neg (by simp)])))
    rw [hg] at KG
    clear hg
    generalize gotC bl0 false = D at *
    go_loopw [5] (fun t wr => t = .int .i64 0 ∧ Hid (Boxd wr g #[.int .i64 0, .int .i64 0, .int .i64 0, .int .i64 0, .int .i64 0, .slice none 0 0, .bool false] 32 ∧ Below w.heap.size w wr)) (fun _ _ => 0)
    case atStart => exact ⟨rfl, HG.out, HW.out⟩
    case round =>
      obtain ⟨rfl, HX⟩ := hrel
      go_wp2_with (first
        | (go_at_call 14; (refine (KG.out _ HX.out.2).mono ?_); rintro e y ⟨rfl, hb⟩; have HY := Lib.hid (below_to HX.out.2 hb); have HG1 := Lib.hid (HX.out.1.below hb); clear hb)
        | (refine o_build (by rfl) _ _ rfl _ _ (by simp [Act.eval, Act.put]) (KB.out _) ?_)
        | (refine o_store rfl 32 _ _ rfl rfl g D rfl rfl _ _ HG1.out HS7.out HZ7.out HO7.out ?_; intro z hr ho; have HG2 := Lib.hid hr; have HY2 := Lib.hid (below_one_of HY.out ho HGW.out HY.out.size); clear hr ho))
      refine bodyPost_ret (results_cell_row rfl _ _ _ _ _ _ _ rfl HG2.out Tryd.underlying32 rfl HS7.out) rfl ?_
      exact ⟨by rw [HQ.out], HY2.out⟩
  | true =>
    have HI : Hid (findI M m = idx (isB m) M) := HFI.out.trans (by rw [hg, if_pos rfl])
    rw [hg] at KG
    clear hg
    go_loopw [5] (fun t wr => ∃ j : Nat, j ≤ M.length ∧ t = .int .i64 j ∧ Hid (Boxd wr g #[.int .i64 0, .int .i64 0, .int .i64 0, .int .i64 0, .int .i64 0, .slice none 0 0, .bool false] 32 ∧ Below w.heap.size w wr) ∧ Hid (∀ i, i < j → ∀ y, M[i]? = some y → isB m y = false)) (fun t _ => M.length - (intOf t).toNat)
    case atStart => exact ⟨0, Nat.zero_le _, rfl, ⟨HG.out, HW.out⟩, fun i hi => absurd hi (Nat.not_lt_zero _)⟩
    case round =>
      obtain ⟨j, hj, rfl, HX, HJ⟩ := hrel
      by_cases hlt : j < M.length
      · obtain ⟨b, off, k', e0, hb, -⟩ := HV.out.open (by omega)
        injection e0 with e0 el e2
        clear el
        subst e0 e2
        obtain ⟨x, hx⟩ : ∃ x, M[j]? = some x := ⟨_, List.getElem?_eq_getElem hlt⟩
        have HR : Hid (w.rangeAt b (off + j * 6) x.cells.toList) := HV.out.at_ hx
        have HBL := Lib.hid (Nat.lt_of_lt_of_le hb HB.out)
        have X0 : Hid (x.cells.toList[0]? = some (.int .i64 x.month)) := show _ = _ from rfl
        have u1 : decide ((j : Int) < M.length) = true := decide_eq_true (by omega)
        cases h1 : isB m x with
        | true =>
          have HQ := Lib.hid (HYE.out j x (HI.out.trans (idx_at hx h1 HJ.out)) hx)
          have t1 : (x.month == m) = true := h1
          have HS := Lib.hid (bl_info' x)
          have KN := Lib.hid (fun W => got_make x W)
          have HSN := Lib.hid (got_info (gotC x true) rfl)
          have HON := Lib.hid (HO.out x (List.mem_of_getElem? hx))
          have HZN : Hid (7 = (gotC x true).size) := show _ = _ from rfl
          clear hx h1 hb
          generalize gotC x true = D at *
          generalize x.cells = C at *
          generalize x.month = q at *
          go_wp2_with (first
            | (go_at_call 14; (refine (KG.out _ HX.out.2).mono ?_); rintro e y ⟨rfl, hb⟩; have HY := Lib.hid (below_to HX.out.2 hb); have HG1 := Lib.hid (HX.out.1.below hb); have HR2 := Lib.hid (range_keep HR.out HY.out HBL.out); have c0 : y.cell? ⟨b, off + j * 6, none⟩ = some (.int .i64 q) := HR2.out 0 _ X0.out; clear hb)
            | (refine load_mid_want (by rfl) 28 _ rfl _ _ rfl C _ HR2.out Tryd.underlying28 rfl HS.out ?_)
            | (refine o_build (by rfl) _ _ rfl _ _ (by simp [Act.eval, Act.put]) (KN.out _) ?_)
            | (refine o_store rfl 32 _ _ rfl rfl g D rfl rfl _ _ HG1.out HSN.out HZN.out HON.out ?_; intro z hr ho; have HG2 := Lib.hid hr; have HY2 := Lib.hid (below_one_of HY.out ho HGW.out HY.out.size); clear hr ho))
          refine bodyPost_ret (results_cell_row rfl _ _ _ _ _ _ _ rfl HG2.out Tryd.underlying32 rfl HSN.out) rfl ?_
          exact ⟨by rw [HQ.out], HY2.out⟩
        | false =>
          have t1 : (x.month == m) = false := h1
          have HN : Hid (∀ i, i < j + 1 → ∀ y, M[i]? = some y → isB m y = false) := fun i hi y hy => by
            by_cases hij : i = j
            · subst hij
              rw [hx] at hy
              obtain rfl := Option.some.inj hy
              exact h1
            · exact HJ.out i (by omega) y hy
          clear hx h1 hb
          generalize x.cells = C at *
          generalize x.month = q at *
          go_wp2_with (first
            | (go_at_call 14; (refine (KG.out _ HX.out.2).mono ?_); rintro e y ⟨rfl, hb⟩; have HY := Lib.hid (below_to HX.out.2 hb); have HG1 := Lib.hid (HX.out.1.below hb); have HR2 := Lib.hid (range_keep HR.out HY.out HBL.out); have c0 : y.cell? ⟨b, off + j * 6, none⟩ = some (.int .i64 q) := HR2.out 0 _ X0.out; clear hb))
          go_roundw
          case rel => exact ⟨j + 1, by omega, rfl, ⟨HG1.out, HY.out⟩, HN.out⟩
          case measure => simp [intOf]; omega
      · obtain rfl : j = M.length := by omega
        have HQ := Lib.hid (HNO.out (HI.out.trans (idx_none HJ.out)))
        generalize gotC bl0 false = D at *
        go_wp2_with (first
          | (go_at_call 14; (refine (KG.out _ HX.out.2).mono ?_); rintro e y ⟨rfl, hb⟩; have HY := Lib.hid (below_to HX.out.2 hb); have HG1 := Lib.hid (HX.out.1.below hb); clear hb)
          | (refine o_build (by rfl) _ _ rfl _ _ (by simp [Act.eval, Act.put]) (KB.out _) ?_)
          | (refine o_store rfl 32 _ _ rfl rfl g D rfl rfl _ _ HG1.out HS7.out HZ7.out HO7.out ?_; intro z hr ho; have HG2 := Lib.hid hr; have HY2 := Lib.hid (below_one_of HY.out ho HGW.out HY.out.size); clear hr ho))
        refine bodyPost_ret (results_cell_row rfl _ _ _ _ _ _ _ rfl HG2.out Tryd.underlying32 rfl HS7.out) rfl ?_
        exact ⟨by rw [HQ.out], HY2.out⟩
end Go.Proofs.YtjjbdemhccpllaaDoor.RBill
