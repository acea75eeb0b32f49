/- A journal that is written, saved, cut off, opened, formatted, over a disk on which anything may be written, one step behind the other: no condition. -/
import Derived.Test.YtndanhacmfhlaaaGreatGA
import Derived.Test.YtndanhacmfhlaaaGreatJournStep
import Derived.Test.YtndanhacmfhlaaaGreatGJe
import Derived.Deep.RegionHeld3
import Derived.Deep.DeepCutAuto
import Derived.Deep.CutBlock
import Derived.ChangeMaps5
namespace Go.Proofs.YtndanhacmfhlaaaGreat.Law
open Go.ChangeShapes Go.WideShapes Go.ChangeAt Go.RowKit Go.Deep Els Go.Proofs.YtndanhacmfhlaaaGreat.Frame Disk Jour Slice Stp Nul

set_option maxRecDepth 20000 in
theorem jplays_bad (n : Int) (l : List St) (v : Value) (w : World) (hv : Sts w w.heap.size v l) (hn : ¬ (1 ≤ n ∧ n ≤ 400)) (hr : -9223372036854775808 ≤ n ∧ n ≤ 9223372036854775807) :
    Calls Tryz.prog 3 #[.int .i64 n, v] w fun e w' => e = .returned (.bool true) ∧ Below w.heap.size w w' := by
  have FR := Lib.hid (j_fair l v _ w hv)
  obtain ⟨A, c, rfl⟩ := hv.shape
  clear hv
  go_enter Tryz.func3, Tryz.ntmps3
  go_wp2_with fail
  refine FR.out.mono ?_
  rintro e w1 ⟨B, rfl, hB, rfl⟩
  cases B with
  | false =>
    clear hB
    go_wp2_with fail
    refine (wakes_journal _).mono ?_
    rintro e w9 ⟨rfl, hb⟩
    have B9 := Lib.hid (below_on' (Below.refl _ w) hb)
    clear hb
    go_wp2_with fail
    go_ret
    exact ⟨rfl, B9.out⟩
  | true =>
    have HB := Lib.hid (hB rfl)
    clear hB FR
    go_wp2_with fail
    by_cases h1 : 1 ≤ n ∧ n ≤ 4096
    · obtain ⟨k, rfl⟩ : ∃ k : Nat, n = k := ⟨n.toNat, by omega⟩
      have ND := Lib.hid (k_new k w (by omega) (by omega))
      have NR : Hid (∀ W, Calls Tryz.prog 7 #[.int .i64 (k : Nat)] W fun e w' => ∃ g r, e = .returned (.tuple #[.pointer (some ⟨g, 0, none⟩), .int .i64 0]) ∧ DocAt w' g r (newD k) ∧ Below W.heap.size W w' ∧ W.heap.size ≤ g ∧ W.heap.size ≤ r) := fun W => r_new k W (by omega) (by omega)
      have t4 : decide ((400 : Int) < k) = true := decide_eq_true (by omega)
      refine ND.out.mono ?_
      rintro e w1 ⟨a, F, rfl, -, n2, -⟩
      have H1 := Lib.hid n2
      clear n2
      go_wp2_with fail
      refine (NR.out w1).mono ?_
      rintro e w2 ⟨g, r, rfl, -, n2, -, -⟩
      have H2 := Lib.hid (below_on' H1.out n2)
      clear n2
      go_wp2_with fail
      refine (wakes_journal _).mono ?_
      rintro e w9 ⟨rfl, hb⟩
      have B9 := Lib.hid (below_on' H2.out hb)
      clear hb
      go_wp2_with fail
      go_ret
      exact ⟨rfl, B9.out⟩
    · have h2 : ¬ (1 ≤ n ∧ n ≤ 4096) := h1
      have ND := Lib.hid (k_new_bad n w h1 hr)
      have NR : Hid (∀ W, Calls Tryz.prog 7 #[.int .i64 n] W fun e w' => e = .returned (.tuple #[.pointer none, .int .i64 1]) ∧ W = w') := fun W => rnew_bad n W h1
      refine ND.out.mono ?_
      rintro e w1 ⟨rfl, n2⟩
      have H1 := Lib.hid n2
      clear n2
      go_wp2_with fail
      refine (NR.out w1).mono ?_
      rintro e w2 ⟨rfl, rfl⟩
      by_cases h4 : 400 < n
      · have t4 : decide ((400 : Int) < n) = true := decide_eq_true h4
        clear h1 h2 h4 hn hr
        go_wp2_with fail
        refine (wakes_journal _).mono ?_
        rintro e w9 ⟨rfl, hb⟩
        have B9 := Lib.hid (below_on' H1.out hb)
        clear hb
        go_wp2_with fail
        go_ret
        exact ⟨rfl, B9.out⟩
      · have t4 : decide ((400 : Int) < n) = false := decide_eq_false h4
        clear h1 h2 h4 hn hr
        go_wp2_with fail
        refine (wakes_journal _).mono ?_
        rintro e w9 ⟨rfl, hb⟩
        have B9 := Lib.hid (below_on' H1.out hb)
        clear hb
        go_wp2_with fail
        go_ret
        exact ⟨rfl, B9.out⟩
set_option maxRecDepth 20000 in
set_option maxHeartbeats 16000000 in
theorem jplays_good (k : Nat) (l : List St) (v : Value) (w : World) (hv : Sts w w.heap.size v l) (hfit : ∀ z ∈ l, z.Fit) (h1 : 1 ≤ k) (h2 : k ≤ 400) :
    Calls Tryz.prog 3 #[.int .i64 (k : Nat), v] w fun e w' => e = .returned (.bool true) ∧ Below w.heap.size w w' := by
  have FR := Lib.hid (j_fair l v _ w hv)
  obtain ⟨A, c, rfl, -, -, hcell⟩ := hv
  have HC := Lib.hid hcell
  have HFIT := Lib.hid hfit
  clear hcell hfit
  have ND := Lib.hid (l_new k w w (Below.refl _ _) h1 (by omega))
  have NR : Hid (∀ W, Calls Tryz.prog 7 #[.int .i64 (k : Nat)] W fun e w' => ∃ g r, e = .returned (.tuple #[.pointer (some ⟨g, 0, none⟩), .int .i64 0]) ∧ DocAt w' g r (newD k) ∧ Below W.heap.size W w' ∧ W.heap.size ≤ g ∧ W.heap.size ≤ r) := fun W => r_new k W h1 (by omega)
  have t4 : decide ((400 : Int) < k) = false := decide_eq_false (by omega)
  have HK : Hid (k ≤ 400) := h2
  go_enter Tryz.func3, Tryz.ntmps3
  go_wp2_with fail
  refine FR.out.mono ?_
  rintro e w1 ⟨B, rfl, hB, rfl⟩
  cases B with
  | false =>
    clear hB
    go_wp2_with fail
    refine (wakes_journal _).mono ?_
    rintro e w9 ⟨rfl, hb⟩
    have B9 := Lib.hid (below_on' (Below.refl _ w) hb)
    clear hb
    go_wp2_with fail
    go_ret
    exact ⟨rfl, B9.out⟩
  | true =>
    have HB := Lib.hid (hB rfl)
    clear hB FR
    go_wp2_with fail
    refine ND.out.mono ?_
    rintro e w1 ⟨g, b, rfl, n1, -⟩
    have H1 := Lib.hid n1
    clear n1 ND
    go_wp2_with fail
    refine (NR.out w1).mono ?_
    rintro e w2 ⟨gr, r, rfl, n1, n2, n3, n4⟩
    have T0 : Hid (TD w w2 (fun _ => False) (fun _ => none) g b gr r (newD k) (newD k)) := show TD _ _ _ _ _ _ _ _ _ _ from td_new H1.out n1 n2 n3 n4
    have Q0 : Hid ((newD k).Fit k 0) := show DSt.Fit _ _ _ from new_fit (by omega)
    clear n1 n2 n3 n4 NR H1 h1 h2
    generalize newD k = q0 at *
    go_wp2_with fail
    refine (td_format1 ⟨#[98, 97, 115, 101]⟩ T0.out Q0.out (by decide) (by decide)).mono ?_
    rintro e w3 ⟨v0, rfl, n1⟩
    have T1 := Lib.hid n1
    clear n1
    go_wp2_with fail
    refine (to_format2 ⟨#[98, 97, 115, 101]⟩ T1.out Q0.out (by decide) rfl).mono ?_
    rintro e w4 ⟨u0, rfl, n1⟩
    have T2 := Lib.hid n1
    have Q1 := Lib.hid (format_qfit (s := ⟨#[98, 97, 115, 101]⟩) Q0.out)
    have O1 := Lib.hid (format_oks (s := ⟨#[98, 97, 115, 101]⟩) Q0.out)
    clear n1 T0 T1
    generalize (format q0 ⟨#[98, 97, 115, 101]⟩).e = er0 at *
    generalize (format q0 ⟨#[98, 97, 115, 101]⟩).q = q1 at *
    generalize (format q0 ⟨#[98, 97, 115, 101]⟩).j = oj1 at *
    have e0 : (er0 != er0) = false := by simp
    go_wp2_with fail
    refine (ts_both T2.out Q1.out O1.out).mono ?_
    rintro e w5 ⟨rfl, n1⟩
    have T3 := Lib.hid (ts_grow T2.out n1)
    clear n1 T2 Q0 e0
    go_wp2_with fail
    go_loopw [9, 11, 13] (fun s9 s11 s13 wr => ∃ (i : Nat) (q : DSt) (oj : Option JSt) (v u : Value), i ≤ l.length ∧ s9 = v ∧ s11 = u ∧ s13 = .int .i64 i ∧ Hid (TS w wr (fun _ => False) (fun _ => none) g b gr r q q oj v u) ∧ Hid (q.Fit k (600 * (i + 1))) ∧ Hid (∀ j, oj = some j → 2 ≤ k ∧ j.Ok q)) (fun _ _ t _ => l.length - (intOf t).toNat)
    case atStart => exact ⟨0, q1, oj1, v0, u0, Nat.zero_le _, rfl, rfl, rfl, T3.out, Q1.out, O1.out⟩
    case round =>
      clear T3 Q1 O1
      obtain ⟨i, q, oj, v, u, hi, rfl, rfl, rfl, HT, HQ, HO⟩ := hrel
      by_cases hlt : i < l.length
      · have t1 : decide (i < l.length) = true := decide_eq_true hlt
        have t1' : decide ((i : Int) < l.length) = true := decide_eq_true (by omega)
        have j0 : (0 : Int) ≤ i := by omega
        obtain ⟨b1, off, rfl, hb, hx⟩ := HC.out (by omega)
        have X := hx i hlt
        have FIT := Lib.hid (HFIT.out _ (st_in hlt))
        have SML := Lib.hid (HB.out.1 i hlt)
        have HI60 : Hid (i < 60) := show _ < _ by have := HB.out.2; omega
        clear hx
        generalize l.getD i st0 = z at *
        have hbl := (ts_td HT.out).fr.below
        have x0 := (hbl.cell (p := ⟨b1, off + i * 4, none⟩) hb).trans X.1
        have x1 := (hbl.cell (p := ⟨b1, off + i * 4 + 1, none⟩) hb).trans X.2.1
        have x2 := (hbl.cell (p := ⟨b1, off + i * 4 + 2, none⟩) hb).trans X.2.2.1
        have x3 := (hbl.cell (p := ⟨b1, off + i * 4 + 3, none⟩) hb).trans X.2.2.2
        clear X hbl
        go_upto_region 17 with fail
        have TB := Lib.hid (ts_box HT.out (.cells #[.int .i64 z.kind, .int .i64 z.n, .int .i64 z.part, .string z.s] 40))
        have hgx : ∃ gx, gx = wr.heap.size := ⟨_, rfl⟩
        clear x0 x1 x2 x3 HT
        generalize wr.alloc (.cells #[.int .i64 z.kind, .int .i64 z.n, .int .i64 z.part, .string z.s] 40) = wa at *
        generalize wr.heap.size = gx at *
        clear hgx
        obtain ⟨c0, c1, c2, c3⟩ := ts_cells TB.out
        have hs : z.s.size ≤ 9223372036854775807 := by have := SML.out; omega
        have hm : 600 * (i + 1) ≤ 10000000 := by have := HI60.out; omega
        have hk4 : k ≤ 400 := HK.out
        by_cases hcn : (z.kind = 0 ∨ z.kind = 1) ∧ oj = none
        · obtain ⟨hk, rfl⟩ := hcn
          obtain ⟨rfl, rfl, TN⟩ := ts_of_none TB.out
          have TN := Lib.hid TN
          clear TB
          rcases hk with hk | hk
          · have u0 : (z.kind == 0) = true := by rw [hk]; rfl
            clear hk
            go_wp2_with fail
            go_roundw
            case rel => exact ⟨i + 1, q, none, _, _, by omega, rfl, rfl, by go_num, ts_none TN.out.drop, HQ.out.more (by omega), oks_none⟩
            case measure => simp [intOf]; omega
          · have u0 : (z.kind == 0) = false := by rw [hk]; rfl
            have u1 : (z.kind == 1) = true := by rw [hk]; rfl
            clear hk
            go_wp2_with fail
            go_roundw
            case rel => exact ⟨i + 1, q, none, _, _, by omega, rfl, rfl, by go_num, ts_none TN.out.drop, HQ.out.more (by omega), oks_none⟩
            case measure => simp [intOf]; omega
        · go_upto_block 2 with fail
          go_cut [9, 11, 15, 16] (fun s9 s11 s15 s16 wx => ∃ (q' : DSt) (oj' : Option JSt) (v' u' : Value) (er : Int), s9 = v' ∧ s11 = u' ∧ s15 = .int .i64 er ∧ s16 = .int .i64 er ∧ Hid (TS w wx (fun i => i = gx) (fun _ => some (.cells #[.int .i64 z.kind, .int .i64 z.n, .int .i64 z.part, .string z.s] 40)) g b gr r q' q' oj' v' u') ∧ Hid (q'.Fit k (600 * (i + 1 + 1))) ∧ Hid (∀ j, oj' = some j → 2 ≤ k ∧ j.Ok q'))
          case first =>
            as_aux_lemma =>
              by_cases k0 : z.kind = 0
              · have u0 : (z.kind == 0) = true := by rw [k0]; rfl
                cases oj with
                | none => exact absurd ⟨Or.inl k0, rfl⟩ hcn
                | some j =>
                  obtain ⟨gj, V, gd, rfl, rfl, TJ0⟩ := ts_of_some TB.out
                  obtain ⟨hk2, hok⟩ := HO.out j rfl
                  have TJd := Lib.hid (TJ0.grow (below_drew1 wa))
                  have d3 := (fr_cells TJd.out.fr).2.2.2
                  have HOK := Lib.hid hok
                  clear TJ0 TB hok k0 hcn
                  go_wp2_with fail
                  go_region_held3 (fun w' => w'.cell? ⟨gx, 3, none⟩ = some (.string z.s))
                    (first | exact C2 | exact C1 | exact d3)
                    (first
                      | (go_at_call 11
                         with_reducible refine (tj_append1 z.s TJd.out HQ.out hm hk2 HOK.out hs).mono ?_
                         rintro e w3 ⟨rfl, V3, n1⟩
                         have T1 := Lib.hid n1
                         have C1 := (fr_cells T1.out.fr).2.2.2
                         clear n1)
                      | (go_at_call 12
                         with_reducible refine (tj_append2 z.s T1.out HQ.out hm hk2 HOK.out.fit).mono ?_
                         rintro e w4 ⟨rfl, n1⟩
                         have T2 := Lib.hid n1
                         have C2 := (fr_cells T2.out.fr).2.2.2
                         clear n1))
                  go_wp2_with fail
                  go_meet
                  exact ⟨(append q j z.s).q, some (append q j z.s).j, _, _, (append q j z.s).e, rfl, rfl, rfl, rfl, ts_some T2.out, (append_qfit HQ.out).more (by omega), oks_some hk2 (append_ok HOK.out z.s)⟩
              · have u0 : (z.kind == 0) = false := by rw [beq_eq_false_iff_ne]; exact k0
                by_cases k1 : z.kind = 1
                · have u1 : (z.kind == 1) = true := by rw [k1]; rfl
                  cases oj with
                  | none => exact absurd ⟨Or.inr k1, rfl⟩ hcn
                  | some j =>
                    obtain ⟨gj, V, gd, rfl, rfl, TJ0⟩ := ts_of_some TB.out
                    obtain ⟨hk2, hok⟩ := HO.out j rfl
                    have TJd := Lib.hid (TJ0.grow (below_drew1 wa))
                    have d3 := (fr_cells TJd.out.fr).2.2.2
                    have HOK := Lib.hid hok
                    clear TJ0 TB hok k1 hcn
                    go_wp2_with fail
                    go_region_held3 (fun w' => w'.cell? ⟨gx, 3, none⟩ = some (.string z.s))
                      (first | exact C2 | exact C1 | exact d3)
                      (first
                        | (go_at_call 13
                           with_reducible refine (tj_save1 z.s TJd.out HQ.out hm hk2 HOK.out hs).mono ?_
                           rintro e w3 ⟨rfl, V3, n1⟩
                           have T1 := Lib.hid n1
                           have C1 := (fr_cells T1.out.fr).2.2.2
                           clear n1)
                        | (go_at_call 14
                           with_reducible refine (tj_save2 z.s T1.out HQ.out hm hk2 HOK.out.fit).mono ?_
                           rintro e w4 ⟨rfl, n1⟩
                           have T2 := Lib.hid n1
                           have C2 := (fr_cells T2.out.fr).2.2.2
                           clear n1))
                    go_wp2_with fail
                    go_meet
                    exact ⟨(save q j z.s).q, some (save q j z.s).j, _, _, (save q j z.s).e, rfl, rfl, rfl, rfl, ts_some T2.out, (save_qfit HQ.out).more (by omega), oks_some hk2 (save_ok HOK.out z.s)⟩
                · have u1 : (z.kind == 1) = false := by rw [beq_eq_false_iff_ne]; exact k1
                  by_cases k2 : z.kind = 2
                  · have u2 : (z.kind == 2) = true := by rw [k2]; rfl
                    clear k2
                    cases oj with
                    | none =>
                      obtain ⟨rfl, rfl, TA⟩ := ts_of_none TB.out
                      have TAd := Lib.hid (TA.grow (below_drew1 wa))
                      have d0 := fr_cells TAd.out.fr
                      clear TB
                      go_wp2_with fail
                      go_region_held3 (fun w' => w'.cell? ⟨gx, 1, none⟩ = some (.int .i64 z.n) ∧ w'.cell? ⟨gx, 2, none⟩ = some (.int .i64 z.part))
                        (first | exact C2 | exact C1 | exact ⟨d0.2.1, d0.2.2.1⟩)
                        (first
                          | (go_at_call 15
                             with_reducible refine (td_arm1 z.n z.part TAd.out).mono ?_
                             rintro e w3 ⟨rfl, n1⟩
                             have T1 := Lib.hid n1
                             have C1 := And.intro (fr_cells T1.out.fr).2.1 (fr_cells T1.out.fr).2.2.1
                             clear n1)
                          | (go_at_call 16
                             with_reducible refine (td_arm2 z.n z.part T1.out).mono ?_
                             rintro e w4 ⟨rfl, n1⟩
                             have T2 := Lib.hid n1
                             have C2 := And.intro (fr_cells T2.out.fr).2.1 (fr_cells T2.out.fr).2.2.1
                             clear n1))
                      go_wp2_with fail
                      go_meet
                      exact ⟨q.arm z.n z.part, none, _, _, armE z.n z.part, rfl, rfl, rfl, rfl, ts_none T2.out, (HQ.out.arm z.n z.part).more (by omega), oks_none⟩
                    | some j =>
                      obtain ⟨gj, V, gd, rfl, rfl, TA⟩ := ts_of_some TB.out
                      have TAd := Lib.hid (TA.grow (below_drew1 wa))
                      have d0 := fr_cells TAd.out.fr
                      clear TB
                      go_wp2_with fail
                      go_region_held3 (fun w' => w'.cell? ⟨gx, 1, none⟩ = some (.int .i64 z.n) ∧ w'.cell? ⟨gx, 2, none⟩ = some (.int .i64 z.part))
                        (first | exact C2 | exact C1 | exact ⟨d0.2.1, d0.2.2.1⟩)
                        (first
                          | (go_at_call 15
                             with_reducible refine (tj_arm1 z.n z.part TAd.out).mono ?_
                             rintro e w3 ⟨rfl, n1⟩
                             have T1 := Lib.hid n1
                             have C1 := And.intro (fr_cells T1.out.fr).2.1 (fr_cells T1.out.fr).2.2.1
                             clear n1)
                          | (go_at_call 16
                             with_reducible refine (tj_arm2 z.n z.part T1.out).mono ?_
                             rintro e w4 ⟨rfl, n1⟩
                             have T2 := Lib.hid n1
                             have C2 := And.intro (fr_cells T2.out.fr).2.1 (fr_cells T2.out.fr).2.2.1
                             clear n1))
                      go_wp2_with fail
                      go_meet
                      exact ⟨q.arm z.n z.part, some j, _, _, armE z.n z.part, rfl, rfl, rfl, rfl, ts_some T2.out, (HQ.out.arm z.n z.part).more (by omega), oks_arm _ _ HO.out⟩
                  · have u2 : (z.kind == 2) = false := by rw [beq_eq_false_iff_ne]; exact k2
                    clear k2
                    by_cases k3 : z.kind = 3
                    · have u3 : (z.kind == 3) = true := by rw [k3]; rfl
                      clear k3
                      have T0 := Lib.hid (ts_td TB.out)
                      clear TB c0 c1 c2 c3
                      go_wp2_with fail
                      refine (td_start1 T0.out).mono ?_
                      rintro e w3 ⟨rfl, n1⟩
                      have T1 := Lib.hid n1
                      clear n1
                      go_wp2_with fail
                      refine (td_start2 T1.out).mono ?_
                      rintro e w4 ⟨rfl, n1⟩
                      have T2 := Lib.hid n1
                      have HQ3 := Lib.hid HQ.out.start
                      clear n1 T0 T1
                      generalize q.start = q3 at *
                      go_wp2_with fail
                      refine (td_open1 T2.out HQ3.out (by omega)).mono ?_
                      rintro e w5 ⟨v5, rfl, n1⟩
                      have T3 := Lib.hid n1
                      clear n1
                      go_wp2_with fail
                      refine (to_open2 T3.out HQ3.out rfl).mono ?_
                      rintro e w6 ⟨u6, rfl, n1⟩
                      have T4 := Lib.hid n1
                      clear n1
                      go_wp2_with fail
                      go_meet
                      exact ⟨q3, (opened q3).1, v5, u6, (opened q3).2, rfl, rfl, rfl, rfl, T4.out, HQ3.out.more (by omega), opened_oks HQ3.out⟩
                    · have u3 : (z.kind == 3) = false := by rw [beq_eq_false_iff_ne]; exact k3
                      clear k3
                      by_cases k4 : z.kind = 4
                      · have u4 : (z.kind == 4) = true := by rw [k4]; rfl
                        clear k4
                        have T0 := Lib.hid (ts_td TB.out)
                        go_wp2_with fail
                        refine (td_format1 z.s T0.out HQ.out hm hs).mono ?_
                        rintro e w3 ⟨v3, rfl, n1⟩
                        have T1 := Lib.hid n1
                        clear n1 c0 c1 c2 c3
                        obtain ⟨c0, c1, c2, c3⟩ := to_cells T1.out
                        go_wp2_with fail
                        refine (to_format2 z.s T1.out HQ.out hm rfl).mono ?_
                        rintro e w4 ⟨u4, rfl, n1⟩
                        have T2 := Lib.hid n1
                        clear n1
                        go_wp2_with fail
                        go_meet
                        exact ⟨(format q z.s).q, (format q z.s).j, v3, u4, (format q z.s).e, rfl, rfl, rfl, rfl, T2.out, (format_qfit HQ.out).more (by omega), format_oks HQ.out⟩
                      · have u4 : (z.kind == 4) = false := by rw [beq_eq_false_iff_ne]; exact k4
                        clear k4
                        by_cases k5 : z.kind = 5
                        · have u5 : (z.kind == 5) = true := by rw [k5]; rfl
                          clear k5
                          cases oj with
                          | none =>
                            obtain ⟨rfl, rfl, TA⟩ := ts_of_none TB.out
                            obtain ⟨t, hraw⟩ := j_raw z.s SML.out
                            have HRAW := Lib.hid hraw
                            have T0 := Lib.hid (TA.grow (below_drew1 wa))
                            have C0 := And.intro (fr_cells T0.out.fr).2.1 (fr_cells T0.out.fr).2.2.2
                            clear TB TA hraw
                            go_wp2_with fail
                            go_region_held3 (fun w' => w'.cell? ⟨gx, 1, none⟩ = some (.int .i64 z.n) ∧ w'.cell? ⟨gx, 3, none⟩ = some (.string z.s))
                              (first | exact C2 | exact C1 | exact C0)
                              (first
                                | (go_at_call 22
                                   have hcc := HRAW.out wa.drew
                                   with_reducible refine hcc.mono ?_
                                   clear hcc
                                   rintro e w3a ⟨rfl, hb⟩
                                   have T1a := Lib.hid (T0.out.grow hb)
                                   have C1 := And.intro (fr_cells T1a.out.fr).2.1 (fr_cells T1a.out.fr).2.2.2
                                   clear hb)
                                | (go_at_call 21
                                   with_reducible refine (td_write1 z.n t T1a.out HQ.out (by omega)).mono ?_
                                   rintro e w3 ⟨rfl, n1⟩
                                   have T1 := Lib.hid n1
                                   have C2 := And.intro (fr_cells T1.out.fr).2.1 (fr_cells T1.out.fr).2.2.2
                                   clear n1))
                            clear C0 C1 C2
                            have T2 := Lib.hid (T1.out.grow (below_drew1 w3))
                            have C0 := And.intro (fr_cells T2.out.fr).2.1 (fr_cells T2.out.fr).2.2.2
                            go_wp2_with fail
                            go_region_held3 (fun w' => w'.cell? ⟨gx, 1, none⟩ = some (.int .i64 z.n) ∧ w'.cell? ⟨gx, 3, none⟩ = some (.string z.s))
                              (first | exact C2 | exact C1 | exact C0)
                              (first
                                | (go_at_call 22
                                   have hcc := HRAW.out w3.drew
                                   with_reducible refine hcc.mono ?_
                                   clear hcc
                                   rintro e w4a ⟨rfl, hb⟩
                                   have T3a := Lib.hid (T2.out.grow hb)
                                   have C1 := And.intro (fr_cells T3a.out.fr).2.1 (fr_cells T3a.out.fr).2.2.2
                                   clear hb)
                                | (go_at_call 23
                                   with_reducible refine (td_write2 z.n t T3a.out HQ.out (by omega)).mono ?_
                                   rintro e w4 ⟨rfl, n1⟩
                                   have T3 := Lib.hid n1
                                   have C2 := And.intro (fr_cells T3.out.fr).2.1 (fr_cells T3.out.fr).2.2.2
                                   clear n1))
                            go_wp2_with fail
                            go_meet
                            exact ⟨q.write z.n t, none, _, _, 0, rfl, rfl, rfl, rfl, ts_none T3.out, (HQ.out.write z.n t).more (by omega), oks_none⟩
                          | some j =>
                            obtain ⟨gj, V, gd, rfl, rfl, TA⟩ := ts_of_some TB.out
                            have TA := Lib.hid TA
                            clear TB
                            go_wp2_with fail
                            go_meet
                            exact ⟨q, some j, _, _, 0, rfl, rfl, rfl, rfl, ts_some TA.out, HQ.out.more (by omega), HO.out⟩
                        · have u5 : (z.kind == 5) = false := by rw [beq_eq_false_iff_ne]; exact k5
                          clear k5
                          go_wp2_with fail
                          go_meet
                          exact ⟨q, oj, _, _, 0, rfl, rfl, rfl, rfl, TB.out, HQ.out.more (by omega), HO.out⟩
          case rest =>
            clear hcn TB HQ HO c0 c1 c2 c3
            obtain ⟨q', oj', v', u', er, rfl, rfl, rfl, rfl, TB, HQ, HO⟩ := hcut
            obtain ⟨cq, -, -, a1, -, -, -, a5, -⟩ := doc_cells (ts_td TB.out).doc
            have HCC : Hid (∀ W : World, W.heap[gr]? = wc.heap[gr]? → W.cell? ⟨gr, 1, none⟩ = some (.bool q'.dead) ∧ W.cell? ⟨gr, 5, none⟩ = some (.int .i64 q'.writes)) := fun W hh => by
              refine ⟨?_, ?_⟩
              · rw [← a1]; exact World.cell?_of_block hh
              · rw [← a5]; exact World.cell?_of_block hh
            have E0 : Hid (wc.drew.heap[gr]? = wc.heap[gr]?) := rfl
            have D0 := HCC.out wc.drew E0.out
            have TD0 := Lib.hid (ts_grow TB.out (below_drew1 wc))
            have e1 : (er != er) = false := by simp
            have e2 : (q'.dead != q'.dead) = false := by simp
            have e3 : (q'.writes != q'.writes) = false := by simp
            clear a1 a5 TB
            go_upto_region 43 with fail
            go_region_held3 (fun w' => w'.cell? ⟨gr, 1, none⟩ = some (.bool q'.dead) ∧ w'.cell? ⟨gr, 5, none⟩ = some (.int .i64 q'.writes))
              (first | exact D3 | exact D2 | exact D1 | exact D0)
              (first
                | (go_at_call 10
                   with_reducible refine (ts_both TD0.out HQ.out HO.out).mono ?_
                   rintro e w3 ⟨rfl, hb⟩
                   have E1 := Lib.hid ((hb.block gr (ts_td TD0.out).doc.lt.1).trans E0.out)
                   have T1 := Lib.hid (ts_grow TD0.out hb)
                   have D1 := HCC.out w3 E1.out
                   clear hb)
                | (go_at_call 24
                   with_reducible refine (ts_dead T1.out).mono ?_
                   rintro e w4 ⟨rfl, n1, n2⟩
                   have E2 := Lib.hid (n2.trans E1.out)
                   have T2 := Lib.hid n1
                   have D2 := HCC.out w4 E2.out
                   clear n1 n2)
                | (go_at_call 25
                   with_reducible refine (ts_writes T2.out).mono ?_
                   rintro e w5 ⟨rfl, n1, n2⟩
                   have E3 := Lib.hid (n2.trans E2.out)
                   have T3 := Lib.hid n1
                   have D3 := HCC.out w5 E3.out
                   clear n1 n2))
            clear D0 D1 D2 D3 HCC
            go_wp2_with fail
            go_roundw
            case rel => exact ⟨i + 1, q', oj', _, _, by omega, rfl, rfl, by go_num, ts_drop T3.out, HQ.out, HO.out⟩
            case measure => simp [intOf]; omega
      · obtain rfl : i = l.length := by omega
        have t1 : decide (l.length < l.length) = false := decide_eq_false (by omega)
        have t1' : decide ((l.length : Int) < l.length) = false := decide_eq_false (by omega)
        have T0 := Lib.hid (ts_td HT.out)
        clear HT HO
        go_wp2_with fail
        refine (td_start1 T0.out).mono ?_
        rintro e w3 ⟨rfl, n1⟩
        have T1 := Lib.hid n1
        clear n1
        go_wp2_with fail
        refine (td_start2 T1.out).mono ?_
        rintro e w4 ⟨rfl, n1⟩
        have T2 := Lib.hid n1
        clear n1
        go_wp2_with fail
        refine (same_two w w4 gr r (F2 g b) ⟨g, 0, none⟩ q.start k (600 * (l.length + 1)) (td_two T2.out) HQ.out.start).mono ?_
        rintro e w5 ⟨rfl, F5, n1⟩
        have T3 := Lib.hid n1.below
        clear n1
        go_wp2_with fail
        refine (wakes_journal _).mono ?_
        rintro e w9 ⟨rfl, hb⟩
        have B9 := Lib.hid (below_on' T3.out hb)
        clear hb
        go_wp2_with fail
        go_ret
        exact ⟨rfl, B9.out⟩
theorem jplays_walk (n : Int) (l : List St) (v : Value) (w : World) (hv : Sts w w.heap.size v l) (hfit : ∀ z ∈ l, z.Fit) (hr : -9223372036854775808 ≤ n ∧ n ≤ 9223372036854775807) :
    Calls Tryz.prog 3 #[.int .i64 n, v] w fun e w' => e = .returned (.bool true) ∧ Below w.heap.size w w' := by
  by_cases hn : 1 ≤ n ∧ n ≤ 400
  · obtain ⟨k, rfl⟩ : ∃ k : Nat, n = k := ⟨n.toNat, by omega⟩
    exact jplays_good k l v w hv hfit (by omega) (by omega)
  · exact jplays_bad n l v w hv hn hr
theorem j64_range {z : Int} (h : (Lit.int .i64 z).wf = true) : -9223372036854775808 ≤ z ∧ z ≤ 9223372036854775807 := by
  simpa [Lit.wf, IntKind.min, IntKind.max, IntKind.bits, IntKind.signed] using h

set_option maxRecDepth 100000 in
theorem journalPlays_lifted (os : Os) (started : os.Started) (H : Type) (enc : TypeId × Value → H) :
    ReturnsInHanded {} Tryz.checked os 3 .any (Rows.journalPlaysSpec.pre6 enc Tryz.prog Tryz.f3 Rows.journalPlaysRow.domain false) (Rows.journalPlaysSpec.post enc Tryz.prog Tryz.f3 false true false false) := by
  refine Shell.law_lifted (C := Tryz.checked) (tb := 4) (by kernel_rfl) started (by kernel_rfl) Tryz.func3
    (ChangeSpec.witness6 (enc := enc) (C := Tryz.checked) false ⟨#[], #[.int .i64 0, .slice none 0 0], []⟩ 8 (by kernel_rfl) (by kernel_rfl) (by kernel_rfl) (by kernel_rfl))
    (by kernel_rfl) (by kernel_rfl) rfl rfl Tryz.underlying4 ?_
  intro W base args ds p hval0 hA0
  have hval : ∀ (j : Nat) t v, Tryz.f3.params[j]? = some t → args[j]? = some v → Value.okWide Tryz.prog W .any base t v := hval0
  have hA : DataW.TrodAll enc Tryz.prog W 0 (fun _ => true) true Tryz.f3.params.toList args.toList ds p := hA0
  clear hval0 hA0
  rw [Tryz.params3] at hA hval
  obtain ⟨v0, vs0, d0, ds0, p0, q0, hargs, rfl, rfl, h0, r0⟩ := trodAll_cons hA
  obtain ⟨v1, vs1, d1, ds1, p1, q1, rfl, rfl, rfl, h1, r1⟩ := trodAll_cons r0
  obtain ⟨rfl, rfl, rfl⟩ := trodAll_nil r1
  obtain rfl : args = #[v0, v1] := by cases args; simp_all
  refine ⟨rfl, ?_⟩
  obtain ⟨n, rfl, -, -, w0⟩ := open_int Tryz.underlying3 (hval 0 3 v0 rfl rfl) h0
  have b0 := j64_range w0
  obtain ⟨l, hvl, fitl⟩ := open_steps (t := 22) (e := 40) (ti := 3) (ts := 9) Tryz.underlying22 Tryz.underlying40 (by kernel_rfl) rfl rfl rfl rfl rfl rfl rfl rfl Tryz.underlying3 Tryz.underlying9 (by kernel_rfl) (by kernel_rfl) (hval 1 22 v1 rfl rfl) h1
  exact jplays_walk n l v1 W hvl fitl b0

theorem journalPlays_over : Rows.journalPlaysRow.holds Tryz.pinned (OpenSpec.ofChange Rows.journalPlaysSpec) :=
  OpenClaim.holds_of_wide 3 Tryz.f3 rfl rfl rfl rfl rfl rfl rfl ⟨rfl, rfl, rfl, rfl, rfl⟩ rfl rfl rfl rfl rfl (by kernel_rfl) Tryz.func3 (by kernel_rfl)
    (of_decide_eq_true (by kernel_rfl)) (by unfold Func.isWrapper; first | (rw [if_pos (by decide +kernel)]; kernel_rfl) | (rw [if_neg (by decide +kernel)]; exact ⟨rfl, rfl⟩))
    (fun os st H enc _ => journalPlays_lifted os st H enc)

/-- The statement. -/
theorem journalPlays_proved : Rows.JournalPlaysSaid := journalPlays_over
end Go.Proofs.YtndanhacmfhlaaaGreat.Law
