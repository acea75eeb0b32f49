/- No loan is asked more than it owes; by income all together no more than a tenth of a month's free income, at any table, state and day; no condition. -/
import Derived.Test.YtkddiaiohnbjpaaGreatDoorCards
import Derived.Test.YtkddiaiohnbjpaaGreatDoorTie
import Derived.Test.YtkddiaiohnbjpaaGreatDoorGA
import Derived.Test.YtkddiaiohnbjpaaGreatDoorPlanWakes
import Derived.Test.YtkddiaiohnbjpaaGreatDoorGRLo
import Derived.Test.YtkddiaiohnbjpaaGreatDoorGInc
import Derived.Test.YtkddiaiohnbjpaaGreatDoorPlanMostMath
import Derived.Test.YtkddiaiohnbjpaaGreatDoorPlanAsksMath
import Derived.Test.YtkddiaiohnbjpaaGreatDoorKeepLarge
namespace Go.Proofs.YtkddiaiohnbjpaaGreatDoor.Law
open Go.ChangeShapes Go.WideShapes Go.ChangeAt Go.RowKit Loan Money Box Rws Slice Plan

/-- What stands while PlanMost goes: the state's box, what came in, the listed tables. -/
structure Mo (w0 W : World) (g : Nat) (C : Array Value) (zs : List Int) (L : List Ln) (M : List Bl) (pv lv bv : Value) : Prop where
  low : Below w0.heap.size w0 W
  b4 : Boxd W g C 38
  both : Both W
  poor : Ints W w0.heap.size .i64 pv zs
  lns : Lns W w0.heap.size lv L
  bls : Bls W w0.heap.size bv M
theorem Mo.below {w0 W W' : World} {g : Nat} {C : Array Value} {zs : List Int} {L : List Ln} {M : List Bl} {pv lv bv : Value} (h : Mo w0 W g C zs L M pv lv bv) (hb : Below W.heap.size W W') : Mo w0 W' g C zs L M pv lv bv :=
  ⟨below_to h.low hb, h.b4.below hb, h.both.of hb, h.poor.below (hb.mono h.low.size), h.lns.below (hb.mono h.low.size), h.bls.below (hb.mono h.low.size)⟩
theorem ints_at' {W : World} {B : Nat} {k : IntKind} {A : Option Addr} {n c : Nat} {zs : List Int} (h : Ints W B k (.slice A n c) zs) {i : Nat} (hi : i < zs.length) : ∃ b off, A = some ⟨b, off, none⟩ ∧ b < B ∧ W.cell? ⟨b, off + i, none⟩ = some (.int k (zs.getD i 0)) := by
  obtain ⟨A', c', e, -, -, hc⟩ := h
  injection e with e1 _ _
  subst e1
  obtain ⟨b, off, h1, h2, h3⟩ := hc (by omega)
  exact ⟨b, off, h1, h2, h3 i hi⟩
theorem aV_ge (zs : List Int) (f n : Int) : 0 ≤ Income.aV zs f n := by
  by_cases h : Income.okF zs f n
  · rw [(Income.a_yes h).1]
    obtain ⟨⟨t, f1, -⟩, n1, n2⟩ := h
    exact (Income.ask_in t f1 n1 n2).1
  · rw [(Income.a_no h).1]
    exact Int.le_refl _
theorem most_bound {A : List Int} {P : List Ln} (hg : ∀ l ∈ P, goodL l = true) (h : ∀ k x, P[k]? = some x → (owesR x).2 = 0 ∧ 0 ≤ A.getD k 0 ∧ A.getD k 0 ≤ (owesR x).1) : ∀ k, k ≤ P.length → 0 ≤ Share.pre (fun k => A.getD k 0) k ∧ Share.pre (fun k => A.getD k 0) k ≤ k * 10000000000000
  | 0, _ => by rw [Share.pre_zero]; omega
  | k + 1, hk => by
    obtain ⟨a, b⟩ := most_bound hg h k (by omega)
    obtain ⟨-, c, d⟩ := h k _ (List.getElem?_eq_getElem (show k < P.length by omega))
    have e := (owes_in (hg _ (List.getElem_mem (show k < P.length by omega)))).2
    rw [Share.pre_succ]
    push_cast
    omega
set_option maxRecDepth 20000 in
set_option maxHeartbeats 8000000 in
theorem most_large (zs : List Int) (s : Sc) (day : Int) (L : List Ln) (M : List Bl) (pv lv bv : Value) (w : World) (hp : Ints w w.heap.size .i64 pv zs) (hv : Lns w w.heap.size lv L) (hm : Bls w w.heap.size bv M) (LD : Hid (Both w)) (h1 : largeB L M = true) : Calls Tryz.prog 5 #[pv, .agg (s.cells lv bv), .int .i64 day] w fun e w' => e = .returned (.bool true) ∧ Below w.heap.size w w' := by
  obtain ⟨A, c, rfl, hl, hn, hc⟩ := hp
  have HP : Hid (Ints w w.heap.size .i64 (.slice A zs.length c) zs) := ⟨A, c, rfl, hl, hn, hc⟩
  obtain ⟨A2, k2, rfl⟩ := hv.shape
  obtain ⟨g, wb, e1, e2, hB, hb⟩ := boxd_new w (s.cells (.slice A2 L.length k2) bv) 38
  have HM : Hid (Mo w wb g (s.cells (.slice A2 L.length k2) bv) zs L M (.slice A zs.length c) (.slice A2 L.length k2) bv) := ⟨hb, hB, LD.out.of hb, HP.out.below hb, hv.below hb, hm.below hb⟩
  have X41 : Hid ((s.cells (.slice A2 L.length k2) bv)[1]? = some (.slice A2 L.length k2)) := show _ = _ from rfl
  have X44 : Hid ((s.cells (.slice A2 L.length k2) bv)[4]? = some (.int .i64 s.inc)) := show _ = _ from rfl
  have X45 : Hid ((s.cells (.slice A2 L.length k2) bv)[5]? = some (.int .i64 s.fam)) := show _ = _ from rfl
  have S4 := Lib.hid (sc_info s (.slice A2 L.length k2) bv)
  have KLG : Hid (∀ W, Mo w W g (s.cells (.slice A2 L.length k2) bv) zs L M (.slice A zs.length c) (.slice A2 L.length k2) bv → Calls Tryz.prog 11 #[.agg (s.cells (.slice A2 L.length k2) bv)] W fun e w' => e = .returned (.bool (largeB L M)) ∧ Below W.heap.size W w') := fun W h => c_large s _ _ L M w.heap.size W h.low.size h.lns h.bls
  clear hn hc hv hm hB hb HP LD
  rw [h1] at KLG
  clear h1
  generalize s.cells (.slice A2 L.length k2) bv = C4 at *
  go_enter Tryz.func5, Tryz.ntmps5
  go_upto_region 1 with fail
  rw [← e2, ← e1]
  clear e1 e2
  go_wp2_with (first
    | (refine o_load (by rfl) 38 _ rfl g rfl _ _ _ HM.out.b4 Tryz.underlying38 rfl S4.out ?_)
    | (go_at_call 11; (with_reducible refine (KLG.out _ HM.out).mono ?_); rintro e y ⟨rfl, hb⟩; replace HM := Lib.hid (HM.out.below hb); clear hb)
    | (go_at_call 10; (with_reducible refine (wakes_plan _ HM.out.both).mono ?_); rintro e y9 ⟨rfl, hb⟩; replace HM := Lib.hid (HM.out.below hb); clear hb))
  go_ret
  exact ⟨rfl, HM.out.low⟩
set_option maxRecDepth 20000 in
set_option maxHeartbeats 8000000 in
theorem most_long (zs : List Int) (s : Sc) (day : Int) (L : List Ln) (M : List Bl) (pv lv bv : Value) (w : World) (hp : Ints w w.heap.size .i64 pv zs) (hv : Lns w w.heap.size lv L) (hm : Bls w w.heap.size bv M) (LD : Hid (Both w)) (h1 : largeB L M = false) (h2 : 100 < zs.length) : Calls Tryz.prog 5 #[pv, .agg (s.cells lv bv), .int .i64 day] w fun e w' => e = .returned (.bool true) ∧ Below w.heap.size w w' := by
  obtain ⟨A, c, rfl, hl, hn, hc⟩ := hp
  have HP : Hid (Ints w w.heap.size .i64 (.slice A zs.length c) zs) := ⟨A, c, rfl, hl, hn, hc⟩
  obtain ⟨A2, k2, rfl⟩ := hv.shape
  obtain ⟨g, wb, e1, e2, hB, hb⟩ := boxd_new w (s.cells (.slice A2 L.length k2) bv) 38
  have HM : Hid (Mo w wb g (s.cells (.slice A2 L.length k2) bv) zs L M (.slice A zs.length c) (.slice A2 L.length k2) bv) := ⟨hb, hB, LD.out.of hb, HP.out.below hb, hv.below hb, hm.below hb⟩
  have X41 : Hid ((s.cells (.slice A2 L.length k2) bv)[1]? = some (.slice A2 L.length k2)) := show _ = _ from rfl
  have X44 : Hid ((s.cells (.slice A2 L.length k2) bv)[4]? = some (.int .i64 s.inc)) := show _ = _ from rfl
  have X45 : Hid ((s.cells (.slice A2 L.length k2) bv)[5]? = some (.int .i64 s.fam)) := show _ = _ from rfl
  have S4 := Lib.hid (sc_info s (.slice A2 L.length k2) bv)
  have KLG : Hid (∀ W, Mo w W g (s.cells (.slice A2 L.length k2) bv) zs L M (.slice A zs.length c) (.slice A2 L.length k2) bv → Calls Tryz.prog 11 #[.agg (s.cells (.slice A2 L.length k2) bv)] W fun e w' => e = .returned (.bool (largeB L M)) ∧ Below W.heap.size W w') := fun W h => c_large s _ _ L M w.heap.size W h.low.size h.lns h.bls
  clear hn hc hv hm hB hb HP LD
  rw [h1] at KLG
  have t1 : decide ((100 : Int) < zs.length) = true := decide_eq_true (by omega)
  clear h1 h2
  generalize s.cells (.slice A2 L.length k2) bv = C4 at *
  go_enter Tryz.func5, Tryz.ntmps5
  go_upto_region 1 with fail
  rw [← e2, ← e1]
  clear e1 e2
  go_wp2_with (first
    | (refine o_load (by rfl) 38 _ rfl g rfl _ _ _ HM.out.b4 Tryz.underlying38 rfl S4.out ?_)
    | (go_at_call 11; (with_reducible refine (KLG.out _ HM.out).mono ?_); rintro e y ⟨rfl, hb⟩; replace HM := Lib.hid (HM.out.below hb); clear hb)
    | (go_at_call 10; (with_reducible refine (wakes_plan _ HM.out.both).mono ?_); rintro e y9 ⟨rfl, hb⟩; replace HM := Lib.hid (HM.out.below hb); clear hb))
  go_ret
  exact ⟨rfl, HM.out.low⟩
set_option maxRecDepth 20000 in
set_option maxHeartbeats 8000000 in
theorem most_asks (zs : List Int) (s : Sc) (day : Int) (L : List Ln) (M : List Bl) (pv lv bv : Value) (w : World) (hp : Ints w w.heap.size .i64 pv zs) (hv : Lns w w.heap.size lv L) (hm : Bls w w.heap.size bv M) (hs : s.Fit) (LD : Hid (Both w)) (h1 : largeB L M = false) (h2 : ¬ 100 < zs.length) : Calls Tryz.prog 5 #[pv, .agg (s.cells lv bv), .int .i64 day] w fun e w' => e = .returned (.bool true) ∧ Below w.heap.size w w' := by
  obtain ⟨A, c, rfl, hl, hn, hc⟩ := hp
  have HP : Hid (Ints w w.heap.size .i64 (.slice A zs.length c) zs) := ⟨A, c, rfl, hl, hn, hc⟩
  obtain ⟨A2, k2, rfl⟩ := hv.shape
  obtain ⟨g, wb, e1, e2, hB, hb⟩ := boxd_new w (s.cells (.slice A2 L.length k2) bv) 38
  have HM : Hid (Mo w wb g (s.cells (.slice A2 L.length k2) bv) zs L M (.slice A zs.length c) (.slice A2 L.length k2) bv) := ⟨hb, hB, LD.out.of hb, HP.out.below hb, hv.below hb, hm.below hb⟩
  have X41 : Hid ((s.cells (.slice A2 L.length k2) bv)[1]? = some (.slice A2 L.length k2)) := show _ = _ from rfl
  have X44 : Hid ((s.cells (.slice A2 L.length k2) bv)[4]? = some (.int .i64 s.inc)) := show _ = _ from rfl
  have X45 : Hid ((s.cells (.slice A2 L.length k2) bv)[5]? = some (.int .i64 s.fam)) := show _ = _ from rfl
  have S4 := Lib.hid (sc_info s (.slice A2 L.length k2) bv)
  have KLG : Hid (∀ W, Mo w W g (s.cells (.slice A2 L.length k2) bv) zs L M (.slice A zs.length c) (.slice A2 L.length k2) bv → Calls Tryz.prog 11 #[.agg (s.cells (.slice A2 L.length k2) bv)] W fun e w' => e = .returned (.bool (largeB L M)) ∧ Below W.heap.size W w') := fun W h => c_large s _ _ L M w.heap.size W h.low.size h.lns h.bls
  clear hn hc hv hm hB hb HP LD
  rw [h1] at KLG
  have t1 : decide ((100 : Int) < zs.length) = false := decide_eq_false (by omega)
  have hN := (large_no h1).1
  have hN2 : L.length ≤ 1000 := by omega
  have KAS : Hid (∀ W, Mo w W g (s.cells (.slice A2 L.length k2) bv) zs L M (.slice A zs.length c) (.slice A2 L.length k2) bv → Calls Tryz.prog 13 #[.agg #[.int .i64 0, .slice A zs.length c], .agg (s.cells (.slice A2 L.length k2) bv), .int .i64 day] W fun e w' => ∃ Q, FitsA zs s day L Q ∧ Plan.AskTold (asksR zs s day L Q) W e w') := fun W h => c_asks 0 zs s day L _ _ bv w.heap.size W h.low.size h.poor h.lns hN2 hs.plan h.both.1 h.both.2
  have KH := Lib.hid (fun W => r_holds s (.slice A2 L.length k2) bv day W)
  have KA := Lib.hid (fun W h => RIncome.r_ask zs s.fam s.inc (.slice A zs.length c) w.heap.size W h)
  clear h1 h2 hN2 hs
  generalize s.cells (.slice A2 L.length k2) bv = C4 at *
  go_enter Tryz.func5, Tryz.ntmps5
  go_upto_region 1 with fail
  rw [← e2, ← e1]
  clear e1 e2
  go_upto_region 4 with (first
    | (refine o_load (by rfl) 38 _ rfl g rfl _ _ _ HM.out.b4 Tryz.underlying38 rfl S4.out ?_)
    | (go_at_call 11; (with_reducible refine (KLG.out _ HM.out).mono ?_); rintro e y ⟨rfl, hb⟩; replace HM := Lib.hid (HM.out.below hb); clear hb)
    | (go_at_call 13; (refine (KAS.out _ HM.out).mono ?_); rintro e ys ⟨Q, hQ, u1, u2, rfl, h3, h4, hb⟩; replace HM := Lib.hid (HM.out.below hb); have HQ := Lib.hid hQ; have H1 := Lib.hid h3; have H2 := Lib.hid h4; obtain ⟨A5, c5, rfl, -⟩ := id h3; obtain ⟨A6, c6, rfl, -⟩ := id h4; clear hb hQ h3 h4))
  clear KLG KAS
  by_cases hE : (asksR zs s day L Q).2.2 = 0
  · obtain ⟨q1, q2, q3, q4⟩ := asks_most HQ.out (aV_ge zs s.fam s.inc) hE
    have hgd : ∀ l ∈ L.filter partB, goodL l = true := fun l hl => by
      have hall : L.all goodL = true := by
        by_cases h : Income.tabB zs = true ∧ Date.dayB day = true ∧ L.all goodL = true
        · exact h.2.2
        · unfold asksR at hE
          rw [if_neg h] at hE
          exact absurd hE (by decide)
      exact (part_of hall l hl).1
    have HBD := Lib.hid (most_bound hgd q3)
    have Q3 := Lib.hid q3
    have Q4 := Lib.hid q4
    have hl1 : (asksR zs s day L Q).1.length = (L.filter partB).length := by rw [q1, List.length_map]
    have HXI : Hid (∀ k x, (L.filter partB)[k]? = some x → (asksR zs s day L Q).1.getD k 0 = x.id) := fun k x h => by
      rw [q1, List.getD_eq_getElem?_getD, List.getElem?_map, h]; rfl
    have hPL : (L.filter partB).length ≤ L.length := List.length_filter_le _ _
    rw [hE]
    rw [hl1, q2]
    clear q1 q3 q4 hgd hE HQ
    have HL1 := Lib.hid hl1
    have HL2 := Lib.hid q2
    clear hl1 q2
    generalize (asksR zs s day L Q).1 = X at *
    generalize (asksR zs s day L Q).2.1 = AV at *
    obtain ⟨n, hn⟩ : ∃ n, n = (L.filter partB).length := ⟨_, rfl⟩
    rw [← hn]
    rw [← hn] at hPL HL1 HL2 HBD
    have HNP := Lib.hid hn
    have t2 : (n : Int) != n → False := by simp
    clear hn t1
    have hn3 : n ≤ 100 := by omega
    go_wp2_with fail
    clear t2
    go_loopw [10, 11, 12] (fun tk ta tj wr => ∃ (j kn : Nat) (sm : Int), j ≤ L.length ∧ kn ≤ n ∧ tk = .int .i64 kn ∧ ta = .int .i64 sm ∧ tj = .int .i64 j ∧ Hid (kn = ((L.take j).filter partB).length ∧ sm = Share.pre (fun k => AV.getD k 0) kn ∧ Below ys.heap.size ys wr)) (fun _ _ tj _ => L.length - (intOf tj).toNat)
    case atStart => exact ⟨0, 0, 0, Nat.zero_le _, Nat.zero_le _, rfl, rfl, rfl, rfl, rfl, Below.refl _ _⟩
    case round =>
      obtain ⟨j, kn, sm, hj, hkn, rfl, rfl, rfl, HJ⟩ := hrel

      have HR := Lib.hid (HM.out.below HJ.out.2.2)
      have HX := Lib.hid HJ.out.2.2
      have c41 := (HR.out.b4.cell (i := 1)).trans X41.out
      by_cases hlt : j < L.length
      · obtain ⟨b, off, k', e0, hb, -⟩ := HM.out.lns.open (by omega)
        injection e0 with e0 _ e2
        subst e0 e2
        obtain ⟨x, hx⟩ : ∃ x, L[j]? = some x := ⟨_, List.getElem?_eq_getElem hlt⟩
        have HS := Lib.hid (ln_info' x)
        have HRG : Hid (∀ W, Mo w W g C4 zs L M (.slice A zs.length c) (.slice (some ⟨b, off, none⟩) L.length k2) bv → W.rangeAt b (off + j * 13) x.cells.toList) := fun W h => h.lns.at_ hx
        have KP := Lib.hid (fun W => r_part x W)
        have KO := Lib.hid (fun W => RLoan.r_owes x W)
        clear hb
        cases hpb : partB x with
        | false =>
          have HC0 := Lib.hid (congrArg List.length (filt_no hx hpb))
          rw [hpb] at KP
          clear hx hpb KO
          generalize x.cells = C at *
          go_wp2_with (first
            | (refine Rws.load_mid_want (by rfl) 23 _ rfl _ _ rfl C _ (HRG.out _ HR.out) Tryz.underlying23 rfl HS.out ?_)
            | (go_at_call 18; (with_reducible refine (KP.out _).mono ?_); rintro e y1 ⟨rfl, hb⟩; replace HR := Lib.hid (HR.out.below hb); replace HX := Lib.hid (below_to HX.out hb); clear hb; have c41 := (HR.out.b4.cell (i := 1)).trans X41.out))

          go_roundw
          case rel => exact ⟨j + 1, kn, sm, by omega, by omega, rfl, rfl, rfl, HJ.out.1.trans HC0.out.symm, HJ.out.2.1, HX.out⟩
          case measure => simp [intOf]; omega
        | true =>
          have hfa := filt_at hx hpb
          rw [← HJ.out.1] at hfa
          have HC0 : Hid (((L.take (j + 1)).filter partB).length = kn + 1) := (show _ = _ by rw [filt_yes hx hpb, List.length_append, ← HJ.out.1]; rfl)
          have hk : kn < n := by rw [HNP.out]; exact (List.getElem?_eq_some_iff.1 hfa).1
          obtain ⟨o0, o1, o2⟩ := Q3.out kn x hfa
          have hid := HXI.out kn x hfa
          obtain ⟨bi, oi, rfl, hbi, hci⟩ := ints_at' H1.out (i := kn) (by rw [HL1.out]; exact hk)
          obtain ⟨ba, oa, rfl, hba, hca⟩ := ints_at' H2.out (i := kn) (by rw [HL2.out]; exact hk)
          rw [hid] at hci
          rw [o0] at KO
          have HIC : Hid (∀ W, Below ys.heap.size ys W → W.cell? ⟨bi, oi + kn, none⟩ = some (.int .i64 x.id)) := fun W h => (h.cell (p := ⟨bi, oi + kn, none⟩) hbi).trans hci
          have HAC : Hid (∀ W, Below ys.heap.size ys W → W.cell? ⟨ba, oa + kn, none⟩ = some (.int .i64 (AV.getD kn 0))) := fun W h => (h.cell (p := ⟨ba, oa + kn, none⟩) hba).trans hca
          have HID : Hid (∀ W, Mo w W g C4 zs L M (.slice A zs.length c) (.slice (some ⟨b, off, none⟩) L.length k2) bv → W.cell? ⟨b, off + j * 13, none⟩ = some (.int .i64 x.id)) := fun W h => by
            have h1 := h.lns.at_ hx 0 (.int .i64 x.id) rfl
            rwa [Nat.add_zero] at h1
          have HSM : Hid (wrap64 (sm + AV.getD kn 0) = Share.pre (fun k => AV.getD k 0) (kn + 1)) := by
            obtain ⟨p1, p2⟩ := HBD.out (kn + 1) hk
            rw [Share.pre_succ, ← HJ.out.2.1] at p1 p2 ⊢
            have p3 : ((kn + 1 : Nat) : Int) * 10000000000000 ≤ 1000000000000000 := by omega
            clear HC0 HIC HAC HID
            show wrap64 (sm + AV.getD kn 0) = sm + AV.getD kn 0
            unfold wrap64
            omega
          have HJ1 := Lib.hid HJ.out.1
          rw [hpb] at KP
          clear hx hpb hfa hci hca hid o0 HJ
          generalize (owesR x).1 = ov at *
          generalize AV.getD kn 0 = av at *
          generalize x.id = nid at *
          generalize x.cells = C at *
          have t3 : decide (av < 0) = false := decide_eq_false (by omega)
          have t4 : decide (ov < av) = false := decide_eq_false (by omega)
          have t5 : (nid != nid) = false := by simp
          clear o1 o2
          go_upto_region 14 with (first
            | (refine Rws.load_mid_want (by rfl) 23 _ rfl _ _ rfl C _ (HRG.out _ HR.out) Tryz.underlying23 rfl HS.out ?_)
            | (go_at_call 18; (with_reducible refine (KP.out _).mono ?_); rintro e y1 ⟨rfl, hb⟩; replace HR := Lib.hid (HR.out.below hb); replace HX := Lib.hid (below_to HX.out hb); clear hb; have c41 := (HR.out.b4.cell (i := 1)).trans X41.out)
            | (go_at_call 19; (with_reducible refine (KO.out _).mono ?_); rintro e y2 ⟨rfl, hb⟩; replace HR := Lib.hid (HR.out.below hb); replace HX := Lib.hid (below_to HX.out hb); clear hb; have c41 := (HR.out.b4.cell (i := 1)).trans X41.out))

          have cI := HIC.out _ HX.out
          have cA := HAC.out _ HX.out
          have cN := HID.out _ HR.out
          have t6 : decide (n ≤ kn) = false := decide_eq_false (by omega)
          go_quiet (fail)
          go_wp2_with fail

          go_roundw
          case rel => exact ⟨j + 1, kn + 1, _, by omega, by omega, rfl, congrArg (Value.int .i64) HSM.out, rfl, HC0.out.symm, rfl, below_drewN HX.out _⟩
          case measure => simp [intOf]; omega
      · obtain rfl : j = L.length := by omega
        have hkn2 : kn = n := by rw [HJ.out.1, List.take_length, HNP.out]
        subst hkn2
        by_cases h0 : kn = 0
        · have HZ := Lib.hid h0
          have t7 : ((kn : Int) == 0) = true := by rw [h0]; rfl
          have t8 : ((kn : Int) != kn) = false := by simp
          clear h0
          go_wp2_with (first
            | (go_at_call 10; (with_reducible refine (wakes_plan _ HR.out.both).mono ?_); rintro e y8 ⟨rfl, hb⟩; replace HR := Lib.hid (HR.out.below hb); clear hb))
          go_ret
          exact ⟨rfl, HR.out.low⟩
        · have t7 : ((kn : Int) == 0) = false := by rw [beq_eq_false_iff_ne]; omega
          have t8 : ((kn : Int) != kn) = false := by simp
          by_cases h4 : holdsI s.plan s.since day = 4
          · have hne : L.filter partB ≠ [] := fun h => h0 (by rw [HNP.out, h]; rfl)
            obtain ⟨a0, a1⟩ := Q4.out h4 hne
            rw [← HNP.out, ← HJ.out.2.1] at a1
            have t9 : decide (sm ≤ Income.aV zs s.fam s.inc) = true := decide_eq_true a1
            rw [a0] at KA
            rw [h4] at KH
            clear h0 h4 a0 a1 hne
            generalize s.fam = fam at *
            generalize s.inc = inc at *
            generalize Income.aV zs fam inc = tv at *
            go_wp2_with (first
              | (refine o_load (by rfl) 38 _ rfl g rfl _ _ _ HR.out.b4 Tryz.underlying38 rfl S4.out ?_)
              | (go_at_call 20; (with_reducible refine (KH.out _).mono ?_); rintro e y4 ⟨rfl, hb⟩; replace HR := Lib.hid (HR.out.below hb); clear hb; have c44 := (HR.out.b4.cell (i := 4)).trans X44.out; have c45 := (HR.out.b4.cell (i := 5)).trans X45.out)
              | (go_at_call 21; (refine (KA.out _ HR.out.poor).mono ?_); rintro e y5 ⟨rfl, hb⟩; replace HR := Lib.hid (HR.out.below hb); clear hb)
              | (go_at_call 10; (with_reducible refine (wakes_plan _ HR.out.both).mono ?_); rintro e y8 ⟨rfl, hb⟩; replace HR := Lib.hid (HR.out.below hb); clear hb))
            go_ret
            exact ⟨rfl, HR.out.low⟩
          · have t9 : (holdsI s.plan s.since day != 4) = true := by rw [bne_iff_ne]; exact h4
            clear h0 h4
            generalize holdsI s.plan s.since day = how at *
            go_wp2_with (first
              | (refine o_load (by rfl) 38 _ rfl g rfl _ _ _ HR.out.b4 Tryz.underlying38 rfl S4.out ?_)
              | (go_at_call 20; (with_reducible refine (KH.out _).mono ?_); rintro e y4 ⟨rfl, hb⟩; replace HR := Lib.hid (HR.out.below hb); clear hb; have c44 := (HR.out.b4.cell (i := 4)).trans X44.out; have c45 := (HR.out.b4.cell (i := 5)).trans X45.out)
              | (go_at_call 10; (with_reducible refine (wakes_plan _ HR.out.both).mono ?_); rintro e y8 ⟨rfl, hb⟩; replace HR := Lib.hid (HR.out.below hb); clear hb))
            go_ret
            exact ⟨rfl, HR.out.low⟩
  · obtain ⟨q1, q2⟩ := asks_no hE
    have t2 : ((asksR zs s day L Q).2.2 != 0) = true := by rw [bne_iff_ne]; exact hE
    rw [q1, q2]
    generalize (asksR zs s day L Q).2.2 = xe at *
    clear q1 q2 hE H1 H2 HQ
    go_wp2_with (first
      | (go_at_call 10; (with_reducible refine (wakes_plan _ HM.out.both).mono ?_); rintro e y9 ⟨rfl, hb⟩; replace HM := Lib.hid (HM.out.below hb); clear hb))
    go_ret
    exact ⟨rfl, HM.out.low⟩
theorem most_walk (zs : List Int) (s : Sc) (day : Int) (L : List Ln) (M : List Bl) (pv lv bv : Value) (w : World) (hp : Ints w w.heap.size .i64 pv zs) (hv : Lns w w.heap.size lv L) (hm : Bls w w.heap.size bv M) (hs : s.Fit) (LD : Hid (Both w)) : Calls Tryz.prog 5 #[pv, .agg (s.cells lv bv), .int .i64 day] w fun e w' => e = .returned (.bool true) ∧ Below w.heap.size w w' := by
  cases h1 : largeB L M with
  | true => exact most_large zs s day L M pv lv bv w hp hv hm LD h1
  | false =>
    by_cases h2 : 100 < zs.length
    · exact most_long zs s day L M pv lv bv w hp hv hm LD h1 h2
    · exact most_asks zs s day L M pv lv bv w hp hv hm hs LD h1 h2


set_option maxRecDepth 100000 in
theorem planMost_lifted (os : Os) (started : os.Started) (H : Type) (enc : TypeId × Value → H) :
    ReturnsInHanded {} Tryz.checked os 5 .any (fun w args => (Rows.planMostSpec.pre enc Tryz.prog Tryz.f5 Rows.planMostRow.domain false w args ∧ laidMetH Tryz.prog Rows.planMostRow.laid w) ∧ sizedMet enc Tryz.prog Tryz.f5 (OpenSpec.ofChange Rows.planMostSpec) false w args) (Rows.planMostSpec.post enc Tryz.prog Tryz.f5 false true false false) := by
  refine Door.law_lifted (C := Tryz.checked) (tb := 4) (by kernel_rfl) started (by kernel_rfl) Tryz.func5
    (ChangeSpec.witness_shaped (enc := enc) (C := Tryz.checked) (os := os) (X := fun w _ => laidMetH Tryz.prog Rows.planMostRow.laid w) false (World.laidAll Tryz.prog os Rows.planMostRow.laid) #[Value.slice none 0 0, Value.agg #[.int .i64 0, .slice none 0 0, .int .i64 0, .int .i64 0, .int .i64 0, .int .i64 0, .slice none 0 0, .int .i64 0, .int .i64 0, .int .i64 0, .int .i64 0, .int .i64 0, .int .i64 0], .int .i64 0] 8 (World.laidAll_os _ _ _)
      (World.shaped_of_ZipB (by kernel_rfl) (by kernel_rfl)) (by kernel_rfl) (by kernel_rfl) (by kernel_rfl)
      (by rw [MakeChecks.laidMetH_plain _ _ _ (by kernel_rfl)]; exact laidMet_laidAll _ (by kernel_rfl) (by kernel_rfl)))
    (by kernel_rfl) (by kernel_rfl) rfl rfl Tryz.underlying4 ?_
  intro W base args ds p hval0 hA0 hL
  have hval : ∀ (j : Nat) t v, Tryz.f5.params[j]? = some t → args[j]? = some v → Value.okWide Tryz.prog W .any base t v := hval0
  have hA : DataW.TrodAll enc Tryz.prog W 0 (fun _ => true) true Tryz.f5.params.toList args.toList ds p := hA0
  clear hval0 hA0
  rw [MakeChecks.laidMetH_plain _ _ _ (by kernel_rfl)] at hL
  rw [Tryz.params5] at hA hval
  obtain ⟨v0, vs0, d0, ds0, p0, q0, hargs, rfl, rfl, h0, r0⟩ := trodAll_cons hA
  obtain ⟨v1, vs1, d1, ds1, p1, q1, rfl, rfl, rfl, h1, r1⟩ := trodAll_cons r0
  obtain ⟨v2, vs2, d2, ds2, p2, q2, rfl, rfl, rfl, h2, r2⟩ := trodAll_cons r1
  obtain ⟨rfl, rfl, rfl⟩ := trodAll_nil r2
  obtain rfl : args = #[v0, v1, v2] := by cases args; simp_all
  refine ⟨rfl, ?_⟩
  obtain ⟨zs, hzs, -⟩ := Slice.open_slice Tryz.underlying32 Tryz.underlying2 (by kernel_rfl) (hval 0 32 v0 rfl rfl) h0
  obtain ⟨s, lv, bv, L, M, rfl, hs, hv, hm⟩ := open_state (hval 1 38 v1 rfl rfl) h1
  obtain ⟨day, rfl, -, -, g2⟩ := open_int Tryz.underlying3 (hval 2 3 v2 rfl rfl) h2
  have LD : Hid (Both W) := ⟨Date.laid_of hL (by exact List.mem_cons_self ..), Step.laid_of hL (by exact List.mem_cons_of_mem _ (List.mem_cons_self ..))⟩
  exact most_walk zs s day L M v0 lv bv W hzs hv hm hs LD

theorem planMost_over : Rows.planMostRow.holds Tryz.pinned (OpenSpec.ofChange Rows.planMostSpec) :=
  OpenClaim.holds_of_wide 5 Tryz.f5 rfl rfl rfl rfl rfl rfl rfl ⟨rfl, rfl, rfl, rfl, rfl⟩ rfl rfl rfl rfl rfl (by kernel_rfl) Tryz.func5 (by kernel_rfl)
    (of_decide_eq_true (by kernel_rfl)) (by unfold Func.isWrapper; first | (rw [if_pos (by decide +kernel)]; kernel_rfl) | (rw [if_neg (by decide +kernel)]; exact ⟨rfl, rfl⟩))
    (fun os st H enc _ => planMost_lifted os st H enc)

/-- The statement: the card. -/
theorem planMost_proved : Rows.PlanMostCardSaid :=
  Claim7.holds_tied_plain_at .later [] [.data, .data] true Rows.planMostCard.stood.harness true
    planMost_over (fun _ h => by cases h) (by kernel_rfl) (fun _ h => by cases h) planMost_row_tie rfl ⟨rfl, rfl⟩ (by kernel_rfl) rfl
    (fun f fn hf hfn => by
      obtain rfl : f = 5 := Option.some.inj ((show Tryz.prog.funcNamed "annuity/annuitylaw18.PlanMost" = some 5 by kernel_rfl).symm.trans hf) |>.symm
      obtain rfl : fn = Tryz.f5 := (Option.some.inj (Tryz.func5.symm.trans hfn)).symm
      exact ⟨by kernel_rfl, fun j t ht => by
        have hall : (Tryz.f5.params.toList.all fun u => !Tryz.prog.wantsStandIn u) = true := by kernel_rfl
        exact (show Tryz.prog.wantsStandIn t = false by simpa using List.all_eq_true.1 hall t (Array.mem_def.1 (Array.mem_of_getElem? ht)))⟩)
    (by kernel_rfl)
end Go.Proofs.YtkddiaiohnbjpaaGreatDoor.Law
