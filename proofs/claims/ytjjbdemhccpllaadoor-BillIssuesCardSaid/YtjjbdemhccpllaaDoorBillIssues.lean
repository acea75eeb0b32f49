/- bill's Issue answers what the document's own answer, at any bills and numbers, leaves the bills as they were, and keeps none of the ids that it was given; no condition. -/
import Derived.Test.YtjjbdemhccpllaaDoorCards
import Derived.Test.YtjjbdemhccpllaaDoorTie
import Derived.Test.YtjjbdemhccpllaaDoorGA
import Derived.Test.YtjjbdemhccpllaaDoorBillWakes
import Derived.Test.YtjjbdemhccpllaaDoorRefBill3
namespace Go.Proofs.YtjjbdemhccpllaaDoor.Law
open Go.ChangeShapes Go.WideShapes Go.ChangeAt Go.RowKit Loan Money Box Rws Slice Plan Bill Date Cal RBill

/-- What stands while BillIssues goes: the two boxes, the law's own ids, the copy that was made ahead of them. -/
structure Is (w0 W : World) (M M' : List Bl) (v u : Value) (N gi g4 g5 : Nat) (C4 C5 CI : Array Value) : Prop where
  bo : Bo w0 W M v
  b4 : Boxd W g4 C4 39
  b5 : Boxd W g5 C5 40
  bi : Boxd W gi CI 3
  cp : Bls W N u M'
  lo : N ≤ gi
theorem Is.below {w0 W W' : World} {M M' : List Bl} {v u : Value} {N gi g4 g5 : Nat} {C4 C5 CI : Array Value} (h : Is w0 W M M' v u N gi g4 g5 C4 C5 CI) (hb : Below W.heap.size W W') : Is w0 W' M M' v u N gi g4 g5 C4 C5 CI :=
  ⟨h.bo.below hb, h.b4.below hb, h.b5.below hb, h.bi.below hb, h.cp.below (hb.mono (Nat.le_of_lt (Nat.lt_of_le_of_lt h.lo h.bi.lt))), h.lo⟩
theorem Is.copy {w0 W : World} {M M' : List Bl} {v u : Value} {N gi g4 g5 : Nat} {C4 C5 CI : Array Value} (h : Is w0 W M M' v u N gi g4 g5 C4 C5 CI) : Bls W W.heap.size u M' := bls_up h.cp (Nat.le_of_lt (Nat.lt_of_le_of_lt h.lo h.bi.lt))
theorem lit_two (W : World) (T : TypeId) (a b : Int) : Ints (W.alloc (.cells #[.int .i64 a, .int .i64 b] T)) (W.alloc (.cells #[.int .i64 a, .int .i64 b] T)).heap.size .i64 (.slice (some ⟨W.heap.size, 0, none⟩) 2 2) [a, b] :=
  ⟨some ⟨W.heap.size, 0, none⟩, 2, rfl, by simp, fun h => (by cases h), fun _ => ⟨W.heap.size, 0, rfl, by simp, fun i hi => by
    have hi' : i < 2 := hi
    rw [World.cell?_alloc_new]
    match i, hi' with
    | 0, _ => rfl
    | 1, _ => rfl⟩⟩
theorem box_two {W : World} {g : Nat} {a b : Int} (h : Boxd W g #[.int .i64 a, .int .i64 b] 3) : Ints W W.heap.size .i64 (.slice (some ⟨g, 0, none⟩) 2 2) [a, b] :=
  ⟨some ⟨g, 0, none⟩, 2, rfl, by simp, fun h => (by cases h), fun _ => ⟨g, 0, rfl, h.lt, fun i hi => by
    have hi' : i < 2 := hi
    rw [h.cell]
    match i, hi' with
    | 0, _ => rfl
    | 1, _ => rfl⟩⟩
set_option maxRecDepth 20000 in
set_option maxHeartbeats 4000000 in
theorem issues_many (M : List Bl) (n0 n1 p q : Int) (v : Value) (w : World) (hv : Bls w w.heap.size v M) (LD : Hid (Laid w)) (h1 : manyB M = true) : Calls Tryd.prog 4 #[v, .agg #[.int .i64 n0, .int .i64 n1], .agg #[.int .i64 p, .int .i64 q]] w fun e w' => e = .returned (.bool true) ∧ Below w.heap.size w w' := by
  obtain ⟨g4, wa, e1, e2, h4, hb4⟩ := boxd_new w #[.int .i64 n0, .int .i64 n1] 39
  obtain ⟨g5, wb, e3, e4, h5, hb5⟩ := boxd_new wa #[.int .i64 p, .int .i64 q] 40
  have b1 : g5 = g4 + 1 := by rw [e3, e2, Deep.nblk_alloc, ← e1]
  have hlw : Below w.heap.size w wb := below_to hb4 hb5
  have HM : Hid (Bo w wb M v) := ⟨hlw, LD.out.of hlw, hv.below hlw⟩
  have HU : Hid (∀ W, Below w.heap.size w W → Bo w W M v) := fun W h => ⟨h, LD.out.of h, hv.below h⟩
  have H4 := Lib.hid (h4.below hb5)
  have H5 := Lib.hid h5
  obtain ⟨A, k, rfl⟩ := hv.1.shape
  clear hv LD h4 h5 hb4 hb5 hlw
  clear HU H4 H5
  go_enter Tryd.func4, Tryd.ntmps4
  go_upto_region 1 with fail
  rw [← e2, ← e1, ← b1, ← e4]
  clear e1 e2 e3 e4 b1
  go_wp2_with (first
    | (go_at_call 8; (with_reducible refine (large_any M _ w _ HM.out).mono ?_); rintro e y ⟨rfl, hb⟩; rw [h1]; replace HM := Lib.hid (HM.out.below hb); clear hb)
    | (go_at_call 9; (with_reducible refine (wakes_bill _ HM.out.laid).mono ?_); rintro e y9 ⟨rfl, hb⟩; replace HM := Lib.hid (HM.out.below hb); clear hb))
  go_ret
  exact ⟨rfl, HM.out.low⟩
set_option maxRecDepth 20000 in
set_option maxHeartbeats 4000000 in
theorem issues_some (M : List Bl) (n0 n1 p q : Int) (v : Value) (w : World) (hv : Bls w w.heap.size v M) (LD : Hid (Laid w)) (h1 : manyB M = false) : Calls Tryd.prog 4 #[v, .agg #[.int .i64 n0, .int .i64 n1], .agg #[.int .i64 p, .int .i64 q]] w fun e w' => e = .returned (.bool true) ∧ Below w.heap.size w w' := by
  obtain ⟨g4, wa, e1, e2, h4, hb4⟩ := boxd_new w #[.int .i64 n0, .int .i64 n1] 39
  obtain ⟨g5, wb, e3, e4, h5, hb5⟩ := boxd_new wa #[.int .i64 p, .int .i64 q] 40
  have b1 : g5 = g4 + 1 := by rw [e3, e2, Deep.nblk_alloc, ← e1]
  have hlw : Below w.heap.size w wb := below_to hb4 hb5
  have HM : Hid (Bo w wb M v) := ⟨hlw, LD.out.of hlw, hv.below hlw⟩
  have HU : Hid (∀ W, Below w.heap.size w W → Bo w W M v) := fun W h => ⟨h, LD.out.of h, hv.below h⟩
  have H4 := Lib.hid (h4.below hb5)
  have H5 := Lib.hid h5
  obtain ⟨A, k, rfl⟩ := hv.1.shape
  clear hv LD h4 h5 hb4 hb5 hlw
  have KCP := Lib.hid (fun W (h : Bo w W M (.slice A M.length k)) => c_cbills M (.slice A M.length k) w.heap.size W h.low.size h.bls (Nat.le_trans (many_no h1).1 (by decide)) (fun b hb => Nat.le_trans ((many_no h1).2 b hb) (by decide)))
  have KSB := Lib.hid (fun R1 R2 u1 u2 W (ha : AlikeB R1 R2) h1 h2 => same_bills R1 R2 ha u1 u2 (World.heap W).size W (Nat.le_refl _) h1 h2)
  have hN : M.length ≤ 999 := Nat.le_trans (many_no h1).1 (by decide)
  have hI : ∀ b ∈ M, b.ids.length ≤ 1000 := fun b hb => Nat.le_trans ((many_no h1).2 b hb) (by decide)
  have KIS : Hid (∀ W u M' vi, Laid W → AlikeB M M' → Bls W W.heap.size u M' → Ints W W.heap.size .i64 vi [p, 7] → Calls Tryd.prog 21 #[u, .int .i64 p, .int .i64 n0, .int .i64 n1, .int .i64 q, vi] W fun e w' => ∃ A2 R c2, e = .returned (.tuple #[.slice A2 (List.length R) c2, .int .i64 (issK M p n0 n1), .int .i64 (issE M p n0 n1)]) ∧ AlikeB (issL M p n0 n1 q [p, 7]) R ∧ Cop W.heap.size w' (.slice A2 R.length c2) R ∧ Below W.heap.size W w') := fun W u M' vi hl ha hu hi => by
    have h := b_issue M' p n0 n1 q [p, 7] u vi W.heap.size W.heap.size W (Nat.le_refl _) (Nat.le_refl _) hu hi (by rw [ha.1]; exact hN) (alike_ids ha hI) (by simp) hl
    obtain ⟨q1, q2⟩ := issL_alike p n0 n1 q [p, 7] ha
    rw [issE_alike p n0 n1 ha, q2] at h
    exact h.mono fun e w' ⟨u, R, h1, h2, h3, h4⟩ => by
      obtain ⟨A2, c2, rfl⟩ := own_slice' h3.row
      exact ⟨A2, R, c2, h1, alike_trans q1 h2, h3, h4⟩
  have KRI : Hid (∀ W vi, Bo w W M (.slice A M.length k) → Ints W W.heap.size .i64 vi [p, 7] → Calls Tryd.prog 22 #[.slice A M.length k, .int .i64 p, .int .i64 n0, .int .i64 n1, .int .i64 q, vi] W fun e w' => ∃ A2 R c2, e = .returned (.tuple #[.agg #[.slice A2 (List.length R) c2, .int .i64 (issK M p n0 n1)], .int .i64 (issE M p n0 n1)]) ∧ AlikeB (issL M p n0 n1 q [p, 7]) R ∧ Cop W.heap.size w' (.slice A2 R.length c2) R ∧ Below W.heap.size W w') := fun W vi hb hi => by
    have h := r_issue M p n0 n1 q [p, 7] (.slice A M.length k) vi w.heap.size W.heap.size W hb.low.size (Nat.le_refl _) hb.bls hi hN hI (by simp)
    exact h.mono fun e w' ⟨u, R, h1, h2, h3, h4⟩ => by
      obtain ⟨A2, c2, rfl⟩ := own_slice' h3.row
      exact ⟨A2, R, c2, h1, h2, h3, h4⟩
  generalize issK M p n0 n1 = kk at *
  generalize issE M p n0 n1 = xe at *
  generalize issL M p n0 n1 q [p, 7] = RR at *
  have t1 : (kk == kk) = true := by simp
  have t2 : (xe == xe) = true := by simp
  clear hN hI
  go_enter Tryd.func4, Tryd.ntmps4
  go_upto_region 1 with fail
  rw [← e2, ← e1, ← b1, ← e4]
  clear e1 e2 e3 e4 b1
  go_upto_region 4 with (first
    | (go_at_call 8; (with_reducible refine (large_any M _ w _ HM.out).mono ?_); rintro e y ⟨rfl, hb⟩; rw [h1]; replace HM := Lib.hid (HM.out.below hb); have hb9 := hb; clear hb; replace H4 := Lib.hid (H4.out.below hb9); replace H5 := Lib.hid (H5.out.below hb9))
    | (go_at_call 10; (refine (KCP.out _ HM.out).mono ?_); rintro e y1 ⟨u, M', rfl, ha, hc, hb⟩; have HA := Lib.hid ha; replace HM := Lib.hid (HM.out.below hb); replace H4 := Lib.hid (H4.out.below hb); replace H5 := Lib.hid (H5.out.below hb); have HI := Lib.hid hc.bls; obtain ⟨A1, c1, rfl⟩ := own_slice' hc.row; clear ha hc hb))
  have HL9 : Hid (w.heap.size ≤ y1.heap.size) := HM.out.low.size
  obtain ⟨gi, z1, e1, e2, hz, hb⟩ := boxd_new y1 #[.int .i64 p, .int .i64 7] 3
  have HS : Hid (Is w z1 M M' (.slice A M.length k) (.slice A1 M'.length c1) y1.heap.size gi g4 g5 #[.int .i64 n0, .int .i64 n1] #[.int .i64 p, .int .i64 q] #[.int .i64 p, .int .i64 7]) := ⟨HM.out.below hb, H4.out.below hb, H5.out.below hb, hz, HI.out.below hb, by rw [e1]; exact Nat.le_refl _⟩
  have HGW : Hid (w.heap.size ≤ gi) := show _ ≤ _ by rw [e1]; exact HL9.out
  have d5 : y1.cell? ⟨g5, 0, none⟩ = some (.int .i64 p) := H5.out.cell
  go_upto_region 5 with fail
  rw [← e2, ← e1]
  clear e1 e2 hz hb d5 HM H4 H5 HI
  have d50 : z1.cell? ⟨g5, 0, none⟩ = some (.int .i64 p) := HS.out.b5.cell
  have d51 : z1.cell? ⟨g5, 1, none⟩ = some (.int .i64 q) := HS.out.b5.cell
  have d40 : z1.cell? ⟨g4, 0, none⟩ = some (.int .i64 n0) := HS.out.b4.cell
  have d41 : z1.cell? ⟨g4, 1, none⟩ = some (.int .i64 n1) := HS.out.b4.cell
  have HG1 : Hid (gi < z1.heap.size) := HS.out.bi.lt
  go_upto_region 6 with (first
    | (go_at_call 21; (refine (KIS.out _ _ _ _ HS.out.bo.laid HA.out HS.out.copy (box_two HS.out.bi)).mono ?_); rintro e y2 ⟨A2, R, c2, rfl, ha, hr, hb⟩; have HA2 := Lib.hid ha; have HR := Lib.hid hr; have HG2 := Lib.hid (Nat.lt_of_lt_of_le HG1.out hb.size); replace HS := Lib.hid (HS.out.below hb); clear ha hr hb))
  clear d50 d51 d40 d41
  have d50 : y2.cell? ⟨g5, 0, none⟩ = some (.int .i64 p) := HS.out.b5.cell
  have d51 : y2.cell? ⟨g5, 1, none⟩ = some (.int .i64 q) := HS.out.b5.cell
  have d40 : y2.cell? ⟨g4, 0, none⟩ = some (.int .i64 n0) := HS.out.b4.cell
  have d41 : y2.cell? ⟨g4, 1, none⟩ = some (.int .i64 n1) := HS.out.b4.cell
  have HB2 := Lib.hid (below_one y2 (.cells #[.int .i64 p, .int .i64 7] 3))
  have HG3 := Lib.hid (Nat.lt_of_lt_of_le HG2.out HB2.out.size)
  go_upto_region 7 with (first
    | (go_at_call 22; (refine (KRI.out _ _ (HS.out.bo.below HB2.out) (lit_two _ _ _ _)).mono ?_); rintro e y3 ⟨A3, R3, c3, rfl, ha, hr, hb⟩; have HA3 := Lib.hid (alike_trans (alike_symm HA2.out) ha); have HR3 := Lib.hid hr; have hb := below_to HB2.out hb; replace HS := Lib.hid (HS.out.below hb); replace HR := Lib.hid (HR.out.below hb); clear ha hr hb)
    | (refine o_store rfl 45 _ _ rfl rfl y3.heap.size #[.slice A3 R3.length c3, .int .i64 kk] rfl rfl _ _ (heap_alloc_last _ _) (ch_info _ _) rfl (ch_one _ _ _ _) ?_; intro z hr ho; have hb := below_one_of (below_one y3 _) ho (Nat.le_refl _) (below_one y3 _).size; have HG := Lib.hid hr; have HNE : Hid (¬ y3.heap.size = gi) := (show ¬ _ from fun e => absurd HS.out.bi.lt (by rw [e]; exact Nat.lt_irrefl _)); replace HS := Lib.hid (HS.out.below hb); replace HR := Lib.hid (HR.out.below hb); replace HR3 := Lib.hid (HR3.out.below hb); clear hr ho hb))
  obtain ⟨gb, hgb⟩ : ∃ g, g = y3.heap.size := ⟨_, rfl⟩
  rw [← hgb]
  rw [← hgb] at HG HNE
  clear hgb d50 d51 d40 d41
  have HBI := Lib.hid HS.out.bi
  have HCPY := Lib.hid HS.out.cp
  have HLOW := Lib.hid HS.out.bo.low
  have HLO := Lib.hid HS.out.lo
  have HNW := Lib.hid (Nat.le_of_lt (Nat.lt_of_le_of_lt HS.out.lo HS.out.bi.lt))
  clear HS
  go_upto_region 8 with (first
    | (refine o_put rfl 3 _ _ rfl rfl gi 0 (.int .i64 (-5)) rfl rfl rfl 3 _ HBI.out (by simp) i_one ?_; intro z4 hr ho; have hlo9 := below_one_of (Below.refl y1.heap.size z) ho HLO.out HNW.out; replace HLOW := Lib.hid (below_one_of HLOW.out ho HGW.out HLOW.out.size); replace HCPY := Lib.hid (HCPY.out.below hlo9); have HNW4 := Lib.hid (Nat.le_trans HNW.out ho.size); replace HNW := HNW4; replace HR := Lib.hid (HR.out.one ho HG1.out); replace HR3 := Lib.hid (HR3.out.one ho HG3.out); replace HG := Lib.hid (HG.out.one ho HNE.out); replace HBI := Lib.hid hr; clear hr ho hlo9)
    | (refine o_put rfl 3 _ _ rfl rfl gi 1 (.int .i64 (-5)) rfl rfl rfl 3 _ HBI.out (by simp) i_one ?_; intro z5 hr ho; have hlo9 := below_one_of (Below.refl y1.heap.size z4) ho HLO.out HNW.out; replace HLOW := Lib.hid (below_one_of HLOW.out ho HGW.out HLOW.out.size); replace HCPY := Lib.hid (HCPY.out.below hlo9); have HNW5 := Lib.hid (Nat.le_trans HNW.out ho.size); replace HNW := HNW5; replace HR := Lib.hid (HR.out.one ho HG1.out); replace HR3 := Lib.hid (HR3.out.one ho HG3.out); replace HG := Lib.hid (HG.out.one ho HNE.out); replace HBI := Lib.hid hr; clear hr ho hlo9))
  have d0 : z5.cell? ⟨gb, 0, none⟩ = some (.slice A3 R3.length c3) := HG.out.cell
  have HM := Lib.hid (HU.out _ HLOW.out)
  have HRB := Lib.hid HR.out.bls
  have HRB3 := Lib.hid HR3.out.bls
  have HI := Lib.hid (bls_up HCPY.out HNW.out)
  clear HR HR3 HCPY HNW
  go_wp2_with (first
    | (go_at_call 20; (with_reducible refine (KSB.out _ _ _ _ _ HA3.out HRB.out HRB3.out).mono ?_); rintro e y4 ⟨rfl, hb⟩; replace HM := Lib.hid (HM.out.below hb); replace HI := Lib.hid (bls_below HI.out hb); have d1 : y4.cell? ⟨gb, 1, none⟩ = some (.int .i64 kk) := (HG.out.below hb).cell; clear hb)
    | (go_at_call 20; (with_reducible refine (KSB.out _ _ _ _ _ (alike_symm HA.out) HI.out (bls_up HM.out.bls HM.out.low.size)).mono ?_); rintro e y5 ⟨rfl, hb⟩; replace HM := Lib.hid (HM.out.below hb); clear hb)
    | (go_at_call 9; (with_reducible refine (wakes_bill _ HM.out.laid).mono ?_); rintro e y9 ⟨rfl, hb⟩; replace HM := Lib.hid (HM.out.below hb); clear hb))
  go_ret
  exact ⟨rfl, HM.out.low⟩
theorem issues_walk (M : List Bl) (n0 n1 p q : Int) (v : Value) (w : World) (hv : Bls w w.heap.size v M) (LD : Hid (Laid w)) : Calls Tryd.prog 4 #[v, .agg #[.int .i64 n0, .int .i64 n1], .agg #[.int .i64 p, .int .i64 q]] w fun e w' => e = .returned (.bool true) ∧ Below w.heap.size w w' := by
  cases h1 : manyB M with
  | true => exact issues_many M n0 n1 p q v w hv LD h1
  | false => exact issues_some M n0 n1 p q v w hv LD h1

set_option maxRecDepth 100000 in
theorem billIssues_lifted (os : Os) (started : os.Started) (H : Type) (enc : TypeId × Value → H) :
    ReturnsInHanded {} Tryd.checked os 4 .any (fun w args => (Rows.billIssuesSpec.pre enc Tryd.prog Tryd.f4 Rows.billIssuesRow.domain false w args ∧ laidMetH Tryd.prog Rows.billIssuesRow.laid w) ∧ sizedMet enc Tryd.prog Tryd.f4 (OpenSpec.ofChange Rows.billIssuesSpec) false w args) (Rows.billIssuesSpec.post enc Tryd.prog Tryd.f4 false true false false) := by
  refine Door.law_lifted (C := Tryd.checked) (tb := 4) (by kernel_rfl) started (by kernel_rfl) Tryd.func4
    (ChangeSpec.witness_shaped (enc := enc) (C := Tryd.checked) (os := os) (X := fun w _ => laidMetH Tryd.prog Rows.billIssuesRow.laid w) false (World.laidAll Tryd.prog os Rows.billIssuesRow.laid) #[Value.slice none 0 0, .agg #[.int .i64 0, .int .i64 0], .agg #[.int .i64 0, .int .i64 0]] 8 (World.laidAll_os _ _ _)
      (World.shaped_of_ZipB (by kernel_rfl) (by kernel_rfl)) (by kernel_rfl) (by kernel_rfl) (by kernel_rfl)
      (by rw [MakeChecks.laidMetH_plain _ _ _ (by kernel_rfl)]; exact laidMet_laidAll _ (by kernel_rfl) (by kernel_rfl)))
    (by kernel_rfl) (by kernel_rfl) rfl rfl Tryd.underlying4 ?_
  intro W base args ds p hval0 hA0 hL
  have hval : ∀ (j : Nat) t v, Tryd.f4.params[j]? = some t → args[j]? = some v → Value.okWide Tryd.prog W .any base t v := hval0
  have hA : DataW.TrodAll enc Tryd.prog W 0 (fun _ => true) true Tryd.f4.params.toList args.toList ds p := hA0
  clear hval0 hA0
  rw [MakeChecks.laidMetH_plain _ _ _ (by kernel_rfl)] at hL
  rw [Tryd.params4] at hA hval
  obtain ⟨v0, vs0, d0, ds0, p0, q0, hargs, rfl, rfl, h0, r0⟩ := trodAll_cons hA
  obtain ⟨v1, vs1, d1, ds1, p1, q1, rfl, rfl, rfl, h1, r1⟩ := trodAll_cons r0
  obtain ⟨v2, vs2, d2, ds2, p2, q2, rfl, rfl, rfl, h2, r2⟩ := trodAll_cons r1
  obtain ⟨rfl, rfl, rfl⟩ := trodAll_nil r2
  obtain rfl : args = #[v0, v1, v2] := by cases args; simp_all
  refine ⟨rfl, ?_⟩
  obtain ⟨M, hv⟩ := open_bills (hval 0 22 v0 rfl rfl) h0
  obtain ⟨zs1, hzl1, rfl, -⟩ := Shell.open_arr Tryd.underlying39 Tryd.underlying2 (by kernel_rfl) (by kernel_rfl) (hval 1 39 v1 rfl rfl) h1
  obtain ⟨n0, n1, rfl⟩ := Shell.list2 zs1 hzl1
  obtain ⟨zs2, hzl2, rfl, -⟩ := Shell.open_arr Tryd.underlying40 Tryd.underlying3 (by kernel_rfl) (by kernel_rfl) (hval 2 40 v2 rfl rfl) h2
  obtain ⟨p, q, rfl⟩ := Shell.list2 zs2 hzl2
  have LD := Lib.hid (Date.laid_of hL (by exact List.mem_cons_self ..))
  exact issues_walk M n0 n1 p q v0 W hv LD

theorem billIssues_over : Rows.billIssuesRow.holds Tryd.pinned (OpenSpec.ofChange Rows.billIssuesSpec) :=
  OpenClaim.holds_of_wide 4 Tryd.f4 rfl rfl rfl rfl rfl rfl rfl ⟨rfl, rfl, rfl, rfl, rfl⟩ rfl rfl rfl rfl rfl (by kernel_rfl) Tryd.func4 (by kernel_rfl)
    (of_decide_eq_true (by kernel_rfl)) (by unfold Func.isWrapper; first | (rw [if_pos (by decide +kernel)]; kernel_rfl) | (rw [if_neg (by decide +kernel)]; exact ⟨rfl, rfl⟩))
    (fun os st H enc _ => billIssues_lifted os st H enc)

/-- The statement: the card. -/
theorem billIssues_proved : Rows.BillIssuesCardSaid :=
  Claim7.holds_tied_plain_at .later [] [.data] true Rows.billIssuesCard.stood.harness false
    billIssues_over (fun _ h => by cases h) (by kernel_rfl) (fun _ h => by cases h) billIssues_row_tie rfl ⟨rfl, rfl⟩ (by kernel_rfl) rfl
    (fun f fn hf hfn => by
      obtain rfl : f = 4 := Option.some.inj ((show Tryd.prog.funcNamed "annuity/annuitylaw19.BillIssues" = some 4 by kernel_rfl).symm.trans hf) |>.symm
      obtain rfl : fn = Tryd.f4 := (Option.some.inj (Tryd.func4.symm.trans hfn)).symm
      exact ⟨by kernel_rfl, fun j t ht => by
        have hall : (Tryd.f4.params.toList.all fun u => !Tryd.prog.wantsStandIn u) = true := by kernel_rfl
        exact (show Tryd.prog.wantsStandIn t = false by simpa using List.all_eq_true.1 hall t (Array.mem_def.1 (Array.mem_of_getElem? ht)))⟩)
    (by kernel_rfl)
end Go.Proofs.YtjjbdemhccpllaaDoor.Law
