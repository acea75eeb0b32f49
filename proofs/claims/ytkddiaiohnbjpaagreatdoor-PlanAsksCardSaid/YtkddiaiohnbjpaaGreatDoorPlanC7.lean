/- Of layer 18: what is asked by income. -/
import Derived.Test.YtkddiaiohnbjpaaGreatDoorPlanC5
import Derived.Test.YtkddiaiohnbjpaaGreatDoorGInc
import Derived.Test.YtkddiaiohnbjpaaGreatDoorShareWakes
namespace Go.Proofs.YtkddiaiohnbjpaaGreatDoor.Plan
open Go.ChangeShapes Go.WideShapes Go.ChangeAt Go.RowKit Loan Money Box Rws Slice

/-- A configuration's cells. -/
def cfg (mon : Int) (pv : Value) : Array Value := #[.int .i64 mon, pv]
theorem owned_zero {L : List Ln} {B g : Nat} {w : World} {T : TypeId} (hg : B ≤ g) (h : w.rowIs g T L.length (fun _ => .int .i64 0)) : Owned B w T (.slice (some ⟨g, 0, none⟩) L.length L.length) (List.replicate L.length 0) := by
  refine ⟨g, by simp, hg, ?_⟩
  rw [List.length_replicate]
  refine h.congr fun i hi => ?_
  unfold rowP
  simp [List.getD_eq_getElem?_getD, hi]
theorem owned_out {t s : Int} {zs : List Int} {Q : Nat → Nat} {B g : Nat} {w : World} {T : TypeId} (hg : B ≤ g) (h : w.rowIs g T zs.length (fun i => .int .i64 ((Share.outL t s zs Q).getD i 0))) : Owned B w T (.slice (some ⟨g, 0, none⟩) zs.length zs.length) (Share.outL t s zs Q) := by
  refine ⟨g, by simp [Share.outL], hg, ?_⟩
  have e : (Share.outL t s zs Q).length = zs.length := by simp [Share.outL]
  rw [e]
  exact h
theorem inc_len {zs : List Int} {fam inc : Int} {L : List Ln} {Q : Nat → Nat} (h : (incR zs fam inc L Q).2 = 0) : (incR zs fam inc L Q).1.length = L.length := by
  unfold incR at *
  by_cases h1 : Income.aE zs fam inc = 0
  · rw [if_pos h1] at *
    by_cases h2 : (prins L).all (fun x => x == 0) = true
    · rw [if_pos h2]; simp
    · rw [if_neg h2] at *
      cases h3 : Share.splitS (Income.aV zs fam inc) (prins L) with
      | some s => simp [Share.outL, prins]
      | none => rw [h3] at h; simp at h
  · rw [if_neg h1] at h
    exact absurd h h1
theorem each_len {g : Ln → Int × Int} {L : List Ln} (h : (eachR g L).2 = 0) : (eachR g L).1.length = L.length := by
  unfold eachR at *
  by_cases h1 : errs g L = 0
  · rw [if_pos h1]; simp
  · rw [if_neg h1] at h
    exact absurd h h1
theorem fits_err {zs : List Int} {fam inc : Int} {L : List Ln} {Q : Nat → Nat} (h : Income.aE zs fam inc ≠ 0) : Fits zs fam inc L Q := fun h' => absurd h' h
theorem fits_zero {zs : List Int} {fam inc : Int} {L : List Ln} {Q : Nat → Nat} (h : (prins L).all (fun x => x == 0) = true) : Fits zs fam inc L Q := fun _ h' => by rw [h] at h'; cases h'
theorem fits_none {zs : List Int} {fam inc : Int} {L : List Ln} {Q : Nat → Nat} (h : Share.splitS (Income.aV zs fam inc) (prins L) = none) : Fits zs fam inc L Q := fun _ _ s hs => by rw [h] at hs; cases hs
set_option maxRecDepth 20000 in
set_option maxHeartbeats 4000000 in
theorem c_income (mon : Int) (zs : List Int) (s : Sc) (L : List Ln) (pv lv bv v : Value) (B : Nat) (w : World) (hB : B ≤ w.heap.size) (hp : Ints w B .i64 pv zs) (hv : Lns w B v L) (hN : L.length ≤ 1000) (h0 : 0 < L.length) (hpr : ∀ l ∈ L, 0 ≤ l.prin) :
    Calls Tryz.prog 39 #[.agg (cfg mon pv), .agg (s.cells lv bv), v] w fun e w' => ∃ Q, Fits zs s.fam s.inc L Q ∧ Told (incR zs s.fam s.inc L Q) w e w' := by
  obtain ⟨A, c, rfl, hl, hn, hc⟩ := hp
  have HP : Hid (Ints w B .i64 (.slice A zs.length c) zs) := ⟨A, c, rfl, hl, hn, hc⟩
  obtain ⟨A2, k, rfl⟩ := hv.shape
  have HV : Hid (Lns w B (.slice A2 L.length k) L) := hv
  have HB := Lib.hid hB
  have H0 := Lib.hid h0
  have HPR := Lib.hid hpr
  obtain ⟨g3, wb, e1, e2, hB3, hb3⟩ := boxd_new w (cfg mon (.slice A zs.length c)) 45
  obtain ⟨g4, wc, e3, e4, hB4, hb4⟩ := boxd_new wb (s.cells lv bv) 38
  have e5 : g4 = g3 + 1 := by rw [e3, e2, Deep.nblk_alloc, e1]
  have c31 : wc.cell? ⟨g3, 1, none⟩ = some (.slice A zs.length c) := (hB3.below hb4).cell
  have c44 : wc.cell? ⟨g4, 4, none⟩ = some (.int .i64 s.inc) := hB4.cell
  have c45 : wc.cell? ⟨g4, 5, none⟩ = some (.int .i64 s.fam) := hB4.cell
  have HW : Hid (Below w.heap.size w wc) := below_to hb3 hb4
  have hmk := fun W : World => run_make_row' (P := Tryz.prog) 32 2 (.int .i64 0) 8 Tryz.underlying32 i64_zero rfl .i64 .i64 L.length (by omega) (by omega) W
  clear hl hn hc hv hB hB3 hb3 hB4 hb4
  unfold cfg at *
  have KI := Lib.hid (fun W h => Income.ask_any zs s.fam s.inc (.slice A zs.length c) B W h)
  have KP := Lib.hid (fun W hB h => c_prins L (.slice A2 L.length k) B W hB h hN)
  have HX : Hid (∀ Q, Income.aE zs s.fam s.inc ≠ 0 → incR zs s.fam s.inc L Q = ([], Income.aE zs s.fam s.inc)) := fun Q h => by unfold incR; rw [if_neg h]
  have HXZ : Hid (∀ Q, Income.aE zs s.fam s.inc = 0 → (prins L).all (fun x => x == 0) = true → incR zs s.fam s.inc L Q = (List.replicate L.length 0, 0)) := fun Q h h2 => by unfold incR; rw [if_pos h, if_pos h2]
  have HXS : Hid (∀ Q sm, Income.aE zs s.fam s.inc = 0 → (prins L).all (fun x => x == 0) = false → Share.splitS (Income.aV zs s.fam s.inc) (prins L) = some sm → incR zs s.fam s.inc L Q = (Share.outL (Income.aV zs s.fam s.inc) sm (prins L) Q, 0)) := fun Q sm h h2 h3 => by unfold incR; rw [if_pos h, if_neg (by rw [h2]; exact Bool.false_ne_true), h3]
  have HXN : Hid (∀ Q, Income.aE zs s.fam s.inc = 0 → (prins L).all (fun x => x == 0) = false → Share.splitS (Income.aV zs s.fam s.inc) (prins L) = none → incR zs s.fam s.inc L Q = ([], 1)) := fun Q h h2 h3 => by unfold incR; rw [if_pos h, if_neg (by rw [h2]; exact Bool.false_ne_true), h3]
  have HFN : Hid (∀ Q, Share.splitS (Income.aV zs s.fam s.inc) (prins L) = none → Fits zs s.fam s.inc L Q) := fun Q h => fits_none h
  have HFS : Hid (∀ Q sm, Share.splitS (Income.aV zs s.fam s.inc) (prins L) = some sm → Share.Places (Income.aV zs s.fam s.inc) sm (prins L) Q → Fits zs s.fam s.inc L Q) := fun Q sm h hq _ _ t ht => by
    rw [h] at ht
    injection ht with ht
    rw [← ht]; exact hq
  generalize incR zs s.fam s.inc L = R at *
  have HFE : Hid (∀ Q, Income.aE zs s.fam s.inc ≠ 0 → Fits zs s.fam s.inc L Q) := fun Q h => fits_err h
  have HFZ : Hid (∀ Q, (prins L).all (fun x => x == 0) = true → Fits zs s.fam s.inc L Q) := fun Q h => fits_zero h
  generalize hs1 : Share.splitS (Income.aV zs s.fam s.inc) (prins L) = sp at *
  have HSP := Lib.hid hs1
  clear hs1
  generalize Fits zs s.fam s.inc L = FT at *
  generalize s.fam = fam at *
  generalize s.inc = inc at *
  generalize s.cells lv bv = CS at *
  generalize Income.aV zs fam inc = t at *
  generalize Income.aE zs fam inc = x at *
  have hpl : (prins L).length = L.length := by simp [prins]
  have hmax := maxTo_zero (zs := prins L) (fun z hz => by
    obtain ⟨l, hl, rfl⟩ := List.mem_map.1 hz
    exact hpr l hl) (by rw [hpl]; exact h0)
  have HPL := Lib.hid hpl
  clear hpl hpr
  go_enter Tryz.func39, Tryz.ntmps39
  go_upto_region 1 with fail
  rw [← e2, ← e1, ← e5, ← e4]
  clear e1 e2 e3 e4 e5
  by_cases hx : x = 0
  · have t0 : (x != 0) = false := by rw [hx]; rfl
    have HXX := Lib.hid hx
    clear hx
    cases hz : (prins L).all (fun x => x == 0) with
    | true =>
      rw [hz] at hmax
      have HZ := Lib.hid hz
      clear hz
      go_wp2_with (first
      | (go_at_call 78; (with_reducible refine (KI.out _ (HP.out.below (HW.out.mono HB.out))).mono ?_); rintro e y ⟨rfl, nn, hw⟩; have HY : Hid (Below w.heap.size w y) := (show Below _ _ _ by rw [hw]; exact below_drewN HW.out _); clear hw)
      | (go_at_call 79; (with_reducible refine (KP.out _ (Nat.le_trans HB.out HY.out.size) (HV.out.below (HY.out.mono HB.out))).mono ?_); rintro e y2 ⟨u, rfl, hu, hb⟩; have HU0 : Hid (Owned y.heap.size y2 2 u (prins L)) := hu; have HI : Hid (Ints y2 y2.heap.size .i64 u (prins L)) := hu.ints (by rw [List.length_map]; omega); have HY2 : Hid (Below w.heap.size w y2) := below_to HY.out hb; obtain ⟨A3, c3, rfl, -⟩ := id HI.out; clear hu hb)
      | (go_at_call 80; (with_reducible refine (c_max (prins L) _ _ _ HI.out (by rw [HPL.out]; exact H0.out)).mono ?_); rintro e y3 ⟨rfl, nn3, hw⟩; have HY3 : Hid (Below w.heap.size w y3) := (show Below _ _ _ by rw [hw]; exact below_drewN HY2.out _); have HI3 : Hid (Ints y3 y3.heap.size .i64 (.slice A3 (prins L).length c3) (prins L)) := (show Ints _ _ _ _ _ by rw [hw]; exact HI.out); clear hw))
      go_ret2
      refine ⟨id, HFZ.out id HZ.out, _, 0, rfl, by rw [HXZ.out id HXX.out HZ.out], fun _ => ?_, fun h => absurd rfl h, HY3.out.alloc HY3.out.size _⟩
      rw [HXZ.out id HXX.out HZ.out]
      exact owned_zero HY3.out.size (World.rowIs_made y3 (.int .i64 0) L.length 2)
    | false =>
      rw [hz] at hmax
      have HZ := Lib.hid hz
      clear hz hmk
      cases sp with
      | none =>
        go_wp2_with (first
        | (go_at_call 78; (with_reducible refine (KI.out _ (HP.out.below (HW.out.mono HB.out))).mono ?_); rintro e y ⟨rfl, nn, hw⟩; have HY : Hid (Below w.heap.size w y) := (show Below _ _ _ by rw [hw]; exact below_drewN HW.out _); clear hw)
        | (go_at_call 79; (with_reducible refine (KP.out _ (Nat.le_trans HB.out HY.out.size) (HV.out.below (HY.out.mono HB.out))).mono ?_); rintro e y2 ⟨u, rfl, hu, hb⟩; have HU0 : Hid (Owned y.heap.size y2 2 u (prins L)) := hu; have HI : Hid (Ints y2 y2.heap.size .i64 u (prins L)) := hu.ints (by rw [List.length_map]; omega); have HY2 : Hid (Below w.heap.size w y2) := below_to HY.out hb; obtain ⟨A3, c3, rfl, -⟩ := id HI.out; clear hu hb)
        | (go_at_call 80; (with_reducible refine (c_max (prins L) _ _ _ HI.out (by rw [HPL.out]; exact H0.out)).mono ?_); rintro e y3 ⟨rfl, nn3, hw⟩; have HY3 : Hid (Below w.heap.size w y3) := (show Below _ _ _ by rw [hw]; exact below_drewN HY2.out _); have HI3 : Hid (Ints y3 y3.heap.size .i64 (.slice A3 (prins L).length c3) (prins L)) := (show Ints _ _ _ _ _ by rw [hw]; exact HI.out); clear hw)
        | (go_at_call 81; (with_reducible refine (Share.split_not t (prins L) _ _ HI3.out HSP.out).mono ?_); rintro e y4 ⟨rfl, hb⟩; have HY4 := Lib.hid (below_to HY3.out hb); clear hb))
        go_ret2
        exact ⟨id, HFN.out id (by simp), _, 1, rfl, by rw [HXN.out id HXX.out HZ.out (by simp)], fun h => absurd h (by decide), fun _ => rfl, HY4.out⟩
      | some sm =>
        go_wp2_with (first
        | (go_at_call 78; (with_reducible refine (KI.out _ (HP.out.below (HW.out.mono HB.out))).mono ?_); rintro e y ⟨rfl, nn, hw⟩; have HY : Hid (Below w.heap.size w y) := (show Below _ _ _ by rw [hw]; exact below_drewN HW.out _); clear hw)
        | (go_at_call 79; (with_reducible refine (KP.out _ (Nat.le_trans HB.out HY.out.size) (HV.out.below (HY.out.mono HB.out))).mono ?_); rintro e y2 ⟨u, rfl, hu, hb⟩; have HU0 : Hid (Owned y.heap.size y2 2 u (prins L)) := hu; have HI : Hid (Ints y2 y2.heap.size .i64 u (prins L)) := hu.ints (by rw [List.length_map]; omega); have HY2 : Hid (Below w.heap.size w y2) := below_to HY.out hb; obtain ⟨A3, c3, rfl, -⟩ := id HI.out; clear hu hb)
        | (go_at_call 80; (with_reducible refine (c_max (prins L) _ _ _ HI.out (by rw [HPL.out]; exact H0.out)).mono ?_); rintro e y3 ⟨rfl, nn3, hw⟩; have HY3 : Hid (Below w.heap.size w y3) := (show Below _ _ _ by rw [hw]; exact below_drewN HY2.out _); have HI3 : Hid (Ints y3 y3.heap.size .i64 (.slice A3 (prins L).length c3) (prins L)) := (show Ints _ _ _ _ _ by rw [hw]; exact HI.out); clear hw)
        | (go_at_call 81; (refine (Share.split_made Law2.merge_law t sm (prins L) _ _ HI3.out (Share.splitS_some HSP.out).1 (Share.splitS_some HSP.out).2.1 (Share.splitS_some HSP.out).2.2).mono ?_); rintro e y4 ⟨Q, g, rfl, hq, hg, hr, hb⟩; have HY4 := Lib.hid (below_to HY3.out hb); have HQ := Lib.hid (HFS.out Q sm (by simp) hq); have HO := Lib.hid (And.intro (Nat.le_trans HY3.out.size hg) hr); clear hb hq hg hr))
        go_ret2
        refine ⟨Q, HQ.out, _, 0, rfl, by rw [HXS.out Q sm HXX.out HZ.out (by simp)], fun _ => ?_, fun h => absurd rfl h, HY4.out⟩
        rw [HXS.out Q sm HXX.out HZ.out (by simp)]
        exact owned_out HO.out.1 HO.out.2
  · have t0 : (x != 0) = true := by rw [bne_iff_ne]; exact hx
    have HXX := Lib.hid hx
    clear hx
    go_wp2_with (go_at_call 78; (with_reducible refine (KI.out _ (HP.out.below (HW.out.mono HB.out))).mono ?_); rintro e y ⟨rfl, nn, hw⟩; have HY : Hid (Below w.heap.size w y) := (show Below _ _ _ by rw [hw]; exact below_drewN HW.out _); clear hw)
    go_ret2
    exact ⟨id, HFE.out id HXX.out, _, _, rfl, by rw [HX.out id HXX.out], fun h => absurd h HXX.out, fun _ => rfl, HY.out⟩
end Go.Proofs.YtkddiaiohnbjpaaGreatDoor.Plan
