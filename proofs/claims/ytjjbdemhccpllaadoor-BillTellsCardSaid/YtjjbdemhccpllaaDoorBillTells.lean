/- bill's Good, Open, Late and Find answer what the document's own answer, at any bills, day and month, and leave the bills as they were; no condition. -/
import Derived.Test.YtjjbdemhccpllaaDoorCards
import Derived.Test.YtjjbdemhccpllaaDoorTie
import Derived.Test.YtjjbdemhccpllaaDoorGA
import Derived.Test.YtjjbdemhccpllaaDoorBillWakes
import Derived.Test.YtjjbdemhccpllaaDoorRefBill
namespace Go.Proofs.YtjjbdemhccpllaaDoor.Law
open Go.ChangeShapes Go.WideShapes Go.ChangeAt Go.RowKit Loan Money Box Rws Slice Plan Bill Date Cal RBill

theorem found_alike {M M' : List Bl} (m : Int) (h : AlikeB M M') (v : Value) : ({ foundB M' m with v := v } : Bl) = { foundB M m with v := v } := by
  have hb : bare (foundB M' m) = bare (foundB M m) := by
    unfold foundB
    rw [find_alike m h]
    by_cases h0 : 0 ≤ findI M m
    · rw [if_pos h0, if_pos h0, List.getD_eq_getElem?_getD, List.getD_eq_getElem?_getD]
      have e := congrArg (fun l => l[(findI M m).toNat]?) (alike_iff.1 h)
      simp only [List.getElem?_map] at e
      cases h1 : M[(findI M m).toNat]? with
      | none =>
        cases h2 : M'[(findI M m).toNat]? with
        | none => rfl
        | some y => rw [h1, h2] at e; cases e
      | some x =>
        cases h2 : M'[(findI M m).toNat]? with
        | none => rw [h1, h2] at e; cases e
        | some y =>
          rw [h1, h2] at e
          exact Option.some.inj e
    · rw [if_neg h0, if_neg h0]
  have e : ({ bare (foundB M' m) with v := v } : Bl) = { bare (foundB M m) with v := v } := by rw [hb]
  exact e
theorem found_ints {M : List Bl} {W : World} {B : Nat} {v : Value} (m : Int) (h : Bls W B v M) : Ints W B .i64 (foundB M m).v (foundB M m).ids := by
  rcases find_cases M m with ⟨-, e⟩ | ⟨i, x, -, -, -, hx, -, e⟩
  · rw [e]
    exact Ints.nil_ _ _ _
  · rw [e]
    exact h.2 x (List.mem_of_getElem? hx)
theorem got_range {W : World} {g : Nat} {x : Bl} {ok : Bool} (h : Boxd W g (gotC x ok) 32) : W.rangeAt g 0 x.cells.toList ∧ W.cell? ⟨g, 6, none⟩ = some (.bool ok) := by
  refine ⟨fun j y hj => ?_, h.cell⟩
  have hj' : j < 6 := (List.getElem?_eq_some_iff.1 hj).1
  rw [Nat.zero_add, h.cell]
  match j, hj' with
  | 0, _ => exact hj
  | 1, _ => exact hj
  | 2, _ => exact hj
  | 3, _ => exact hj
  | 4, _ => exact hj
  | 5, _ => exact hj
set_option maxRecDepth 20000 in
set_option maxHeartbeats 4000000 in
theorem tells_many (M : List Bl) (d m : Int) (v : Value) (w : World) (hv : Bls w w.heap.size v M) (LD : Hid (Laid w)) (h1 : manyB M = true) : Calls Tryd.prog 3 #[v, .int .i64 d, .int .i64 m] w fun e w' => e = .returned (.bool true) ∧ Below w.heap.size w w' := by
  have HM : Hid (Bo w w M v) := ⟨Below.refl _ _, LD.out, hv⟩
  obtain ⟨A, k, rfl⟩ := hv.1.shape
  clear hv LD
  go_enter Tryd.func3, Tryd.ntmps3
  go_wp2_with (first
    | (go_at_call 8; (with_reducible refine (large_any M _ w _ HM.out).mono ?_); rintro e y ⟨rfl, hb⟩; rw [h1]; replace HM := Lib.hid (HM.out.below hb); clear hb)
    | (go_at_call 9; (with_reducible refine (wakes_bill _ HM.out.laid).mono ?_); rintro e y9 ⟨rfl, hb⟩; replace HM := Lib.hid (HM.out.below hb); clear hb))
  go_ret
  exact ⟨rfl, HM.out.low⟩
set_option maxRecDepth 20000 in
set_option maxHeartbeats 4000000 in
theorem tells_some (M : List Bl) (d m : Int) (v : Value) (w : World) (hv : Bls w w.heap.size v M) (LD : Hid (Laid w)) (h1 : manyB M = false) : Calls Tryd.prog 3 #[v, .int .i64 d, .int .i64 m] w fun e w' => e = .returned (.bool true) ∧ Below w.heap.size w w' := by
  have HM : Hid (Bo w w M v) := ⟨Below.refl _ _, LD.out, hv⟩
  obtain ⟨A, k, rfl⟩ := hv.1.shape
  clear hv LD
  have KCP := Lib.hid (fun W (h : Bo w W M (.slice A M.length k)) => c_cbills M (.slice A M.length k) w.heap.size W h.low.size h.bls (Nat.le_trans (many_no h1).1 (by decide)) (fun b hb => Nat.le_trans ((many_no h1).2 b hb) (by decide)))
  have KSB := Lib.hid (fun R1 R2 u1 u2 W (ha : AlikeB R1 R2) h1 h2 => same_bills R1 R2 ha u1 u2 (World.heap W).size W (Nat.le_refl _) h1 h2)
  have hN : M.length ≤ 1000 := Nat.le_trans (many_no h1).1 (by decide)
  have hI : ∀ b ∈ M, b.ids.length ≤ 1000 := fun b hb => Nat.le_trans ((many_no h1).2 b hb) (by decide)
  have KFI : Hid (∀ W u M', Laid W → AlikeB M M' → Bls W W.heap.size u M' → Calls Tryd.prog 11 #[u, .int .i64 m] W fun e w' => ∃ A2 c2, e = .returned (.tuple #[.agg ({ foundB M m with v := .slice A2 (foundB M m).ids.length c2 } : Bl).cells, .bool (decide (0 ≤ findI M m))]) ∧ Ints w' w'.heap.size .i64 (.slice A2 (foundB M m).ids.length c2) (foundB M m).ids ∧ Below W.heap.size W w') := fun W u M' hl ha hu => by
    have h := b_find M' m u W.heap.size W (Nat.le_refl _) hu (alike_ids ha hI) hl
    rw [find_alike m ha] at h
    have hids : (foundB M' m).ids = (foundB M m).ids := by
      have e : ({ foundB M' m with v := .slice none 0 0 } : Bl).ids = ({ foundB M m with v := .slice none 0 0 } : Bl).ids := by rw [found_alike m ha]
      exact e
    exact h.mono fun e w' ⟨v', h1, h2, h3⟩ => by
      rw [found_alike m ha] at h1
      rw [hids] at h2
      obtain ⟨A2, c2, rfl⟩ := own_slice' h2
      exact ⟨A2, c2, h1, Ints.of_own (n := (foundB M m).ids.length) rfl h2, h3⟩
  have KRF := Lib.hid (fun W (h : Bo w W M (.slice A M.length k)) => r_find M m (.slice A M.length k) w.heap.size W h.low.size h.bls (by omega))
  have KG1 : Hid (∀ W u M', Laid W → AlikeB M M' → Bls W W.heap.size u M' → Calls Tryd.prog 13 #[u] W fun e w' => e = .returned (.bool (goodM M)) ∧ Below W.heap.size W w') := fun W u M' hl ha hu => by
    have h := b_goodM M' u W.heap.size W (Nat.le_refl _) hu hl
    rw [good_alike ha] at h
    exact h
  have KG2 := Lib.hid (fun W (h : Bo w W M (.slice A M.length k)) => r_good M (.slice A M.length k) w.heap.size W h.low.size h.bls (by omega))
  have KO1 : Hid (∀ W u M', Laid W → AlikeB M M' → Bls W W.heap.size u M' → Calls Tryd.prog 15 #[u] W fun e w' => e = .returned (.int .i64 (openI M)) ∧ Below W.heap.size W w') := fun W u M' hl ha hu => by
    have h := b_open M' u W.heap.size W (Nat.le_refl _) hu hl
    rw [open_alike ha] at h
    exact h
  have KO2 := Lib.hid (fun W (h : Bo w W M (.slice A M.length k)) => r_open M (.slice A M.length k) w.heap.size W h.low.size h.bls (by omega))
  have KL1 : Hid (∀ W u M', Laid W → AlikeB M M' → Bls W W.heap.size u M' → Calls Tryd.prog 17 #[u, .int .i64 d] W fun e w' => e = .returned (.int .i64 (lateI M d)) ∧ Below W.heap.size W w') := fun W u M' hl ha hu => by
    have h := b_late M' d u W.heap.size W (Nat.le_refl _) hu hl
    rw [late_alike d ha] at h
    exact h
  have KL2 := Lib.hid (fun W (h : Bo w W M (.slice A M.length k)) => r_late M d (.slice A M.length k) w.heap.size W h.low.size h.bls (by omega))
  have KSI : Hid (∀ W A2 c2, Ints W W.heap.size .i64 (.slice A2 (foundB M m).ids.length c2) (foundB M m).ids → Bo w W M (.slice A M.length k) → Calls Tryd.prog 19 #[.agg ({ foundB M m with v := .slice A2 (foundB M m).ids.length c2 } : Bl).cells, .agg (foundB M m).cells] W fun e w' => e = .returned (.bool true) ∧ Below W.heap.size W w') := fun W A2 c2 hi h => same_bill _ _ _ _ _ (foundB M m).ids (.slice A2 (foundB M m).ids.length c2) (foundB M m).v W.heap.size W (Nat.le_refl _) hi ((found_ints m h.bls).more h.low.size)
  have HSD : Hid (∀ A2 c2, (Tryd.prog.info? 28).map (·.size) = some ({ foundB M m with v := .slice A2 (foundB M m).ids.length c2 } : Bl).cells.size) := fun A2 c2 => bl_info { foundB M m with v := .slice A2 (foundB M m).ids.length c2 }
  have HOD : Hid (∀ A2 c2, ({ foundB M m with v := .slice A2 (foundB M m).ids.length c2 } : Bl).cells.all (·.oneCell') = true) := fun A2 c2 => bl_one { foundB M m with v := .slice A2 (foundB M m).ids.length c2 } rfl
  have HZD : Hid (∀ A2 c2, 6 = ({ foundB M m with v := .slice A2 (foundB M m).ids.length c2 } : Bl).cells.size) := fun _ _ => rfl
  have HSF := Lib.hid (bl_info' (foundB M m))
  obtain ⟨AF, cF, hF, -⟩ := found_ints m HM.out.bls
  have HSG := Lib.hid (got_info (gotC (foundB M m) (decide (0 ≤ findI M m))) rfl)
  have HOG := Lib.hid (got_one (foundB M m) (decide (0 ≤ findI M m)) hF)
  have HZG : Hid (7 = (gotC (foundB M m) (decide (0 ≤ findI M m))).size) := show _ = _ from rfl
  have HGR : Hid (∀ W g, Boxd W g (gotC (foundB M m) (decide (0 ≤ findI M m))) 32 → W.rangeAt g 0 (foundB M m).cells.toList ∧ W.cell? ⟨g, 6, none⟩ = some (.bool (decide (0 ≤ findI M m)))) := fun W g h => got_range h
  clear hF hN hI
  generalize decide (0 ≤ findI M m) = ok at *
  generalize gotC (foundB M m) ok = GC at *
  generalize hDF : (fun A2 c2 => ({ foundB M m with v := .slice A2 (foundB M m).ids.length c2 } : Bl).cells) = DF at *
  have HDF : Hid (∀ A2 c2, ({ foundB M m with v := .slice A2 (foundB M m).ids.length c2 } : Bl).cells = DF A2 c2) := fun A2 c2 => by rw [← hDF]
  clear hDF
  have KFI' : Hid (∀ W u M', Laid W → AlikeB M M' → Bls W W.heap.size u M' → Calls Tryd.prog 11 #[u, .int .i64 m] W fun e w' => ∃ A2 c2, e = .returned (.tuple #[.agg (DF A2 c2), .bool ok]) ∧ Ints w' w'.heap.size .i64 (.slice A2 (foundB M m).ids.length c2) (foundB M m).ids ∧ Below W.heap.size W w') := fun W u M' a1 a2 a3 => (KFI.out W u M' a1 a2 a3).mono fun e w' ⟨A2, c2, h1, h2⟩ => ⟨A2, c2, by rw [h1, HDF.out], h2⟩
  have KSI' : Hid (∀ W A2 c2, Ints W W.heap.size .i64 (.slice A2 (foundB M m).ids.length c2) (foundB M m).ids → Bo w W M (.slice A M.length k) → Calls Tryd.prog 19 #[.agg (DF A2 c2), .agg (foundB M m).cells] W fun e w' => e = .returned (.bool true) ∧ Below W.heap.size W w') := fun W A2 c2 a1 a2 => by rw [← HDF.out]; exact KSI.out W A2 c2 a1 a2
  have HSD' : Hid (∀ A2 c2, (Tryd.prog.info? 28).map (·.size) = some (DF A2 c2).size) := fun A2 c2 => by rw [← HDF.out]; exact HSD.out A2 c2
  have HOD' : Hid (∀ A2 c2, (DF A2 c2).all (·.oneCell') = true) := fun A2 c2 => by rw [← HDF.out]; exact HOD.out A2 c2
  have HZD' : Hid (∀ A2 c2, 6 = (DF A2 c2).size) := fun A2 c2 => by rw [← HDF.out]; exact HZD.out A2 c2
  clear KFI KSI HSD HOD HZD HDF
  generalize (foundB M m).ids = ids at *
  generalize (foundB M m).cells = FC at *
  generalize goodM M = gm at *
  generalize openI M = oi at *
  generalize lateI M d = li at *
  have t1 : (gm == gm) = true := by simp
  have t2 : (oi == oi) = true := by simp
  have t3 : (li == li) = true := by simp
  have t4 : (ok == ok) = true := by simp
  go_enter Tryd.func3, Tryd.ntmps3
  go_upto_region 5 with (first
    | (go_at_call 8; (with_reducible refine (large_any M _ w _ HM.out).mono ?_); rintro e y ⟨rfl, hb⟩; rw [h1]; replace HM := Lib.hid (HM.out.below hb); clear hb)
    | (go_at_call 10; (refine (KCP.out _ HM.out).mono ?_); rintro e y1 ⟨u, M', rfl, ha, hc, hb⟩; have HA := Lib.hid ha; replace HM := Lib.hid (HM.out.below hb); have HI := Lib.hid hc.bls; obtain ⟨A1, c1, rfl⟩ := own_slice' hc.row; clear ha hc hb)
    | (go_at_call 11; (refine (KFI'.out _ _ _ HM.out.laid HA.out HI.out).mono ?_); rintro e y2 ⟨A2, c2, rfl, hi, hb⟩; have HF := Lib.hid hi; have HSD1 := Lib.hid (HSD'.out A2 c2); have HOD1 := Lib.hid (HOD'.out A2 c2); have HZD1 := Lib.hid (HZD'.out A2 c2); have KSI1 := Lib.hid (fun W => KSI'.out W A2 c2); replace HM := Lib.hid (HM.out.below hb); replace HI := Lib.hid (bls_below HI.out hb); clear hi hb; generalize DF A2 c2 = D at *)
    | (refine o_store rfl 28 _ _ rfl rfl y2.heap.size D rfl rfl _ _ (heap_alloc_last _ _) HSD1.out HZD1.out HOD1.out ?_; intro z2 hr ho; have hb := below_one_of (below_one y2 _) ho (Nat.le_refl _) (below_one y2 _).size; have HB1 := Lib.hid hr; replace HM := Lib.hid (HM.out.below hb); replace HI := Lib.hid (bls_below HI.out hb); replace HF := Lib.hid ((HF.out.below hb).more hb.size); clear hr ho hb))
  obtain ⟨g1, hg1⟩ : ∃ g, g = y2.heap.size := ⟨_, rfl⟩
  rw [← hg1]
  rw [← hg1] at HB1
  clear hg1
  go_upto_region 6 with (first
    | (go_at_call 12; (refine (KRF.out _ HM.out).mono ?_); rintro e y3 ⟨rfl, hb⟩; replace HM := Lib.hid (HM.out.below hb); replace HI := Lib.hid (bls_below HI.out hb); replace HF := Lib.hid ((HF.out.below hb).more hb.size); replace HB1 := Lib.hid (HB1.out.below hb); clear hb)
    | (refine o_store rfl 32 _ _ rfl rfl y3.heap.size GC rfl rfl _ _ (heap_alloc_last _ _) HSG.out HZG.out HOG.out ?_; intro z3 hr ho; have hb := below_one_of (below_one y3 _) ho (Nat.le_refl _) (below_one y3 _).size; have HB2 := Lib.hid hr; replace HM := Lib.hid (HM.out.below hb); replace HI := Lib.hid (bls_below HI.out hb); replace HF := Lib.hid ((HF.out.below hb).more hb.size); replace HB1 := Lib.hid (HB1.out.below hb); clear hr ho hb))
  obtain ⟨g2, hg2⟩ : ∃ g, g = y3.heap.size := ⟨_, rfl⟩
  rw [← hg2]
  rw [← hg2] at HB2
  clear hg2
  go_wp2_with (first
    | (go_at_call 13; (refine (KG1.out _ _ _ HM.out.laid HA.out HI.out).mono ?_); rintro e x1 ⟨rfl, hb⟩; replace HM := Lib.hid (HM.out.below hb); replace HI := Lib.hid (bls_below HI.out hb); replace HF := Lib.hid ((HF.out.below hb).more hb.size); replace HB1 := Lib.hid (HB1.out.below hb); replace HB2 := Lib.hid (HB2.out.below hb); clear hb)
    | (go_at_call 14; (refine (KG2.out _ HM.out).mono ?_); rintro e x2 ⟨rfl, hb⟩; replace HM := Lib.hid (HM.out.below hb); replace HI := Lib.hid (bls_below HI.out hb); replace HF := Lib.hid ((HF.out.below hb).more hb.size); replace HB1 := Lib.hid (HB1.out.below hb); replace HB2 := Lib.hid (HB2.out.below hb); clear hb)
    | (go_at_call 15; (refine (KO1.out _ _ _ HM.out.laid HA.out HI.out).mono ?_); rintro e x3 ⟨rfl, hb⟩; replace HM := Lib.hid (HM.out.below hb); replace HI := Lib.hid (bls_below HI.out hb); replace HF := Lib.hid ((HF.out.below hb).more hb.size); replace HB1 := Lib.hid (HB1.out.below hb); replace HB2 := Lib.hid (HB2.out.below hb); clear hb)
    | (go_at_call 16; (refine (KO2.out _ HM.out).mono ?_); rintro e x4 ⟨rfl, hb⟩; replace HM := Lib.hid (HM.out.below hb); replace HI := Lib.hid (bls_below HI.out hb); replace HF := Lib.hid ((HF.out.below hb).more hb.size); replace HB1 := Lib.hid (HB1.out.below hb); replace HB2 := Lib.hid (HB2.out.below hb); clear hb)
    | (go_at_call 17; (refine (KL1.out _ _ _ HM.out.laid HA.out HI.out).mono ?_); rintro e x5 ⟨rfl, hb⟩; replace HM := Lib.hid (HM.out.below hb); replace HI := Lib.hid (bls_below HI.out hb); replace HF := Lib.hid ((HF.out.below hb).more hb.size); replace HB1 := Lib.hid (HB1.out.below hb); replace HB2 := Lib.hid (HB2.out.below hb); clear hb)
    | (go_at_call 18; (refine (KL2.out _ HM.out).mono ?_); rintro e x6 ⟨rfl, hb⟩; replace HM := Lib.hid (HM.out.below hb); replace HI := Lib.hid (bls_below HI.out hb); replace HF := Lib.hid ((HF.out.below hb).more hb.size); replace HB1 := Lib.hid (HB1.out.below hb); replace HB2 := Lib.hid (HB2.out.below hb); clear hb)
    | (refine o_load (by rfl) 28 _ rfl g1 rfl _ _ _ HB1.out Tryd.underlying28 rfl HSD1.out ?_)
    | (refine load_mid_want (by rfl) 28 _ rfl g2 0 rfl FC _ (HGR.out _ _ HB2.out).1 Tryd.underlying28 rfl HSF.out ?_)
    | (go_at_call 19; (refine (KSI1.out _ HF.out HM.out).mono ?_); rintro e x7 ⟨rfl, hb⟩; replace HM := Lib.hid (HM.out.below hb); replace HI := Lib.hid (bls_below HI.out hb); replace HF := Lib.hid ((HF.out.below hb).more hb.size); replace HB1 := Lib.hid (HB1.out.below hb); replace HB2 := Lib.hid (HB2.out.below hb); have d6 := (HGR.out _ _ HB2.out).2; clear hb)
    | (go_at_call 20; (with_reducible refine (KSB.out _ _ _ _ _ (alike_symm HA.out) HI.out (bls_up HM.out.bls HM.out.low.size)).mono ?_); rintro e x8 ⟨rfl, hb⟩; replace HM := Lib.hid (HM.out.below hb); clear hb)
    | (go_at_call 9; (with_reducible refine (wakes_bill _ HM.out.laid).mono ?_); rintro e y9 ⟨rfl, hb⟩; replace HM := Lib.hid (HM.out.below hb); clear hb))
  go_ret
  exact ⟨rfl, HM.out.low⟩
theorem tells_walk (M : List Bl) (d m : Int) (v : Value) (w : World) (hv : Bls w w.heap.size v M) (LD : Hid (Laid w)) : Calls Tryd.prog 3 #[v, .int .i64 d, .int .i64 m] w fun e w' => e = .returned (.bool true) ∧ Below w.heap.size w w' := by
  cases h1 : manyB M with
  | true => exact tells_many M d m v w hv LD h1
  | false => exact tells_some M d m v w hv LD h1

set_option maxRecDepth 100000 in
theorem billTells_lifted (os : Os) (started : os.Started) (H : Type) (enc : TypeId × Value → H) :
    ReturnsInHanded {} Tryd.checked os 3 .any (fun w args => (Rows.billTellsSpec.pre enc Tryd.prog Tryd.f3 Rows.billTellsRow.domain false w args ∧ laidMetH Tryd.prog Rows.billTellsRow.laid w) ∧ sizedMet enc Tryd.prog Tryd.f3 (OpenSpec.ofChange Rows.billTellsSpec) false w args) (Rows.billTellsSpec.post enc Tryd.prog Tryd.f3 false true false false) := by
  refine Door.law_lifted (C := Tryd.checked) (tb := 4) (by kernel_rfl) started (by kernel_rfl) Tryd.func3
    (ChangeSpec.witness_shaped (enc := enc) (C := Tryd.checked) (os := os) (X := fun w _ => laidMetH Tryd.prog Rows.billTellsRow.laid w) false (World.laidAll Tryd.prog os Rows.billTellsRow.laid) #[Value.slice none 0 0, .int .i64 0, .int .i64 0] 8 (World.laidAll_os _ _ _)
      (World.shaped_of_ZipB (by kernel_rfl) (by kernel_rfl)) (by kernel_rfl) (by kernel_rfl) (by kernel_rfl)
      (by rw [MakeChecks.laidMetH_plain _ _ _ (by kernel_rfl)]; exact laidMet_laidAll _ (by kernel_rfl) (by kernel_rfl)))
    (by kernel_rfl) (by kernel_rfl) rfl rfl Tryd.underlying4 ?_
  intro W base args ds p hval0 hA0 hL
  have hval : ∀ (j : Nat) t v, Tryd.f3.params[j]? = some t → args[j]? = some v → Value.okWide Tryd.prog W .any base t v := hval0
  have hA : DataW.TrodAll enc Tryd.prog W 0 (fun _ => true) true Tryd.f3.params.toList args.toList ds p := hA0
  clear hval0 hA0
  rw [MakeChecks.laidMetH_plain _ _ _ (by kernel_rfl)] at hL
  rw [Tryd.params3] at hA hval
  obtain ⟨v0, vs0, d0, ds0, p0, q0, hargs, rfl, rfl, h0, r0⟩ := trodAll_cons hA
  obtain ⟨v1, vs1, d1, ds1, p1, q1, rfl, rfl, rfl, h1, r1⟩ := trodAll_cons r0
  obtain ⟨v2, vs2, d2, ds2, p2, q2, rfl, rfl, rfl, h2, r2⟩ := trodAll_cons r1
  obtain ⟨rfl, rfl, rfl⟩ := trodAll_nil r2
  obtain rfl : args = #[v0, v1, v2] := by cases args; simp_all
  refine ⟨rfl, ?_⟩
  obtain ⟨M, hv⟩ := open_bills (hval 0 22 v0 rfl rfl) h0
  obtain ⟨d, rfl, -, -, g1⟩ := open_int Tryd.underlying3 (hval 1 3 v1 rfl rfl) h1
  obtain ⟨m, rfl, -, -, g2⟩ := open_int Tryd.underlying3 (hval 2 3 v2 rfl rfl) h2
  have LD := Lib.hid (Date.laid_of hL (by exact List.mem_cons_self ..))
  exact tells_walk M d m v0 W hv LD

theorem billTells_over : Rows.billTellsRow.holds Tryd.pinned (OpenSpec.ofChange Rows.billTellsSpec) :=
  OpenClaim.holds_of_wide 3 Tryd.f3 rfl rfl rfl rfl rfl rfl rfl ⟨rfl, rfl, rfl, rfl, rfl⟩ rfl rfl rfl rfl rfl (by kernel_rfl) Tryd.func3 (by kernel_rfl)
    (of_decide_eq_true (by kernel_rfl)) (by unfold Func.isWrapper; first | (rw [if_pos (by decide +kernel)]; kernel_rfl) | (rw [if_neg (by decide +kernel)]; exact ⟨rfl, rfl⟩))
    (fun os st H enc _ => billTells_lifted os st H enc)

/-- The statement: the card. -/
theorem billTells_proved : Rows.BillTellsCardSaid :=
  Claim7.holds_tied_plain_at .later [] [.data] true Rows.billTellsCard.stood.harness false
    billTells_over (fun _ h => by cases h) (by kernel_rfl) (fun _ h => by cases h) billTells_row_tie rfl ⟨rfl, rfl⟩ (by kernel_rfl) rfl
    (fun f fn hf hfn => by
      obtain rfl : f = 3 := Option.some.inj ((show Tryd.prog.funcNamed "annuity/annuitylaw19.BillTells" = some 3 by kernel_rfl).symm.trans hf) |>.symm
      obtain rfl : fn = Tryd.f3 := (Option.some.inj (Tryd.func3.symm.trans hfn)).symm
      exact ⟨by kernel_rfl, fun j t ht => by
        have hall : (Tryd.f3.params.toList.all fun u => !Tryd.prog.wantsStandIn u) = true := by kernel_rfl
        exact (show Tryd.prog.wantsStandIn t = false by simpa using List.all_eq_true.1 hall t (Array.mem_def.1 (Array.mem_of_getElem? ht)))⟩)
    (by kernel_rfl)
end Go.Proofs.YtjjbdemhccpllaaDoor.Law
