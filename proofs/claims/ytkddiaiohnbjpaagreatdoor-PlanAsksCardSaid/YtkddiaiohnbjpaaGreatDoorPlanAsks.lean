/- plan's Asks answers what the document's own answer, at any table, state and day, and leaves the state as it was; no condition. -/
import Derived.Test.YtkddiaiohnbjpaaGreatDoorCards
import Derived.Test.YtkddiaiohnbjpaaGreatDoorTie
import Derived.Test.YtkddiaiohnbjpaaGreatDoorGA
import Derived.Test.YtkddiaiohnbjpaaGreatDoorPlanWakes
import Derived.Test.YtkddiaiohnbjpaaGreatDoorKeepLarge
import Derived.Test.YtkddiaiohnbjpaaGreatDoorKeepCopy
import Derived.Test.YtkddiaiohnbjpaaGreatDoorRefAsks
namespace Go.Proofs.YtkddiaiohnbjpaaGreatDoor.Law
open Go.ChangeShapes Go.WideShapes Go.ChangeAt Go.RowKit Loan Money Box Rws Slice Plan
set_option linter.unusedSimpArgs false

/-- What stands while PlanAsks goes: the state's box, what came in, the listed tables. -/
structure Ma (w0 W : World) (g : Nat) (C : Array Value) (zs : List Int) (L : List Ln) (M : List Bl) (pv lv bv : Value) : Prop where
  low : Below w0.heap.size w0 W
  b4 : Boxd W g C 38
  both : Both W
  poor : Ints W w0.heap.size .i64 pv zs
  lns : Lns W w0.heap.size lv L
  bls : Bls W w0.heap.size bv M
theorem Ma.below {w0 W W' : World} {g : Nat} {C : Array Value} {zs : List Int} {L : List Ln} {M : List Bl} {pv lv bv : Value} (h : Ma w0 W g C zs L M pv lv bv) (hb : Below W.heap.size W W') : Ma w0 W' g C zs L M pv lv bv :=
  ⟨below_to h.low hb, h.b4.below hb, h.both.of hb, h.poor.below (hb.mono h.low.size), h.lns.below (hb.mono h.low.size), h.bls.below (hb.mono h.low.size)⟩
theorem alike_back {M M' : List Bl} (h : AlikeB M M') : AlikeB M' M := ⟨h.1.symm, fun i y hy => by
  have hi : i < M.length := by rw [← h.1]; exact (List.getElem?_eq_some_iff.1 hy).1
  obtain ⟨v, hv⟩ := h.2 i _ (List.getElem?_eq_getElem hi)
  rw [hy] at hv
  have e := Option.some.inj hv
  refine ⟨(M[i]).v, ?_⟩
  rw [List.getElem?_eq_getElem hi, e]⟩
/-- The copy: its box, its loans, its bills. -/
structure Cpy (W : World) (g7 : Nat) (D : Array Value) (L : List Ln) (M' : List Bl) (lv bv : Value) : Prop where
  box : Boxd W g7 D 38
  lns : Lns W W.heap.size lv L
  bls : Bls W W.heap.size bv M'
theorem Cpy.below {W W' : World} {g7 : Nat} {D : Array Value} {L : List Ln} {M' : List Bl} {lv bv : Value} (h : Cpy W g7 D L M' lv bv) (hb : Below W.heap.size W W') : Cpy W' g7 D L M' lv bv :=
  ⟨h.box.below hb, (h.lns.below hb).more hb.size, ⟨(h.bls.1.below hb).more hb.size, fun b hm => ((h.bls.2 b hm).below hb).more hb.size⟩⟩
/-- An empty slice, laid in a block of its own. -/
theorem step_empty {P : Program} {ops : Array Oper} {Q : Exit → Act → World → Prop} {o : Oper} {a : Act} {w : World} {K : Act → World → Prop} {E : Prop} (hw : Region.wanted o (yielded ops a.tmps) = true) (t : TypeId) (ho : o.op = .buildSlice t 0 #[]) (T : TypeId)
    (hr : (Instr.buildSlice t 0 #[]).run P w = .ok (.slice (some ⟨w.heap.size, 0, none⟩) 0 0) (w.alloc (.cells #[] T))) (h : K (a.put o.dst (.slice (some ⟨w.heap.size, 0, none⟩) 0 0)) (w.alloc (.cells #[] T))) :
    if Region.wanted o (yielded ops a.tmps) = true then Oper.wp P o a w K Q else E := by
  rw [if_pos hw]
  unfold Oper.wp execOp
  simp only [ho, List.map_toArray, List.map_nil, Sem.run_bind, Sem.run_pure, hr, Result.andThen_ok]
  exact h
theorem lit_none (w : World) : (Instr.buildSlice 32 0 #[]).run Tryz.prog w = .ok (.slice (some ⟨w.heap.size, 0, none⟩) 0 0) (w.alloc (.cells #[] 2)) := by kernel_rfl
/-- append of a slice of integers that came in to a row of the call's own, in a region whose order is drawn. -/
theorem step_ints {P : Program} {ops : Array Oper} {Q : Exit → Act → World → Prop} {w : World} {o : Oper} {a : Act} {K : Act → World → Prop} {E : Prop} (hgd : o.guard = none) (s x : Operand) (t : TypeId)
    (ho : o.op = .call { callee := .builtin .append, args := #[s, x], argTypes := #[t, t] })
    (base : Nat) (e : TypeId) (i : TypeInfo) (z : Value) (bytes : Nat) (ht : P.underlying t = some (.slice e)) (hi : P.info? e = some i) (hz : i.zero = some z)
    (hsize : i.size = 1) (hby : i.bytes = bytes) (hzs : z.cells.size = 1)
    (v : Value) (n : Nat) (xs : List Value) (hs : a.eval s = v) (hown : w.ownsRow base e 1 v n xs)
    (B : Nat) (k : IntKind) (u : Value) (zs : List Int) (hx : a.eval x = u) (hu : Ints w B k u zs)
    (h63 : n + zs.length ≤ maxLen) (hbytes : (n + zs.length) * bytes ≤ 140737488355328) (hbase : base ≤ w.heap.size)
    (h : ∀ v' w', w'.ownsRow base e 1 v' (n + zs.length) (xs ++ zs.map (Value.int k)) → w.grownBy w' v.ownBlock → K (a.put o.dst v') w') :
    if Region.wanted o (yielded ops a.tmps) = true then Oper.wp P o a w K Q else E := by
  have hw : Region.wanted o (yielded ops a.tmps) = true := by simp [Region.wanted, hgd]
  rw [if_pos hw]
  obtain ⟨A, c, rfl, hl, hn, hc⟩ := hu
  cases A with
  | none =>
    have h0 : zs = [] := by
      rcases Nat.eq_zero_or_pos zs.length with h0 | h0
      · exact List.eq_nil_of_length_eq_zero h0
      · obtain ⟨b, off, hb, -⟩ := hc h0; cases hb
    subst h0
    obtain rfl := hn rfl
    have hrun := run_append_owned_none (P := P) (w := w) base t o.type e i 1 ht hi v n xs hown
    have hx' : a.eval x = .slice none 0 0 := hx
    unfold Oper.wp
    simp [execOp, ho, resolve, invoke, builtin, hs, hx', hrun, Result.andThen]
    exact h v w (by simpa using hown) (World.grownBy.refl _ _)
  | some ad =>
    refine wp_append_own _ s x t ho base e i z 1 bytes ht hi hz hsize hby hzs (by omega) v n xs hs hown ad zs.length c (zs.map (Value.int k)) hx (by simp) ?_ ?_ h63 hbytes hbase (fun v' w' h1 h2 _ => h v' w' h1 h2)
    · intro j y hj
      have hlt : j < zs.length := by
        rcases Nat.lt_or_ge j zs.length with h | h
        · exact h
        · rw [List.getElem?_eq_none (by simpa using h)] at hj; cases hj
      obtain ⟨b, off, hb, -, hcell⟩ := hc (by omega)
      injection hb with hb
      subst hb
      rw [List.getElem?_map, List.getElem?_eq_getElem hlt] at hj
      injection hj with hj
      subst hj
      rw [Go.WideShapes.add_plain, hcell j hlt, List.getD_eq_getElem?_getD, List.getElem?_eq_getElem hlt]
      rfl
    · intro y hy
      obtain ⟨q, -, rfl⟩ := List.mem_map.1 hy
      rfl
set_option maxRecDepth 20000 in
set_option maxHeartbeats 8000000 in
theorem asks_large (zs : List Int) (s : Sc) (day : Int) (L : List Ln) (M : List Bl) (pv lv bv : Value) (w : World) (hp : Ints w w.heap.size .i64 pv zs) (hv : Lns w w.heap.size lv L) (hm : Bls w w.heap.size bv M) (LD : Hid (Both w)) (h1 : largeB L M = true) : Calls Tryz.prog 4 #[pv, .agg (s.cells lv bv), .int .i64 day] w fun e w' => e = .returned (.bool true) ∧ Below w.heap.size w w' := by
  obtain ⟨A, c, rfl, hl, hn, hc⟩ := hp
  have HP : Hid (Ints w w.heap.size .i64 (.slice A zs.length c) zs) := ⟨A, c, rfl, hl, hn, hc⟩
  obtain ⟨A2, k2, rfl⟩ := hv.shape
  obtain ⟨g, wb, e1, e2, hB, hb⟩ := boxd_new w (s.cells (.slice A2 L.length k2) bv) 38
  have HM : Hid (Ma w wb g (s.cells (.slice A2 L.length k2) bv) zs L M (.slice A zs.length c) (.slice A2 L.length k2) bv) := ⟨hb, hB, LD.out.of hb, HP.out.below hb, hv.below hb, hm.below hb⟩
  have S4 := Lib.hid (sc_info s (.slice A2 L.length k2) bv)
  have KLG : Hid (∀ W, Ma w W g (s.cells (.slice A2 L.length k2) bv) zs L M (.slice A zs.length c) (.slice A2 L.length k2) bv → Calls Tryz.prog 11 #[.agg (s.cells (.slice A2 L.length k2) bv)] W fun e w' => e = .returned (.bool (largeB L M)) ∧ Below W.heap.size W w') := fun W h => c_large s _ _ L M w.heap.size W h.low.size h.lns h.bls
  clear hn hc hv hm hB hb HP LD
  rw [h1] at KLG
  clear h1
  generalize s.cells (.slice A2 L.length k2) bv = C4 at *
  go_enter Tryz.func4, Tryz.ntmps4
  go_upto_region 1 with fail
  rw [← e2, ← e1]
  clear e1 e2
  go_wp2_with (first
    | (refine o_load (by rfl) 38 _ rfl g rfl _ _ _ HM.out.b4 Tryz.underlying38 rfl S4.out ?_)
    | (go_at_call 11; (with_reducible refine (KLG.out _ HM.out).mono ?_); rintro e y ⟨rfl, hb⟩; replace HM := Lib.hid (HM.out.below hb); clear hb)
    | (go_at_call 10; (with_reducible refine (wakes_plan _ HM.out.both).mono ?_); rintro e y9 ⟨rfl, hb⟩; replace HM := Lib.hid (HM.out.below hb); clear hb))
  go_ret
  exact ⟨rfl, HM.out.low⟩
set_option maxRecDepth 20000 in
set_option maxHeartbeats 8000000 in
theorem asks_long (zs : List Int) (s : Sc) (day : Int) (L : List Ln) (M : List Bl) (pv lv bv : Value) (w : World) (hp : Ints w w.heap.size .i64 pv zs) (hv : Lns w w.heap.size lv L) (hm : Bls w w.heap.size bv M) (LD : Hid (Both w)) (h1 : largeB L M = false) (h2 : 100 < zs.length) : Calls Tryz.prog 4 #[pv, .agg (s.cells lv bv), .int .i64 day] w fun e w' => e = .returned (.bool true) ∧ Below w.heap.size w w' := by
  obtain ⟨A, c, rfl, hl, hn, hc⟩ := hp
  have HP : Hid (Ints w w.heap.size .i64 (.slice A zs.length c) zs) := ⟨A, c, rfl, hl, hn, hc⟩
  obtain ⟨A2, k2, rfl⟩ := hv.shape
  obtain ⟨g, wb, e1, e2, hB, hb⟩ := boxd_new w (s.cells (.slice A2 L.length k2) bv) 38
  have HM : Hid (Ma w wb g (s.cells (.slice A2 L.length k2) bv) zs L M (.slice A zs.length c) (.slice A2 L.length k2) bv) := ⟨hb, hB, LD.out.of hb, HP.out.below hb, hv.below hb, hm.below hb⟩
  have S4 := Lib.hid (sc_info s (.slice A2 L.length k2) bv)
  have KLG : Hid (∀ W, Ma w W g (s.cells (.slice A2 L.length k2) bv) zs L M (.slice A zs.length c) (.slice A2 L.length k2) bv → Calls Tryz.prog 11 #[.agg (s.cells (.slice A2 L.length k2) bv)] W fun e w' => e = .returned (.bool (largeB L M)) ∧ Below W.heap.size W w') := fun W h => c_large s _ _ L M w.heap.size W h.low.size h.lns h.bls
  clear hn hc hv hm hB hb HP LD
  rw [h1] at KLG
  have t1 : decide ((100 : Int) < zs.length) = true := decide_eq_true (by omega)
  clear h1 h2
  generalize s.cells (.slice A2 L.length k2) bv = C4 at *
  go_enter Tryz.func4, Tryz.ntmps4
  go_upto_region 1 with fail
  rw [← e2, ← e1]
  clear e1 e2
  go_wp2_with (first
    | (refine o_load (by rfl) 38 _ rfl g rfl _ _ _ HM.out.b4 Tryz.underlying38 rfl S4.out ?_)
    | (go_at_call 11; (with_reducible refine (KLG.out _ HM.out).mono ?_); rintro e y ⟨rfl, hb⟩; replace HM := Lib.hid (HM.out.below hb); clear hb)
    | (go_at_call 10; (with_reducible refine (wakes_plan _ HM.out.both).mono ?_); rintro e y9 ⟨rfl, hb⟩; replace HM := Lib.hid (HM.out.below hb); clear hb))
  go_ret
  exact ⟨rfl, HM.out.low⟩
set_option maxRecDepth 20000 in
set_option maxHeartbeats 8000000 in
theorem asks_all (zs : List Int) (s : Sc) (day : Int) (L : List Ln) (M : List Bl) (pv lv bv : Value) (w : World) (hp : Ints w w.heap.size .i64 pv zs) (hv : Lns w w.heap.size lv L) (hm : Bls w w.heap.size bv M) (hs : s.Fit) (LD : Hid (Both w)) (h1 : largeB L M = false) (h2 : ¬ 100 < zs.length) : Calls Tryz.prog 4 #[pv, .agg (s.cells lv bv), .int .i64 day] w fun e w' => e = .returned (.bool true) ∧ Below w.heap.size w w' := by
  obtain ⟨A, c, rfl, hl, hn, hc⟩ := hp
  have HP : Hid (Ints w w.heap.size .i64 (.slice A zs.length c) zs) := ⟨A, c, rfl, hl, hn, hc⟩
  obtain ⟨A2, k2, rfl⟩ := hv.shape
  obtain ⟨g, wb, e1, e2, hB, hb⟩ := boxd_new w (s.cells (.slice A2 L.length k2) bv) 38
  have HM : Hid (Ma w wb g (s.cells (.slice A2 L.length k2) bv) zs L M (.slice A zs.length c) (.slice A2 L.length k2) bv) := ⟨hb, hB, LD.out.of hb, HP.out.below hb, hv.below hb, hm.below hb⟩
  have S4 := Lib.hid (sc_info s (.slice A2 L.length k2) bv)
  have KLG : Hid (∀ W, Ma w W g (s.cells (.slice A2 L.length k2) bv) zs L M (.slice A zs.length c) (.slice A2 L.length k2) bv → Calls Tryz.prog 11 #[.agg (s.cells (.slice A2 L.length k2) bv)] W fun e w' => e = .returned (.bool (largeB L M)) ∧ Below W.heap.size W w') := fun W h => c_large s _ _ L M w.heap.size W h.low.size h.lns h.bls
  clear hn hc hv hm hB hb HP LD
  rw [h1] at KLG
  have t1 : decide ((100 : Int) < zs.length) = false := decide_eq_false (by omega)
  have hN := (large_no h1).1
  have hN2 : L.length ≤ 1000 := by omega
  have KCP : Hid (∀ W, Ma w W g (s.cells (.slice A2 L.length k2) bv) zs L M (.slice A zs.length c) (.slice A2 L.length k2) bv → Calls Tryz.prog 12 #[.agg (s.cells (.slice A2 L.length k2) bv)] W fun e w' => ∃ lv' bv' M', e = .returned (.agg (s.cells lv' bv')) ∧ AlikeB M M' ∧ Took W.heap.size w' lv' L ∧ Cop W.heap.size w' bv' M' ∧ Below W.heap.size W w') := fun W h => c_cstate s L M _ _ w.heap.size W h.low.size h.lns h.bls hN2 (Nat.le_trans (large_no h1).2.1 (by decide)) (fun b hb => Nat.le_trans ((large_no h1).2.2 b hb) (by decide))
  have KAS : Hid (∀ pvc lv' bv' W, Ints W W.heap.size .i64 pvc zs → Lns W W.heap.size lv' L → Both W → Calls Tryz.prog 13 #[.agg #[.int .i64 5, pvc], .agg (s.cells lv' bv'), .int .i64 day] W fun e w' => ∃ Q, FitsA zs s day L Q ∧ Plan.AskTold (asksR zs s day L Q) W e w') := fun pvc lv' bv' W a1 a2 a3 => c_asks 5 zs s day L pvc lv' bv' W.heap.size W (Nat.le_refl _) a1 a2 hN2 hs.plan a3.1 a3.2
  have KRA : Hid (∀ Q W, FitsA zs s day L Q → Ma w W g (s.cells (.slice A2 L.length k2) bv) zs L M (.slice A zs.length c) (.slice A2 L.length k2) bv → Calls Tryz.prog 14 #[.agg #[.int .i64 5, .slice A zs.length c], .agg (s.cells (.slice A2 L.length k2) bv), .int .i64 day] W (AskedTold (asksR zs s day L Q) W)) := fun Q W hq h => r_asks 5 zs s day L _ _ bv w.heap.size W Q h.low.size h.poor h.lns hN2 hq
  have KST : Hid (∀ M' lv' bv' W, AlikeB M' M → Ma w W g (s.cells (.slice A2 L.length k2) bv) zs L M (.slice A zs.length c) (.slice A2 L.length k2) bv → Lns W W.heap.size lv' L → Bls W W.heap.size bv' M' → Calls Tryz.prog 17 #[.agg (s.cells lv' bv'), .agg (s.cells (.slice A2 L.length k2) bv)] W fun e w' => e = .returned (.bool true) ∧ Below W.heap.size W w') := fun M' lv' bv' W ha h a1 a2 => same_state s L M' M ha lv' _ bv' bv W.heap.size W (Nat.le_refl _) a1 (h.lns.more h.low.size) a2 ⟨h.bls.1.more h.low.size, fun b hb => (h.bls.2 b hb).more h.low.size⟩
  obtain ⟨iA, q1, q2, q3, q4⟩ := info_parts i64_zero
  have HIA := Lib.hid (And.intro q1 (And.intro q2 (And.intro q3 q4)))
  have hz : zs.length ≤ 100 := by omega
  clear h1 h2 hN2 hs q1 q2 q3 q4 hN
  generalize s.cells (.slice A2 L.length k2) bv = C4 at *
  go_enter Tryz.func4, Tryz.ntmps4
  go_upto_region 1 with fail
  rw [← e2, ← e1]
  clear e1 e2
  go_upto_region 4 with (first
    | (refine o_load (by rfl) 38 _ rfl g rfl _ _ _ HM.out.b4 Tryz.underlying38 rfl S4.out ?_)
    | (go_at_call 11; (with_reducible refine (KLG.out _ HM.out).mono ?_); rintro e y ⟨rfl, hb⟩; replace HM := Lib.hid (HM.out.below hb); clear hb)
    | (go_at_call 12; (refine (KCP.out _ HM.out).mono ?_); rintro e y2 ⟨lv', bv', M', rfl, ha, ht, hcp, hb⟩; replace HM := Lib.hid (HM.out.below hb); have HA := Lib.hid (alike_back ha); have HT := Lib.hid ht.lns; have HB := Lib.hid hcp.bls; have KAS1 := Lib.hid (fun pvc W => KAS.out pvc lv' bv' W); have KST1 := Lib.hid (fun W => KST.out M' lv' bv' W); obtain ⟨A7, c7, rfl⟩ := own_slice' ht; obtain ⟨A8, c8, rfl⟩ := own_slice' hcp.row; have HSD := Lib.hid (sc_info s (.slice A7 L.length c7) (.slice A8 M'.length c8)); have HOD := Lib.hid (sc_one s A7 A8 L.length c7 M'.length c8); have HZD : Hid (13 = (s.cells (.slice A7 L.length c7) (.slice A8 M'.length c8)).size) := (show _ = _ from rfl); clear hb ha ht hcp KAS KST KCP; generalize s.cells (.slice A7 L.length c7) (.slice A8 M'.length c8) = D at *)
    | (refine o_store rfl 38 _ _ rfl rfl y2.heap.size D rfl rfl _ _ (heap_alloc_last _ _) HSD.out HZD.out HOD.out ?_; intro z2 hr ho; have HCB := Lib.hid (below_one_of (below_one y2 _) ho (Nat.le_refl _) (below_one y2 _).size); replace HM := Lib.hid (HM.out.below HCB.out); have HC : Hid (Cpy z2 y2.heap.size D L M' (.slice A7 L.length c7) (.slice A8 M'.length c8)) := (show Cpy _ _ _ _ _ _ _ from ⟨hr, (HT.out.below HCB.out).more HCB.out.size, ⟨(HB.out.1.below HCB.out).more HCB.out.size, fun b hm => ((HB.out.2 b hm).below HCB.out).more HCB.out.size⟩⟩); clear hr ho HT HB))
  obtain ⟨g7, hg7⟩ : ∃ g7, g7 = y2.heap.size := ⟨_, rfl⟩
  rw [← hg7]
  rw [← hg7] at HC
  clear hg7
  replace HM := Lib.hid (HM.out.below (W' := z2.drew) (below_drawn (Below.refl _ _)))
  replace HC := Lib.hid (HC.out.below (W' := z2.drew) (below_drawn (Below.refl _ _)))
  have hS0 : Boxd z2.drew g7 D 38 := HC.out.box
  refine wp_region_held_drew (S := (fun W => Boxd W g7 D 38)) (by kernel_rfl) hS0 (fun hHeld => ?_)
  refine take_row 4 28 rfl rfl (by kernel_rfl) (by kernel_rfl) (by kernel_rfl) 38 _ rfl g7 rfl D _ Tryz.underlying38 rfl HSD.out (fun _ h => h) (fun _ _ _ h => h) (by rfl) (by assumption) ?_
  (try simp only [Act.put, List.setIfInBounds_toArray, List.set_cons_zero, List.set_cons_succ])
  refine ByHand.take_yes (v := ?_) 1 25 rfl rfl (by kernel_rfl) (by kernel_rfl) (by kernel_rfl) (fun _ _ _ h => h) (by rfl) ?_ (by assumption) ?_
  rotate_left
  · intro w' hSw
    (try dsimp only at hSw)
    go_simp
    all_goals with_reducible rfl
  (try simp only [Act.put, List.setIfInBounds_toArray, List.set_cons_zero, List.set_cons_succ])
  refine ByHand.take_yes (v := ?_) 5 29 rfl rfl (by kernel_rfl) (by kernel_rfl) (by kernel_rfl) (fun _ _ _ h => h) (by rfl) ?_ (by assumption) ?_
  rotate_left
  · intro w' hSw
    (try dsimp only at hSw)
    go_simp
    all_goals with_reducible rfl
  (try simp only [Act.put, List.setIfInBounds_toArray, List.set_cons_zero, List.set_cons_succ])
  refine wpAnyH_ready (rs := [0]) (by kernel_rfl) (by simp) (AllReadyH.cons rfl (fun K hK => ?_) AllReadyH.nil)
  refine step_empty (by rfl) 32 rfl 2 (lit_none _) ?_
  obtain ⟨y3, hy3⟩ : ∃ y, y = World.alloc z2.drew (.cells #[] 2) := ⟨_, rfl⟩
  have hb := below_one z2.drew (.cells #[] 2)
  rw [← hy3] at hb
  have HO : Hid (y3.ownsRow z2.drew.heap.size 2 1 (.slice (some ⟨z2.drew.heap.size, 0, none⟩) 0 0) 0 []) := (show World.ownsRow _ _ _ _ _ _ _ by rw [hy3]; exact World.ownsRow_made z2.drew #[] 0 (Nat.le_refl _) (by simp) (by simp))
  have HM0 := HM
  have HC0 := HC
  replace HM := Lib.hid (HM.out.below hb)
  replace HC := Lib.hid (HC.out.below hb)
  have HLE := Lib.hid hb.size
  have HLE2 := Lib.hid hb
  have hS1 : Boxd y3 g7 D 38 := HC.out.box
  rw [← hy3]
  clear hy3 hb
  refine hK.out _ _ ?_ (fun hHeld => ?_)
  · exact hS1
  clear hK K
  (try simp only [Act.put, List.setIfInBounds_toArray, List.set_cons_zero, List.set_cons_succ])
  refine wpAnyH_ready (rs := [2]) (by kernel_rfl) (by simp) (AllReadyH.cons rfl (fun K hK => ?_) AllReadyH.nil)
  refine step_ints (by rfl) (.tmp 24) (.tmp 25) _ rfl z2.drew.heap.size 2 iA (.int .i64 0) 8 Tryz.underlying32 HIA.out.1 HIA.out.2.1 HIA.out.2.2.1 HIA.out.2.2.2 rfl (.slice (some ⟨z2.drew.heap.size, 0, none⟩) 0 0) 0 [] (by rfl) HO.out w.heap.size .i64 (.slice A zs.length c) zs (by rfl) HM.out.poor (by unfold maxLen; omega) (by omega) HLE.out ?_
  intro v4 y4 hown hgrow
  rw [Nat.zero_add, List.nil_append] at hown
  have hb : Below z2.drew.heap.size z2.drew y4 := below_row HLE2.out (Nat.le_refl _) HO.out hgrow
  obtain ⟨A9, c9, rfl⟩ := own_slice' hown
  have HPC : Hid (Ints y4 y4.heap.size .i64 (.slice A9 zs.length c9) zs) := Slice.Ints.of_own (base := z2.drew.heap.size) (e := 2) (n := zs.length) rfl hown
  replace HM := Lib.hid (HM0.out.below hb)
  replace HC := Lib.hid (HC0.out.below hb)
  have hS2 : Boxd y4 g7 D 38 := HC.out.box
  clear hown hgrow hb HO HM0 HC0 HLE HLE2
  refine hK.out _ _ ?_ (fun hHeld => ?_)
  · exact hS2
  clear hK K
  (try simp only [Act.put, List.setIfInBounds_toArray, List.set_cons_zero, List.set_cons_succ])
  refine ByHand.take_yes (v := ?_) 3 27 rfl rfl (by kernel_rfl) (by kernel_rfl) (by kernel_rfl) (fun _ _ _ h => h) (by rfl) ?_ (by assumption) ?_
  rotate_left
  · intro w' hSw
    (try dsimp only at hSw)
    go_simp
    all_goals with_reducible rfl
  (try simp only [Act.put, List.setIfInBounds_toArray, List.set_cons_zero, List.set_cons_succ])
  refine wpAnyH_ready (rs := [6]) (by kernel_rfl) (by simp) (AllReadyH.cons rfl (fun K hK => ?_) AllReadyH.nil)
  go_simp
  refine (KAS1.out _ _ HPC.out HC.out.lns HM.out.both).mono ?_
  rintro e y5 ⟨Q, hQ, u1, u2, rfl, h3, h4, hb⟩
  replace HM := Lib.hid (HM.out.below hb)
  replace HC := Lib.hid (HC.out.below hb)
  have HQ := Lib.hid hQ
  have H1 := Lib.hid h3
  have H2 := Lib.hid h4
  obtain ⟨A5, c5, rfl, -⟩ := id h3
  obtain ⟨A6, c6, rfl, -⟩ := id h4
  clear hb hQ h3 h4
  have hS3 : Boxd y5 g7 D 38 := HC.out.box
  have KR1 := Lib.hid (fun W h => KRA.out Q W HQ.out h)
  clear KRA KAS1 HPC HQ
  generalize asksR zs s day L Q = R at *
  go_wp2_with fail
  refine hK.out _ _ ?_ (fun hHeld => ?_)
  · exact hS3
  clear hK K
  (try simp only [Act.put, List.setIfInBounds_toArray, List.set_cons_zero, List.set_cons_succ])
  refine ByHand.take_yes (v := ?_) 7 23 rfl rfl (by kernel_rfl) (by kernel_rfl) (by kernel_rfl) (fun _ _ _ h => h) (by rfl) ?_ (by assumption) ?_
  rotate_left
  · intro w' hSw
    (try dsimp only at hSw)
    go_simp
    all_goals with_reducible rfl
  (try simp only [Act.put, List.setIfInBounds_toArray, List.set_cons_zero, List.set_cons_succ])
  refine ByHand.take_yes (v := ?_) 8 31 rfl rfl (by kernel_rfl) (by kernel_rfl) (by kernel_rfl) (fun _ _ _ h => h) (by rfl) ?_ (by assumption) ?_
  rotate_left
  · intro w' hSw
    (try dsimp only at hSw)
    go_simp
    all_goals with_reducible rfl
  (try simp only [Act.put, List.setIfInBounds_toArray, List.set_cons_zero, List.set_cons_succ])
  refine ByHand.take_yes (v := ?_) 9 32 rfl rfl (by kernel_rfl) (by kernel_rfl) (by kernel_rfl) (fun _ _ _ h => h) (by rfl) ?_ (by assumption) ?_
  rotate_left
  · intro w' hSw
    (try dsimp only at hSw)
    go_simp
    all_goals with_reducible rfl
  (try simp only [Act.put, List.setIfInBounds_toArray, List.set_cons_zero, List.set_cons_succ])
  refine ByHand.take_yes (v := ?_) 10 33 rfl rfl (by kernel_rfl) (by kernel_rfl) (by kernel_rfl) (fun _ _ _ h => h) (by rfl) ?_ (by assumption) ?_
  rotate_left
  · intro w' hSw
    (try dsimp only at hSw)
    go_simp
    all_goals with_reducible rfl
  (try simp only [Act.put, List.setIfInBounds_toArray, List.set_cons_zero, List.set_cons_succ])
  refine ByHand.take_yes (v := ?_) 11 8 rfl rfl (by kernel_rfl) (by kernel_rfl) (by kernel_rfl) (fun _ _ _ h => h) (by rfl) ?_ (by assumption) ?_
  rotate_left
  · intro w' hSw
    (try dsimp only at hSw)
    go_simp
    all_goals with_reducible rfl
  (try simp only [Act.put, List.setIfInBounds_toArray, List.set_cons_zero, List.set_cons_succ])
  refine ByHand.take_yes (v := ?_) 12 9 rfl rfl (by kernel_rfl) (by kernel_rfl) (by kernel_rfl) (fun _ _ _ h => h) (by rfl) ?_ (by assumption) ?_
  rotate_left
  · intro w' hSw
    (try dsimp only at hSw)
    go_simp
    all_goals with_reducible rfl
  (try simp only [Act.put, List.setIfInBounds_toArray, List.set_cons_zero, List.set_cons_succ])
  refine ByHand.take_yes (v := ?_) 13 10 rfl rfl (by kernel_rfl) (by kernel_rfl) (by kernel_rfl) (fun _ _ _ h => h) (by rfl) ?_ (by assumption) ?_
  rotate_left
  · intro w' hSw
    (try dsimp only at hSw)
    go_simp
    all_goals with_reducible rfl
  (try simp only [Act.put, List.setIfInBounds_toArray, List.set_cons_zero, List.set_cons_succ])
  refine wpAnyH_done (by kernel_rfl) ?_ _
  go_upto_region 6 with (first
    | (refine o_load (by rfl) 38 _ rfl g rfl _ _ _ HM.out.b4 Tryz.underlying38 rfl S4.out ?_)
    | (go_at_call 14; (refine (KR1.out _ HM.out).mono ?_); rintro e y6 ⟨v1, v2, rfl, h5, h6, hb⟩; replace HM := Lib.hid (HM.out.below hb); replace HC := Lib.hid (HC.out.below hb); have H5 := Lib.hid h5; have H6 := Lib.hid h6; replace H1 := Lib.hid ((H1.out.below hb).more hb.size); replace H2 := Lib.hid ((H2.out.below hb).more hb.size); obtain ⟨B7, d7, rfl, -⟩ := id h5; obtain ⟨B8, d8, rfl, -⟩ := id h6; clear hb h5 h6)
    | (refine o_store rfl 47 _ _ rfl rfl y6.heap.size #[.slice B7 R.1.length d7, .slice B8 R.2.1.length d8] (by rfl) (by rfl) _ _ (heap_alloc_last _ _) (asked_info _ _) rfl (asked_one _ _ _ _ _ _) ?_; intro z6 hr ho; have hb := below_one_of (below_one y6 _) ho (Nat.le_refl _) (below_one y6 _).size; have H11 := Lib.hid hr; replace HM := Lib.hid (HM.out.below hb); replace HC := Lib.hid (HC.out.below hb); replace H1 := Lib.hid ((H1.out.below hb).more hb.size); replace H2 := Lib.hid ((H2.out.below hb).more hb.size); replace H5 := Lib.hid ((H5.out.below hb).more hb.size); replace H6 := Lib.hid ((H6.out.below hb).more hb.size); clear hr ho hb))
  obtain ⟨gb, hgb⟩ : ∃ g, g = y6.heap.size := ⟨_, rfl⟩
  rw [← hgb]
  rw [← hgb] at H11
  clear hgb KR1
  have c0 : z6.cell? ⟨gb, 0, none⟩ = some (.slice B7 R.1.length d7) := H11.out.cell
  have t2 : (R.2.2 == R.2.2) = true := by simp
  have KI := Lib.hid (fun W a1 a2 => Due.ints_same R.1 (.slice A5 R.1.length c5) (.slice B7 R.1.length d7) W.heap.size W a1 a2)
  have KL := Lib.hid (fun W a1 a2 => Money.longs_same R.2.1 (.slice A6 R.2.1.length c6) (.slice B8 R.2.1.length d8) W.heap.size W a1 a2)
  generalize R.2.2 = xe at *
  generalize R.1 = X at *
  generalize R.2.1 = Y at *
  go_wp2_with (first
    | (refine o_load (by rfl) 38 _ rfl g rfl _ _ _ HM.out.b4 Tryz.underlying38 rfl S4.out ?_)
    | (refine o_load (by rfl) 38 _ rfl g7 rfl _ _ _ HC.out.box Tryz.underlying38 rfl HSD.out ?_)
    | (go_at_call 15; (refine (KI.out _ H1.out H5.out).mono ?_); rintro e y7 ⟨rfl, n7, hw⟩; have hb : Below z6.heap.size z6 y7 := (by rw [hw]; exact below_drewN (Below.refl _ _) n7); replace HM := Lib.hid (HM.out.below hb); replace HC := Lib.hid (HC.out.below hb); replace H11 := Lib.hid (H11.out.below hb); replace H2 := Lib.hid ((H2.out.below hb).more hb.size); replace H6 := Lib.hid ((H6.out.below hb).more hb.size); clear hb hw; have c1 : y7.cell? ⟨gb, 1, none⟩ = some (.slice B8 Y.length d8) := H11.out.cell)
    | (go_at_call 16; (refine (KL.out _ H2.out H6.out).mono ?_); rintro e y8 ⟨rfl, n8, hw⟩; have hb : Below y7.heap.size y7 y8 := (by rw [hw]; exact below_drewN (Below.refl _ _) n8); replace HM := Lib.hid (HM.out.below hb); replace HC := Lib.hid (HC.out.below hb); clear hb hw)
    | (go_at_call 17; (refine (KST1.out _ HA.out HM.out HC.out.lns HC.out.bls).mono ?_); rintro e y10 ⟨rfl, hb⟩; replace HM := Lib.hid (HM.out.below hb); clear hb)
    | (go_at_call 10; (with_reducible refine (wakes_plan _ HM.out.both).mono ?_); rintro e y9 ⟨rfl, hb⟩; replace HM := Lib.hid (HM.out.below hb); clear hb))
  go_ret
  exact ⟨rfl, HM.out.low⟩
theorem asks_walk (zs : List Int) (s : Sc) (day : Int) (L : List Ln) (M : List Bl) (pv lv bv : Value) (w : World) (hp : Ints w w.heap.size .i64 pv zs) (hv : Lns w w.heap.size lv L) (hm : Bls w w.heap.size bv M) (hs : s.Fit) (LD : Hid (Both w)) : Calls Tryz.prog 4 #[pv, .agg (s.cells lv bv), .int .i64 day] w fun e w' => e = .returned (.bool true) ∧ Below w.heap.size w w' := by
  cases h1 : largeB L M with
  | true => exact asks_large zs s day L M pv lv bv w hp hv hm LD h1
  | false =>
    by_cases h2 : 100 < zs.length
    · exact asks_long zs s day L M pv lv bv w hp hv hm LD h1 h2
    · exact asks_all zs s day L M pv lv bv w hp hv hm hs LD h1 h2


set_option maxRecDepth 100000 in
theorem planAsks_lifted (os : Os) (started : os.Started) (H : Type) (enc : TypeId × Value → H) :
    ReturnsInHanded {} Tryz.checked os 4 .any (fun w args => (Rows.planAsksSpec.pre enc Tryz.prog Tryz.f4 Rows.planAsksRow.domain false w args ∧ laidMetH Tryz.prog Rows.planAsksRow.laid w) ∧ sizedMet enc Tryz.prog Tryz.f4 (OpenSpec.ofChange Rows.planAsksSpec) false w args) (Rows.planAsksSpec.post enc Tryz.prog Tryz.f4 false true false false) := by
  refine Door.law_lifted (C := Tryz.checked) (tb := 4) (by kernel_rfl) started (by kernel_rfl) Tryz.func4
    (ChangeSpec.witness_shaped (enc := enc) (C := Tryz.checked) (os := os) (X := fun w _ => laidMetH Tryz.prog Rows.planAsksRow.laid w) false (World.laidAll Tryz.prog os Rows.planAsksRow.laid) #[Value.slice none 0 0, Value.agg #[.int .i64 0, .slice none 0 0, .int .i64 0, .int .i64 0, .int .i64 0, .int .i64 0, .slice none 0 0, .int .i64 0, .int .i64 0, .int .i64 0, .int .i64 0, .int .i64 0, .int .i64 0], .int .i64 0] 8 (World.laidAll_os _ _ _)
      (World.shaped_of_ZipB (by kernel_rfl) (by kernel_rfl)) (by kernel_rfl) (by kernel_rfl) (by kernel_rfl)
      (by rw [MakeChecks.laidMetH_plain _ _ _ (by kernel_rfl)]; exact laidMet_laidAll _ (by kernel_rfl) (by kernel_rfl)))
    (by kernel_rfl) (by kernel_rfl) rfl rfl Tryz.underlying4 ?_
  intro W base args ds p hval0 hA0 hL
  have hval : ∀ (j : Nat) t v, Tryz.f4.params[j]? = some t → args[j]? = some v → Value.okWide Tryz.prog W .any base t v := hval0
  have hA : DataW.TrodAll enc Tryz.prog W 0 (fun _ => true) true Tryz.f4.params.toList args.toList ds p := hA0
  clear hval0 hA0
  rw [MakeChecks.laidMetH_plain _ _ _ (by kernel_rfl)] at hL
  rw [Tryz.params4] at hA hval
  obtain ⟨v0, vs0, d0, ds0, p0, q0, hargs, rfl, rfl, h0, r0⟩ := trodAll_cons hA
  obtain ⟨v1, vs1, d1, ds1, p1, q1, rfl, rfl, rfl, h1, r1⟩ := trodAll_cons r0
  obtain ⟨v2, vs2, d2, ds2, p2, q2, rfl, rfl, rfl, h2, r2⟩ := trodAll_cons r1
  obtain ⟨rfl, rfl, rfl⟩ := trodAll_nil r2
  obtain rfl : args = #[v0, v1, v2] := by cases args; simp_all
  refine ⟨rfl, ?_⟩
  obtain ⟨zs, hzs, -⟩ := Slice.open_slice Tryz.underlying32 Tryz.underlying2 (by kernel_rfl) (hval 0 32 v0 rfl rfl) h0
  obtain ⟨s, lv, bv, L, M, rfl, hs, hv, hm⟩ := open_state (hval 1 38 v1 rfl rfl) h1
  obtain ⟨day, rfl, -, -, g2⟩ := open_int Tryz.underlying3 (hval 2 3 v2 rfl rfl) h2
  have LD : Hid (Both W) := ⟨Date.laid_of hL (by exact List.mem_cons_self ..), Step.laid_of hL (by exact List.mem_cons_of_mem _ (List.mem_cons_self ..))⟩
  exact asks_walk zs s day L M v0 lv bv W hzs hv hm hs LD

theorem planAsks_over : Rows.planAsksRow.holds Tryz.pinned (OpenSpec.ofChange Rows.planAsksSpec) :=
  OpenClaim.holds_of_wide 4 Tryz.f4 rfl rfl rfl rfl rfl rfl rfl ⟨rfl, rfl, rfl, rfl, rfl⟩ rfl rfl rfl rfl rfl (by kernel_rfl) Tryz.func4 (by kernel_rfl)
    (of_decide_eq_true (by kernel_rfl)) (by unfold Func.isWrapper; first | (rw [if_pos (by decide +kernel)]; kernel_rfl) | (rw [if_neg (by decide +kernel)]; exact ⟨rfl, rfl⟩))
    (fun os st H enc _ => planAsks_lifted os st H enc)

/-- The statement: the card. -/
theorem planAsks_proved : Rows.PlanAsksCardSaid :=
  Claim7.holds_tied_plain_at .later [] [.data, .data] true Rows.planAsksCard.stood.harness true
    planAsks_over (fun _ h => by cases h) (by kernel_rfl) (fun _ h => by cases h) planAsks_row_tie rfl ⟨rfl, rfl⟩ (by kernel_rfl) rfl
    (fun f fn hf hfn => by
      obtain rfl : f = 4 := Option.some.inj ((show Tryz.prog.funcNamed "annuity/annuitylaw18.PlanAsks" = some 4 by kernel_rfl).symm.trans hf) |>.symm
      obtain rfl : fn = Tryz.f4 := (Option.some.inj (Tryz.func4.symm.trans hfn)).symm
      exact ⟨by kernel_rfl, fun j t ht => by
        have hall : (Tryz.f4.params.toList.all fun u => !Tryz.prog.wantsStandIn u) = true := by kernel_rfl
        exact (show Tryz.prog.wantsStandIn t = false by simpa using List.all_eq_true.1 hall t (Array.mem_def.1 (Array.mem_of_getElem? ht)))⟩)
    (by kernel_rfl)
end Go.Proofs.YtkddiaiohnbjpaaGreatDoor.Law
