/- Of layer 18: a state's copy, in new memory. -/
import Derived.Test.YtkddiaiohnbjpaaGreatDoorKeepSame
import Derived.Test.YtkddiaiohnbjpaaGreatDoorGrow
import Derived.Test.YtkddiaiohnbjpaaGreatDoorPlanC8
import Derived.Deep.Onto
namespace Go.Proofs.YtkddiaiohnbjpaaGreatDoor.Plan
open Go.ChangeShapes Go.WideShapes Go.ChangeAt Go.RowKit Loan Money Box Rws Slice
set_option linter.unusedSimpArgs false

theorem own_one {w w' : World} {g base n size : Nat} {e : TypeId} {v : Value} {xs : List Value} (h : w.ownsRow base e size v n xs) (ho : One g w w') (hg : g < base) : w'.ownsRow base e size v n xs :=
  h.kept ⟨ho.os, ho.tape, ho.output, ho.size, fun k hk hn => ho.block k hk (fun e => hn (by rw [e]))⟩ (by
    cases q : v.ownBlock with
    | none => exact Or.inl rfl
    | some k => exact Or.inr fun q' => by injection q' with q'; have := (h.lt k q).1; omega)
theorem own_far {w : World} {base base' n n' s s' : Nat} {e e' : TypeId} {v v' : Value} {xs xs' : List Value} (h : w.ownsRow base e s v n xs) (h' : w.ownsRow base' e' s' v' n' xs') (hne : e ≠ e') : v.ownBlock = none ∨ v.ownBlock ≠ v'.ownBlock := by
  rcases h.2 with ⟨rfl, -⟩ | ⟨g, cap, cur, rfl, -, hh, -⟩
  · exact Or.inl rfl
  · refine Or.inr fun q => ?_
    rcases h'.2 with ⟨rfl, -⟩ | ⟨g', cap', cur', rfl, -, hh', -⟩
    · cases q
    · injection q with q
      have q : g = g' := q
      subst q
      rw [hh] at hh'
      injection hh' with hh'
      injection hh' with _ hh'
      exact hne hh'
def flatB (M : List Bl) : List Value := M.flatMap fun x => x.cells.toList
/-- A row of bills, and their ids' rows, all of them made behind block B. -/
structure Cop (B : Nat) (W : World) (u : Value) (M : List Bl) : Prop where
  row : W.ownsRow B 66 6 u M.length (flatB M)
  ids : ∀ b ∈ M, W.ownsRow B 3 1 b.v b.ids.length (b.ids.map (Value.int .i64))
section
variable {B : Nat} {W W' : World} {u : Value} {M : List Bl}
theorem Cop.nil_ (B : Nat) (W : World) : Cop B W (.slice none 0 0) [] := ⟨World.ownsRow_nil _ _ _ _, fun b h => by cases h⟩
theorem Cop.below (h : Cop B W u M) (hb : Below W.heap.size W W') : Cop B W' u M := ⟨own_below h.row hb, fun b hm => own_below (h.ids b hm) hb⟩
theorem Cop.one {g : Nat} (h : Cop B W u M) (ho : One g W W') (hg : g < B) : Cop B W' u M := ⟨own_one h.row ho hg, fun b hm => own_one (h.ids b hm) ho hg⟩
theorem Cop.bls (h : Cop B W u M) : Bls W W.heap.size u M := ⟨Rws.of_own bl_len rfl h.row, fun b hm => Ints.of_own (n := b.ids.length) rfl (h.ids b hm)⟩
theorem bill_ne : (3 : TypeId) ≠ 66 := by decide
theorem Cop.more (h : Cop B W u M) {x : Bl} {v u' : Value} (hi : W.ownsRow B 3 1 v x.ids.length (x.ids.map (Value.int .i64))) (ho : W'.ownsRow B 66 6 u' (M.length + 1) (flatB M ++ ({ x with v := v } : Bl).cells.toList)) (hg : W.grownBy W' u.ownBlock) : Cop B W' u' (M ++ [{ x with v := v }]) := by
  refine ⟨?_, fun b hm => ?_⟩
  · unfold flatB at ho ⊢
    rw [List.length_append, List.flatMap_append]
    simpa using ho
  · rcases List.mem_append.1 hm with hm | hm
    · exact (h.ids b hm).kept hg (own_far (h.ids b hm) h.row bill_ne)
    · obtain rfl := List.mem_singleton.1 hm
      exact hi.kept hg (own_far hi h.row bill_ne)
end
theorem AlikeB.snoc {M M' : List Bl} {j : Nat} {x : Bl} (v : Value) (h : AlikeB (M.take j) M') (hx : M[j]? = some x) : AlikeB (M.take (j + 1)) (M' ++ [{ x with v := v }]) := by
  have hj : j < M.length := (List.getElem?_eq_some_iff.1 hx).1
  have hl : M'.length = j := by rw [h.1, List.length_take]; omega
  refine ⟨by rw [List.length_append, hl, List.length_take]; simp; omega, fun i y hy => ?_⟩
  have hij : i < j + 1 := by
    have := (List.getElem?_eq_some_iff.1 hy).1
    rw [List.length_take] at this
    omega
  rw [List.getElem?_take_of_lt hij] at hy
  by_cases e : i = j
  · subst e
    rw [hx] at hy
    obtain rfl := Option.some.inj hy
    exact ⟨v, by rw [List.getElem?_append_right (by omega), hl, Nat.sub_self]; rfl⟩
  · obtain ⟨v', hv⟩ := h.2 i y (by rw [List.getElem?_take_of_lt (by omega)]; exact hy)
    exact ⟨v', by rw [List.getElem?_append_left (by omega)]; exact hv⟩
theorem bill_zero : (Tryz.prog.info? 66).map (fun i => (i.zero, i.size, i.bytes)) = some (some (.agg bl0.cells), 6, 64) := by kernel_rfl
theorem run_bill (x : Bl) (w : World) : (Instr.buildSlice 34 1 #[(0, .agg x.cells)]).run Tryz.prog w = .ok (.slice (some ⟨w.heap.size, 0, none⟩) 1 1) (w.alloc (.cells x.cells 66)) := by kernel_rfl
theorem bl_one (b : Bl) {A : Option Addr} {n c : Nat} (h : b.v = .slice A n c) : b.cells.all (·.oneCell') = true := by
  unfold Bl.cells
  rw [h]
  simp [Value.oneCell']
theorem slots_one {t : TypeId} (h : (Tryz.prog.info? t).map (·.size) = some 1) : (Tryz.prog.info? t).map (·.size) = some 1 := h
theorem new_own (w : World) {c : Nat} : ∀ g, (Value.slice (some ⟨w.heap.size, 0, none⟩) 0 c).ownBlock = some g → w.heap.size ≤ g := fun g hg => by
  have e : w.heap.size = g := by simpa [Value.ownBlock] using hg
  omega
set_option maxRecDepth 20000 in
set_option maxHeartbeats 4000000 in
theorem c_cloans (L : List Ln) (v : Value) (B : Nat) (w : World) (hB : B ≤ w.heap.size) (hv : Lns w B v L) (hN : L.length ≤ 1000) : Calls Tryz.prog 30 #[v] w fun e w' => ∃ u, e = .returned u ∧ Took w.heap.size w' u L ∧ Below w.heap.size w w' := by
  have HV := Lib.hid hv
  have HB := Lib.hid hB
  obtain ⟨A, k, rfl⟩ := hv.shape
  obtain ⟨i0, hi0, hz0, hz1, hz2⟩ := info_parts ln_zero
  have HI := Lib.hid (And.intro hi0 (And.intro hz0 (And.intro hz1 hz2)))
  clear hi0 hz0 hz1 hz2
  clear hv hB
  go_enter Tryz.func30, Tryz.ntmps30
  go_wp2_with (first
    | (at_builtin; refine wpList_append_rws rfl (.tmp 3) (.tmp 4) _ rfl w.heap.size 23 i0 (.agg ln0.cells) 104 Tryz.underlying33 HI.out.1 HI.out.2.1 HI.out.2.2.1 HI.out.2.2.2 rfl (by omega) ln_len ln_one (.slice (some ⟨w.heap.size, 0, none⟩) 0 0) 0 [] rfl (World.ownsRow_made w #[] 0 (Nat.le_refl _) (by simp) (by simp)) B (.slice A L.length k) L rfl (HV.out.alloc HB.out _) (by unfold maxLen; omega) (by omega) (by simp) ?_; intro v3 w3 hown hgrow; rw [Nat.zero_add, List.nil_append] at hown; have HT : Hid (Took w.heap.size w3 v3 L) := hown; obtain ⟨A3, c3, rfl⟩ := own_slice' hown; have HY : Hid (Below w.heap.size w w3) := (show Below _ _ _ from (below_one _ _).grown hgrow (below_one _ _).size (new_own w)); clear hown hgrow))
  go_ret
  exact ⟨_, rfl, HT.out, HY.out⟩
set_option maxRecDepth 20000 in
set_option maxHeartbeats 4000000 in
theorem c_cbills (M : List Bl) (v : Value) (B : Nat) (w : World) (hB : B ≤ w.heap.size) (hv : Bls w B v M) (hN : M.length ≤ 1000) (hI : ∀ b ∈ M, b.ids.length ≤ 1000) : Calls Tryz.prog 31 #[v] w fun e w' => ∃ u M', e = .returned u ∧ AlikeB M M' ∧ Cop w.heap.size w' u M' ∧ Below w.heap.size w w' := by
  obtain ⟨A, k, rfl⟩ := hv.1.shape
  have HV := Lib.hid hv
  have HB := Lib.hid hB
  have HNI := Lib.hid hI
  obtain ⟨iB, hi0, hz0, hz1, hz2⟩ := info_parts bill_zero
  have HIB := Lib.hid (And.intro hi0 (And.intro hz0 (And.intro hz1 hz2)))
  clear hi0 hz0 hz1 hz2
  obtain ⟨iI, hi0, hz0, hz1, hz2⟩ := info_parts int_zero
  have HII := Lib.hid (And.intro hi0 (And.intro hz0 (And.intro hz1 hz2)))
  clear hi0 hz0 hz1 hz2 hv hB hI
  go_enter Tryz.func31, Tryz.ntmps31
  go_wp2_with fail
  go_loopw [3, 4] (fun u t wr => ∃ (j : Nat) (M' : List Bl), j ≤ M.length ∧ t = .int .i64 j ∧ Hid (AlikeB (M.take j) M' ∧ Cop w.heap.size wr u M' ∧ Below w.heap.size w wr)) (fun _ t _ => M.length - (intOf t).toNat)
  case atStart => exact ⟨0, [], Nat.zero_le _, rfl, ⟨by simp, fun i x h => by simp at h⟩, Cop.nil_ _ _, Below.refl _ _⟩
  case round =>
    obtain ⟨j, M', hj, rfl, HX⟩ := hrel

    obtain ⟨A5, c5, rfl⟩ := own_slice' HX.out.2.1.row
    have hM' : M'.length ≤ 1000 := by rw [HX.out.1.1, List.length_take]; omega
    by_cases hlt : j < M.length
    · obtain ⟨b, off, k', e0, hb, -⟩ := HV.out.1.open (by omega)
      injection e0 with e0 _ e2
      subst e0 e2
      obtain ⟨x, hx⟩ : ∃ x, M[j]? = some x := ⟨_, List.getElem?_eq_getElem hlt⟩
      have hmem := List.mem_of_getElem? hx
      have hix := HV.out.2 x hmem
      have hn : x.ids.length ≤ 1000 := HNI.out x hmem
      obtain ⟨Ax, cx, hxv, -⟩ := id hix
      have HR : Hid (wr.rangeAt b (off + j * 6) x.cells.toList) := range_keep (HV.out.1.at_ hx) (HX.out.2.2.mono HB.out) hb
      have HS := Lib.hid (bl_info' x)
      have HSA := Lib.hid (bl_info x)
      have HZA : Hid (6 = x.cells.size) := show _ = _ from rfl
      have HOA := Lib.hid (bl_one x hxv)
      have X5 : Hid (x.cells[5]? = some (.slice Ax x.ids.length cx)) := (show _ = _ by rw [← hxv]; rfl)
      have HIX : Hid (∀ W, Below wr.heap.size wr W → Ints W B .i64 (.slice Ax x.ids.length cx) x.ids) := fun W h => by
        rw [← hxv]
        exact hix.below ((below_to HX.out.2.2 h).mono HB.out)
      have KS : Hid (∀ (v : Value) (W : World), (Instr.buildSlice 34 1 #[(0, .agg (x.cells.setIfInBounds 5 v))]).run Tryz.prog W = .ok (.slice (some ⟨W.heap.size, 0, none⟩) 1 1) (W.alloc (.cells (x.cells.setIfInBounds 5 v) 66))) := fun v W => run_bill { x with v := v } W
      have HSD : Hid (∀ v : Value, (Tryz.prog.info? 66).map (·.size) = some (x.cells.setIfInBounds 5 v).size) := fun v => bl_info { x with v := v }
      have HLD : Hid (∀ v : Value, (x.cells.setIfInBounds 5 v).toList.length = 6) := fun v => bl_len { x with v := v }
      have HOD : Hid (∀ (A : Option Addr) (n c : Nat), (x.cells.setIfInBounds 5 (.slice A n c)).all (·.oneCell') = true) := fun A n c => bl_one { x with v := .slice A n c } rfl
      obtain ⟨N, hNN⟩ : ∃ N : Value → Bl, N = fun v => { x with v := v } := ⟨_, rfl⟩
      have HSN : Hid (∀ v, AlikeB (M.take (j + 1)) (M' ++ [N v])) := fun v => by rw [hNN]; exact HX.out.1.snoc v hx
      have KM : Hid (∀ (A : Option Addr) (c : Nat) {W W' : World} {u u' : Value}, Cop w.heap.size W u M' → W.ownsRow w.heap.size 3 1 (.slice A x.ids.length c) x.ids.length (x.ids.map (Value.int .i64)) → W'.ownsRow w.heap.size 66 6 u' (M'.length + 1) (flatB M' ++ (x.cells.setIfInBounds 5 (.slice A x.ids.length c)).toList) → W.grownBy W' u.ownBlock → Cop w.heap.size W' u' (M' ++ [N (.slice A x.ids.length c)])) := fun A c {_ _ _ _} h1 h2 h3 h4 => by rw [hNN]; exact h1.more h2 h3 h4
      clear hx hmem hix hxv hNN
      generalize x.cells = C at *
      generalize x.ids = ids at *
      go_upto_region 5 with fail
      go_upto_region 6 with (first
        | (refine load_mid_want (by rfl) 66 _ rfl _ _ rfl C _ HR.out Tryz.underlying66 rfl HS.out ?_)
        | (refine o_store rfl 66 _ _ rfl rfl wr.heap.size C rfl rfl _ _ (heap_alloc_last _ _) HSA.out HZA.out HOA.out ?_; intro z1 hr ho; have HC := Lib.hid hr; have HZ1 : Hid (Below wr.heap.size wr z1) := (show Below _ _ _ from below_one_of (below_one _ _) ho (Nat.le_refl _) (below_one wr _).size); clear hr ho))
      have c5' := HC.out.cell (i := 5)
      rw [X5.out] at c5'
      have hlz := HC.out.lt
      have c6' : (z1.alloc (.cells #[] 3)).cell? ⟨wr.heap.size, 5, none⟩ = some (.slice Ax ids.length cx) := (World.cell?_alloc_lt (a := ⟨wr.heap.size, 5, none⟩) _ _ hlz).trans c5'
      go_upto_region 7 with (first
        | (at_builtin; refine Slice.wpList_append_ints rfl (.tmp 16) (.tmp 18) _ rfl z1.heap.size 3 iI (.int .i64 0) 8 Tryz.underlying41 HII.out.1 HII.out.2.1 HII.out.2.2.1 HII.out.2.2.2 rfl (.slice (some ⟨z1.heap.size, 0, none⟩) 0 0) 0 [] rfl (World.ownsRow_made z1 #[] 0 (Nat.le_refl _) (by simp) (by simp)) B .i64 (.slice Ax ids.length cx) ids rfl (HIX.out _ (below_to HZ1.out (below_one _ _))) (by unfold maxLen; omega) (by omega) (by simp) ?_; intro v3 w3 hown hgrow; rw [Nat.zero_add, List.nil_append] at hown; have HI3 : Hid (w3.ownsRow z1.heap.size 3 1 v3 ids.length (ids.map (Value.int .i64))) := hown; have HB3 : Hid (Below z1.heap.size z1 w3) := (show Below _ _ _ from (below_one _ _).grown hgrow (below_one _ _).size (new_own z1)); obtain ⟨A6, c6, rfl⟩ := own_slice' hown; clear hown hgrow)
        | (refine o_put rfl 41 _ _ rfl rfl wr.heap.size 5 (.slice A6 ids.length c6) rfl rfl rfl 66 C (HC.out.below HB3.out) (by rw [← HZA.out]; decide) ints_one ?_; intro z4 hr ho; obtain ⟨D, hD⟩ : ∃ D, D = C.setIfInBounds 5 (.slice A6 ids.length c6) := ⟨_, rfl⟩; rw [← hD] at hr; have HD := Lib.hid hD; clear hD; have KS1 := Lib.hid (fun W => KS.out (.slice A6 ids.length c6) W); have HSD1 := Lib.hid (HSD.out (.slice A6 ids.length c6)); have HLD1 := Lib.hid (HLD.out (.slice A6 ids.length c6)); have HOD1 := Lib.hid (HOD.out A6 ids.length c6); rw [← HD.out] at KS1 HSD1 HLD1 HOD1; have HB4 := Lib.hid hr; have HI4 : Hid (z4.ownsRow w.heap.size 3 1 (.slice A6 ids.length c6) ids.length (ids.map (Value.int .i64))) := (show World.ownsRow _ _ _ _ _ _ _ from (own_one HI3.out ho HC.out.lt).mono (Nat.le_trans HX.out.2.2.size HZ1.out.size)); have HZ4 : Hid (Below wr.heap.size wr z4) := (show Below _ _ _ from below_one_of (below_to HZ1.out HB3.out) ho (Nat.le_refl _) (below_to HZ1.out HB3.out).size); clear hr ho))
      clear c5' c6' hlz
      go_wp2_with (first
        | (refine o_load (by rfl) 66 _ rfl wr.heap.size rfl _ _ _ HB4.out Tryz.underlying66 rfl HSD1.out ?_)
        | (refine wpList_slice (by rfl) _ _ _ rfl _ _ (by simp [Act.eval, Act.put]) (KS1.out _) ?_)
        | (at_builtin; refine wpList_append_row (by rfl) _ _ _ rfl w.heap.size 66 iB _ 6 64 Tryz.underlying34 HIB.out.1 HIB.out.2.1 HIB.out.2.2.1 HIB.out.2.2.2 rfl (by omega) _ _ D HLD1.out HOD1.out (.slice A5 M'.length c5) M'.length (flatB M') (by rfl) (HX.out.2.1.below HZ4.out).row z4.heap.size (by rfl) rfl (by unfold maxLen; omega) (by omega) (Nat.le_trans HX.out.2.2.size HZ4.out.size) ?_; intro v5 w5 hown hgrow; rw [HD.out] at hown; have HZ5 : Hid (Cop w.heap.size w5 v5 (M' ++ [N (.slice A6 ids.length c6)]) ∧ Below w.heap.size w w5) := (show _ ∧ _ from ⟨KM.out _ _ (HX.out.2.1.below HZ4.out) HI4.out hown hgrow, below_row (below_to HX.out.2.2 HZ4.out) (Nat.le_refl _) (HX.out.2.1.below HZ4.out).row hgrow⟩); obtain ⟨A7, c7, rfl⟩ := own_slice' hown; clear hown hgrow))
      go_roundw
      case rel => exact ⟨j + 1, _, by omega, rfl, HSN.out _, HZ5.out.1, HZ5.out.2⟩
      case measure => simp [intOf]; omega
    · obtain rfl : j = M.length := by omega
      have HA := Lib.hid HX.out.1
      rw [List.take_length] at HA
      go_wp2_with fail
      go_ret
      exact ⟨_, M', rfl, HA.out, HX.out.2.1, HX.out.2.2⟩
theorem lns_one' : (Tryz.prog.info? 33).map (·.size) = some 1 := by kernel_rfl
theorem bls_one' : (Tryz.prog.info? 34).map (·.size) = some 1 := by kernel_rfl
theorem sc_one (s : Sc) (A A' : Option Addr) (n c n' c' : Nat) : (s.cells (.slice A n c) (.slice A' n' c')).all (·.oneCell') = true := by simp [Sc.cells, Value.oneCell']
set_option maxRecDepth 20000 in
set_option maxHeartbeats 4000000 in
theorem c_cstate (s : Sc) (L : List Ln) (M : List Bl) (lv bv : Value) (B : Nat) (w : World) (hB0 : B ≤ w.heap.size) (hv : Lns w B lv L) (hm : Bls w B bv M) (hN : L.length ≤ 1000) (hN2 : M.length ≤ 1000) (hI : ∀ b ∈ M, b.ids.length ≤ 1000) : Calls Tryz.prog 12 #[.agg (s.cells lv bv)] w fun e w' => ∃ lv' bv' M', e = .returned (.agg (s.cells lv' bv')) ∧ AlikeB M M' ∧ Took w.heap.size w' lv' L ∧ Cop w.heap.size w' bv' M' ∧ Below w.heap.size w w' := by
  have KL := Lib.hid (fun W g h => c_cloans L lv B W g h hN)
  have KB := Lib.hid (fun W g h => c_cbills M bv B W g h hN2 hI)
  obtain ⟨A1, k1, rfl⟩ := hv.shape
  obtain ⟨A2, k2, rfl⟩ := hm.1.shape
  have HL := Lib.hid hv
  have HM := Lib.hid hm
  have HB := Lib.hid hB0
  obtain ⟨g1, w0, e0, f0, hB, hb⟩ := boxd_new w (s.cells (.slice A1 L.length k1) (.slice A2 M.length k2)) 38
  obtain ⟨g2, z0, e1, f1, hK, hb2⟩ := boxd_new w0 #[.int .i64 0, .slice none 0 0, .int .i64 0, .int .i64 0, .int .i64 0, .int .i64 0, .slice none 0 0, .int .i64 0, .int .i64 0, .int .i64 0, .int .i64 0, .int .i64 0, .int .i64 0] 38
  have b1 : g2 = g1 + 1 := by rw [e1, f0, Deep.nblk_alloc, ← e0]
  have HB1 := Lib.hid (hB.below hb2)
  have HB2 := Lib.hid hK
  have HW : Hid (Below w.heap.size w z0) := below_to hb hb2
  have HG1 : Hid (g1 < z0.drew.heap.size) := HB1.out.lt
  have HGW : Hid (w.heap.size ≤ g1) := (show _ ≤ _ by rw [e0]; exact Nat.le_refl _)
  have HG2 : Hid (w.heap.size ≤ g2) := (show _ ≤ _ by rw [b1, e0]; omega)
  have HG2L : Hid (g2 < z0.drew.heap.size) := HB2.out.lt
  have HNE : Hid (¬ g2 = g1) := (show ¬ _ by rw [b1]; omega)
  have HNF : Hid (¬ g1 = g2) := (show ¬ _ by rw [b1]; omega)
  have X1 : Hid ((s.cells (.slice A1 L.length k1) (.slice A2 M.length k2))[1]? = some (.slice A1 L.length k1)) := show _ = _ from rfl
  have X6 : Hid ((s.cells (.slice A1 L.length k1) (.slice A2 M.length k2))[6]? = some (.slice A2 M.length k2)) := show _ = _ from rfl
  have HSI := Lib.hid (fun lv bv => sc_info s lv bv)
  have HDD : Hid (∀ u1 u2 : Value, ((s.cells (.slice A1 L.length k1) (.slice A2 M.length k2)).setIfInBounds 1 u1).setIfInBounds 6 u2 = s.cells u1 u2) := fun _ _ => rfl
  clear hv hm hB0 hB hK hb hb2
  go_enter Tryz.func12, Tryz.ntmps12
  go_upto_region 1 with fail
  rw [← f0, ← e0, ← b1, ← f1]
  clear f0 e0 e1 b1 f1
  have hS0 : z0.drew.cell? ⟨g1, 1, none⟩ = some (.slice A1 L.length k1) ∧ z0.drew.cell? ⟨g1, 6, none⟩ = some (.slice A2 M.length k2) := ⟨HB1.out.cell.trans X1.out, HB1.out.cell.trans X6.out⟩
  have HB2 := Lib.hid (HB2.out.below (w' := z0.drew) (below_drawn (Below.refl _ _)))
  have HWD : Hid (Below w.heap.size w z0.drew) := below_drawn HW.out
  replace HB1 := Lib.hid (HB1.out.below (w' := z0.drew) (below_drawn (Below.refl _ _)))
  refine Till.start (fun W => W.cell? ⟨g1, 1, none⟩ = some (.slice A1 L.length k1) ∧ W.cell? ⟨g1, 6, none⟩ = some (.slice A2 M.length k2)) 7 (by kernel_rfl) ?_
  refine Till.take_free (v := ?_) 0 3 rfl rfl (by kernel_rfl) (by kernel_rfl) (by kernel_rfl) (fun _ _ _ h => h) (by rfl) (by kernel_rfl) ?_ (fun _ => by assumption) ?_
  rotate_left
  · intro w'
    go_simp
    all_goals with_reducible rfl
  (try simp only [Act.put, List.setIfInBounds_toArray, List.set_cons_zero, List.set_cons_succ])
  refine Till.take_chain (v := ?_) 1 4 [2, 7] rfl rfl (by kernel_rfl) (by kernel_rfl) (by kernel_rfl) (fun _ _ _ h => h) (by rfl) (by kernel_rfl) (by kernel_rfl) (by kernel_rfl) ?_ (fun _ => by assumption) ?_
  rotate_left
  · intro w' hSw
    (try dsimp only at hSw)
    go_simp
    all_goals with_reducible rfl
  (try simp only [Act.put, List.setIfInBounds_toArray, List.set_cons_zero, List.set_cons_succ])
  refine Till.take_free (v := ?_) 3 6 rfl rfl (by kernel_rfl) (by kernel_rfl) (by kernel_rfl) (fun _ _ _ h => h) (by rfl) (by kernel_rfl) ?_ (fun _ => by assumption) ?_
  rotate_left
  · intro w'
    go_simp
    all_goals with_reducible rfl
  (try simp only [Act.put, List.setIfInBounds_toArray, List.set_cons_zero, List.set_cons_succ])
  refine Till.take_chain (v := ?_) 4 7 [5, 7] rfl rfl (by kernel_rfl) (by kernel_rfl) (by kernel_rfl) (fun _ _ _ h => h) (by rfl) (by kernel_rfl) (by kernel_rfl) (by kernel_rfl) ?_ (fun _ => by assumption) ?_
  rotate_left
  · intro w' hSw
    (try dsimp only at hSw)
    go_simp
    all_goals with_reducible rfl
  (try simp only [Act.put, List.setIfInBounds_toArray, List.set_cons_zero, List.set_cons_succ])
  refine Till.goes_next (rs := [2]) (by kernel_rfl) (by simp) (Till.Next.cons rfl (fun K hK => ?_) (Till.Next.nil))
  go_simp
  refine (KL.out _ (Nat.le_trans HB.out HWD.out.size) (HL.out.below (HWD.out.mono HB.out))).mono ?_
  rintro e y1 ⟨u1, rfl, h1, hb⟩
  have HT := Lib.hid h1
  replace HWD := Lib.hid (below_to HWD.out hb)
  have HY1 := Lib.hid hb
  replace HB1 := Lib.hid (HB1.out.below hb)
  replace HB2 := Lib.hid (HB2.out.below hb)
  obtain ⟨A3, c3, rfl⟩ := own_slice' h1
  clear h1 hb
  have hSy1 := (show y1.cell? ⟨g1, 1, none⟩ = some (.slice A1 L.length k1) ∧ y1.cell? ⟨g1, 6, none⟩ = some (.slice A2 M.length k2) from ⟨(HB1.out.cell (i := 1)).trans X1.out, (HB1.out.cell (i := 6)).trans X6.out⟩)
  go_wp2_with fail
  refine hK.out _ _ (fun _ => hSy1) ?_
  clear hK K
  (try simp only [Act.put, List.setIfInBounds_toArray, List.set_cons_zero, List.set_cons_succ])
  refine Till.take_free (v := ?_) 6 9 rfl rfl (by kernel_rfl) (by kernel_rfl) (by kernel_rfl) (fun _ _ _ h => h) (by rfl) (by kernel_rfl) ?_ (fun _ => by assumption) ?_
  rotate_left
  · intro w'
    go_simp
    all_goals with_reducible rfl
  (try simp only [Act.put, List.setIfInBounds_toArray, List.set_cons_zero, List.set_cons_succ])
  refine Till.goes_next (rs := [5]) (by kernel_rfl) (by simp) (Till.Next.cons rfl (fun K hK => ?_) (Till.Next.nil))
  go_simp
  refine (KB.out _ (Nat.le_trans HB.out HWD.out.size) (HM.out.below (HWD.out.mono HB.out))).mono ?_
  rintro e y2 ⟨u2, M', rfl, ha, h1, hb⟩
  have HA := Lib.hid ha
  have HCP := Lib.hid h1
  have HY2 := Lib.hid hb
  replace HT := Lib.hid (own_below HT.out hb)
  replace HWD := Lib.hid (below_to HWD.out hb)
  replace HB1 := Lib.hid (HB1.out.below hb)
  replace HB2 := Lib.hid (HB2.out.below hb)
  obtain ⟨A4, c4, rfl⟩ := own_slice' h1.row
  clear h1 hb ha
  have hSy2 := (show y2.cell? ⟨g1, 1, none⟩ = some (.slice A1 L.length k1) ∧ y2.cell? ⟨g1, 6, none⟩ = some (.slice A2 M.length k2) from ⟨(HB1.out.cell (i := 1)).trans X1.out, (HB1.out.cell (i := 6)).trans X6.out⟩)
  go_wp2_with fail
  refine hK.out _ _ (fun _ => hSy2) ?_
  clear hK K
  (try simp only [Act.put, List.setIfInBounds_toArray, List.set_cons_zero, List.set_cons_succ])
  refine Till.goes_next (rs := [7]) (by kernel_rfl) (by simp) (Till.Next.cons rfl (fun K hK => ?_) (Till.Next.nil))
  rw [if_pos (by rfl)]
  have hb1 := HB1.out
  with_reducible refine wp_put 33 (.tmp 9) (.tmp 5) ?_ ?_ g1 1 (.slice A3 L.length c3) ?_ ?_ ?_ 38 _ hb1 ?_ ?_ ?_
  · rfl
  · rfl
  · rfl
  · rfl
  · rfl
  · simp [Sc.cells]
  · exact lns_one'
  intro y3 hr ho
  replace HB1 := Lib.hid hr
  replace HT := Lib.hid (own_one HT.out ho HG1.out)
  replace HCP := Lib.hid (HCP.out.one ho (Nat.lt_of_lt_of_le HG1.out HY1.out.size))
  replace HB2 := Lib.hid (HB2.out.one ho HNE.out)
  replace HWD := Lib.hid (below_one_of HWD.out ho HGW.out HWD.out.size)
  clear hr ho hb1
  refine hK.out _ _ (Till.past (by kernel_rfl)) ?_
  clear hK K
  (try simp only [Act.put, List.setIfInBounds_toArray, List.set_cons_zero, List.set_cons_succ])
  refine Till.take_free (v := ?_) 8 10 rfl rfl (by kernel_rfl) (by kernel_rfl) (by kernel_rfl) (fun _ _ _ h => h) (by rfl) (by kernel_rfl) ?_ (Till.past (by kernel_rfl)) ?_
  rotate_left
  · intro w'
    go_simp
    all_goals with_reducible rfl
  (try simp only [Act.put, List.setIfInBounds_toArray, List.set_cons_zero, List.set_cons_succ])
  refine Till.goes_next (rs := [9]) (by kernel_rfl) (by simp) (Till.Next.cons rfl (fun K hK => ?_) (Till.Next.nil))
  rw [if_pos (by rfl)]
  have hb1 := HB1.out
  with_reducible refine wp_put 34 (.tmp 10) (.tmp 8) ?_ ?_ g1 6 (.slice A4 M'.length c4) ?_ ?_ ?_ 38 _ hb1 ?_ ?_ ?_
  · rfl
  · rfl
  · rfl
  · rfl
  · rfl
  · simp [Sc.cells]
  · exact bls_one'
  intro y4 hr ho
  replace HB1 := Lib.hid hr
  replace HT := Lib.hid (own_one HT.out ho HG1.out)
  replace HCP := Lib.hid (HCP.out.one ho (Nat.lt_of_lt_of_le HG1.out HY1.out.size))
  replace HB2 := Lib.hid (HB2.out.one ho HNE.out)
  replace HWD := Lib.hid (below_one_of HWD.out ho HGW.out HWD.out.size)
  clear hr ho hb1
  refine hK.out _ _ (Till.past (by kernel_rfl)) ?_
  clear hK K
  (try simp only [Act.put, List.setIfInBounds_toArray, List.set_cons_zero, List.set_cons_succ])
  refine Till.goes_done (by kernel_rfl) ?_ _
  rw [HDD.out] at HB1
  go_wp2_with (first
    | (refine o_load (by rfl) 38 _ rfl g1 rfl _ _ _ HB1.out Tryz.underlying38 rfl (HSI.out _ _) ?_)
    | (refine o_store rfl 38 _ _ rfl rfl g2 _ rfl rfl _ _ HB2.out (HSI.out _ _) rfl (sc_one _ _ _ _ _ _ _) ?_; intro ys hr ho; have HR9 := Lib.hid hr; replace HT := Lib.hid (own_one HT.out ho HG2L.out); replace HCP := Lib.hid (HCP.out.one ho (Nat.lt_of_lt_of_le HG2L.out HY1.out.size)); replace HWD := Lib.hid (below_one_of HWD.out ho HG2.out HWD.out.size); clear hr ho))
  refine bodyPost_ret (results_cell_row rfl _ _ _ _ _ _ _ rfl HR9.out Tryz.underlying38 rfl (HSI.out _ _)) rfl ?_
  exact ⟨_, _, M', rfl, HA.out, HT.out.mono (Nat.le_trans HW.out.size (Nat.le_refl _)), ⟨HCP.out.row.mono (Nat.le_trans HW.out.size HY1.out.size), fun b hm => (HCP.out.ids b hm).mono (Nat.le_trans HW.out.size HY1.out.size)⟩, HWD.out⟩
end Go.Proofs.YtkddiaiohnbjpaaGreatDoor.Plan
