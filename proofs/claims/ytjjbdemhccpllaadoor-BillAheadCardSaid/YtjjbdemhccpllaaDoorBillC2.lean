/- The program's own package bill: what makes memory: cover, copied, Find. -/
import Derived.Test.YtjjbdemhccpllaaDoorBillC1
import Derived.Test.YtjjbdemhccpllaaDoorRowPut
import Derived.ArgAppend
import Derived.Lib.SliceRun
namespace Go.Proofs.YtjjbdemhccpllaaDoor.Bill
open Go.ChangeShapes Go.WideShapes Go.ChangeAt Go.RowKit Plan Date Cal Money Box Rws Slice

theorem l_one : (Tryd.prog.info? 2).map (·.size) = some 1 := by kernel_rfl
theorem i_one : (Tryd.prog.info? 3).map (·.size) = some 1 := by kernel_rfl
theorem bl0_size : (6 : Nat) = bl0.cells.size := rfl
theorem cov_low {x : Bl} {a d : Int} (h : x.left ≤ a) : covB x a d = { x with left := 0, covered := d } ∧ min x.left a = x.left := by
  have e : min x.left a = x.left := by omega
  refine ⟨?_, e⟩
  unfold covB
  rw [e, Int.sub_self, if_pos rfl]
theorem cov_high {x : Bl} {a d : Int} (h : ¬ x.left ≤ a) : covB x a d = { x with left := x.left - a } ∧ min x.left a = a := by
  have e : min x.left a = a := by omega
  refine ⟨?_, e⟩
  unfold covB
  rw [e, if_neg (by omega)]
set_option maxRecDepth 20000 in
set_option maxHeartbeats 1000000 in
theorem b_cover (x : Bl) (a d : Int) (w : World) (hv : ∃ A n c, x.v = .slice A n c) (h0 : 0 ≤ x.left) (h1 : x.left ≤ 10000000000000) (ha0 : 0 ≤ a) (ha : a ≤ 10000000000000) : Calls Tryd.prog 40 #[.agg x.cells, .int .i64 a, .int .i64 d] w fun e w' => e = .returned (.tuple #[.agg (covB x a d).cells, .int .i64 (a - min x.left a)]) ∧ Below w.heap.size w w' := by
  obtain ⟨A, n, c, hv⟩ := hv
  obtain ⟨g, w0, e0, f0, hB, hb⟩ := boxd_new w x.cells 28
  obtain ⟨k, w1, e1, f1, hK, hb2⟩ := boxd_new w0 #[.int .i64 0, .int .i64 0, .int .i64 0, .int .i64 0, .int .i64 0, .slice none 0 0] 28
  have b1 : k = g + 1 := by rw [e1, f0, Deep.nblk_alloc, ← e0]
  have HW : Hid (Below w.heap.size w w1) := below_to hb hb2
  have HB := Lib.hid (hB.below hb2)
  have HK := Lib.hid hK
  have HG : Hid (w.heap.size ≤ g ∧ w.heap.size ≤ k ∧ ¬ k = g) := show _ ∧ _ ∧ _ by rw [b1, e0]; omega
  have c2 : w1.cell? ⟨g, 2, none⟩ = some (.int .i64 x.left) := HB.out.cell
  have HZ : Hid (6 = x.cells.size) := show _ = _ from rfl
  clear hB hK hb hb2
  by_cases hlo : x.left ≤ a
  · rw [(cov_low (d := d) hlo).1, (cov_low (d := d) hlo).2]
    have hmn : (if a < x.left then a else x.left) = x.left := if_neg (by omega)
    have hw1 : wrap64 (x.left - x.left) = 0 := by unfold wrap64; omega
    have hw2 : wrap64 (a - x.left) = a - x.left := by unfold wrap64; omega
    have HD : Hid ((x.cells.setIfInBounds 2 (.int .i64 0)).setIfInBounds 3 (.int .i64 d) = ({ x with left := 0, covered := d } : Bl).cells) := show _ = _ from rfl
    have HS : Hid ((Tryd.prog.info? 28).map (·.size) = some ({ x with left := 0, covered := d } : Bl).cells.size) := bl_info _
    have HO : Hid (({ x with left := 0, covered := d } : Bl).cells.all (·.oneCell') = true) := bl_one _ hv
    have HZ2 : Hid (6 = ({ x with left := 0, covered := d } : Bl).cells.size) := show _ = _ from rfl
    clear hlo h0 h1 ha0 ha hv
    generalize ({ x with left := 0, covered := d } : Bl).cells = D at *
    generalize x.cells = C at *
    generalize x.left = l at *
    go_enter Tryd.func40, Tryd.ntmps40
    go_upto_region 1 with fail
    rw [← f0, ← e0, ← b1, ← f1]
    clear f0 e0 e1 b1 f1
    go_upto_region 3 with (first
      | (refine o_put rfl 2 _ _ rfl rfl g 2 (.int .i64 0) rfl rfl rfl 28 C HB.out (by rw [← HZ.out]; decide) l_one ?_; intro z hr ho; replace HB := Lib.hid hr; replace HW := Lib.hid (below_one_of HW.out ho HG.out.1 HW.out.size); replace HK := Lib.hid (HK.out.one ho HG.out.2.2); clear hr ho))
    have c2' : z.cell? ⟨g, 2, none⟩ = some (.int .i64 0) := HB.out.cell.trans (by rw [Array.getElem?_setIfInBounds_self_of_lt (by rw [← HZ.out]; decide)])
    go_upto_region 5 with (first
      | (refine o_put rfl 3 _ _ rfl rfl g 3 (.int .i64 d) rfl rfl rfl 28 _ HB.out (by rw [Array.size_setIfInBounds, ← HZ.out]; decide) i_one ?_; intro z2 hr ho; rw [HD.out] at hr; replace HB := Lib.hid hr; replace HW := Lib.hid (below_one_of HW.out ho HG.out.1 HW.out.size); replace HK := Lib.hid (HK.out.one ho HG.out.2.2); clear hr ho))
    go_wp2_with (first
      | (refine o_load (by rfl) 28 _ rfl g rfl _ _ _ HB.out Tryd.underlying28 rfl HS.out ?_)
      | (refine o_store rfl 28 _ _ rfl rfl k D rfl rfl _ _ HK.out HS.out HZ2.out HO.out ?_; intro z3 hr ho; replace HK := Lib.hid hr; replace HW := Lib.hid (below_one_of HW.out ho HG.out.2.1 HW.out.size); clear hr ho))
    refine bodyPost_ret (results_two rfl _ _ _ _ _ _ _ rfl HK.out Tryd.underlying28 rfl HS.out rfl) rfl ?_
    exact ⟨congrArg (fun z => Ending.returned (.tuple #[.agg D, .int .i64 z])) hw2, HW.out⟩
  · rw [(cov_high (d := d) hlo).1, (cov_high (d := d) hlo).2]
    have hmn : (if a < x.left then a else x.left) = a := if_pos (by omega)
    have hw1 : wrap64 (x.left - a) = x.left - a := by unfold wrap64; omega
    have t1 : (x.left - a == 0) = false := by simp; omega
    have HD : Hid (x.cells.setIfInBounds 2 (.int .i64 (x.left - a)) = ({ x with left := x.left - a } : Bl).cells) := show _ = _ from rfl
    have HS : Hid ((Tryd.prog.info? 28).map (·.size) = some ({ x with left := x.left - a } : Bl).cells.size) := bl_info _
    have HO : Hid (({ x with left := x.left - a } : Bl).cells.all (·.oneCell') = true) := bl_one _ hv
    have HZ2 : Hid (6 = ({ x with left := x.left - a } : Bl).cells.size) := show _ = _ from rfl
    have HD2 : Hid (({ x with left := x.left - a } : Bl).cells[2]? = some (.int .i64 (x.left - a))) := show _ = _ from rfl
    clear hlo h0 h1 ha0 ha hv
    generalize ({ x with left := x.left - a } : Bl).cells = D at *
    generalize x.cells = C at *
    generalize x.left = l at *
    go_enter Tryd.func40, Tryd.ntmps40
    go_upto_region 1 with fail
    rw [← f0, ← e0, ← b1, ← f1]
    clear f0 e0 e1 b1 f1
    go_upto_region 3 with (first
      | (refine o_put rfl 2 _ _ rfl rfl g 2 (.int .i64 (wrap64 (l - a))) rfl rfl rfl 28 C HB.out (by rw [← HZ.out]; decide) l_one ?_; intro z hr ho; rw [hw1, HD.out] at hr; replace HB := Lib.hid hr; replace HW := Lib.hid (below_one_of HW.out ho HG.out.1 HW.out.size); replace HK := Lib.hid (HK.out.one ho HG.out.2.2); clear hr ho))
    have c2' : z.cell? ⟨g, 2, none⟩ = some (.int .i64 (l - a)) := HB.out.cell.trans HD2.out
    go_wp2_with (first
      | (refine o_load (by rfl) 28 _ rfl g rfl _ _ _ HB.out Tryd.underlying28 rfl HS.out ?_)
      | (refine o_store rfl 28 _ _ rfl rfl k D rfl rfl _ _ HK.out HS.out HZ2.out HO.out ?_; intro z3 hr ho; replace HK := Lib.hid hr; replace HW := Lib.hid (below_one_of HW.out ho HG.out.2.1 HW.out.size); clear hr ho))
    refine bodyPost_ret (results_two rfl _ _ _ _ _ _ _ rfl HK.out Tryd.underlying28 rfl HS.out rfl) rfl ?_
    exact ⟨congrArg (fun z => Ending.returned (.tuple #[.agg D, .int .i64 z])) (Int.sub_self a).symm, HW.out⟩
set_option maxRecDepth 20000 in
theorem b_cloneI (zs : List Int) (v : Value) (B : Nat) (w : World) (hB : B ≤ w.heap.size) (hv : Ints w B .i64 v zs) (hl : zs.length ≤ 1000) :
    Calls Tryd.prog 30 #[v] w fun e w' => ∃ u, e = .returned u ∧ w'.ownsRow w.heap.size 3 1 u zs.length (zs.map (Value.int .i64)) ∧ Below w.heap.size w w' := by
  have HV := Lib.hid hv
  have HB := Lib.hid hB
  obtain ⟨A, c, rfl, -, hn, hcc⟩ := hv
  obtain ⟨iI, q1, q2, q3, q4⟩ := info_parts int_zero
  have HI := Lib.hid (And.intro q1 (And.intro q2 (And.intro q3 q4)))
  have q : ∀ (w : World) (a : Option Addr) (n c : Nat), (binOp .eql 26 (.slice a n c) (.slice none 0 0)).run Tryd.prog w = .ok (.bool a.isNone) w := fun w a n c => Lib.run_eql_slice_nil w _ _ a n c 0 0 Tryd.underlying26
  clear q1 q2 q3 q4 hB
  cases A with
  | none =>
    have h0 : zs = [] := by
      rcases Nat.eq_zero_or_pos zs.length with h0 | h0
      · exact List.eq_nil_of_length_eq_zero h0
      · obtain ⟨b, off, hb, -⟩ := hcc h0; cases hb
    obtain rfl := hn rfl
    subst h0
    clear hn hcc
    go_enter Tryd.func30, Tryd.ntmps30
    go_wp2_with fail
    go_ret
    exact ⟨_, rfl, World.ownsRow_nil _ _ _ _, Below.refl _ _⟩
  | some ad =>
    clear hn hcc
    go_enter Tryd.func30, Tryd.ntmps30
    go_wp2_with (first
      | (at_builtin; refine Slice.wpList_append_ints rfl (.tmp 5) (.tmp 6) _ rfl w.heap.size 3 iI (.int .i64 0) 8 Tryd.underlying26 HI.out.1 HI.out.2.1 HI.out.2.2.1 HI.out.2.2.2 rfl (.slice (some ⟨w.heap.size, 0, none⟩) 0 0) 0 [] rfl (World.ownsRow_made w #[] 0 (Nat.le_refl _) (by simp) (by simp)) B .i64 (.slice (some ad) zs.length c) zs rfl (HV.out.alloc HB.out _) (by unfold maxLen; omega) (by omega) (by simp) ?_; intro v3 w3 hown hgrow; rw [Nat.zero_add, List.nil_append] at hown; have HT := Lib.hid hown; have HY : Hid (Below w.heap.size w w3) := (show Below _ _ _ from (below_one _ _).grown hgrow (below_one _ _).size (new_own w)); obtain ⟨A6, c6, rfl⟩ := own_slice' hown; clear hown hgrow))
    go_ret
    exact ⟨_, rfl, HT.out, HY.out⟩
set_option maxRecDepth 20000 in
theorem b_cloneB (M : List Bl) (v : Value) (B : Nat) (w : World) (hB : B ≤ w.heap.size) (hv : Bls w B v M) (hN : M.length ≤ 1000) :
    Calls Tryd.prog 47 #[v] w fun e w' => ∃ u, e = .returned u ∧ w'.ownsRow w.heap.size 28 6 u M.length (flatB M) ∧ Below w.heap.size w w' := by
  have HV := Lib.hid hv.1
  have HB := Lib.hid hB
  have HO : Hid (∀ x ∈ M, x.cells.all (·.oneCell') = true) := fun x hx => by
    obtain ⟨Ax, cx, hxv, -⟩ := hv.2 x hx
    exact bl_one x hxv
  obtain ⟨A, c, rfl, -, hn, hcc⟩ := hv.1
  obtain ⟨iB, q1, q2, q3, q4⟩ := info_parts bill_zero
  have HI := Lib.hid (And.intro q1 (And.intro q2 (And.intro q3 q4)))
  have q : ∀ (w : World) (a : Option Addr) (n c : Nat), (binOp .eql 22 (.slice a n c) (.slice none 0 0)).run Tryd.prog w = .ok (.bool a.isNone) w := fun w a n c => Lib.run_eql_slice_nil w _ _ a n c 0 0 Tryd.underlying22
  clear q1 q2 q3 q4 hB
  cases A with
  | none =>
    have h0 : M = [] := by
      rcases Nat.eq_zero_or_pos M.length with h0 | h0
      · exact List.eq_nil_of_length_eq_zero h0
      · obtain ⟨b, off, hb, -⟩ := hcc h0; cases hb
    obtain rfl := hn.1 rfl
    subst h0
    clear hn hcc hv
    go_enter Tryd.func47, Tryd.ntmps47
    go_wp2_with fail
    go_ret
    exact ⟨_, rfl, World.ownsRow_nil _ _ _ _, Below.refl _ _⟩
  | some ad =>
    clear hn hcc hv
    go_enter Tryd.func47, Tryd.ntmps47
    go_wp2_with (first
      | (at_builtin; refine wpList_append_rwsM rfl (.tmp 5) (.tmp 6) _ rfl w.heap.size 28 iB (.agg bl0.cells) 64 Tryd.underlying22 HI.out.1 HI.out.2.1 HI.out.2.2.1 HI.out.2.2.2 rfl (by omega) bl_len (.slice (some ⟨w.heap.size, 0, none⟩) 0 0) 0 [] rfl (World.ownsRow_made w #[] 0 (Nat.le_refl _) (by simp) (by simp)) B (.slice (some ad) M.length c) M rfl (HV.out.alloc HB.out _) HO.out (by unfold maxLen; omega) (by omega) (by simp) ?_; intro v3 w3 hown hgrow; rw [Nat.zero_add, List.nil_append] at hown; have HT : Hid (w3.ownsRow w.heap.size 28 6 v3 M.length (flatB M)) := hown; have HY : Hid (Below w.heap.size w w3) := (show Below _ _ _ from (below_one _ _).grown hgrow (below_one _ _).size (new_own w)); obtain ⟨A6, c6, rfl⟩ := own_slice' hown; clear hown hgrow))
    go_ret
    exact ⟨_, rfl, HT.out, HY.out⟩
/-- While the copy's ids are being cloned: the first ones are the copy's own. -/
structure Half (w W : World) (u : Value) (M N : List Bl) (j : Nat) : Prop where
  row : W.ownsRow w.heap.size 28 6 u M.length (flatB (N ++ M.drop j))
  len : N.length = j
  ids : ∀ b ∈ N, W.ownsRow w.heap.size 3 1 b.v b.ids.length (b.ids.map (Value.int .i64))
  low : Below w.heap.size w W
  ali : AlikeB (M.take j) N
theorem five_len (N : List Bl) (x : Bl) : (flatB N ++ five x).length = N.length * 6 + 5 := by
  rw [List.length_append, flatB_len]
  rfl
theorem Half.step {w W y z : World} {g c : Nat} {M N : List Bl} {j : Nat} {x : Bl} {v : Value} {cur : Array Value} (h : Half w W (.slice (some ⟨g, 0, none⟩) M.length c) M N j) (hx : M[j]? = some x) (hb : Below W.heap.size W y) (hg : g < W.heap.size)
    (hi : y.ownsRow W.heap.size 3 1 v x.ids.length (x.ids.map (Value.int .i64))) (hp : ∀ W', Boxd W' g (putAll cur (flatB N ++ five x).length [v]) 28 → W.heap.size ≤ W'.heap.size → W'.ownsRow w.heap.size 28 6 (.slice (some ⟨g, 0, none⟩) M.length c) M.length (flatB N ++ five x ++ [v] ++ flatB (M.drop (j + 1))))
    (hr : Boxd z g (cur.setIfInBounds (j * 6 + 5) v) 28) (ho : One g y z) (hgw : w.heap.size ≤ g) : Half w z (.slice (some ⟨g, 0, none⟩) M.length c) M (N ++ [{ x with v := v }]) (j + 1) := by
  have hrow := hp z (by rw [five_len, h.len]; exact hr) (Nat.le_trans hb.size ho.size)
  have e : flatB N ++ five x ++ [v] ++ flatB (M.drop (j + 1)) = flatB ((N ++ [{ x with v := v }]) ++ M.drop (j + 1)) := by
    rw [List.append_assoc N, List.singleton_append, flatB_five]
    rfl
  rw [e] at hrow
  refine ⟨hrow, by rw [List.length_append, h.len]; rfl, fun b hm => ?_, below_one_of (below_to h.low hb) ho hgw (below_to h.low hb).size, h.ali.snoc v hx⟩
  rcases List.mem_append.1 hm with hm | hm
  · exact (own_below (h.ids b hm) hb).kept (one_grown ho) (own_far (own_below (h.ids b hm) hb) (own_below h.row hb) bill_ne)
  · obtain rfl := List.mem_singleton.1 hm
    exact (own_one hi ho hg).mono (h.low.size)
set_option maxRecDepth 20000 in
set_option maxHeartbeats 1000000 in
theorem b_copied (M : List Bl) (v : Value) (B : Nat) (w : World) (hB : B ≤ w.heap.size) (hv : Bls w B v M) (hN : M.length ≤ 1000) (hI : ∀ b ∈ M, b.ids.length ≤ 1000) : Calls Tryd.prog 41 #[v] w fun e w' => ∃ u M', e = .returned u ∧ AlikeB M M' ∧ Cop w.heap.size w' u M' ∧ Below w.heap.size w w' := by
  have KC := Lib.hid (fun (_ : Unit) => b_cloneB M v B w hB hv hN)
  have KI := Lib.hid (fun (zs : List Int) (v : Value) (W : World) (h1 : w.heap.size ≤ W.heap.size) (h2 : Ints W w.heap.size .i64 v zs) (h3 : zs.length ≤ 1000) => b_cloneI zs v w.heap.size W h1 h2 h3)
  have HV := Lib.hid hv
  have HB := Lib.hid hB
  have HNI := Lib.hid hI
  obtain ⟨A0, k0, rfl⟩ := hv.1.shape
  clear hv hB hI
  go_enter Tryd.func41, Tryd.ntmps41
  go_upto_region 2 with (first
    | (go_at_call 47; (refine (KC.out ()).mono ?_); rintro e w1 ⟨u, rfl, h1, hb⟩; have H1 : Hid (Half w w1 u M [] 0) := (show Half _ _ _ _ _ _ from ⟨h1, rfl, fun b h => by (cases h), hb, by simp, fun i x h => by simp at h⟩); obtain ⟨A, c, rfl⟩ := own_slice' h1; clear h1 hb KC))
  go_wp2_with fail
  go_loopw [9] (fun t wr => ∃ (j : Nat) (N : List Bl), j ≤ M.length ∧ t = .int .i64 j ∧ Hid (Half w wr (.slice A M.length c) M N j)) (fun t _ => M.length - (intOf t).toNat)
  case atStart => exact ⟨0, [], Nat.zero_le _, rfl, H1.out⟩
  case round =>
    obtain ⟨j, N, hj, rfl, HX⟩ := hrel
    by_cases hlt : j < M.length
    · obtain ⟨g, c', e0, hg, hgl⟩ := own_form HX.out.row (by omega)
      injection e0 with e0 _ e2
      subst e0 e2
      obtain ⟨x, hx⟩ : ∃ x, M[j]? = some x := ⟨_, List.getElem?_eq_getElem hlt⟩
      have hmem := List.mem_of_getElem? hx
      have hix := HV.out.2 x hmem
      have hn : x.ids.length ≤ 1000 := HNI.out x hmem
      obtain ⟨Ax, cx, hxv, -⟩ := id hix
      have hrow := HX.out.row
      rw [drop_at hx, flatB_five] at hrow
      obtain ⟨cur, hcur, hsz, hat, hput⟩ := own_put (Y := [.slice none 0 0]) hrow rfl
      have hput' : ∀ v', ∀ W', Boxd W' g (putAll cur (flatB N ++ five x).length [v']) 28 → wr.heap.size ≤ W'.heap.size → W'.ownsRow w.heap.size 28 6 (.slice (some ⟨g, 0, none⟩) M.length c) M.length (flatB N ++ five x ++ [v'] ++ flatB (M.drop (j + 1))) := fun v' W' h1 h2 => by
        obtain ⟨cur2, hcur2, -, -, hput2⟩ := own_put (Y := [v']) hrow rfl
        have e := hcur.symm.trans hcur2
        injection e with e
        injection e with e
        subst e
        exact hput2 W' h1 h2
      have HP := Lib.hid hput'
      have HC := Lib.hid hcur
      have HG := Lib.hid (And.intro hg hgl)
      have HXX := Lib.hid hx
      have c5 : wr.cell? ⟨g, j * 6 + 5, none⟩ = some (.slice Ax x.ids.length cx) := by
        rw [hcur.cell, ← hxv]
        have := hat 0 x.v rfl
        rwa [five_len, HX.out.len] at this
      have HSZ : Hid (j * 6 + 5 < cur.size) := show _ < _ by
        rw [five_len, HX.out.len] at hsz
        exact hsz
      have HIX : Hid (Ints wr w.heap.size .i64 (.slice Ax x.ids.length cx) x.ids) := (show Ints _ _ _ _ _ by rw [← hxv]; exact (hix.below (HX.out.low.mono HB.out)).more HB.out)
      clear hx hmem hix hxv hrow hcur hsz hat hput hput' hg hgl
      have HS := Lib.hid (fun (y z : World) (v' : Value) (hb : Below wr.heap.size wr y) (hi : y.ownsRow wr.heap.size 3 1 v' x.ids.length (x.ids.map (Value.int .i64))) (hr : Boxd z g (cur.setIfInBounds (j * 6 + 5) v') 28) (ho : One g y z) => HX.out.step HXX.out hb HG.out.2 hi (HP.out v') hr ho HG.out.1)
      generalize x.ids = ids at *
      go_wp2_with (first
        | (go_at_call 30; (refine (KI.out _ _ _ HX.out.low.size HIX.out hn).mono ?_); rintro e y ⟨v', rfl, hi, hb⟩; have HY := Lib.hid (And.intro hb hi); obtain ⟨A6, c6, rfl⟩ := own_slice' hi; have HCY := Lib.hid (HC.out.below hb); clear hi hb)
        | (refine o_put rfl 26 _ _ rfl rfl g (j * 6 + 5) (.slice A6 ids.length c6) rfl rfl rfl 28 cur HCY.out HSZ.out ints_one ?_; intro z hr ho; have HN := Lib.hid (HS.out _ _ _ HY.out.1 HY.out.2 hr ho); clear hr ho))
      go_roundw
      case rel => exact ⟨j + 1, _, by omega, rfl, HN.out⟩
      case measure => simp [intOf]; omega
    · obtain rfl : j = M.length := by omega
      go_wp2_with fail
      go_ret
      have h := HX.out.row
      have ha := HX.out.ali
      rw [List.drop_length, List.append_nil] at h
      rw [List.take_length] at ha
      exact ⟨_, N, rfl, ha, ⟨by rw [HX.out.len]; exact h, HX.out.ids⟩, HX.out.low⟩
end Go.Proofs.YtjjbdemhccpllaaDoor.Bill
