/- The document's own package of layer 19: Credit. -/
import Derived.Test.YtjjbdemhccpllaaDoorRefBill
import Derived.Test.YtjjbdemhccpllaaDoorBillC4
namespace Go.Proofs.YtjjbdemhccpllaaDoor.RBill
open Go.ChangeShapes Go.WideShapes Go.ChangeAt Go.RowKit Plan Date Cal Money Box Rws Slice Bill
set_option linter.unusedSimpArgs false

/-- What a call of the document's tells that makes bills. -/
def ToldR (R : List Bl) (k x : Int) (w : World) (e : Ending) (w' : World) : Prop := ∃ u M', e = .returned (.tuple #[.agg #[u, .int .i64 k], .int .i64 x]) ∧ AlikeB R M' ∧ Cop w.heap.size w' u M' ∧ Below w.heap.size w w'
theorem rtold_none (x : Int) {w w' : World} (hb : Below w.heap.size w w') : ToldR [] 0 x w (.returned (.tuple #[.agg #[.slice none 0 0, .int .i64 0], .int .i64 x])) w' := ⟨_, [], rfl, AlikeB.refl _, Cop.nil_ _ _, hb⟩
theorem ch_info (u v : Value) : (Tryd.prog.info? 45).map (·.size) = some (#[u, v] : Array Value).size := by
  show _ = some 2
  kernel_rfl
theorem ch_one (A : Option Addr) (n c : Nat) (k : Int) : (#[.slice A n c, .int .i64 k] : Array Value).all (·.oneCell') = true := by simp [Value.oneCell']
theorem ch_zero : (#[.slice none 0 0, .int .i64 0] : Array Value).all (·.oneCell') = true := ch_one _ _ _ _
set_option maxRecDepth 20000 in
set_option maxHeartbeats 4000000 in
theorem r_credit (M : List Bl) (a d : Int) (v : Value) (B : Nat) (w : World) (hB : B ≤ w.heap.size) (hv : Bls w B v M) (hN : M.length ≤ 1000) (hI : ∀ b ∈ M, b.ids.length ≤ 1000) : Calls Tryd.prog 24 #[v, .int .i64 a, .int .i64 d] w (ToldR (creL M a d) (creK M a d) (creE M a d) w) := by
  obtain ⟨k, w0, e0, f0, hK, hb⟩ := boxd_new w #[.slice none 0 0, .int .i64 0] 45
  have KG := Lib.hid (fun W (h : Below w.heap.size w W) => r_good M v B W (Nat.le_trans hB h.size) (hv.below (h.mono hB)) (by omega))
  have KP := Lib.hid (fun W => r_money a W)
  have KD := Lib.hid (fun W => rday_any d W)
  have KC := Lib.hid (fun W (h : Below w.heap.size w W) => c_cbills M v B W (Nat.le_trans hB h.size) (hv.below (h.mono hB)) hN hI)
  have HK := Lib.hid hK
  have HW := Lib.hid hb
  have HGW : Hid (w.heap.size ≤ k) := show _ ≤ _ by rw [e0]; exact Nat.le_refl _
  obtain ⟨A0, k0, rfl⟩ := hv.1.shape
  have lM := hv.1.len
  clear hv hB hI hK hb
  cases hg : goodM M with
  | false =>
    have h1 : creE M a d = 11 := by unfold creE; rw [hg, if_neg (by simp)]
    have h2 : creL M a d = [] := by unfold creL; rw [h1, if_neg (by decide)]
    have h3 : creK M a d = 0 := by unfold creK; rw [h1, if_neg (by decide)]
    rw [h1, h2, h3]
    rw [hg] at KG
    clear h1 h2 h3 hg
    go_enter Tryd.func24, Tryd.ntmps24
    go_upto_region 1 with fail
    rw [← f0, ← e0]
    clear e0 f0
    go_wp2_with (first
      | (go_at_call 14; (refine (KG.out _ HW.out).mono ?_); rintro e y ⟨rfl, hb⟩; have HY := Lib.hid (below_to HW.out hb); replace HK := Lib.hid (HK.out.below hb); clear hb)
      | (refine o_store rfl 45 _ _ rfl rfl k #[.slice none 0 0, .int .i64 0] rfl rfl _ _ HK.out (ch_info _ _) rfl ch_zero ?_; intro z hr ho; replace HK := Lib.hid hr; replace HY := Lib.hid (below_one_of HY.out ho HGW.out HY.out.size); clear hr ho))
    refine bodyPost_ret (results_two rfl _ _ _ _ _ _ _ rfl HK.out Tryd.underlying45 rfl (ch_info _ _) rfl) rfl ?_
    exact rtold_none _ HY.out
  | true =>
    rw [hg] at KG
    by_cases hmd : moneyB a = true ∧ dayB d = true
    · have h1 : creE M a d = 0 := by unfold creE; rw [if_pos hg, if_pos hmd]
      have h2 : creL M a d = (crB d M a).1 := by unfold creL; rw [if_pos h1]
      have h3 : creK M a d = (crB d M a).2 := by unfold creK; rw [if_pos h1]
      have HL := Lib.hid (good_left hg)
      have HMA := Lib.hid (money_iff.1 hmd.1)
      rw [h1, h2, h3]
      rw [hmd.1] at KP
      rw [hmd.2] at KD
      have HFT : Hid (∀ (M' N : List Bl) (a' : Int) (u : Value) (y w' : World), AlikeB M M' → crB d M' a = (N ++ M'.drop M.length, a') → Cop y.heap.size w' u (N ++ M'.drop M.length) → Below w.heap.size w y → Below w.heap.size w w' → ToldR (crB d M a).1 (crB d M a).2 0 w (.returned (.tuple #[.agg #[u, .int .i64 a'], .int .i64 0])) w') := fun M' N a' u y w' ha he hc hy hb => by
        have h := cr_alike d a ha
        rw [he] at h
        refine ⟨u, N ++ M'.drop M.length, ?_, h.1, ⟨hc.row.mono hy.size, fun b hm => (hc.ids b hm).mono hy.size⟩, hb⟩
        rw [← h.2]
      clear h1 h2 h3 hg hmd
      go_enter Tryd.func24, Tryd.ntmps24
      go_upto_region 1 with fail
      rw [← f0, ← e0]
      clear e0 f0
      go_upto_region 6 with (first
        | (go_at_call 14; (refine (KG.out _ HW.out).mono ?_); rintro e y ⟨rfl, hb⟩; have HY := Lib.hid (below_to HW.out hb); replace HK := Lib.hid (HK.out.below hb); clear hb)
        | (go_at_call 32; (with_reducible refine (KP.out _).mono ?_); rintro e y2 ⟨rfl, rfl⟩)
        | (go_at_call 33; (with_reducible refine (KD.out _).mono ?_); rintro e y3 ⟨rfl, rfl⟩)
        | (go_at_call 10; (refine (KC.out _ HY.out).mono ?_); rintro e y4 ⟨u, M', rfl, ha, hc, hb⟩; have HA := Lib.hid ha; have HCP := Lib.hid hc; have HB4 := Lib.hid hb; have HKL := Lib.hid HK.out.lt; replace HK := Lib.hid (HK.out.below hb); obtain ⟨A, c, rfl⟩ := own_slice' hc.row; clear ha hc hb))
      have hML : M'.length = M.length := HA.out.1
      have HLM : Hid (∀ b ∈ M', 0 ≤ b.left ∧ b.left ≤ 10000000000000) := fun b hb => by
        obtain ⟨i, hi, rfl⟩ := List.getElem_of_mem hb
        have hiM : i < M.length := by rw [← hML]; exact hi
        obtain ⟨v', hv'⟩ := HA.out.2 i _ (List.getElem?_eq_getElem hiM)
        rw [List.getElem?_eq_getElem hi] at hv'
        have e := Option.some.inj hv'
        rw [e]
        have hh := HL.out (M[i]) (List.getElem_mem hiM)
        exact hh
      rw [hML]
      have H1 : Hid (Cred y y4 (.slice A M.length c) M' a d [] 0 a) := ⟨⟨(by rw [← hML]; exact HCP.out.row), HCP.out.ids⟩, rfl, rfl, HMA.out.1, HMA.out.2, HB4.out⟩
      have HKY : Hid (∀ W, Below y.heap.size y W → Boxd W k #[.slice none 0 0, .int .i64 0] 45) := fun W h => by
        have hh := HK.out
        exact (h.block k HKL.out).trans ((HB4.out.block k HKL.out).symm.trans hh)
      clear HCP HK
      go_wp2_with fail
      go_loopw [1, 9] (fun s t wr => ∃ (j : Nat) (N : List Bl) (a' : Int), j ≤ M.length ∧ s = .int .i64 a' ∧ t = .int .i64 j ∧ Hid (Cred y wr (.slice A M.length c) M' a d N j a')) (fun _ t _ => M.length - (intOf t).toNat)
      case atStart => exact ⟨0, [], a, Nat.zero_le _, rfl, rfl, H1.out⟩
      case round =>
        obtain ⟨j, N, a', hj, rfl, rfl, HX⟩ := hrel
        by_cases hlt : j < M.length
        · obtain ⟨g, c', e0, hg, hgl⟩ := own_form HX.out.cop.row (by rw [List.length_append, HX.out.len, List.length_drop]; omega)
          have hnl : (N ++ M'.drop j).length = M.length := by rw [List.length_append, HX.out.len, List.length_drop]; omega
          injection e0 with e0 el e2
          clear el
          subst e0 e2
          obtain ⟨x, hx⟩ : ∃ x, M'[j]? = some x := ⟨_, List.getElem?_eq_getElem (by omega)⟩
          have hxl := HLM.out x (List.mem_of_getElem? hx)
          have hrow := HX.out.cop.row
          rw [hnl, drop_at hx] at hrow
          have HXX := Lib.hid hx
          by_cases hl0 : x.left = 0
          · have hrow1 := hrow
            rw [flatB_left] at hrow1
            obtain ⟨cur, hcur, hsz, hat, -⟩ := own_put (Y := [.int .i64 0]) hrow1 rfl
            have e := hat 0 _ rfl
            rw [List.length_append, flatB_len, HX.out.len] at e
            have c2 : wr.cell? ⟨g, j * 6 + 2, none⟩ = some (.int .i64 x.left) := hcur.cell.trans e
            have t1 : (x.left == 0) = true := by simp [hl0]
            have HS := Lib.hid (HX.out.skip HXX.out hl0)
            clear hx hxl hrow hrow1 hcur hsz hat hl0 hg hgl hnl e
            generalize x.left = l at *
            go_wp2_with fail
            go_roundw
            case rel => exact ⟨j + 1, _, a', by omega, rfl, rfl, HS.out⟩
            case measure => simp [intOf]; omega
          · have t1 : (x.left == 0) = false := by simpa using hl0
            have ha0 := HX.out.a0
            have ha1 := HX.out.a1
            by_cases hlo : x.left ≤ a'
            · have hrow1 := hrow
              rw [flatB_two] at hrow1
              obtain ⟨cur, hcur, hsz, hat, hput⟩ := own_put (Y := [.int .i64 0, .int .i64 d]) hrow1 rfl
              have e := hat 0 _ rfl
              rw [List.length_append, flatB_len, HX.out.len] at e hsz
              have c2 : wr.cell? ⟨g, j * 6 + 2, none⟩ = some (.int .i64 x.left) := hcur.cell.trans e
              have HCUR := Lib.hid hcur
              have HSZ : Hid (j * 6 + 2 < cur.size ∧ j * 6 + 3 < cur.size) := show _ ∧ _ by
                simp only [List.length_cons, List.length_nil] at hsz
                omega
              have hcv := (cov_low (d := d) hlo).1
              have HT : Hid (∀ (z1 z : World), One g wr z1 → Boxd z g ((cur.setIfInBounds (j * 6 + 2) (.int .i64 0)).setIfInBounds (j * 6 + 3) (.int .i64 d)) 28 → One g z1 z → Cred y z (.slice (some ⟨g, 0, none⟩) M.length c) M' a d (N ++ [covB x a' d]) (j + 1) (a' - min x.left a')) := fun z1 z ho1 hr ho2 => by
                have ho := ho1.trans ho2
                refine HX.out.put hML.symm HXX.out hl0 hxl.1 (Below.refl _ _) ?_ ho hg
                have h := hput z (by
                  rw [List.length_append, flatB_len, HX.out.len]
                  exact hr) ho.size
                rw [List.append_assoc N, List.singleton_append, hcv, flatB_two]
                exact h
              have hmn : min x.left a' = x.left := by omega
              rw [hmn] at HT
              have t2 : (if x.left < a' then x.left else a') = x.left := by
                by_cases h : x.left < a'
                · rw [if_pos h]
                · rw [if_neg h]; omega
              have w1 : wrap64 (a' - x.left) = a' - x.left := by unfold wrap64; omega
              have HW1 := Lib.hid w1
              have w2 : wrap64 (x.left - x.left) = 0 := by unfold wrap64; omega
              clear hx hxl hrow hrow1 hcur hsz hat hput hl0 hg hgl hnl e hcv hmn ha0 ha1 hlo
              generalize hNN : N ++ [covB x a' d] = N' at *
              clear hNN
              generalize x.left = l at *
              go_upto_region 13 with (first
                | (refine o_put rfl 2 _ _ rfl rfl g (j * 6 + 2) (.int .i64 0) rfl rfl rfl 28 cur HCUR.out HSZ.out.1 l_one ?_; intro z1 hr ho; have HR1 := Lib.hid hr; have HO1 := Lib.hid ho; clear hr ho))
              have c2' : z1.cell? ⟨g, j * 6 + 2, none⟩ = some (.int .i64 0) := HR1.out.cell.trans (by rw [Array.getElem?_setIfInBounds_self_of_lt HSZ.out.1])
              go_wp2_with (first
                | (refine o_put rfl 3 _ _ rfl rfl g (j * 6 + 3) (.int .i64 d) rfl rfl rfl 28 _ HR1.out (by rw [Array.size_setIfInBounds]; exact HSZ.out.2) i_one ?_; intro z2 hr ho; have HN := Lib.hid (HT.out _ _ HO1.out hr ho); clear hr ho))
              go_roundw
              case rel => exact ⟨j + 1, _, _, by omega, by rw [HW1.out], rfl, HN.out⟩
              case measure => simp [intOf]; omega
            · have hrow1 := hrow
              rw [flatB_left] at hrow1
              obtain ⟨cur, hcur, hsz, hat, hput⟩ := own_put (Y := [.int .i64 (x.left - a')]) hrow1 rfl
              have e := hat 0 _ rfl
              rw [List.length_append, flatB_len, HX.out.len] at e hsz
              have c2 : wr.cell? ⟨g, j * 6 + 2, none⟩ = some (.int .i64 x.left) := hcur.cell.trans e
              have HCUR := Lib.hid hcur
              have HSZ : Hid (j * 6 + 2 < cur.size) := show _ < _ by
                simp only [List.length_cons, List.length_nil] at hsz
                omega
              have hcv := (cov_high (d := d) hlo).1
              have HT : Hid (∀ (z : World), Boxd z g (cur.setIfInBounds (j * 6 + 2) (.int .i64 (x.left - a'))) 28 → One g wr z → Cred y z (.slice (some ⟨g, 0, none⟩) M.length c) M' a d (N ++ [covB x a' d]) (j + 1) (a' - min x.left a')) := fun z hr ho => by
                refine HX.out.put hML.symm HXX.out hl0 hxl.1 (Below.refl _ _) ?_ ho hg
                have h := hput z (by
                  rw [List.length_append, flatB_len, HX.out.len]
                  exact hr) ho.size
                rw [List.append_assoc N, List.singleton_append, hcv, flatB_left]
                exact h
              have hmn : min x.left a' = a' := by omega
              rw [hmn] at HT
              have t2 : (if x.left < a' then x.left else a') = a' := if_neg (by omega)
              have w1 : wrap64 (a' - a') = a' - a' := by unfold wrap64; omega
              have HW1 : Hid (wrap64 (0 : Int) = a' - a' ∧ wrap64 (a' - a') = a' - a') := show _ ∧ _ from ⟨by unfold wrap64; omega, w1⟩
              have HW2 : Hid ((0 : Int) = a' - a') := show _ = _ by omega
              have w2 : wrap64 (x.left - a') = x.left - a' := by unfold wrap64; omega
              have t3 : (x.left - a' == 0) = false := by simp; omega
              clear hx hxl hrow hrow1 hcur hsz hat hput hl0 hg hgl hnl e hcv hmn ha0 ha1 hlo
              generalize hNN : N ++ [covB x a' d] = N' at *
              clear hNN
              generalize x.left = l at *
              clear w1
              go_upto_region 13 with (first
                | (refine o_put rfl 2 _ _ rfl rfl g (j * 6 + 2) (.int .i64 (wrap64 (l - a'))) rfl rfl rfl 28 cur HCUR.out HSZ.out l_one ?_; intro z1 hr ho; rw [w2] at hr; have HR1 := Lib.hid hr; have HN := Lib.hid (HT.out _ hr ho); clear hr ho))
              have c2' : z1.cell? ⟨g, j * 6 + 2, none⟩ = some (.int .i64 (l - a')) := HR1.out.cell.trans (by rw [Array.getElem?_setIfInBounds_self_of_lt HSZ.out])
              go_wp2_with fail
              go_roundw
              case rel => exact ⟨j + 1, _, _, by omega, by first | rfl | rw [HW1.out.2] | rw [← HW2.out], rfl, HN.out⟩
              case measure => simp [intOf]; omega
        · obtain rfl : j = M.length := by omega
          have HE : Hid (crB d M' a = (N ++ M'.drop M.length, a')) := by
            have h := HX.out
            rw [← hML] at h ⊢
            exact h.done
          have HK := Lib.hid (HKY.out _ HX.out.low)
          go_wp2_with (first
            | (refine o_store rfl 45 _ _ rfl rfl k #[.slice A M.length c, .int .i64 a'] rfl rfl _ _ HK.out (ch_info _ _) rfl (ch_one _ _ _ _) ?_; intro z hr ho; have HK2 := Lib.hid hr; have HC2 := Lib.hid (HX.out.cop.one ho HKL.out); have HY2 := Lib.hid (below_one_of (below_to HY.out HX.out.low) ho HGW.out (below_to HY.out HX.out.low).size); clear hr ho))
          refine bodyPost_ret (results_two rfl _ _ _ _ _ _ _ rfl HK2.out Tryd.underlying45 rfl (ch_info _ _) rfl) rfl ?_
          exact HFT.out _ _ _ _ y _ HA.out HE.out HC2.out HY.out HY2.out
    · have h1 : creE M a d = 1 := by unfold creE; rw [if_pos hg, if_neg hmd]
      have h2 : creL M a d = [] := by unfold creL; rw [h1, if_neg (by decide)]
      have h3 : creK M a d = 0 := by unfold creK; rw [h1, if_neg (by decide)]
      rw [h1, h2, h3]
      clear h1 h2 h3 hg
      cases hm : moneyB a with
      | false =>
        rw [hm] at KP
        clear hmd hm
        go_enter Tryd.func24, Tryd.ntmps24
        go_upto_region 1 with fail
        rw [← f0, ← e0]
        clear e0 f0
        go_wp2_with (first
          | (go_at_call 14; (refine (KG.out _ HW.out).mono ?_); rintro e y ⟨rfl, hb⟩; have HY := Lib.hid (below_to HW.out hb); replace HK := Lib.hid (HK.out.below hb); clear hb)
          | (go_at_call 32; (with_reducible refine (KP.out _).mono ?_); rintro e y2 ⟨rfl, rfl⟩)
          | (refine o_store rfl 45 _ _ rfl rfl k #[.slice none 0 0, .int .i64 0] rfl rfl _ _ HK.out (ch_info _ _) rfl ch_zero ?_; intro z hr ho; replace HK := Lib.hid hr; replace HY := Lib.hid (below_one_of HY.out ho HGW.out HY.out.size); clear hr ho))
        refine bodyPost_ret (results_two rfl _ _ _ _ _ _ _ rfl HK.out Tryd.underlying45 rfl (ch_info _ _) rfl) rfl ?_
        exact rtold_none _ HY.out
      | true =>
        have hd : dayB d = false := by
          rw [Bool.eq_false_iff]
          exact fun h => hmd ⟨hm, h⟩
        rw [hm] at KP
        rw [hd] at KD
        clear hmd hm hd
        go_enter Tryd.func24, Tryd.ntmps24
        go_upto_region 1 with fail
        rw [← f0, ← e0]
        clear e0 f0
        go_wp2_with (first
          | (go_at_call 14; (refine (KG.out _ HW.out).mono ?_); rintro e y ⟨rfl, hb⟩; have HY := Lib.hid (below_to HW.out hb); replace HK := Lib.hid (HK.out.below hb); clear hb)
          | (go_at_call 32; (with_reducible refine (KP.out _).mono ?_); rintro e y2 ⟨rfl, rfl⟩)
          | (go_at_call 33; (with_reducible refine (KD.out _).mono ?_); rintro e y3 ⟨rfl, rfl⟩)
          | (refine o_store rfl 45 _ _ rfl rfl k #[.slice none 0 0, .int .i64 0] rfl rfl _ _ HK.out (ch_info _ _) rfl ch_zero ?_; intro z hr ho; replace HK := Lib.hid hr; replace HY := Lib.hid (below_one_of HY.out ho HGW.out HY.out.size); clear hr ho))
        refine bodyPost_ret (results_two rfl _ _ _ _ _ _ _ rfl HK.out Tryd.underlying45 rfl (ch_info _ _) rfl) rfl ?_
        exact rtold_none _ HY.out
end Go.Proofs.YtjjbdemhccpllaaDoor.RBill
