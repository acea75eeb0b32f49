/- The program's own package bill: Credit. -/
import Derived.Test.YtjjbdemhccpllaaDoorBillC3
import Derived.WalkMore
namespace Go.Proofs.YtjjbdemhccpllaaDoor.Bill
open Go.ChangeShapes Go.WideShapes Go.ChangeAt Go.RowKit Plan Date Cal Money Box Rws Slice

/-- What a call tells that makes bills: them, what is left, the error. -/
def ToldB (R : List Bl) (k x : Int) (w : World) (e : Ending) (w' : World) : Prop := ∃ u M', e = .returned (.tuple #[u, .int .i64 k, .int .i64 x]) ∧ AlikeB R M' ∧ Cop w.heap.size w' u M' ∧ Below w.heap.size w w'
theorem told_none (x : Int) {w w' : World} (hb : Below w.heap.size w w') : ToldB [] 0 x w (.returned (.tuple #[.slice none 0 0, .int .i64 0, .int .i64 x])) w' := ⟨_, [], rfl, AlikeB.refl _, Cop.nil_ _ _, hb⟩
/-- While bills are covered. -/
structure Cred (w W : World) (u : Value) (M : List Bl) (a d : Int) (N : List Bl) (j : Nat) (a' : Int) : Prop where
  cop : Cop w.heap.size W u (N ++ M.drop j)
  len : N.length = j
  eq : crB d M a = (N ++ (crB d (M.drop j) a').1, (crB d (M.drop j) a').2)
  a0 : 0 ≤ a'
  a1 : a' ≤ 10000000000000
  low : Below w.heap.size w W
section
variable {w W : World} {u : Value} {M N : List Bl} {a d a' : Int} {j : Nat} {x : Bl}
theorem Cred.skip (h : Cred w W u M a d N j a') (hx : M[j]? = some x) (h0 : x.left = 0) : Cred w W u M a d (N ++ [x]) (j + 1) a' := by
  have e : (N ++ [x]) ++ M.drop (j + 1) = N ++ M.drop j := by rw [drop_at hx, List.append_assoc]; rfl
  refine ⟨by rw [e]; exact h.cop, by rw [List.length_append, h.len]; rfl, ?_, h.a0, h.a1, h.low⟩
  rw [h.eq, drop_at hx, cr_skip h0, List.append_assoc]
  rfl
theorem Cred.stop (h : Cred w W u M a d N j a') (h0 : a' = 0) (hM : ∀ b ∈ M, 0 ≤ b.left ∧ b.left ≤ 10000000000000) : crB d M a = (N ++ M.drop j, a') := by
  rw [h.eq, h0, cr_zero d (fun b hb => (hM b (List.mem_of_mem_drop hb)).1)]
theorem Cred.done (h : Cred w W u M a d N M.length a') : crB d M a = (N ++ M.drop M.length, a') := by
  rw [h.eq, List.drop_length]
  rfl
theorem Cred.put {y z : World} {g c n : Nat} (hN : n = M.length) (h : Cred w W (.slice (some ⟨g, 0, none⟩) n c) M a d N j a') (hx : M[j]? = some x) (h0 : x.left ≠ 0) (hl : 0 ≤ x.left) (hb : Below W.heap.size W y)
    (hrow : z.ownsRow w.heap.size 28 6 (.slice (some ⟨g, 0, none⟩) n c) n (flatB ((N ++ [covB x a' d]) ++ M.drop (j + 1)))) (ho : One g y z) (hgw : w.heap.size ≤ g) : Cred w z (.slice (some ⟨g, 0, none⟩) n c) M a d (N ++ [covB x a' d]) (j + 1) (a' - min x.left a') := by
  subst hN
  have hj : j < M.length := (List.getElem?_eq_some_iff.1 hx).1
  have hn : ((N ++ [covB x a' d]) ++ M.drop (j + 1)).length = M.length := by
    simp only [List.length_append, List.length_drop, h.len, List.length_singleton]
    omega
  refine ⟨⟨by rw [hn]; exact hrow, fun b hm => ?_⟩, by rw [List.length_append, h.len]; rfl, ?_, by have := h.a0; omega, by have := h.a1; have := h.a0; omega, below_one_of (below_to h.low hb) ho hgw (below_to h.low hb).size⟩
  · have hid : ∃ b' ∈ N ++ M.drop j, b.v = b'.v ∧ b.ids = b'.ids := by
      rw [drop_at hx]
      rcases List.mem_append.1 hm with hm | hm
      · rcases List.mem_append.1 hm with hm | hm
        · exact ⟨b, List.mem_append.2 (Or.inl hm), rfl, rfl⟩
        · obtain rfl := List.mem_singleton.1 hm
          exact ⟨x, List.mem_append.2 (Or.inr List.mem_cons_self), rfl, rfl⟩
      · exact ⟨b, List.mem_append.2 (Or.inr (List.mem_cons_of_mem _ hm)), rfl, rfl⟩
    obtain ⟨b', hb', e1, e2⟩ := hid
    rw [e1, e2]
    have hh := h.cop.below hb
    exact (hh.ids b' hb').kept (one_grown ho) (own_far (hh.ids b' hb') hh.row bill_ne)
  · rw [h.eq, drop_at hx, cr_take h0, List.append_assoc]
    rfl
theorem Cred.take {y z : World} {g c n : Nat} {cur : Array Value} (hN : n = M.length) (h : Cred w W (.slice (some ⟨g, 0, none⟩) n c) M a d N j a') (hx : M[j]? = some x) (h0 : x.left ≠ 0) (hl : 0 ≤ x.left) (hb : Below W.heap.size W y)
    (hp : ∀ W', Boxd W' g (putAll cur (flatB N).length (covB x a' d).cells.toList) 28 → W.heap.size ≤ W'.heap.size → W'.ownsRow w.heap.size 28 6 (.slice (some ⟨g, 0, none⟩) n c) n (flatB N ++ (covB x a' d).cells.toList ++ flatB (M.drop (j + 1))))
    (hr : Boxd z g (putAll cur (j * 6) (covB x a' d).cells.toList) 28) (ho : One g y z) (hgw : w.heap.size ≤ g) : Cred w z (.slice (some ⟨g, 0, none⟩) n c) M a d (N ++ [covB x a' d]) (j + 1) (a' - min x.left a') := by
  have hrow := hp z (by rw [flatB_len, h.len]; exact hr) (Nat.le_trans hb.size ho.size)
  have e : flatB N ++ (covB x a' d).cells.toList ++ flatB (M.drop (j + 1)) = flatB ((N ++ [covB x a' d]) ++ M.drop (j + 1)) := by
    rw [List.append_assoc N, List.singleton_append, flatB_one]
  rw [e] at hrow
  exact h.put hN hx h0 hl hb hrow ho hgw
end
set_option maxRecDepth 20000 in
set_option maxHeartbeats 1000000 in
theorem b_credit (M : List Bl) (a d : Int) (v : Value) (B : Nat) (w : World) (hB : B ≤ w.heap.size) (hv : Bls w B v M) (hN : M.length ≤ 1000) (hI : ∀ b ∈ M, b.ids.length ≤ 1000) (L : Laid w) : Calls Tryd.prog 23 #[v, .int .i64 a, .int .i64 d] w (ToldB (creL M a d) (creK M a d) (creE M a d) w) := by
  have KG := Lib.hid (fun (_ : Unit) => b_goodM M v B w hB hv L)
  have KP := Lib.hid (fun W => p_plain a W)
  have KD := Lib.hid (fun W (h : Below w.heap.size w W) => d_good d W (L.of h))
  have KC := Lib.hid (fun W (h : Below w.heap.size w W) => b_copied M v B W (Nat.le_trans hB h.size) (hv.below (h.mono hB)) hN hI)
  obtain ⟨A0, k0, rfl⟩ := hv.1.shape
  have lM := hv.1.len
  cases hg : goodM M with
  | false =>
    have h1 : creE M a d = 11 := by unfold creE; rw [hg, if_neg (by simp)]
    have h2 : creL M a d = [] := by unfold creL; rw [h1, if_neg (by decide)]
    have h3 : creK M a d = 0 := by unfold creK; rw [h1, if_neg (by decide)]
    rw [h1, h2, h3]
    rw [hg] at KG
    clear hv hB hI L h1 h2 h3 hg
    go_enter Tryd.func23, Tryd.ntmps23
    go_wp2_with fail
    go_step3
    go_wp2_with (first
      | (go_at_call 13; (with_reducible refine (KG.out ()).mono ?_); rintro e y ⟨rfl, hb⟩; have HY := Lib.hid hb; clear hb))
    (try rw [Exit.noGoto_ret])
    go_ret3
    exact told_none _ HY.out
  | true =>
    rw [hg] at KG
    by_cases hmd : moneyB a = true ∧ dayB d = true
    · have h1 : creE M a d = 0 := by unfold creE; rw [if_pos hg, if_pos hmd]
      have h2 : creL M a d = (crB d M a).1 := by unfold creL; rw [if_pos h1]
      have h3 : creK M a d = (crB d M a).2 := by unfold creK; rw [if_pos h1]
      have HL := Lib.hid (good_left hg)
      have hma := money_iff.1 hmd.1
      have HMA := Lib.hid hma
      rw [h1, h2, h3]
      rw [hmd.1] at KP
      rw [hmd.2] at KD
      clear hv hB hI L h1 h2 h3 hg hmd
      have HFT : Hid (∀ (M' N : List Bl) (j : Nat) (a' : Int) (u : Value) (w' : World), AlikeB M M' → crB d M' a = (N ++ M'.drop j, a') → Cop w.heap.size w' u (N ++ M'.drop j) → Below w.heap.size w w' → ToldB (crB d M a).1 (crB d M a).2 0 w (.returned (.tuple #[u, .int .i64 a', .int .i64 0])) w') := fun M' N j a' u w' ha he hc hb => by
        have h := cr_alike d a ha
        rw [he] at h
        refine ⟨u, N ++ M'.drop j, ?_, h.1, hc, hb⟩
        rw [← h.2]
      have hmM := hma
      clear hma
      go_enter Tryd.func23, Tryd.ntmps23
      go_wp2_with fail
      go_step3
      go_wp2_with (first
        | (go_at_call 13; (with_reducible refine (KG.out ()).mono ?_); rintro e y ⟨rfl, hb⟩; have HY := Lib.hid hb; clear hb)
        | (go_at_call 39; (with_reducible refine (KP.out _).mono ?_); rintro e y2 ⟨rfl, rfl⟩)
        | (go_at_call 35; (with_reducible refine (KD.out _ HY.out).mono ?_); rintro e y3 ⟨rfl, hb⟩; replace HY := Lib.hid (below_to HY.out hb); clear hb)
        | (go_at_call 41; (refine (KC.out _ HY.out).mono ?_); rintro e y4 ⟨u, M', rfl, ha, hc, hb⟩; have HA := Lib.hid ha; have HCP := Lib.hid (And.intro hc (below_to HY.out hb)); have HYS := Lib.hid HY.out.size; obtain ⟨A, c, rfl⟩ := own_slice' hc.row; clear ha hc hb))
      have hML : M'.length = M.length := HA.out.1
      have HLM : Hid (∀ b ∈ M', 0 ≤ b.left ∧ b.left ≤ 10000000000000) := fun b hb => by
        obtain ⟨i, hi, rfl⟩ := List.getElem_of_mem hb
        have hiM : i < M.length := by rw [← hML]; exact hi
        obtain ⟨v', hv'⟩ := HA.out.2 i _ (List.getElem?_eq_getElem hiM)
        rw [List.getElem?_eq_getElem hi] at hv'
        have e := Option.some.inj hv'
        rw [e]
        have hh := HL.out (M[i]) (List.getElem_mem hiM)
        exact hh
      rw [hML]
      have H1 : Hid (Cred w y4 (.slice A M.length c) M' a d [] 0 a) := ⟨⟨(by rw [← hML]; exact HCP.out.1.row.mono HYS.out), fun b hb => (HCP.out.1.ids b hb).mono HYS.out⟩, rfl, rfl, HMA.out.1, HMA.out.2, HCP.out.2⟩
      clear HCP HYS
      go_step3
      go_wp2_with fail
      go_loopw [7, 26] (fun s t wr => ∃ (j : Nat) (N : List Bl) (a' : Int), j ≤ M.length ∧ s = .int .i64 a' ∧ t = .int .i64 j ∧ Hid (Cred w wr (.slice A M.length c) M' a d N j a')) (fun _ t _ => M.length - (intOf t).toNat)
      case atStart => exact ⟨0, [], a, Nat.zero_le _, rfl, rfl, H1.out⟩
      case round =>
        obtain ⟨j, N, a', hj, rfl, rfl, HX⟩ := hrel
        by_cases hlt : j < M.length
        · by_cases h0 : a' = 0
          · have HE := Lib.hid (HX.out.stop h0 HLM.out)
            have t0 : (a' == 0) = true := by simp [h0]
            clear h0
            go_wp2_with fail
            (try rw [Exit.noGoto_ret])
            go_ret3
            exact HFT.out _ _ _ _ _ _ HA.out HE.out HX.out.cop HX.out.low
          · have t0 : (a' == 0) = false := by simpa using h0
            obtain ⟨g, c', e0, hg, hgl⟩ := own_form HX.out.cop.row (by rw [List.length_append, HX.out.len, List.length_drop]; omega)
            have hnl : (N ++ M'.drop j).length = M.length := by rw [List.length_append, HX.out.len, List.length_drop]; omega
            injection e0 with e0 el e2
            clear el
            subst e0 e2
            obtain ⟨x, hx⟩ : ∃ x, M'[j]? = some x := ⟨_, List.getElem?_eq_getElem (by omega)⟩
            have hmem := List.mem_of_getElem? hx
            have hxl := HLM.out x hmem
            have hrow := HX.out.cop.row
            rw [hnl, drop_at hx, flatB_one] at hrow
            obtain ⟨cur, hcur, hsz, hat, hput⟩ := own_put (Y := (covB x a' d).cells.toList) hrow rfl
            rw [flatB_len, HX.out.len] at hat hsz
            have HR : Hid (wr.rangeAt g (j * 6) x.cells.toList) := fun i v hi => hcur.cell.trans (hat i v hi)
            have c2 : wr.cell? ⟨g, j * 6 + 2, none⟩ = some (.int .i64 x.left) := HR.out 2 _ rfl
            have HXX := Lib.hid hx
            by_cases hl0 : x.left = 0
            · have t1 : (x.left == 0) = true := by simp [hl0]
              have HS := Lib.hid (HX.out.skip HXX.out hl0)
              clear h0 hx hmem hxl hrow hcur hsz hat hput hl0 hg hgl hnl
              generalize x.left = l at *
              go_wp2_with fail
              go_roundw
              case rel => exact ⟨j + 1, _, a', by omega, rfl, rfl, HS.out⟩
              case measure => simp [intOf]; omega
            · have t1 : (x.left == 0) = false := by simpa using hl0
              have hidx := HX.out.cop.ids x (by rw [drop_at hx]; exact List.mem_append.2 (Or.inr List.mem_cons_self))
              obtain ⟨Ax, cx, hxv⟩ := own_slice' hidx
              have KV := Lib.hid (fun W => b_cover x a' d W ⟨Ax, _, cx, hxv⟩ hxl.1 hxl.2 HX.out.a0 HX.out.a1)
              have HCUR := Lib.hid hcur
              have HSZ : Hid (j * 6 + (covB x a' d).cells.size ≤ cur.size) := hsz
              have HOD := Lib.hid (bl_one (covB x a' d) (A := Ax) (n := x.ids.length) (c := cx) hxv)
              have HSD := Lib.hid (bl_info (covB x a' d))
              have HS := Lib.hid (bl_info' x)
              have HT := Lib.hid (fun (y z : World) (hb : Below wr.heap.size wr y) (hr : Boxd z g (putAll cur (j * 6) (covB x a' d).cells.toList) 28) (ho : One g y z) => HX.out.take hML.symm HXX.out hl0 hxl.1 hb hput hr ho hg)
              clear h0 hx hmem hxl hrow hcur hsz hat hput hl0 hg hgl hnl hidx hxv
              generalize hNN : N ++ [covB x a' d] = N' at *
              generalize hAA : a' - min x.left a' = a2 at *
              generalize (covB x a' d).cells = D at *
              generalize x.cells = C at *
              generalize x.left = l at *
              clear hNN hAA
              go_wp2_with (first
                | (refine load_mid_want (by rfl) 28 _ rfl _ _ rfl C _ HR.out Tryd.underlying28 rfl HS.out ?_)
                | (go_at_call 40; (refine (KV.out _).mono ?_); rintro e y5 ⟨rfl, hb⟩; have HB5 := Lib.hid hb; have HC5 := Lib.hid (HCUR.out.below hb); clear hb)
                | (refine o_mid rfl 28 _ _ rfl rfl g (j * 6) D rfl rfl HOD.out 28 cur HC5.out HSZ.out HSD.out ?_; intro z hr ho; have HN := Lib.hid (HT.out _ _ HB5.out hr ho); clear hr ho))
              go_roundw
              case rel => exact ⟨j + 1, _, _, by omega, rfl, rfl, HN.out⟩
              case measure => simp [intOf]; omega
        · obtain rfl : j = M.length := by omega
          have HE : Hid (crB d M' a = (N ++ M'.drop M.length, a')) := by
            have h := HX.out
            rw [← hML] at h ⊢
            exact h.done
          go_wp2_with fail
          (try rw [Exit.noGoto_ret])
          go_ret3
          exact HFT.out _ _ _ _ _ _ HA.out HE.out HX.out.cop HX.out.low
    · have h1 : creE M a d = 1 := by unfold creE; rw [if_pos hg, if_neg hmd]
      have h2 : creL M a d = [] := by unfold creL; rw [h1, if_neg (by decide)]
      have h3 : creK M a d = 0 := by unfold creK; rw [h1, if_neg (by decide)]
      rw [h1, h2, h3]
      clear hv hB hI L h1 h2 h3 hg
      cases hm : moneyB a with
      | false =>
        rw [hm] at KP
        clear hmd hm
        go_enter Tryd.func23, Tryd.ntmps23
        go_wp2_with fail
        go_step3
        go_wp2_with (first
          | (go_at_call 13; (with_reducible refine (KG.out ()).mono ?_); rintro e y ⟨rfl, hb⟩; have HY := Lib.hid hb; clear hb)
          | (go_at_call 39; (with_reducible refine (KP.out _).mono ?_); rintro e y2 ⟨rfl, rfl⟩))
        (try rw [Exit.noGoto_ret])
        go_ret3
        exact told_none _ HY.out
      | true =>
        have hd : dayB d = false := by
          rw [Bool.eq_false_iff]
          exact fun h => hmd ⟨hm, h⟩
        rw [hm] at KP
        rw [hd] at KD
        clear hmd hm hd
        go_enter Tryd.func23, Tryd.ntmps23
        go_wp2_with fail
        go_step3
        go_wp2_with (first
          | (go_at_call 13; (with_reducible refine (KG.out ()).mono ?_); rintro e y ⟨rfl, hb⟩; have HY := Lib.hid hb; clear hb)
          | (go_at_call 39; (with_reducible refine (KP.out _).mono ?_); rintro e y2 ⟨rfl, rfl⟩)
          | (go_at_call 35; (with_reducible refine (KD.out _ HY.out).mono ?_); rintro e y3 ⟨rfl, hb⟩; replace HY := Lib.hid (below_to HY.out hb); clear hb))
        (try rw [Exit.noGoto_ret])
        go_ret3
        exact told_none _ HY.out
end Go.Proofs.YtjjbdemhccpllaaDoor.Bill
