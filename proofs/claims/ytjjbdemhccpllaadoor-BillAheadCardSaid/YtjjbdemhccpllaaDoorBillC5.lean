/- The program's own package bill: Issue. -/
import Derived.Test.YtjjbdemhccpllaaDoorBillC4
namespace Go.Proofs.YtjjbdemhccpllaaDoor.Bill
open Go.ChangeShapes Go.WideShapes Go.ChangeAt Go.RowKit Plan Date Cal Money Box Rws Slice
set_option linter.unusedSimpArgs false

set_option maxRecDepth 20000 in
theorem b_follows (M : List Bl) (m : Int) (v : Value) (B : Nat) (w : World) (hv : Bls w B v M) : Calls Tryd.prog 38 #[v, .int .i64 m] w fun e w' => e = .returned (.bool (follB M m)) ∧ w = w' := by
  obtain ⟨A, k, rfl⟩ := hv.1.shape
  have lM := hv.1.len
  have HV := Lib.hid hv.1
  clear hv
  rcases Nat.eq_zero_or_pos M.length with h0 | h0
  · obtain rfl : M = [] := List.eq_nil_of_length_eq_zero h0
    have HQ : Hid (follB [] m = true) := show _ = _ from rfl
    go_enter Tryd.func38, Tryd.ntmps38
    go_wp2_with fail
    go_ret
    exact ⟨by rw [HQ.out]; rfl, rfl⟩
  · obtain ⟨b, off, k', e0, -, -⟩ := HV.out.open h0
    injection e0 with e0 el e2
    clear el
    subst e0 e2
    obtain ⟨n, hn⟩ : ∃ n, M.length = n + 1 := ⟨M.length - 1, by omega⟩
    obtain ⟨x, hx⟩ : ∃ x, M[n]? = some x := ⟨_, List.getElem?_eq_getElem (by omega)⟩
    have c0 : w.cell? ⟨b, off + n * 6, none⟩ = some (.int .i64 x.month) := HV.out.at_ hx 0 _ rfl
    have HQ : Hid (follB M m = decide (x.month < m)) := by
      show _ = _
      unfold follB
      rw [List.getLast?_eq_getElem?, hn, Nat.add_sub_cancel, hx]
    have hw : wrap64 (((n + 1 : Nat) : Int) - 1) = (n : Int) := by unfold wrap64; omega
    have hw' : wrap64 ((n : Int) + 1 - 1) = (n : Int) := by unfold wrap64; omega
    have t1 : (((n + 1 : Nat) : Int) == 0) = false := by simp; omega
    have t1' : (((n : Int) + 1) == 0) = false := by simp; omega
    have t2 : ((n : Int) + 1 - 1) = (n : Int) := by omega
    rw [hn] at HV lM ⊢
    clear hx hn h0
    generalize x.month = q at *
    go_enter Tryd.func38, Tryd.ntmps38
    go_wp2_with fail
    go_ret
    exact ⟨by rw [HQ.out]; rfl, rfl⟩
set_option maxRecDepth 20000 in
set_option maxHeartbeats 1000000 in
theorem issue_form (M : List Bl) (m a ahead how : Int) (ids : List Int) (v vi : Value) (B Bi : Nat) (w : World) (hB : B ≤ w.heap.size) (hv : Bls w B v M) (hvi : Ints w Bi .i64 vi ids) (L : Laid w) (hg : goodM M = false) : Calls Tryd.prog 21 #[v, .int .i64 m, .int .i64 a, .int .i64 ahead, .int .i64 how, vi] w (ToldB (issL M m a ahead how ids) (issK M m a ahead) (issE M m a ahead) w) := by
  have KG := Lib.hid (fun (_ : Unit) => b_goodM M v B w hB hv L)
  have KF := Lib.hid (fun W (h : Below w.heap.size w W) => d_first m W (L.of h))
  have KW := Lib.hid (fun W (h : Below w.heap.size w W) => b_follows M m v B W (hv.below (h.mono hB)))
  have KP := Lib.hid (fun W => p_plain a W)
  have KQ := Lib.hid (fun W => p_plain ahead W)
  obtain ⟨A0, k0, rfl⟩ := hv.1.shape
  obtain ⟨A1, k1, rfl, -⟩ := id hvi
  have h1 : issE M m a ahead = 11 := by
    unfold issE
    rw [hg, if_neg (by simp)]
  have h2 : issL M m a ahead how ids = [] := by unfold issL; rw [h1, if_neg (by decide)]
  have h3 : issK M m a ahead = 0 := by unfold issK; rw [h1, if_neg (by decide)]
  rw [h1, h2, h3]
  rw [hg] at KG
  clear hg
  clear h1 h2 h3 hv hvi hB L
  go_enter Tryd.func21, Tryd.ntmps21
  go_wp2_with (first
    | (go_at_call 13; (with_reducible refine (KG.out ()).mono ?_); rintro e y ⟨rfl, hb⟩; have HY := Lib.hid hb; clear hb))
  go_ret3
  exact told_none _ HY.out
set_option maxRecDepth 20000 in
set_option maxHeartbeats 1000000 in
theorem issue_month (M : List Bl) (m a ahead how : Int) (ids : List Int) (v vi : Value) (B Bi : Nat) (w : World) (hB : B ≤ w.heap.size) (hv : Bls w B v M) (hvi : Ints w Bi .i64 vi ids) (L : Laid w) (hg : goodM M = true) (hm : ¬ (0 ≤ m ∧ m ≤ 2879)) : Calls Tryd.prog 21 #[v, .int .i64 m, .int .i64 a, .int .i64 ahead, .int .i64 how, vi] w (ToldB (issL M m a ahead how ids) (issK M m a ahead) (issE M m a ahead) w) := by
  have KG := Lib.hid (fun (_ : Unit) => b_goodM M v B w hB hv L)
  have KF := Lib.hid (fun W (h : Below w.heap.size w W) => d_first m W (L.of h))
  have KW := Lib.hid (fun W (h : Below w.heap.size w W) => b_follows M m v B W (hv.below (h.mono hB)))
  have KP := Lib.hid (fun W => p_plain a W)
  have KQ := Lib.hid (fun W => p_plain ahead W)
  obtain ⟨A0, k0, rfl⟩ := hv.1.shape
  obtain ⟨A1, k1, rfl, -⟩ := id hvi
  have h1 : issE M m a ahead = 1 := by
    unfold issE
    rw [if_pos hg, if_neg (by rw [decide_eq_false hm]; simp)]
  have h2 : issL M m a ahead how ids = [] := by unfold issL; rw [h1, if_neg (by decide)]
  have h3 : issK M m a ahead = 0 := by unfold issK; rw [h1, if_neg (by decide)]
  rw [h1, h2, h3]
  rw [hg] at KG
  rw [fir_no hm] at KF
  generalize firV m = f at *
  clear hg hm
  clear h1 h2 h3 hv hvi hB L
  go_enter Tryd.func21, Tryd.ntmps21
  go_wp2_with (first
    | (go_at_call 13; (with_reducible refine (KG.out ()).mono ?_); rintro e y ⟨rfl, hb⟩; have HY := Lib.hid hb; clear hb)
    | (go_at_call 36; (with_reducible refine (KF.out _ HY.out).mono ?_); rintro e y2 ⟨rfl, hb⟩; replace HY := Lib.hid (below_to HY.out hb); clear hb))
  go_ret3
  exact told_none _ HY.out
set_option maxRecDepth 20000 in
set_option maxHeartbeats 1000000 in
theorem issue_foll (M : List Bl) (m a ahead how : Int) (ids : List Int) (v vi : Value) (B Bi : Nat) (w : World) (hB : B ≤ w.heap.size) (hv : Bls w B v M) (hvi : Ints w Bi .i64 vi ids) (L : Laid w) (hg : goodM M = true) (hm : 0 ≤ m ∧ m ≤ 2879) (hf : follB M m = false) : Calls Tryd.prog 21 #[v, .int .i64 m, .int .i64 a, .int .i64 ahead, .int .i64 how, vi] w (ToldB (issL M m a ahead how ids) (issK M m a ahead) (issE M m a ahead) w) := by
  have KG := Lib.hid (fun (_ : Unit) => b_goodM M v B w hB hv L)
  have KF := Lib.hid (fun W (h : Below w.heap.size w W) => d_first m W (L.of h))
  have KW := Lib.hid (fun W (h : Below w.heap.size w W) => b_follows M m v B W (hv.below (h.mono hB)))
  have KP := Lib.hid (fun W => p_plain a W)
  have KQ := Lib.hid (fun W => p_plain ahead W)
  obtain ⟨A0, k0, rfl⟩ := hv.1.shape
  obtain ⟨A1, k1, rfl, -⟩ := id hvi
  have h1 : issE M m a ahead = 1 := by
    unfold issE
    rw [if_pos hg, if_neg (by rw [hf]; simp)]
  have h2 : issL M m a ahead how ids = [] := by unfold issL; rw [h1, if_neg (by decide)]
  have h3 : issK M m a ahead = 0 := by unfold issK; rw [h1, if_neg (by decide)]
  rw [h1, h2, h3]
  rw [hg] at KG
  rw [fir_ok hm] at KF
  rw [hf] at KW
  generalize firV m = f at *
  clear hg hm hf
  clear h1 h2 h3 hv hvi hB L
  go_enter Tryd.func21, Tryd.ntmps21
  go_wp2_with (first
    | (go_at_call 13; (with_reducible refine (KG.out ()).mono ?_); rintro e y ⟨rfl, hb⟩; have HY := Lib.hid hb; clear hb)
    | (go_at_call 36; (with_reducible refine (KF.out _ HY.out).mono ?_); rintro e y2 ⟨rfl, hb⟩; replace HY := Lib.hid (below_to HY.out hb); clear hb)
    | (go_at_call 38; (with_reducible refine (KW.out _ HY.out).mono ?_); rintro e y3 ⟨rfl, rfl⟩))
  go_ret3
  exact told_none _ HY.out
set_option maxRecDepth 20000 in
set_option maxHeartbeats 1000000 in
theorem issue_amount (M : List Bl) (m a ahead how : Int) (ids : List Int) (v vi : Value) (B Bi : Nat) (w : World) (hB : B ≤ w.heap.size) (hv : Bls w B v M) (hvi : Ints w Bi .i64 vi ids) (L : Laid w) (hg : goodM M = true) (hm : 0 ≤ m ∧ m ≤ 2879) (hf : follB M m = true) (ha : moneyB a = false) : Calls Tryd.prog 21 #[v, .int .i64 m, .int .i64 a, .int .i64 ahead, .int .i64 how, vi] w (ToldB (issL M m a ahead how ids) (issK M m a ahead) (issE M m a ahead) w) := by
  have KG := Lib.hid (fun (_ : Unit) => b_goodM M v B w hB hv L)
  have KF := Lib.hid (fun W (h : Below w.heap.size w W) => d_first m W (L.of h))
  have KW := Lib.hid (fun W (h : Below w.heap.size w W) => b_follows M m v B W (hv.below (h.mono hB)))
  have KP := Lib.hid (fun W => p_plain a W)
  have KQ := Lib.hid (fun W => p_plain ahead W)
  obtain ⟨A0, k0, rfl⟩ := hv.1.shape
  obtain ⟨A1, k1, rfl, -⟩ := id hvi
  have h1 : issE M m a ahead = 1 := by
    unfold issE
    rw [if_pos hg, if_neg (by rw [ha]; simp)]
  have h2 : issL M m a ahead how ids = [] := by unfold issL; rw [h1, if_neg (by decide)]
  have h3 : issK M m a ahead = 0 := by unfold issK; rw [h1, if_neg (by decide)]
  rw [h1, h2, h3]
  rw [hg] at KG
  rw [fir_ok hm] at KF
  rw [hf] at KW
  rw [ha] at KP
  generalize firV m = f at *
  clear hg hm hf ha KQ
  clear h1 h2 h3 hv hvi hB L
  go_enter Tryd.func21, Tryd.ntmps21
  go_wp2_with (first
    | (go_at_call 13; (with_reducible refine (KG.out ()).mono ?_); rintro e y ⟨rfl, hb⟩; have HY := Lib.hid hb; clear hb)
    | (go_at_call 36; (with_reducible refine (KF.out _ HY.out).mono ?_); rintro e y2 ⟨rfl, hb⟩; replace HY := Lib.hid (below_to HY.out hb); clear hb)
    | (go_at_call 38; (with_reducible refine (KW.out _ HY.out).mono ?_); rintro e y3 ⟨rfl, rfl⟩)
    | (go_at_call 39; (with_reducible refine (KP.out _).mono ?_); rintro e y4 ⟨rfl, rfl⟩))
  go_ret3
  exact told_none _ HY.out
set_option maxRecDepth 20000 in
set_option maxHeartbeats 1000000 in
theorem issue_ahead (M : List Bl) (m a ahead how : Int) (ids : List Int) (v vi : Value) (B Bi : Nat) (w : World) (hB : B ≤ w.heap.size) (hv : Bls w B v M) (hvi : Ints w Bi .i64 vi ids) (L : Laid w) (hg : goodM M = true) (hm : 0 ≤ m ∧ m ≤ 2879) (hf : follB M m = true) (ha : moneyB a = true) (hh : moneyB ahead = false) : Calls Tryd.prog 21 #[v, .int .i64 m, .int .i64 a, .int .i64 ahead, .int .i64 how, vi] w (ToldB (issL M m a ahead how ids) (issK M m a ahead) (issE M m a ahead) w) := by
  have KG := Lib.hid (fun (_ : Unit) => b_goodM M v B w hB hv L)
  have KF := Lib.hid (fun W (h : Below w.heap.size w W) => d_first m W (L.of h))
  have KW := Lib.hid (fun W (h : Below w.heap.size w W) => b_follows M m v B W (hv.below (h.mono hB)))
  have KP := Lib.hid (fun W => p_plain a W)
  have KQ := Lib.hid (fun W => p_plain ahead W)
  obtain ⟨A0, k0, rfl⟩ := hv.1.shape
  obtain ⟨A1, k1, rfl, -⟩ := id hvi
  have h1 : issE M m a ahead = 1 := by
    unfold issE
    rw [if_pos hg, if_neg (by rw [hh]; simp)]
  have h2 : issL M m a ahead how ids = [] := by unfold issL; rw [h1, if_neg (by decide)]
  have h3 : issK M m a ahead = 0 := by unfold issK; rw [h1, if_neg (by decide)]
  rw [h1, h2, h3]
  rw [hg] at KG
  rw [fir_ok hm] at KF
  rw [hf] at KW
  rw [ha] at KP
  rw [hh] at KQ
  have hne : ¬ a = ahead := fun e => by rw [e, hh] at ha; cases ha
  generalize firV m = f at *
  clear hg hm hf ha hh
  clear h1 h2 h3 hv hvi hB L
  go_enter Tryd.func21, Tryd.ntmps21
  go_wp2_with (first
    | (go_at_call 13; (with_reducible refine (KG.out ()).mono ?_); rintro e y ⟨rfl, hb⟩; have HY := Lib.hid hb; clear hb)
    | (go_at_call 36; (with_reducible refine (KF.out _ HY.out).mono ?_); rintro e y2 ⟨rfl, hb⟩; replace HY := Lib.hid (below_to HY.out hb); clear hb)
    | (go_at_call 38; (with_reducible refine (KW.out _ HY.out).mono ?_); rintro e y3 ⟨rfl, rfl⟩)
    | (go_at_call 39; (with_reducible refine (KP.out _).mono ?_); rintro e y4 ⟨rfl, rfl⟩)
    | (go_at_call 39; (with_reducible refine (KQ.out _).mono ?_); rintro e y5 ⟨rfl, rfl⟩))
  go_ret3
  exact told_none _ HY.out
theorem own_box {W : World} {B n s g : Nat} {e T : TypeId} {v : Value} {xs : List Value} {C : Array Value} (h : W.ownsRow B e s v n xs) (hB : Boxd W g C T) (hne : T ≠ e := by decide) : v.ownBlock = none ∨ v.ownBlock ≠ some g := by
  rcases h.2 with ⟨rfl, -⟩ | ⟨g', cap, cur, rfl, -, hh, -⟩
  · exact Or.inl rfl
  · refine Or.inr fun q => ?_
    injection q with q
    have q : g' = g := q
    subst q
    have e := hh.symm.trans hB
    injection e with e
    injection e with _ e
    exact hne e.symm
set_option maxRecDepth 20000 in
set_option maxHeartbeats 4000000 in
theorem issue_ok (M : List Bl) (m a ahead how : Int) (ids : List Int) (v vi : Value) (B Bi : Nat) (w : World) (hB : B ≤ w.heap.size) (hBi : Bi ≤ w.heap.size) (hv : Bls w B v M) (hvi : Ints w Bi .i64 vi ids) (hN : M.length ≤ 999) (hI : ∀ b ∈ M, b.ids.length ≤ 1000) (hII : ids.length ≤ 1000) (L : Laid w) (hg : goodM M = true) (hm : 0 ≤ m ∧ m ≤ 2879) (hf : follB M m = true) (ha : moneyB a = true) (hh : moneyB ahead = true) : Calls Tryd.prog 21 #[v, .int .i64 m, .int .i64 a, .int .i64 ahead, .int .i64 how, vi] w (ToldB (issL M m a ahead how ids) (issK M m a ahead) (issE M m a ahead) w) := by
  have KG := Lib.hid (fun (_ : Unit) => b_goodM M v B w hB hv L)
  have KF := Lib.hid (fun W (h : Below w.heap.size w W) => d_first m W (L.of h))
  have KW := Lib.hid (fun W (h : Below w.heap.size w W) => b_follows M m v B W (hv.below (h.mono hB)))
  have KP := Lib.hid (fun W => p_plain a W)
  have KQ := Lib.hid (fun W => p_plain ahead W)
  have KC := Lib.hid (fun W (h : Below w.heap.size w W) => b_copied M v B W (Nat.le_trans hB h.size) (hv.below (h.mono hB)) (by omega) hI)
  have KI := Lib.hid (fun W (h : Below w.heap.size w W) => b_cloneI ids vi Bi W (Nat.le_trans hBi h.size) (hvi.below (h.mono hBi)) hII)
  obtain ⟨A0, k0, rfl⟩ := hv.1.shape
  obtain ⟨A1, k1, rfl, -⟩ := id hvi
  have h1 : issE M m a ahead = 0 := by
    unfold issE
    rw [if_pos hg, if_pos ⟨decide_eq_true hm, hf, ha, hh⟩]
  have h2 : issL M m a ahead how ids = M ++ [newB m a how ids ahead] := by unfold issL; rw [if_pos h1]
  have h3 : issK M m a ahead = ahead - min a ahead := by unfold issK; rw [if_pos h1]
  rw [h1, h2, h3]
  have qa := money_iff.1 ha
  have qh := money_iff.1 hh
  obtain ⟨lf, hlf⟩ : ∃ lf, lf = ahead - min a ahead := ⟨_, rfl⟩
  have KV : Hid (∀ (v' : Value) (W : World), (∃ A n c, v' = .slice A n c) → Calls Tryd.prog 40 #[.agg (⟨m, a, a, -1, how, v', ids⟩ : Bl).cells, .int .i64 ahead, .int .i64 (firV m)] W fun e w' => e = .returned (.tuple #[.agg ({ newB m a how ids ahead with v := v' } : Bl).cells, .int .i64 lf]) ∧ Below W.heap.size W w') := fun v' W h => by
    rw [hlf]
    exact b_cover ⟨m, a, a, -1, how, v', ids⟩ ahead (firV m) W h qa.1 qa.2 qh.1 qh.2
  rw [← hlf]
  have HS0 : Hid (∀ v', (Tryd.prog.info? 28).map (·.size) = some (⟨m, a, a, -1, how, v', ids⟩ : Bl).cells.size) := fun v' => bl_info ⟨m, a, a, -1, how, v', ids⟩
  have HO0 : Hid (∀ A n c, (⟨m, a, a, -1, how, .slice A n c, ids⟩ : Bl).cells.all (·.oneCell') = true) := fun A n c => bl_one ⟨m, a, a, -1, how, .slice A n c, ids⟩ rfl
  have HC0 : Hid (∀ v', (⟨m, a, a, -1, how, v', ids⟩ : Bl).cells = #[.int .i64 m, .int .i64 a, .int .i64 a, .int .i64 (-1), .int .i64 how, v']) := fun _ => rfl
  have HIL : Hid ((newB m a how ids ahead).ids = ids) := show _ = _ from rfl
  generalize hnb : newB m a how ids ahead = nb at *
  have HSD : Hid (∀ v', (Tryd.prog.info? 28).map (·.size) = some ({ nb with v := v' } : Bl).cells.size) := fun v' => bl_info { nb with v := v' }
  have HOD : Hid (∀ A n c, ({ nb with v := .slice A n c } : Bl).cells.all (·.oneCell') = true) := fun A n c => bl_one { nb with v := .slice A n c } rfl
  have HZD : Hid (∀ v', ({ nb with v := v' } : Bl).cells.toList.length = 6) := fun _ => rfl
  have KS : Hid (∀ (v' : Value) (W : World), (Instr.buildSlice 22 1 #[(0, .agg ({ nb with v := v' } : Bl).cells)]).run Tryd.prog W = .ok (.slice (some ⟨W.heap.size, 0, none⟩) 1 1) (W.alloc (.cells ({ nb with v := v' } : Bl).cells 28))) := fun v' W => run_bill { nb with v := v' } W
  obtain ⟨iB, i1, i2, i3, i4⟩ := info_parts bill_zero
  have HIB := Lib.hid (And.intro i1 (And.intro i2 (And.intro i3 i4)))
  rw [hg] at KG
  rw [fir_ok hm] at KF
  rw [hf] at KW
  rw [ha] at KP
  rw [hh] at KQ
  have HML := Lib.hid hN
  have HFT : Hid (∀ (M' : List Bl) (v' u : Value) (w' : World), AlikeB M M' → Cop w.heap.size w' u (M' ++ [{ nb with v := v' }]) → Below w.heap.size w w' → ToldB (M ++ [nb]) lf 0 w (.returned (.tuple #[u, .int .i64 lf, .int .i64 0])) w') := fun M' v' u w' ha hc hb => ⟨u, M' ++ [{ nb with v := v' }], rfl, alike_append ha (alike_iff.2 rfl), hc, hb⟩
  clear h1 h2 h3 hv hvi hB hBi hI hII L hg hm hf ha hh qa qh hnb hlf i1 i2 i3 i4
  generalize firV m = f at *
  go_enter Tryd.func21, Tryd.ntmps21
  go_upto_region 7 with (first
    | (go_at_call 13; (with_reducible refine (KG.out ()).mono ?_); rintro e y ⟨rfl, hb⟩; have HY := Lib.hid hb; clear hb)
    | (go_at_call 36; (with_reducible refine (KF.out _ HY.out).mono ?_); rintro e y2 ⟨rfl, hb⟩; replace HY := Lib.hid (below_to HY.out hb); clear hb)
    | (go_at_call 38; (with_reducible refine (KW.out _ HY.out).mono ?_); rintro e y3 ⟨rfl, rfl⟩)
    | (go_at_call 39; (first | (with_reducible refine (KP.out _).mono ?_) | (with_reducible refine (KQ.out _).mono ?_)); rintro e y4 ⟨rfl, rfl⟩)
    | (go_at_call 30; (refine (KI.out _ HY.out).mono ?_); rintro e y6 ⟨v', rfl, hi, hb⟩; have HYS := Lib.hid HY.out.size; replace HY := Lib.hid (below_to HY.out hb); have HI := Lib.hid hi; obtain ⟨A6, c6, rfl⟩ := own_slice' hi; clear hi hb)
    | (refine o_store rfl 28 _ _ rfl rfl y6.heap.size #[.int .i64 m, .int .i64 a, .int .i64 a, .int .i64 (-1), .int .i64 how, .slice A6 ids.length c6] rfl rfl _ _ (heap_alloc_last _ _) (by rw [← HC0.out]; exact HS0.out _) rfl (by rw [← HC0.out]; exact HO0.out _ _ _) ?_; intro z hr ho; have HB6 := Lib.hid (below_one_of (below_one y6 _) ho (Nat.le_refl _) (below_one y6 _).size); have HW6 := Lib.hid HY.out.size; replace HI := Lib.hid (own_below HI.out HB6.out); replace HY := Lib.hid (below_to HY.out HB6.out); have HC := Lib.hid hr; clear hr ho))
  obtain ⟨gb, hgb⟩ : ∃ g, g = y6.heap.size := ⟨_, rfl⟩
  rw [← hgb]
  rw [← hgb] at HC HW6
  clear hgb
  rw [← HC0.out] at HC
  have HGL := Lib.hid HC.out.lt
  (have HGL8 := HGL)
  go_upto_region 8 with (first
    | (refine o_load (by rfl) 28 _ rfl gb rfl _ _ _ HC.out Tryd.underlying28 rfl (HS0.out _) ?_)
    | (go_at_call 40; (refine (KV.out _ _ ⟨A6, _, c6, rfl⟩).mono ?_); rintro e y7 ⟨rfl, hb⟩; replace HY := Lib.hid (below_to HY.out hb); replace HI := Lib.hid (own_below HI.out hb); replace HC := Lib.hid (HC.out.below hb); have HGL7 := Lib.hid (Nat.lt_of_lt_of_le HGL.out hb.size); clear hb)
    | (refine o_store rfl 28 _ _ rfl rfl gb ({ nb with v := .slice A6 ids.length c6 } : Bl).cells rfl rfl _ _ HC.out (HSD.out _) rfl (HOD.out _ _ _) ?_; intro z2 hr ho; replace HY := Lib.hid (below_one_of HY.out ho HW6.out HY.out.size); replace HI := Lib.hid ((HI.out.mono (base' := w.heap.size) HYS.out).kept (one_grown ho) (own_box HI.out HC.out)); replace HC := Lib.hid hr; clear hr ho))
  have HLD := Lib.hid (HZD.out (.slice A6 ids.length c6))
  have HSD1 := Lib.hid (HSD.out (.slice A6 ids.length c6))
  have HOD1 := Lib.hid (HOD.out A6 ids.length c6)
  have KS1 := Lib.hid (fun W => KS.out (.slice A6 ids.length c6) W)
  generalize hDD : ({ nb with v := .slice A6 ids.length c6 } : Bl).cells = D at *
  have HDD := Lib.hid hDD
  clear hDD KS
  replace HY := Lib.hid (below_drawn HY.out)
  replace HI := Lib.hid (own_below HI.out (w' := z2.drew) (below_drawn (Below.refl _ _)))
  have hS0 : Boxd z2.drew gb D 28 := HC.out
  refine wp_region_held_drew (S := (fun W => Boxd W gb D 28)) (by kernel_rfl) hS0 (fun hHeld => ?_)
  refine take_row 2 59 rfl rfl (by kernel_rfl) (by kernel_rfl) (by kernel_rfl) 28 _ rfl gb rfl D _ Tryd.underlying28 rfl HSD1.out (fun _ h => h) (fun _ _ _ h => h) (by rfl) (by assumption) ?_
  (try simp only [Act.put, List.setIfInBounds_toArray, List.set_cons_zero, List.set_cons_succ])
  refine ByHand.take_yes (v := ?_) 0 57 rfl rfl (by kernel_rfl) (by kernel_rfl) (by kernel_rfl) (fun _ _ _ h => h) (by rfl) ?_ (by assumption) ?_
  rotate_left
  · intro w' hSw
    (try dsimp only at hSw)
    go_simp
    all_goals with_reducible rfl
  (try simp only [Act.put, List.setIfInBounds_toArray, List.set_cons_zero, List.set_cons_succ])
  refine ByHand.take_yes (v := ?_) 5 62 rfl rfl (by kernel_rfl) (by kernel_rfl) (by kernel_rfl) (fun _ _ _ h => h) (by rfl) ?_ (by assumption) ?_
  rotate_left
  · intro w' hSw
    (try dsimp only at hSw)
    go_simp
    all_goals with_reducible rfl
  (try simp only [Act.put, List.setIfInBounds_toArray, List.set_cons_zero, List.set_cons_succ])
  refine wpAnyH_ready (rs := [1, 3]) (by kernel_rfl) (by simp) (AllReadyH.cons rfl (fun K hK => ?_) (AllReadyH.cons rfl (fun K hK => ?_) AllReadyH.nil))
  · go_simp
    refine (KC.out _ HY.out).mono ?_
    rintro e y6 ⟨u, M', rfl, hal, hc, hb⟩
    have HA := Lib.hid hal
    have HCP : Hid (Cop w.heap.size y6 u M') := ⟨hc.row.mono HY.out.size, fun b hm => (hc.ids b hm).mono HY.out.size⟩
    have hml : M'.length ≤ 999 := by rw [hal.1]; exact HML.out
    replace HY := Lib.hid (below_to HY.out hb)
    replace HI := Lib.hid (own_below HI.out hb)
    obtain ⟨A7, c7, rfl⟩ := own_slice' hc.row
    have HNB : Hid (¬ some gb = (Value.slice A7 M'.length c7).ownBlock) := fun e => Nat.not_le.2 hS0.lt ((hc.row.lt gb e.symm).1)
    have hS1 : Boxd y6 gb D 28 := hS0.below hb
    clear hal hc hb
    go_wp2_with fail
    refine hK.out _ _ ?_ (fun hHeld => ?_)
    · exact hS1
    clear hK K
    (try simp only [Act.put, List.setIfInBounds_toArray, List.set_cons_zero, List.set_cons_succ])
    refine wpAnyH_ready (rs := [3]) (by kernel_rfl) (by simp) (AllReadyH.cons rfl (fun K hK => ?_) AllReadyH.nil)
    refine step_slice (by rfl) 22 1 _ rfl _ _ (by simp [Act.eval, Act.put]) (KS1.out _) 60 rfl ?_
    obtain ⟨y8, hy8⟩ : ∃ y, y = World.alloc y6 (.cells D 28) := ⟨_, rfl⟩
    have hb := below_one y6 (.cells D 28)
    have HLT : Hid (Boxd (World.alloc y6 (.cells D 28)) (World.heap y6).size D 28) := heap_alloc_last _ _
    rw [← hy8] at hb HLT
    rw [← hy8]
    replace HY := Lib.hid (below_to HY.out hb)
    replace HI := Lib.hid (own_below HI.out hb)
    replace HCP := Lib.hid (HCP.out.below hb)
    have hBX : Boxd y8 gb D 28 := hS1.below hb
    clear hb hy8
    refine hK.out _ _ ?_ (fun hHeld => ?_)
    · exact hBX
    clear hK K
    (try simp only [Act.put, List.setIfInBounds_toArray, List.set_cons_zero, List.set_cons_succ])
    refine wpAnyH_ready (rs := [4]) (by kernel_rfl) (by simp) (AllReadyH.cons rfl (fun K hK => ?_) AllReadyH.nil)
    refine step_box (by rfl) (.tmp 58) (.tmp 60) _ rfl w.heap.size 28 iB _ 6 64 Tryd.underlying22 HIB.out.1 HIB.out.2.1 HIB.out.2.2.1 HIB.out.2.2.2 rfl (by omega) 28 D _ HLT.out HLD.out HOD1.out (.slice A7 M'.length c7) M'.length (flatB M') (by rfl) HCP.out.row (by rfl) (by unfold maxLen; omega) (by omega) HY.out.size 61 rfl ?_
    intro v9 w9 hown hgrow
    rw [← HDD.out] at hown
    have HN : Hid (Cop w.heap.size w9 v9 (M' ++ [{ nb with v := .slice A6 ids.length c6 }])) := HCP.out.more (x := nb) (by rw [HIL.out]; exact HI.out) hown hgrow
    have HYN : Hid (Below w.heap.size w w9) := below_row HY.out (Nat.le_refl _) HCP.out.row hgrow
    have hS9 : Boxd w9 gb D 28 := (hgrow.block gb hBX.lt HNB.out).trans hBX
    obtain ⟨A9, c9, rfl⟩ := own_slice' hown
    clear hown hgrow
    refine hK.out _ _ ?_ (fun hHeld => ?_)
    · exact hS9
    clear hK K
    (try simp only [Act.put, List.setIfInBounds_toArray, List.set_cons_zero, List.set_cons_succ])
    refine ByHand.take_yes (v := ?_) 6 12 rfl rfl (by kernel_rfl) (by kernel_rfl) (by kernel_rfl) (fun _ _ _ h => h) (by rfl) ?_ (by assumption) ?_
    rotate_left
    · intro w' hSw
      (try dsimp only at hSw)
      go_simp
      all_goals with_reducible rfl
    (try simp only [Act.put, List.setIfInBounds_toArray, List.set_cons_zero, List.set_cons_succ])
    refine ByHand.take_yes (v := ?_) 7 13 rfl rfl (by kernel_rfl) (by kernel_rfl) (by kernel_rfl) (fun _ _ _ h => h) (by rfl) ?_ (by assumption) ?_
    rotate_left
    · intro w' hSw
      (try dsimp only at hSw)
      go_simp
      all_goals with_reducible rfl
    (try simp only [Act.put, List.setIfInBounds_toArray, List.set_cons_zero, List.set_cons_succ])
    refine ByHand.take_yes (v := ?_) 8 14 rfl rfl (by kernel_rfl) (by kernel_rfl) (by kernel_rfl) (fun _ _ _ h => h) (by rfl) ?_ (by assumption) ?_
    rotate_left
    · intro w' hSw
      (try dsimp only at hSw)
      go_simp
      all_goals with_reducible rfl
    (try simp only [Act.put, List.setIfInBounds_toArray, List.set_cons_zero, List.set_cons_succ])
    refine wpAnyH_done (by kernel_rfl) ?_ _
    go_wp2_with fail
    go_ret3
    exact HFT.out _ _ _ _ HA.out HN.out HYN.out
  · refine step_slice (by rfl) 22 1 _ rfl _ _ (by simp [Act.eval, Act.put]) (KS1.out _) 60 rfl ?_
    obtain ⟨y8, hy8⟩ : ∃ y, y = World.alloc z2.drew (.cells D 28) := ⟨_, rfl⟩
    have hb := below_one z2.drew (.cells D 28)
    have HLT : Hid (Boxd (World.alloc z2.drew (.cells D 28)) (World.heap z2.drew).size D 28) := heap_alloc_last _ _
    rw [← hy8] at hb HLT
    rw [← hy8]
    replace HY := Lib.hid (below_to HY.out hb)
    replace HI := Lib.hid (own_below HI.out hb)
    have hS1 : Boxd y8 gb D 28 := hS0.below hb
    clear hb hy8
    refine hK.out _ _ ?_ (fun hHeld => ?_)
    · exact hS1
    clear hK K
    (try simp only [Act.put, List.setIfInBounds_toArray, List.set_cons_zero, List.set_cons_succ])
    refine wpAnyH_ready (rs := [1]) (by kernel_rfl) (by simp) (AllReadyH.cons rfl (fun K hK => ?_) AllReadyH.nil)
    go_simp
    refine (KC.out _ HY.out).mono ?_
    rintro e y6 ⟨u, M', rfl, hal, hc, hb⟩
    have HA := Lib.hid hal
    have HCP : Hid (Cop w.heap.size y6 u M') := ⟨hc.row.mono HY.out.size, fun b hm => (hc.ids b hm).mono HY.out.size⟩
    have hml : M'.length ≤ 999 := by rw [hal.1]; exact HML.out
    replace HY := Lib.hid (below_to HY.out hb)
    replace HI := Lib.hid (own_below HI.out hb)
    obtain ⟨A7, c7, rfl⟩ := own_slice' hc.row
    have HNB : Hid (¬ some gb = (Value.slice A7 M'.length c7).ownBlock) := fun e => Nat.not_le.2 hS1.lt ((hc.row.lt gb e.symm).1)
    replace HLT := Lib.hid (HLT.out.below hb)
    have hBX : Boxd y6 gb D 28 := hS1.below hb
    clear hal hc hb
    go_wp2_with fail
    refine hK.out _ _ ?_ (fun hHeld => ?_)
    · exact hBX
    clear hK K
    (try simp only [Act.put, List.setIfInBounds_toArray, List.set_cons_zero, List.set_cons_succ])
    refine wpAnyH_ready (rs := [4]) (by kernel_rfl) (by simp) (AllReadyH.cons rfl (fun K hK => ?_) AllReadyH.nil)
    refine step_box (by rfl) (.tmp 58) (.tmp 60) _ rfl w.heap.size 28 iB _ 6 64 Tryd.underlying22 HIB.out.1 HIB.out.2.1 HIB.out.2.2.1 HIB.out.2.2.2 rfl (by omega) 28 D _ HLT.out HLD.out HOD1.out (.slice A7 M'.length c7) M'.length (flatB M') (by rfl) HCP.out.row (by rfl) (by unfold maxLen; omega) (by omega) HY.out.size 61 rfl ?_
    intro v9 w9 hown hgrow
    rw [← HDD.out] at hown
    have HN : Hid (Cop w.heap.size w9 v9 (M' ++ [{ nb with v := .slice A6 ids.length c6 }])) := HCP.out.more (x := nb) (by rw [HIL.out]; exact HI.out) hown hgrow
    have HYN : Hid (Below w.heap.size w w9) := below_row HY.out (Nat.le_refl _) HCP.out.row hgrow
    have hS9 : Boxd w9 gb D 28 := (hgrow.block gb hBX.lt HNB.out).trans hBX
    obtain ⟨A9, c9, rfl⟩ := own_slice' hown
    clear hown hgrow
    refine hK.out _ _ ?_ (fun hHeld => ?_)
    · exact hS9
    clear hK K
    (try simp only [Act.put, List.setIfInBounds_toArray, List.set_cons_zero, List.set_cons_succ])
    refine ByHand.take_yes (v := ?_) 6 12 rfl rfl (by kernel_rfl) (by kernel_rfl) (by kernel_rfl) (fun _ _ _ h => h) (by rfl) ?_ (by assumption) ?_
    rotate_left
    · intro w' hSw
      (try dsimp only at hSw)
      go_simp
      all_goals with_reducible rfl
    (try simp only [Act.put, List.setIfInBounds_toArray, List.set_cons_zero, List.set_cons_succ])
    refine ByHand.take_yes (v := ?_) 7 13 rfl rfl (by kernel_rfl) (by kernel_rfl) (by kernel_rfl) (fun _ _ _ h => h) (by rfl) ?_ (by assumption) ?_
    rotate_left
    · intro w' hSw
      (try dsimp only at hSw)
      go_simp
      all_goals with_reducible rfl
    (try simp only [Act.put, List.setIfInBounds_toArray, List.set_cons_zero, List.set_cons_succ])
    refine ByHand.take_yes (v := ?_) 8 14 rfl rfl (by kernel_rfl) (by kernel_rfl) (by kernel_rfl) (fun _ _ _ h => h) (by rfl) ?_ (by assumption) ?_
    rotate_left
    · intro w' hSw
      (try dsimp only at hSw)
      go_simp
      all_goals with_reducible rfl
    (try simp only [Act.put, List.setIfInBounds_toArray, List.set_cons_zero, List.set_cons_succ])
    refine wpAnyH_done (by kernel_rfl) ?_ _
    go_wp2_with fail
    go_ret3
    exact HFT.out _ _ _ _ HA.out HN.out HYN.out
theorem b_issue (M : List Bl) (m a ahead how : Int) (ids : List Int) (v vi : Value) (B Bi : Nat) (w : World) (hB : B ≤ w.heap.size) (hBi : Bi ≤ w.heap.size) (hv : Bls w B v M) (hvi : Ints w Bi .i64 vi ids) (hN : M.length ≤ 999) (hI : ∀ b ∈ M, b.ids.length ≤ 1000) (hII : ids.length ≤ 1000) (L : Laid w) : Calls Tryd.prog 21 #[v, .int .i64 m, .int .i64 a, .int .i64 ahead, .int .i64 how, vi] w (ToldB (issL M m a ahead how ids) (issK M m a ahead) (issE M m a ahead) w) := by
  cases hg : goodM M with
  | false => exact issue_form M m a ahead how ids v vi B Bi w hB hv hvi L hg
  | true =>
    by_cases hm : 0 ≤ m ∧ m ≤ 2879
    · cases hf : follB M m with
      | false => exact issue_foll M m a ahead how ids v vi B Bi w hB hv hvi L hg hm hf
      | true =>
        cases ha : moneyB a with
        | false => exact issue_amount M m a ahead how ids v vi B Bi w hB hv hvi L hg hm hf ha
        | true =>
          cases hh : moneyB ahead with
          | false => exact issue_ahead M m a ahead how ids v vi B Bi w hB hv hvi L hg hm hf ha hh
          | true => exact issue_ok M m a ahead how ids v vi B Bi w hB hBi hv hvi hN hI hII L hg hm hf ha hh
    · exact issue_month M m a ahead how ids v vi B Bi w hB hv hvi L hg hm
end Go.Proofs.YtjjbdemhccpllaaDoor.Bill
