/- The document's own package of layer 19: Issue. -/
import Derived.Test.YtjjbdemhccpllaaDoorRefBill2
import Derived.Test.YtjjbdemhccpllaaDoorBillC5
namespace Go.Proofs.YtjjbdemhccpllaaDoor.RBill
open Go.ChangeShapes Go.WideShapes Go.ChangeAt Go.RowKit Plan Date Cal Money Box Rws Slice Bill
set_option linter.unusedSimpArgs false

set_option maxRecDepth 20000 in
set_option maxHeartbeats 4000000 in
theorem r_form (M : List Bl) (m a ahead how : Int) (ids : List Int) (v vi : Value) (B Bi : Nat) (w : World) (hB : B ≤ w.heap.size) (hv : Bls w B v M) (hvi : Ints w Bi .i64 vi ids) (hN : M.length ≤ 999) (hg : goodM M = false) : Calls Tryd.prog 22 #[v, .int .i64 m, .int .i64 a, .int .i64 ahead, .int .i64 how, vi] w (ToldR (issL M m a ahead how ids) (issK M m a ahead) (issE M m a ahead) w) := by
  obtain ⟨k, w0, e0, f0, hK, hb⟩ := boxd_new w #[.slice none 0 0, .int .i64 0] 45
  have KG := Lib.hid (fun W (h : Below w.heap.size w W) => r_good M v B W (Nat.le_trans hB h.size) (hv.below (h.mono hB)) (by omega))
  have KP := Lib.hid (fun W => r_money a W)
  have KQ := Lib.hid (fun W => r_money ahead W)
  have HK := Lib.hid hK
  have HW := Lib.hid hb
  have HGW : Hid (w.heap.size ≤ k) := show _ ≤ _ by rw [e0]; exact Nat.le_refl _
  have lM := hv.1.len
  obtain ⟨A0, k0, rfl⟩ := hv.1.shape
  obtain ⟨A1, k1, rfl, -⟩ := id hvi
  have h1 : issE M m a ahead = 11 := by
    unfold issE
    rw [hg, if_neg (by simp)]
  have h2 : issL M m a ahead how ids = [] := by unfold issL; rw [h1, if_neg (by decide)]
  have h3 : issK M m a ahead = 0 := by unfold issK; rw [h1, if_neg (by decide)]
  rw [h1, h2, h3]
  rw [hg] at KG
  clear hg
  clear h1 h2 h3 hv hvi hB hK hb
  go_enter Tryd.func22, Tryd.ntmps22
  go_upto_region 1 with fail
  rw [← f0, ← e0]
  clear e0 f0
  go_wp2_with (first
    | (go_at_call 14; (refine (KG.out _ HW.out).mono ?_); rintro e y ⟨rfl, hb⟩; have HY := Lib.hid (below_to HW.out hb); replace HK := Lib.hid (HK.out.below hb); clear hb)
    | (refine o_store rfl 45 _ _ rfl rfl k #[.slice none 0 0, .int .i64 0] rfl rfl _ _ HK.out (ch_info _ _) rfl ch_zero ?_; intro z hr ho; replace HK := Lib.hid hr; replace HY := Lib.hid (below_one_of HY.out ho HGW.out HY.out.size); clear hr ho))
  refine bodyPost_ret (results_two rfl _ _ _ _ _ _ _ rfl HK.out Tryd.underlying45 rfl (ch_info _ _) rfl) rfl ?_
  exact rtold_none _ HY.out
set_option maxRecDepth 20000 in
set_option maxHeartbeats 4000000 in
theorem r_low (M : List Bl) (m a ahead how : Int) (ids : List Int) (v vi : Value) (B Bi : Nat) (w : World) (hB : B ≤ w.heap.size) (hv : Bls w B v M) (hvi : Ints w Bi .i64 vi ids) (hN : M.length ≤ 999) (hg : goodM M = true) (hm : m < 0) : Calls Tryd.prog 22 #[v, .int .i64 m, .int .i64 a, .int .i64 ahead, .int .i64 how, vi] w (ToldR (issL M m a ahead how ids) (issK M m a ahead) (issE M m a ahead) w) := by
  obtain ⟨k, w0, e0, f0, hK, hb⟩ := boxd_new w #[.slice none 0 0, .int .i64 0] 45
  have KG := Lib.hid (fun W (h : Below w.heap.size w W) => r_good M v B W (Nat.le_trans hB h.size) (hv.below (h.mono hB)) (by omega))
  have KP := Lib.hid (fun W => r_money a W)
  have KQ := Lib.hid (fun W => r_money ahead W)
  have HK := Lib.hid hK
  have HW := Lib.hid hb
  have HGW : Hid (w.heap.size ≤ k) := show _ ≤ _ by rw [e0]; exact Nat.le_refl _
  have lM := hv.1.len
  obtain ⟨A0, k0, rfl⟩ := hv.1.shape
  obtain ⟨A1, k1, rfl, -⟩ := id hvi
  have h1 : issE M m a ahead = 1 := by
    unfold issE
    rw [if_pos hg, if_neg (by rw [decide_eq_false (by omega)]; simp)]
  have h2 : issL M m a ahead how ids = [] := by unfold issL; rw [h1, if_neg (by decide)]
  have h3 : issK M m a ahead = 0 := by unfold issK; rw [h1, if_neg (by decide)]
  rw [h1, h2, h3]
  rw [hg] at KG
  have t1 : decide (m < 0) = true := decide_eq_true hm
  clear hg hm
  clear h1 h2 h3 hv hvi hB hK hb
  go_enter Tryd.func22, Tryd.ntmps22
  go_upto_region 1 with fail
  rw [← f0, ← e0]
  clear e0 f0
  go_wp2_with (first
    | (go_at_call 14; (refine (KG.out _ HW.out).mono ?_); rintro e y ⟨rfl, hb⟩; have HY := Lib.hid (below_to HW.out hb); replace HK := Lib.hid (HK.out.below hb); clear hb)
    | (refine o_store rfl 45 _ _ rfl rfl k #[.slice none 0 0, .int .i64 0] rfl rfl _ _ HK.out (ch_info _ _) rfl ch_zero ?_; intro z hr ho; replace HK := Lib.hid hr; replace HY := Lib.hid (below_one_of HY.out ho HGW.out HY.out.size); clear hr ho))
  refine bodyPost_ret (results_two rfl _ _ _ _ _ _ _ rfl HK.out Tryd.underlying45 rfl (ch_info _ _) rfl) rfl ?_
  exact rtold_none _ HY.out
set_option maxRecDepth 20000 in
set_option maxHeartbeats 4000000 in
theorem r_high (M : List Bl) (m a ahead how : Int) (ids : List Int) (v vi : Value) (B Bi : Nat) (w : World) (hB : B ≤ w.heap.size) (hv : Bls w B v M) (hvi : Ints w Bi .i64 vi ids) (hN : M.length ≤ 999) (hg : goodM M = true) (hm : ¬ m < 0) (hm2 : 2879 < m) : Calls Tryd.prog 22 #[v, .int .i64 m, .int .i64 a, .int .i64 ahead, .int .i64 how, vi] w (ToldR (issL M m a ahead how ids) (issK M m a ahead) (issE M m a ahead) w) := by
  obtain ⟨k, w0, e0, f0, hK, hb⟩ := boxd_new w #[.slice none 0 0, .int .i64 0] 45
  have KG := Lib.hid (fun W (h : Below w.heap.size w W) => r_good M v B W (Nat.le_trans hB h.size) (hv.below (h.mono hB)) (by omega))
  have KP := Lib.hid (fun W => r_money a W)
  have KQ := Lib.hid (fun W => r_money ahead W)
  have HK := Lib.hid hK
  have HW := Lib.hid hb
  have HGW : Hid (w.heap.size ≤ k) := show _ ≤ _ by rw [e0]; exact Nat.le_refl _
  have lM := hv.1.len
  obtain ⟨A0, k0, rfl⟩ := hv.1.shape
  obtain ⟨A1, k1, rfl, -⟩ := id hvi
  have h1 : issE M m a ahead = 1 := by
    unfold issE
    rw [if_pos hg, if_neg (by rw [decide_eq_false (by omega)]; simp)]
  have h2 : issL M m a ahead how ids = [] := by unfold issL; rw [h1, if_neg (by decide)]
  have h3 : issK M m a ahead = 0 := by unfold issK; rw [h1, if_neg (by decide)]
  rw [h1, h2, h3]
  rw [hg] at KG
  have t1 : decide (m < 0) = false := decide_eq_false hm
  have t2 : decide (2879 < m) = true := decide_eq_true hm2
  clear hg hm hm2
  clear h1 h2 h3 hv hvi hB hK hb
  go_enter Tryd.func22, Tryd.ntmps22
  go_upto_region 1 with fail
  rw [← f0, ← e0]
  clear e0 f0
  go_wp2_with (first
    | (go_at_call 14; (refine (KG.out _ HW.out).mono ?_); rintro e y ⟨rfl, hb⟩; have HY := Lib.hid (below_to HW.out hb); replace HK := Lib.hid (HK.out.below hb); clear hb)
    | (refine o_store rfl 45 _ _ rfl rfl k #[.slice none 0 0, .int .i64 0] rfl rfl _ _ HK.out (ch_info _ _) rfl ch_zero ?_; intro z hr ho; replace HK := Lib.hid hr; replace HY := Lib.hid (below_one_of HY.out ho HGW.out HY.out.size); clear hr ho))
  refine bodyPost_ret (results_two rfl _ _ _ _ _ _ _ rfl HK.out Tryd.underlying45 rfl (ch_info _ _) rfl) rfl ?_
  exact rtold_none _ HY.out
set_option maxRecDepth 20000 in
set_option maxHeartbeats 4000000 in
theorem r_foll (M : List Bl) (m a ahead how : Int) (ids : List Int) (v vi : Value) (B Bi : Nat) (w : World) (hB : B ≤ w.heap.size) (hv : Bls w B v M) (hvi : Ints w Bi .i64 vi ids) (hN : M.length ≤ 999) (hg : goodM M = true) (hm : 0 ≤ m ∧ m ≤ 2879) (h0 : 0 < M.length) (i : Nat) (hi : M.length = i + 1) (x : Bl) (hx : M[i]? = some x) (hq : ¬ x.month < m) (hf : follB M m = false) : Calls Tryd.prog 22 #[v, .int .i64 m, .int .i64 a, .int .i64 ahead, .int .i64 how, vi] w (ToldR (issL M m a ahead how ids) (issK M m a ahead) (issE M m a ahead) w) := by
  obtain ⟨k, w0, e0, f0, hK, hb⟩ := boxd_new w #[.slice none 0 0, .int .i64 0] 45
  have KG := Lib.hid (fun W (h : Below w.heap.size w W) => r_good M v B W (Nat.le_trans hB h.size) (hv.below (h.mono hB)) (by omega))
  have KP := Lib.hid (fun W => r_money a W)
  have KQ := Lib.hid (fun W => r_money ahead W)
  have HK := Lib.hid hK
  have HW := Lib.hid hb
  have HGW : Hid (w.heap.size ≤ k) := show _ ≤ _ by rw [e0]; exact Nat.le_refl _
  have lM := hv.1.len
  obtain ⟨b, off, k', e9, hbb, -⟩ := hv.1.open h0
  have HR : Hid (w.rangeAt b (off + i * 6) x.cells.toList) := by
    subst e9
    exact hv.1.at_ hx
  have X0 : Hid (x.cells.toList[0]? = some (.int .i64 x.month)) := show _ = _ from rfl
  have HBL := Lib.hid (Nat.lt_of_lt_of_le hbb hB)
  subst e9
  have u0 : decide (0 < M.length) = true := decide_eq_true (by omega)
  have u4 : ((M.length : Int) - 1) = (i : Int) := by omega
  have u1 : wrap64 ((M.length : Int) - 1) = (i : Int) := by unfold wrap64; omega
  have u2 : (i : Int) < M.length := by omega
  obtain ⟨A1, k1, rfl, -⟩ := id hvi
  have h1 : issE M m a ahead = 1 := by
    unfold issE
    rw [if_pos hg, if_neg (by rw [hf]; simp)]
  have h2 : issL M m a ahead how ids = [] := by unfold issL; rw [h1, if_neg (by decide)]
  have h3 : issK M m a ahead = 0 := by unfold issK; rw [h1, if_neg (by decide)]
  rw [h1, h2, h3]
  rw [hg] at KG
  have t1 : decide (m < 0) = false := decide_eq_false (by omega)
  have t2 : decide (2879 < m) = false := decide_eq_false (by omega)
  have t3 : decide (m ≤ x.month) = true := decide_eq_true (by omega)
  clear hq hf
  clear h1 h2 h3 hv hvi hB hK hb hg hm hx hi hbb h0
  generalize x.cells = C9 at *
  generalize x.month = q at *
  go_enter Tryd.func22, Tryd.ntmps22
  go_upto_region 1 with fail
  rw [← f0, ← e0]
  clear e0 f0
  go_wp2_with (first
    | (go_at_call 14; (refine (KG.out _ HW.out).mono ?_); rintro e y ⟨rfl, hb⟩; have HY := Lib.hid (below_to HW.out hb); replace HK := Lib.hid (HK.out.below hb); have cq : y.cell? ⟨b, off + i * 6, none⟩ = some (.int .i64 q) := range_keep HR.out HY.out HBL.out 0 _ X0.out; clear hb)
    | (refine o_store rfl 45 _ _ rfl rfl k #[.slice none 0 0, .int .i64 0] rfl rfl _ _ HK.out (ch_info _ _) rfl ch_zero ?_; intro z hr ho; replace HK := Lib.hid hr; replace HY := Lib.hid (below_one_of HY.out ho HGW.out HY.out.size); clear hr ho))
  refine bodyPost_ret (results_two rfl _ _ _ _ _ _ _ rfl HK.out Tryd.underlying45 rfl (ch_info _ _) rfl) rfl ?_
  exact rtold_none _ HY.out
set_option maxRecDepth 20000 in
set_option maxHeartbeats 4000000 in
theorem r_amount0 (M : List Bl) (m a ahead how : Int) (ids : List Int) (v vi : Value) (B Bi : Nat) (w : World) (hB : B ≤ w.heap.size) (hv : Bls w B v M) (hvi : Ints w Bi .i64 vi ids) (hg : goodM M = true) (hm : 0 ≤ m ∧ m ≤ 2879) (h0 : M.length = 0) (ha : moneyB a = false) : Calls Tryd.prog 22 #[v, .int .i64 m, .int .i64 a, .int .i64 ahead, .int .i64 how, vi] w (ToldR (issL M m a ahead how ids) (issK M m a ahead) (issE M m a ahead) w) := by
  obtain ⟨k, w0, e0, f0, hK, hb⟩ := boxd_new w #[.slice none 0 0, .int .i64 0] 45
  have KG := Lib.hid (fun W (h : Below w.heap.size w W) => r_good M v B W (Nat.le_trans hB h.size) (hv.below (h.mono hB)) (by omega))
  have KP := Lib.hid (fun W => r_money a W)
  have KQ := Lib.hid (fun W => r_money ahead W)
  have HK := Lib.hid hK
  have HW := Lib.hid hb
  have HGW : Hid (w.heap.size ≤ k) := show _ ≤ _ by rw [e0]; exact Nat.le_refl _
  have lM := hv.1.len
  obtain ⟨A0, k0, rfl⟩ := hv.1.shape
  obtain ⟨A1, k1, rfl, -⟩ := id hvi
  have u0 : decide (0 < M.length) = false := decide_eq_false (by omega)
  have h1 : issE M m a ahead = 1 := by
    unfold issE
    rw [if_pos hg, if_neg (by rw [ha]; simp)]
  have h2 : issL M m a ahead how ids = [] := by unfold issL; rw [h1, if_neg (by decide)]
  have h3 : issK M m a ahead = 0 := by unfold issK; rw [h1, if_neg (by decide)]
  rw [h1, h2, h3]
  rw [hg] at KG
  have t1 : decide (m < 0) = false := decide_eq_false (by omega)
  have t2 : decide (2879 < m) = false := decide_eq_false (by omega)
  rw [ha] at KP
  clear ha
  clear h1 h2 h3 hv hvi hB hK hb hg hm h0
  go_enter Tryd.func22, Tryd.ntmps22
  go_upto_region 1 with fail
  rw [← f0, ← e0]
  clear e0 f0
  go_wp2_with (first
    | (go_at_call 14; (refine (KG.out _ HW.out).mono ?_); rintro e y ⟨rfl, hb⟩; have HY := Lib.hid (below_to HW.out hb); replace HK := Lib.hid (HK.out.below hb); clear hb)
    | (go_at_call 32; (with_reducible refine (KP.out _).mono ?_); rintro e y4 ⟨rfl, rfl⟩)
    | (refine o_store rfl 45 _ _ rfl rfl k #[.slice none 0 0, .int .i64 0] rfl rfl _ _ HK.out (ch_info _ _) rfl ch_zero ?_; intro z hr ho; replace HK := Lib.hid hr; replace HY := Lib.hid (below_one_of HY.out ho HGW.out HY.out.size); clear hr ho))
  refine bodyPost_ret (results_two rfl _ _ _ _ _ _ _ rfl HK.out Tryd.underlying45 rfl (ch_info _ _) rfl) rfl ?_
  exact rtold_none _ HY.out
set_option maxRecDepth 20000 in
set_option maxHeartbeats 4000000 in
theorem r_ahead0 (M : List Bl) (m a ahead how : Int) (ids : List Int) (v vi : Value) (B Bi : Nat) (w : World) (hB : B ≤ w.heap.size) (hv : Bls w B v M) (hvi : Ints w Bi .i64 vi ids) (hg : goodM M = true) (hm : 0 ≤ m ∧ m ≤ 2879) (h0 : M.length = 0) (ha : moneyB a = true) (hh : moneyB ahead = false) : Calls Tryd.prog 22 #[v, .int .i64 m, .int .i64 a, .int .i64 ahead, .int .i64 how, vi] w (ToldR (issL M m a ahead how ids) (issK M m a ahead) (issE M m a ahead) w) := by
  obtain ⟨k, w0, e0, f0, hK, hb⟩ := boxd_new w #[.slice none 0 0, .int .i64 0] 45
  have KG := Lib.hid (fun W (h : Below w.heap.size w W) => r_good M v B W (Nat.le_trans hB h.size) (hv.below (h.mono hB)) (by omega))
  have KP := Lib.hid (fun W => r_money a W)
  have KQ := Lib.hid (fun W => r_money ahead W)
  have HK := Lib.hid hK
  have HW := Lib.hid hb
  have HGW : Hid (w.heap.size ≤ k) := show _ ≤ _ by rw [e0]; exact Nat.le_refl _
  have lM := hv.1.len
  obtain ⟨A0, k0, rfl⟩ := hv.1.shape
  obtain ⟨A1, k1, rfl, -⟩ := id hvi
  have u0 : decide (0 < M.length) = false := decide_eq_false (by omega)
  have h1 : issE M m a ahead = 1 := by
    unfold issE
    rw [if_pos hg, if_neg (by rw [hh]; simp)]
  have h2 : issL M m a ahead how ids = [] := by unfold issL; rw [h1, if_neg (by decide)]
  have h3 : issK M m a ahead = 0 := by unfold issK; rw [h1, if_neg (by decide)]
  rw [h1, h2, h3]
  rw [hg] at KG
  have t1 : decide (m < 0) = false := decide_eq_false (by omega)
  have t2 : decide (2879 < m) = false := decide_eq_false (by omega)
  rw [ha] at KP
  rw [hh] at KQ
  have hne : ¬ a = ahead := fun e => by rw [e, hh] at ha; cases ha
  clear ha hh
  clear h1 h2 h3 hv hvi hB hK hb hg hm h0
  go_enter Tryd.func22, Tryd.ntmps22
  go_upto_region 1 with fail
  rw [← f0, ← e0]
  clear e0 f0
  go_wp2_with (first
    | (go_at_call 14; (refine (KG.out _ HW.out).mono ?_); rintro e y ⟨rfl, hb⟩; have HY := Lib.hid (below_to HW.out hb); replace HK := Lib.hid (HK.out.below hb); clear hb)
    | (go_at_call 32; (first | (with_reducible refine (KP.out _).mono ?_) | (with_reducible refine (KQ.out _).mono ?_)); rintro e y4 ⟨rfl, rfl⟩)
    | (refine o_store rfl 45 _ _ rfl rfl k #[.slice none 0 0, .int .i64 0] rfl rfl _ _ HK.out (ch_info _ _) rfl ch_zero ?_; intro z hr ho; replace HK := Lib.hid hr; replace HY := Lib.hid (below_one_of HY.out ho HGW.out HY.out.size); clear hr ho))
  refine bodyPost_ret (results_two rfl _ _ _ _ _ _ _ rfl HK.out Tryd.underlying45 rfl (ch_info _ _) rfl) rfl ?_
  exact rtold_none _ HY.out
set_option maxRecDepth 20000 in
set_option maxHeartbeats 4000000 in
theorem r_amount1 (M : List Bl) (m a ahead how : Int) (ids : List Int) (v vi : Value) (B Bi : Nat) (w : World) (hB : B ≤ w.heap.size) (hv : Bls w B v M) (hvi : Ints w Bi .i64 vi ids) (hN : M.length ≤ 999) (hg : goodM M = true) (hm : 0 ≤ m ∧ m ≤ 2879) (h0 : 0 < M.length) (i : Nat) (hi : M.length = i + 1) (x : Bl) (hx : M[i]? = some x) (hq : x.month < m) (ha : moneyB a = false) : Calls Tryd.prog 22 #[v, .int .i64 m, .int .i64 a, .int .i64 ahead, .int .i64 how, vi] w (ToldR (issL M m a ahead how ids) (issK M m a ahead) (issE M m a ahead) w) := by
  obtain ⟨k, w0, e0, f0, hK, hb⟩ := boxd_new w #[.slice none 0 0, .int .i64 0] 45
  have KG := Lib.hid (fun W (h : Below w.heap.size w W) => r_good M v B W (Nat.le_trans hB h.size) (hv.below (h.mono hB)) (by omega))
  have KP := Lib.hid (fun W => r_money a W)
  have KQ := Lib.hid (fun W => r_money ahead W)
  have HK := Lib.hid hK
  have HW := Lib.hid hb
  have HGW : Hid (w.heap.size ≤ k) := show _ ≤ _ by rw [e0]; exact Nat.le_refl _
  have lM := hv.1.len
  obtain ⟨b, off, k', e9, hbb, -⟩ := hv.1.open h0
  have HR : Hid (w.rangeAt b (off + i * 6) x.cells.toList) := by
    subst e9
    exact hv.1.at_ hx
  have X0 : Hid (x.cells.toList[0]? = some (.int .i64 x.month)) := show _ = _ from rfl
  have HBL := Lib.hid (Nat.lt_of_lt_of_le hbb hB)
  subst e9
  have u0 : decide (0 < M.length) = true := decide_eq_true (by omega)
  have u4 : ((M.length : Int) - 1) = (i : Int) := by omega
  have u1 : wrap64 ((M.length : Int) - 1) = (i : Int) := by unfold wrap64; omega
  have u2 : (i : Int) < M.length := by omega
  obtain ⟨A1, k1, rfl, -⟩ := id hvi
  have h1 : issE M m a ahead = 1 := by
    unfold issE
    rw [if_pos hg, if_neg (by rw [ha]; simp)]
  have h2 : issL M m a ahead how ids = [] := by unfold issL; rw [h1, if_neg (by decide)]
  have h3 : issK M m a ahead = 0 := by unfold issK; rw [h1, if_neg (by decide)]
  rw [h1, h2, h3]
  rw [hg] at KG
  have t1 : decide (m < 0) = false := decide_eq_false (by omega)
  have t2 : decide (2879 < m) = false := decide_eq_false (by omega)
  have t3 : decide (m ≤ x.month) = false := decide_eq_false (by omega)
  rw [ha] at KP
  clear ha
  clear hq
  clear h1 h2 h3 hv hvi hB hK hb hg hm hx hi hbb h0
  generalize x.cells = C9 at *
  generalize x.month = q at *
  go_enter Tryd.func22, Tryd.ntmps22
  go_upto_region 1 with fail
  rw [← f0, ← e0]
  clear e0 f0
  go_wp2_with (first
    | (go_at_call 14; (refine (KG.out _ HW.out).mono ?_); rintro e y ⟨rfl, hb⟩; have HY := Lib.hid (below_to HW.out hb); replace HK := Lib.hid (HK.out.below hb); have cq : y.cell? ⟨b, off + i * 6, none⟩ = some (.int .i64 q) := range_keep HR.out HY.out HBL.out 0 _ X0.out; clear hb)
    | (go_at_call 32; (with_reducible refine (KP.out _).mono ?_); rintro e y4 ⟨rfl, rfl⟩)
    | (refine o_store rfl 45 _ _ rfl rfl k #[.slice none 0 0, .int .i64 0] rfl rfl _ _ HK.out (ch_info _ _) rfl ch_zero ?_; intro z hr ho; replace HK := Lib.hid hr; replace HY := Lib.hid (below_one_of HY.out ho HGW.out HY.out.size); clear hr ho))
  refine bodyPost_ret (results_two rfl _ _ _ _ _ _ _ rfl HK.out Tryd.underlying45 rfl (ch_info _ _) rfl) rfl ?_
  exact rtold_none _ HY.out
set_option maxRecDepth 20000 in
set_option maxHeartbeats 4000000 in
theorem r_ahead1 (M : List Bl) (m a ahead how : Int) (ids : List Int) (v vi : Value) (B Bi : Nat) (w : World) (hB : B ≤ w.heap.size) (hv : Bls w B v M) (hvi : Ints w Bi .i64 vi ids) (hN : M.length ≤ 999) (hg : goodM M = true) (hm : 0 ≤ m ∧ m ≤ 2879) (h0 : 0 < M.length) (i : Nat) (hi : M.length = i + 1) (x : Bl) (hx : M[i]? = some x) (hq : x.month < m) (ha : moneyB a = true) (hh : moneyB ahead = false) : Calls Tryd.prog 22 #[v, .int .i64 m, .int .i64 a, .int .i64 ahead, .int .i64 how, vi] w (ToldR (issL M m a ahead how ids) (issK M m a ahead) (issE M m a ahead) w) := by
  obtain ⟨k, w0, e0, f0, hK, hb⟩ := boxd_new w #[.slice none 0 0, .int .i64 0] 45
  have KG := Lib.hid (fun W (h : Below w.heap.size w W) => r_good M v B W (Nat.le_trans hB h.size) (hv.below (h.mono hB)) (by omega))
  have KP := Lib.hid (fun W => r_money a W)
  have KQ := Lib.hid (fun W => r_money ahead W)
  have HK := Lib.hid hK
  have HW := Lib.hid hb
  have HGW : Hid (w.heap.size ≤ k) := show _ ≤ _ by rw [e0]; exact Nat.le_refl _
  have lM := hv.1.len
  obtain ⟨b, off, k', e9, hbb, -⟩ := hv.1.open h0
  have HR : Hid (w.rangeAt b (off + i * 6) x.cells.toList) := by
    subst e9
    exact hv.1.at_ hx
  have X0 : Hid (x.cells.toList[0]? = some (.int .i64 x.month)) := show _ = _ from rfl
  have HBL := Lib.hid (Nat.lt_of_lt_of_le hbb hB)
  subst e9
  have u0 : decide (0 < M.length) = true := decide_eq_true (by omega)
  have u4 : ((M.length : Int) - 1) = (i : Int) := by omega
  have u1 : wrap64 ((M.length : Int) - 1) = (i : Int) := by unfold wrap64; omega
  have u2 : (i : Int) < M.length := by omega
  obtain ⟨A1, k1, rfl, -⟩ := id hvi
  have h1 : issE M m a ahead = 1 := by
    unfold issE
    rw [if_pos hg, if_neg (by rw [hh]; simp)]
  have h2 : issL M m a ahead how ids = [] := by unfold issL; rw [h1, if_neg (by decide)]
  have h3 : issK M m a ahead = 0 := by unfold issK; rw [h1, if_neg (by decide)]
  rw [h1, h2, h3]
  rw [hg] at KG
  have t1 : decide (m < 0) = false := decide_eq_false (by omega)
  have t2 : decide (2879 < m) = false := decide_eq_false (by omega)
  have t3 : decide (m ≤ x.month) = false := decide_eq_false (by omega)
  rw [ha] at KP
  rw [hh] at KQ
  have hne : ¬ a = ahead := fun e => by rw [e, hh] at ha; cases ha
  clear ha hh
  clear hq
  clear h1 h2 h3 hv hvi hB hK hb hg hm hx hi hbb h0
  generalize x.cells = C9 at *
  generalize x.month = q at *
  go_enter Tryd.func22, Tryd.ntmps22
  go_upto_region 1 with fail
  rw [← f0, ← e0]
  clear e0 f0
  go_wp2_with (first
    | (go_at_call 14; (refine (KG.out _ HW.out).mono ?_); rintro e y ⟨rfl, hb⟩; have HY := Lib.hid (below_to HW.out hb); replace HK := Lib.hid (HK.out.below hb); have cq : y.cell? ⟨b, off + i * 6, none⟩ = some (.int .i64 q) := range_keep HR.out HY.out HBL.out 0 _ X0.out; clear hb)
    | (go_at_call 32; (first | (with_reducible refine (KP.out _).mono ?_) | (with_reducible refine (KQ.out _).mono ?_)); rintro e y4 ⟨rfl, rfl⟩)
    | (refine o_store rfl 45 _ _ rfl rfl k #[.slice none 0 0, .int .i64 0] rfl rfl _ _ HK.out (ch_info _ _) rfl ch_zero ?_; intro z hr ho; replace HK := Lib.hid hr; replace HY := Lib.hid (below_one_of HY.out ho HGW.out HY.out.size); clear hr ho))
  refine bodyPost_ret (results_two rfl _ _ _ _ _ _ _ rfl HK.out Tryd.underlying45 rfl (ch_info _ _) rfl) rfl ?_
  exact rtold_none _ HY.out
/-- A store into a block of another make leaves bills and their rows alone. -/
theorem cop_far {B g : Nat} {W W' : World} {u : Value} {M : List Bl} {C : Array Value} {T : TypeId} (h : Cop B W u M) (hB : Boxd W g C T) (h1 : T ≠ 28) (h2 : T ≠ 3) (ho : One g W W') : Cop B W' u M :=
  ⟨h.row.kept (one_grown ho) (own_box h.row hB h1), fun b hm => (h.ids b hm).kept (one_grown ho) (own_box (h.ids b hm) hB h2)⟩
theorem ch_ne : (45 : TypeId) ≠ 28 ∧ (45 : TypeId) ≠ 3 := by decide
set_option maxRecDepth 20000 in
set_option maxHeartbeats 4000000 in
theorem r_ok0 (M : List Bl) (m a ahead how : Int) (ids : List Int) (v vi : Value) (B Bi : Nat) (w : World) (hB : B ≤ w.heap.size) (hBi : Bi ≤ w.heap.size) (hv : Bls w B v M) (hvi : Ints w Bi .i64 vi ids) (hN : M.length ≤ 999) (hI : ∀ b ∈ M, b.ids.length ≤ 1000) (hII : ids.length ≤ 1000) (hg : goodM M = true) (hm : 0 ≤ m ∧ m ≤ 2879) (h0 : M.length = 0) (hf : follB M m = true) (ha : moneyB a = true) (hh : moneyB ahead = true) : Calls Tryd.prog 22 #[v, .int .i64 m, .int .i64 a, .int .i64 ahead, .int .i64 how, vi] w (ToldR (issL M m a ahead how ids) (issK M m a ahead) (issE M m a ahead) w) := by
  obtain ⟨k, w0, e0, f0, hK, hb⟩ := boxd_new w #[.slice none 0 0, .int .i64 0] 45
  have KG := Lib.hid (fun W (h : Below w.heap.size w W) => r_good M v B W (Nat.le_trans hB h.size) (hv.below (h.mono hB)) (by omega))
  have KP := Lib.hid (fun W => r_money a W)
  have KQ := Lib.hid (fun W => r_money ahead W)
  have HK := Lib.hid hK
  have HW := Lib.hid hb
  have HGW : Hid (w.heap.size ≤ k) := show _ ≤ _ by rw [e0]; exact Nat.le_refl _
  have lM := hv.1.len
  have KC := Lib.hid (fun W (h : Below w.heap.size w W) => c_cbills M v B W (Nat.le_trans hB h.size) (hv.below (h.mono hB)) (by omega) hI)
  have HVI := Lib.hid (fun W (h : Below w.heap.size w W) => hvi.below (h.mono hBi))
  obtain ⟨A0, k0, rfl⟩ := hv.1.shape
  obtain ⟨A1, k1, rfl, -⟩ := id hvi
  have u0 : decide (0 < M.length) = false := decide_eq_false (by omega)
  have t1 : decide (m < 0) = false := decide_eq_false (by omega)
  have t2 : decide (2879 < m) = false := decide_eq_false (by omega)
  have h1 : issE M m a ahead = 0 := by
    unfold issE
    rw [if_pos hg, if_pos ⟨decide_eq_true hm, hf, ha, hh⟩]
  have h2 : issL M m a ahead how ids = M ++ [newB m a how ids ahead] := by unfold issL; rw [if_pos h1]
  have h3 : issK M m a ahead = ahead - min a ahead := by unfold issK; rw [if_pos h1]
  rw [h1, h2, h3]
  have qa := money_iff.1 ha
  have qh := money_iff.1 hh
  have KF := Lib.hid (fun W => rfirst_any m W)
  have hcl : ∀ v', { newB m a how ids ahead with v := v' } = (⟨m, a, a - min a ahead, if a - min a ahead = 0 then firV m else -1, how, v', ids⟩ : Bl) := fun _ => rfl
  have HIL : Hid ((newB m a how ids ahead).ids = ids) := show _ = _ from rfl
  generalize hnb : newB m a how ids ahead = nb at *
  obtain ⟨mn, hmn⟩ : ∃ mn, mn = min a ahead := ⟨_, rfl⟩
  have t5 : (if ahead < a then ahead else a) = mn := by
    rw [hmn]
    by_cases h : ahead < a
    · rw [if_pos h]; omega
    · rw [if_neg h]; omega
  rw [← hmn] at hcl ⊢
  have w1 : wrap64 (a - mn) = a - mn := by unfold wrap64; omega
  have HS0 : Hid (∀ v', (Tryd.prog.info? 28).map (·.size) = some (⟨m, a, a - mn, -1, how, v', ids⟩ : Bl).cells.size) := fun v' => bl_info ⟨m, a, a - mn, -1, how, v', ids⟩
  have HO0 : Hid (∀ A n c, (⟨m, a, a - mn, -1, how, .slice A n c, ids⟩ : Bl).cells.all (·.oneCell') = true) := fun A n c => bl_one ⟨m, a, a - mn, -1, how, .slice A n c, ids⟩ rfl
  have HC0 : Hid (∀ v', (⟨m, a, a - mn, -1, how, v', ids⟩ : Bl).cells = #[.int .i64 m, .int .i64 a, .int .i64 (a - mn), .int .i64 (-1), .int .i64 how, v']) := fun _ => rfl
  have HSD : Hid (∀ v', (Tryd.prog.info? 28).map (·.size) = some ({ nb with v := v' } : Bl).cells.size) := fun v' => bl_info { nb with v := v' }
  have HOD : Hid (∀ A n c, ({ nb with v := .slice A n c } : Bl).cells.all (·.oneCell') = true) := fun A n c => bl_one { nb with v := .slice A n c } rfl
  have HZD : Hid (∀ v', ({ nb with v := v' } : Bl).cells.toList.length = 6) := fun _ => rfl
  have KS : Hid (∀ (v' : Value) (W : World), (Instr.buildSlice 22 1 #[(0, .agg ({ nb with v := v' } : Bl).cells)]).run Tryd.prog W = .ok (.slice (some ⟨W.heap.size, 0, none⟩) 1 1) (W.alloc (.cells ({ nb with v := v' } : Bl).cells 28))) := fun v' W => run_bill { nb with v := v' } W
  obtain ⟨iB, i1, i2, i3, i4⟩ := info_parts bill_zero
  have HIB := Lib.hid (And.intro i1 (And.intro i2 (And.intro i3 i4)))
  obtain ⟨iI, i5, i6, i7, i8⟩ := info_parts int_zero
  have HII := Lib.hid (And.intro i5 (And.intro i6 (And.intro i7 i8)))
  rw [hg] at KG
  rw [ha] at KP
  rw [hh] at KQ
  obtain ⟨lf, hlf⟩ : ∃ lf, lf = ahead - mn := ⟨_, rfl⟩
  have HWL : Hid (IntKind.i64.wrap (ahead - mn) = lf) := show _ = _ by rw [hlf]; exact IntWalk.i64_in _ (by omega)
  rw [← hlf]
  have HML := Lib.hid hN
  have HLI := Lib.hid hII
  have HFT : Hid (∀ (M' : List Bl) (v' u : Value) (w' : World), AlikeB M M' → Cop w.heap.size w' u (M' ++ [{ nb with v := v' }]) → Below w.heap.size w w' → ToldR (M ++ [nb]) lf 0 w (.returned (.tuple #[.agg #[u, .int .i64 lf], .int .i64 0])) w') := fun M' v' u w' ha hc hb => ⟨u, M' ++ [{ nb with v := v' }], rfl, alike_append ha (alike_iff.2 rfl), hc, hb⟩
  clear hlf
  by_cases hz : a - mn = 0
  · have t6 : (a - mn == 0) = true := by simp; omega
    have HD3 : Hid (∀ v', (⟨m, a, a - mn, -1, how, v', ids⟩ : Bl).cells.setIfInBounds 3 (.int .i64 (firV m)) = ({ nb with v := v' } : Bl).cells) := fun v' => show _ = _ by
      rw [hcl, if_pos hz]
      rfl
    have X2 : Hid (∀ v', (⟨m, a, a - mn, -1, how, v', ids⟩ : Bl).cells[2]? = some (.int .i64 (a - mn))) := fun _ => rfl
    have X6 : Hid (∀ v', 6 = (⟨m, a, a - mn, -1, how, v', ids⟩ : Bl).cells.size) := fun _ => rfl
    generalize firV m = f at *
    generalize firE m = fe at *
    clear hz
    clear h1 h2 h3 hv hvi hB hBi hI hII hg hm hf ha hh qa qh hnb hmn i1 i2 i3 i4 i5 i6 i7 i8 hK hb hcl
    clear h0
    go_enter Tryd.func22, Tryd.ntmps22
    go_upto_region 1 with fail
    rw [← f0, ← e0]
    clear e0 f0
    go_upto_region 6 with (first
      | (go_at_call 14; (refine (KG.out _ HW.out).mono ?_); rintro e y ⟨rfl, hb⟩; have HY := Lib.hid (below_to HW.out hb); replace HK := Lib.hid (HK.out.below hb); clear hb)
      | (go_at_call 32; (first | (with_reducible refine (KP.out _).mono ?_) | (with_reducible refine (KQ.out _).mono ?_)); rintro e y4 ⟨rfl, rfl⟩))
    go_upto_region 7 with (first
      | (at_builtin; refine Slice.wpList_append_ints rfl (.tmp 62) (.tmp 63) _ rfl y.heap.size 3 iI (.int .i64 0) 8 Tryd.underlying26 HII.out.1 HII.out.2.1 HII.out.2.2.1 HII.out.2.2.2 rfl (.slice (some ⟨y.heap.size, 0, none⟩) 0 0) 0 [] rfl (World.ownsRow_made y #[] 0 (Nat.le_refl _) (by simp) (by simp)) Bi .i64 (.slice A1 ids.length k1) ids rfl (HVI.out _ (below_to HY.out (below_one _ _))) (by have := HLI.out; unfold maxLen; omega) (by have := HLI.out; omega) (by simp) ?_; intro v3 w3 hown hgrow; rw [Nat.zero_add, List.nil_append] at hown; have HYS := Lib.hid HY.out.size; have HB3 := Lib.hid (show Below y.heap.size y w3 from (below_one _ _).grown hgrow (below_one _ _).size (new_own y)); have HI : Hid (w3.ownsRow w.heap.size 3 1 v3 ids.length (ids.map (Value.int .i64))) := (hown : World.ownsRow _ _ _ _ _ _ _).mono HYS.out; replace HK := Lib.hid (HK.out.below HB3.out); replace HY := Lib.hid (below_to HY.out HB3.out); obtain ⟨A6, c6, rfl⟩ := own_slice' hown; clear hown hgrow)
      | (refine o_store rfl 28 (.tmp 15) (.tmp 65) rfl rfl w3.heap.size #[.int .i64 m, .int .i64 a, .int .i64 (a - mn), .int .i64 (-1), .int .i64 how, .slice A6 ids.length c6] rfl rfl _ _ (heap_alloc_last _ _) (by rw [← HC0.out]; exact HS0.out _) rfl (by rw [← HC0.out]; exact HO0.out _ _ _) ?_; intro z hr ho; rw [← HC0.out] at hr; have HB6 := Lib.hid (below_one_of (below_one w3 _) ho (Nat.le_refl _) (below_one w3 _).size); have HW6 := Lib.hid HY.out.size; have HKL := Lib.hid HK.out.lt; replace HI := Lib.hid (own_below HI.out HB6.out); replace HK := Lib.hid (HK.out.below HB6.out); replace HY := Lib.hid (below_to HY.out HB6.out); have HC := Lib.hid hr; clear hr ho))
    obtain ⟨gb, hgb⟩ : ∃ g, g = w3.heap.size := ⟨_, rfl⟩
    rw [← hgb]
    rw [← hgb] at HC HW6 HKL
    clear hgb
    have HNE : Hid (¬ k = gb ∧ ¬ gb = k) := show _ ∧ _ from ⟨fun e => Nat.lt_irrefl _ (by rw [e] at HKL; exact HKL.out), fun e => Nat.lt_irrefl _ (by rw [e] at HKL; exact HKL.out)⟩
    have c2 := HC.out.cell.trans (X2.out _)
    go_upto_region 9 with (first
      | (go_at_call 37; (with_reducible refine (KF.out _).mono ?_); rintro e y5 ⟨rfl, rfl⟩)
      | (refine o_put rfl 3 _ _ rfl rfl gb 3 (.int .i64 f) rfl rfl rfl 28 _ HC.out (by rw [← X6.out]; decide) i_one ?_; intro z2 hr ho; rw [HD3.out] at hr; replace HY := Lib.hid (below_one_of HY.out ho HW6.out HY.out.size); replace HI := Lib.hid (HI.out.kept (one_grown ho) (own_box HI.out HC.out)); replace HK := Lib.hid (HK.out.one ho HNE.out.1); replace HC := Lib.hid hr; clear hr ho))
    have HLD := Lib.hid (HZD.out (.slice A6 ids.length c6))
    have HSD1 := Lib.hid (HSD.out (.slice A6 ids.length c6))
    have HOD1 := Lib.hid (HOD.out A6 ids.length c6)
    have KS1 := Lib.hid (fun W => KS.out (.slice A6 ids.length c6) W)
    generalize hDD : ({ nb with v := .slice A6 ids.length c6 } : Bl).cells = D at *
    have HDD := Lib.hid hDD
    clear hDD KS
    replace HY := Lib.hid (below_drawn HY.out)
    replace HI := Lib.hid (own_below HI.out (w' := z2.drew) (below_drawn (Below.refl _ _)))
    replace HK := Lib.hid (HK.out.below (w' := z2.drew) (below_drawn (Below.refl _ _)))
    have hS0 : Boxd z2.drew gb D 28 := HC.out
    refine wp_region_held_drew (S := (fun W => Boxd W gb D 28)) (by kernel_rfl) hS0 (fun hHeld => ?_)
    refine take_row 2 77 rfl rfl (by kernel_rfl) (by kernel_rfl) (by kernel_rfl) 28 _ rfl gb rfl D _ Tryd.underlying28 rfl HSD1.out (fun _ h => h) (fun _ _ _ h => h) (by rfl) (by assumption) ?_
    (try simp only [Act.put, List.setIfInBounds_toArray, List.set_cons_zero, List.set_cons_succ])
    refine ByHand.take_yes (v := ?_) 0 75 rfl rfl (by kernel_rfl) (by kernel_rfl) (by kernel_rfl) (fun _ _ _ h => h) (by rfl) ?_ (by assumption) ?_
    rotate_left
    · intro w' hSw
      (try dsimp only at hSw)
      go_simp
      all_goals with_reducible rfl
    (try simp only [Act.put, List.setIfInBounds_toArray, List.set_cons_zero, List.set_cons_succ])
    refine ByHand.take_yes (v := ?_) 5 80 rfl rfl (by kernel_rfl) (by kernel_rfl) (by kernel_rfl) (fun _ _ _ h => h) (by rfl) ?_ (by assumption) ?_
    rotate_left
    · intro w' hSw
      (try dsimp only at hSw)
      go_simp
      all_goals with_reducible rfl
    (try simp only [Act.put, List.setIfInBounds_toArray, List.set_cons_zero, List.set_cons_succ])
    refine ByHand.take_yes (v := ?_) 6 81 rfl rfl (by kernel_rfl) (by kernel_rfl) (by kernel_rfl) (fun _ _ _ h => h) (by rfl) ?_ (by assumption) ?_
    rotate_left
    · intro w' hSw
      (try dsimp only at hSw)
      go_simp
      all_goals with_reducible rfl
    (try simp only [Act.put, List.setIfInBounds_toArray, List.set_cons_zero, List.set_cons_succ])
    refine ByHand.take_yes (v := ?_) 7 82 rfl rfl (by kernel_rfl) (by kernel_rfl) (by kernel_rfl) (fun _ _ _ h => h) (by rfl) ?_ (by assumption) ?_
    rotate_left
    · intro w' hSw
      (try dsimp only at hSw)
      go_simp
      all_goals with_reducible rfl
    (try simp only [Act.put, List.setIfInBounds_toArray, List.set_cons_zero, List.set_cons_succ])
    refine wpAnyH_ready (rs := [1, 3]) (by kernel_rfl) (by simp) (AllReadyH.cons rfl (fun K hK => ?_) (AllReadyH.cons rfl (fun K hK => ?_) AllReadyH.nil))
    · go_simp
      refine (KC.out _ HY.out).mono ?_
      rintro e y6 ⟨u, M', rfl, hal, hc, hb⟩
      have HA := Lib.hid hal
      have HCP : Hid (Cop w.heap.size y6 u M') := ⟨hc.row.mono HY.out.size, fun b hm => (hc.ids b hm).mono HY.out.size⟩
      have hml : M'.length ≤ 999 := by rw [hal.1]; exact HML.out
      replace HY := Lib.hid (below_to HY.out hb)
      replace HI := Lib.hid (own_below HI.out hb)
      obtain ⟨A7, c7, rfl⟩ := own_slice' hc.row
      have HNB : Hid (¬ some gb = (Value.slice A7 M'.length c7).ownBlock ∧ ¬ some k = (Value.slice A7 M'.length c7).ownBlock) := ⟨fun e => Nat.not_le.2 hS0.lt ((hc.row.lt gb e.symm).1), fun e => Nat.not_le.2 HK.out.lt ((hc.row.lt k e.symm).1)⟩
      replace HK := Lib.hid (HK.out.below hb)
      have hS1 : Boxd y6 gb D 28 := hS0.below hb
      clear hal hc hb
      go_wp2_with fail
      refine hK.out _ _ ?_ (fun hHeld => ?_)
      · exact hS1
      clear hK K
      (try simp only [Act.put, List.setIfInBounds_toArray, List.set_cons_zero, List.set_cons_succ])
      refine wpAnyH_ready (rs := [3]) (by kernel_rfl) (by simp) (AllReadyH.cons rfl (fun K hK => ?_) AllReadyH.nil)
      refine step_slice (by rfl) 22 1 _ rfl _ _ (by simp [Act.eval, Act.put]) (KS1.out _) 78 rfl ?_
      obtain ⟨y8, hy8⟩ : ∃ y, y = World.alloc y6 (.cells D 28) := ⟨_, rfl⟩
      have hb := below_one y6 (.cells D 28)
      have HLT : Hid (Boxd (World.alloc y6 (.cells D 28)) (World.heap y6).size D 28) := heap_alloc_last _ _
      rw [← hy8] at hb HLT
      rw [← hy8]
      replace HY := Lib.hid (below_to HY.out hb)
      replace HI := Lib.hid (own_below HI.out hb)
      replace HK := Lib.hid (HK.out.below hb)
      replace HCP := Lib.hid (HCP.out.below hb)
      have hBX : Boxd y8 gb D 28 := hS1.below hb
      clear hb hy8
      refine hK.out _ _ ?_ (fun hHeld => ?_)
      · exact hBX
      clear hK K
      (try simp only [Act.put, List.setIfInBounds_toArray, List.set_cons_zero, List.set_cons_succ])
      refine wpAnyH_ready (rs := [4]) (by kernel_rfl) (by simp) (AllReadyH.cons rfl (fun K hK => ?_) AllReadyH.nil)
      refine step_box (by rfl) (.tmp 76) (.tmp 78) _ rfl w.heap.size 28 iB _ 6 64 Tryd.underlying22 HIB.out.1 HIB.out.2.1 HIB.out.2.2.1 HIB.out.2.2.2 rfl (by omega) 28 D _ HLT.out HLD.out HOD1.out (.slice A7 M'.length c7) M'.length (flatB M') (by rfl) HCP.out.row (by rfl) (by unfold maxLen; omega) (by omega) HY.out.size 79 rfl ?_
      intro v9 w9 hown hgrow
      rw [← HDD.out] at hown
      have HN : Hid (Cop w.heap.size w9 v9 (M' ++ [{ nb with v := .slice A6 ids.length c6 }])) := HCP.out.more (x := nb) (by rw [HIL.out]; exact HI.out) hown hgrow
      have HYN : Hid (Below w.heap.size w w9) := below_row HY.out (Nat.le_refl _) HCP.out.row hgrow
      have hS9 : Boxd w9 gb D 28 := (hgrow.block gb hBX.lt HNB.out.1).trans hBX
      replace HK : Hid (Boxd w9 k #[.slice none 0 0, .int .i64 0] 45) := (hgrow.block k HK.out.lt HNB.out.2).trans HK.out
      obtain ⟨A9, c9, rfl⟩ := own_slice' hown
      clear hown hgrow
      refine hK.out _ _ ?_ (fun hHeld => ?_)
      · exact hS9
      clear hK K
      (try simp only [Act.put, List.setIfInBounds_toArray, List.set_cons_zero, List.set_cons_succ])
      refine ByHand.take_yes (v := ?_) 8 83 rfl rfl (by kernel_rfl) (by kernel_rfl) (by kernel_rfl) (fun _ _ _ h => h) (by rfl) ?_ (by assumption) ?_
      rotate_left
      · intro w' hSw
        (try dsimp only at hSw)
        go_simp
        all_goals with_reducible rfl
      (try simp only [Act.put, List.setIfInBounds_toArray, List.set_cons_zero, List.set_cons_succ])
      refine wpAnyH_ready (rs := [9]) (by kernel_rfl) (by simp) (AllReadyH.cons rfl (fun K hK => ?_) AllReadyH.nil)
      refine step_store (by rfl) 45 (.tmp 12) (.tmp 83) rfl rfl k #[.slice A9 (M'.length + 1) c9, .int .i64 (IntKind.i64.wrap (ahead - mn))] (by rfl) (by rfl) 45 _ HK.out (ch_info _ _) (by rfl) (ch_one _ _ _ _) ?_
      intro w10 hr ho
      rw [HWL.out] at hr
      have HKB := HK
      replace HK := Lib.hid hr
      replace HN := Lib.hid (cop_far HN.out HKB.out ch_ne.1 ch_ne.2 ho)
      replace HYN := Lib.hid (below_one_of HYN.out ho HGW.out HYN.out.size)
      have hS10 : Boxd w10 gb D 28 := hS9.one ho HNE.out.2
      clear hr ho
      refine hK.out _ _ ?_ (fun hHeld => ?_)
      · exact hS10
      clear hK K
      (try simp only [Act.put, List.setIfInBounds_toArray, List.set_cons_zero, List.set_cons_succ])
      refine ByHand.take_yes (v := ?_) 10 13 rfl rfl (by kernel_rfl) (by kernel_rfl) (by kernel_rfl) (fun _ _ _ h => h) (by rfl) ?_ (by assumption) ?_
      rotate_left
      · intro w' hSw
        (try dsimp only at hSw)
        go_simp
        all_goals with_reducible rfl
      (try simp only [Act.put, List.setIfInBounds_toArray, List.set_cons_zero, List.set_cons_succ])
      refine wpAnyH_done (by kernel_rfl) ?_ _
      go_wp2_with fail
      refine bodyPost_ret (results_two rfl _ _ _ _ _ _ _ rfl HK.out Tryd.underlying45 rfl (ch_info _ _) rfl) rfl ?_
      exact HFT.out _ _ _ _ HA.out HN.out HYN.out
    · refine step_slice (by rfl) 22 1 _ rfl _ _ (by simp [Act.eval, Act.put]) (KS1.out _) 78 rfl ?_
      obtain ⟨y8, hy8⟩ : ∃ y, y = World.alloc z2.drew (.cells D 28) := ⟨_, rfl⟩
      have hb := below_one z2.drew (.cells D 28)
      have HLT : Hid (Boxd (World.alloc z2.drew (.cells D 28)) (World.heap z2.drew).size D 28) := heap_alloc_last _ _
      rw [← hy8] at hb HLT
      rw [← hy8]
      replace HY := Lib.hid (below_to HY.out hb)
      replace HI := Lib.hid (own_below HI.out hb)
      replace HK := Lib.hid (HK.out.below hb)
      have hS1 : Boxd y8 gb D 28 := hS0.below hb
      clear hb hy8
      refine hK.out _ _ ?_ (fun hHeld => ?_)
      · exact hS1
      clear hK K
      (try simp only [Act.put, List.setIfInBounds_toArray, List.set_cons_zero, List.set_cons_succ])
      refine wpAnyH_ready (rs := [1]) (by kernel_rfl) (by simp) (AllReadyH.cons rfl (fun K hK => ?_) AllReadyH.nil)
      go_simp
      refine (KC.out _ HY.out).mono ?_
      rintro e y6 ⟨u, M', rfl, hal, hc, hb⟩
      have HA := Lib.hid hal
      have HCP : Hid (Cop w.heap.size y6 u M') := ⟨hc.row.mono HY.out.size, fun b hm => (hc.ids b hm).mono HY.out.size⟩
      have hml : M'.length ≤ 999 := by rw [hal.1]; exact HML.out
      replace HY := Lib.hid (below_to HY.out hb)
      replace HI := Lib.hid (own_below HI.out hb)
      obtain ⟨A7, c7, rfl⟩ := own_slice' hc.row
      have HNB : Hid (¬ some gb = (Value.slice A7 M'.length c7).ownBlock ∧ ¬ some k = (Value.slice A7 M'.length c7).ownBlock) := ⟨fun e => Nat.not_le.2 hS1.lt ((hc.row.lt gb e.symm).1), fun e => Nat.not_le.2 HK.out.lt ((hc.row.lt k e.symm).1)⟩
      replace HK := Lib.hid (HK.out.below hb)
      replace HLT := Lib.hid (HLT.out.below hb)
      have hBX : Boxd y6 gb D 28 := hS1.below hb
      clear hal hc hb
      go_wp2_with fail
      refine hK.out _ _ ?_ (fun hHeld => ?_)
      · exact hBX
      clear hK K
      (try simp only [Act.put, List.setIfInBounds_toArray, List.set_cons_zero, List.set_cons_succ])
      refine wpAnyH_ready (rs := [4]) (by kernel_rfl) (by simp) (AllReadyH.cons rfl (fun K hK => ?_) AllReadyH.nil)
      refine step_box (by rfl) (.tmp 76) (.tmp 78) _ rfl w.heap.size 28 iB _ 6 64 Tryd.underlying22 HIB.out.1 HIB.out.2.1 HIB.out.2.2.1 HIB.out.2.2.2 rfl (by omega) 28 D _ HLT.out HLD.out HOD1.out (.slice A7 M'.length c7) M'.length (flatB M') (by rfl) HCP.out.row (by rfl) (by unfold maxLen; omega) (by omega) HY.out.size 79 rfl ?_
      intro v9 w9 hown hgrow
      rw [← HDD.out] at hown
      have HN : Hid (Cop w.heap.size w9 v9 (M' ++ [{ nb with v := .slice A6 ids.length c6 }])) := HCP.out.more (x := nb) (by rw [HIL.out]; exact HI.out) hown hgrow
      have HYN : Hid (Below w.heap.size w w9) := below_row HY.out (Nat.le_refl _) HCP.out.row hgrow
      have hS9 : Boxd w9 gb D 28 := (hgrow.block gb hBX.lt HNB.out.1).trans hBX
      replace HK : Hid (Boxd w9 k #[.slice none 0 0, .int .i64 0] 45) := (hgrow.block k HK.out.lt HNB.out.2).trans HK.out
      obtain ⟨A9, c9, rfl⟩ := own_slice' hown
      clear hown hgrow
      refine hK.out _ _ ?_ (fun hHeld => ?_)
      · exact hS9
      clear hK K
      (try simp only [Act.put, List.setIfInBounds_toArray, List.set_cons_zero, List.set_cons_succ])
      refine ByHand.take_yes (v := ?_) 8 83 rfl rfl (by kernel_rfl) (by kernel_rfl) (by kernel_rfl) (fun _ _ _ h => h) (by rfl) ?_ (by assumption) ?_
      rotate_left
      · intro w' hSw
        (try dsimp only at hSw)
        go_simp
        all_goals with_reducible rfl
      (try simp only [Act.put, List.setIfInBounds_toArray, List.set_cons_zero, List.set_cons_succ])
      refine wpAnyH_ready (rs := [9]) (by kernel_rfl) (by simp) (AllReadyH.cons rfl (fun K hK => ?_) AllReadyH.nil)
      refine step_store (by rfl) 45 (.tmp 12) (.tmp 83) rfl rfl k #[.slice A9 (M'.length + 1) c9, .int .i64 (IntKind.i64.wrap (ahead - mn))] (by rfl) (by rfl) 45 _ HK.out (ch_info _ _) (by rfl) (ch_one _ _ _ _) ?_
      intro w10 hr ho
      rw [HWL.out] at hr
      have HKB := HK
      replace HK := Lib.hid hr
      replace HN := Lib.hid (cop_far HN.out HKB.out ch_ne.1 ch_ne.2 ho)
      replace HYN := Lib.hid (below_one_of HYN.out ho HGW.out HYN.out.size)
      have hS10 : Boxd w10 gb D 28 := hS9.one ho HNE.out.2
      clear hr ho
      refine hK.out _ _ ?_ (fun hHeld => ?_)
      · exact hS10
      clear hK K
      (try simp only [Act.put, List.setIfInBounds_toArray, List.set_cons_zero, List.set_cons_succ])
      refine ByHand.take_yes (v := ?_) 10 13 rfl rfl (by kernel_rfl) (by kernel_rfl) (by kernel_rfl) (fun _ _ _ h => h) (by rfl) ?_ (by assumption) ?_
      rotate_left
      · intro w' hSw
        (try dsimp only at hSw)
        go_simp
        all_goals with_reducible rfl
      (try simp only [Act.put, List.setIfInBounds_toArray, List.set_cons_zero, List.set_cons_succ])
      refine wpAnyH_done (by kernel_rfl) ?_ _
      go_wp2_with fail
      refine bodyPost_ret (results_two rfl _ _ _ _ _ _ _ rfl HK.out Tryd.underlying45 rfl (ch_info _ _) rfl) rfl ?_
      exact HFT.out _ _ _ _ HA.out HN.out HYN.out
  · have t6 : (a - mn == 0) = false := by simp; omega
    have HD3 : Hid (∀ v', (⟨m, a, a - mn, -1, how, v', ids⟩ : Bl).cells = ({ nb with v := v' } : Bl).cells) := fun v' => show _ = _ by
      rw [hcl, if_neg hz]
    have X2 : Hid (∀ v', (⟨m, a, a - mn, -1, how, v', ids⟩ : Bl).cells[2]? = some (.int .i64 (a - mn))) := fun _ => rfl
    have X6 : Hid (∀ v', 6 = (⟨m, a, a - mn, -1, how, v', ids⟩ : Bl).cells.size) := fun _ => rfl
    generalize firV m = f at *
    generalize firE m = fe at *
    clear hz
    clear h1 h2 h3 hv hvi hB hBi hI hII hg hm hf ha hh qa qh hnb hmn i1 i2 i3 i4 i5 i6 i7 i8 hK hb hcl
    clear h0
    go_enter Tryd.func22, Tryd.ntmps22
    go_upto_region 1 with fail
    rw [← f0, ← e0]
    clear e0 f0
    go_upto_region 6 with (first
      | (go_at_call 14; (refine (KG.out _ HW.out).mono ?_); rintro e y ⟨rfl, hb⟩; have HY := Lib.hid (below_to HW.out hb); replace HK := Lib.hid (HK.out.below hb); clear hb)
      | (go_at_call 32; (first | (with_reducible refine (KP.out _).mono ?_) | (with_reducible refine (KQ.out _).mono ?_)); rintro e y4 ⟨rfl, rfl⟩))
    go_upto_region 7 with (first
      | (at_builtin; refine Slice.wpList_append_ints rfl (.tmp 62) (.tmp 63) _ rfl y.heap.size 3 iI (.int .i64 0) 8 Tryd.underlying26 HII.out.1 HII.out.2.1 HII.out.2.2.1 HII.out.2.2.2 rfl (.slice (some ⟨y.heap.size, 0, none⟩) 0 0) 0 [] rfl (World.ownsRow_made y #[] 0 (Nat.le_refl _) (by simp) (by simp)) Bi .i64 (.slice A1 ids.length k1) ids rfl (HVI.out _ (below_to HY.out (below_one _ _))) (by have := HLI.out; unfold maxLen; omega) (by have := HLI.out; omega) (by simp) ?_; intro v3 w3 hown hgrow; rw [Nat.zero_add, List.nil_append] at hown; have HYS := Lib.hid HY.out.size; have HB3 := Lib.hid (show Below y.heap.size y w3 from (below_one _ _).grown hgrow (below_one _ _).size (new_own y)); have HI : Hid (w3.ownsRow w.heap.size 3 1 v3 ids.length (ids.map (Value.int .i64))) := (hown : World.ownsRow _ _ _ _ _ _ _).mono HYS.out; replace HK := Lib.hid (HK.out.below HB3.out); replace HY := Lib.hid (below_to HY.out HB3.out); obtain ⟨A6, c6, rfl⟩ := own_slice' hown; clear hown hgrow)
      | (refine o_store rfl 28 (.tmp 15) (.tmp 65) rfl rfl w3.heap.size #[.int .i64 m, .int .i64 a, .int .i64 (a - mn), .int .i64 (-1), .int .i64 how, .slice A6 ids.length c6] rfl rfl _ _ (heap_alloc_last _ _) (by rw [← HC0.out]; exact HS0.out _) rfl (by rw [← HC0.out]; exact HO0.out _ _ _) ?_; intro z hr ho; rw [← HC0.out] at hr; have HB6 := Lib.hid (below_one_of (below_one w3 _) ho (Nat.le_refl _) (below_one w3 _).size); have HW6 := Lib.hid HY.out.size; have HKL := Lib.hid HK.out.lt; replace HI := Lib.hid (own_below HI.out HB6.out); replace HK := Lib.hid (HK.out.below HB6.out); replace HY := Lib.hid (below_to HY.out HB6.out); have HC := Lib.hid hr; clear hr ho))
    obtain ⟨gb, hgb⟩ : ∃ g, g = w3.heap.size := ⟨_, rfl⟩
    rw [← hgb]
    rw [← hgb] at HC HW6 HKL
    clear hgb
    have HNE : Hid (¬ k = gb ∧ ¬ gb = k) := show _ ∧ _ from ⟨fun e => Nat.lt_irrefl _ (by rw [e] at HKL; exact HKL.out), fun e => Nat.lt_irrefl _ (by rw [e] at HKL; exact HKL.out)⟩
    have c2 := HC.out.cell.trans (X2.out _)
    rw [HD3.out] at HC
    go_upto_region 9 with fail
    have HLD := Lib.hid (HZD.out (.slice A6 ids.length c6))
    have HSD1 := Lib.hid (HSD.out (.slice A6 ids.length c6))
    have HOD1 := Lib.hid (HOD.out A6 ids.length c6)
    have KS1 := Lib.hid (fun W => KS.out (.slice A6 ids.length c6) W)
    generalize hDD : ({ nb with v := .slice A6 ids.length c6 } : Bl).cells = D at *
    have HDD := Lib.hid hDD
    clear hDD KS
    replace HY := Lib.hid (below_drawn HY.out)
    replace HI := Lib.hid (own_below HI.out (w' := z.drew) (below_drawn (Below.refl _ _)))
    replace HK := Lib.hid (HK.out.below (w' := z.drew) (below_drawn (Below.refl _ _)))
    have hS0 : Boxd z.drew gb D 28 := HC.out
    refine wp_region_held_drew (S := (fun W => Boxd W gb D 28)) (by kernel_rfl) hS0 (fun hHeld => ?_)
    refine take_row 2 77 rfl rfl (by kernel_rfl) (by kernel_rfl) (by kernel_rfl) 28 _ rfl gb rfl D _ Tryd.underlying28 rfl HSD1.out (fun _ h => h) (fun _ _ _ h => h) (by rfl) (by assumption) ?_
    (try simp only [Act.put, List.setIfInBounds_toArray, List.set_cons_zero, List.set_cons_succ])
    refine ByHand.take_yes (v := ?_) 0 75 rfl rfl (by kernel_rfl) (by kernel_rfl) (by kernel_rfl) (fun _ _ _ h => h) (by rfl) ?_ (by assumption) ?_
    rotate_left
    · intro w' hSw
      (try dsimp only at hSw)
      go_simp
      all_goals with_reducible rfl
    (try simp only [Act.put, List.setIfInBounds_toArray, List.set_cons_zero, List.set_cons_succ])
    refine ByHand.take_yes (v := ?_) 5 80 rfl rfl (by kernel_rfl) (by kernel_rfl) (by kernel_rfl) (fun _ _ _ h => h) (by rfl) ?_ (by assumption) ?_
    rotate_left
    · intro w' hSw
      (try dsimp only at hSw)
      go_simp
      all_goals with_reducible rfl
    (try simp only [Act.put, List.setIfInBounds_toArray, List.set_cons_zero, List.set_cons_succ])
    refine ByHand.take_yes (v := ?_) 6 81 rfl rfl (by kernel_rfl) (by kernel_rfl) (by kernel_rfl) (fun _ _ _ h => h) (by rfl) ?_ (by assumption) ?_
    rotate_left
    · intro w' hSw
      (try dsimp only at hSw)
      go_simp
      all_goals with_reducible rfl
    (try simp only [Act.put, List.setIfInBounds_toArray, List.set_cons_zero, List.set_cons_succ])
    refine ByHand.take_yes (v := ?_) 7 82 rfl rfl (by kernel_rfl) (by kernel_rfl) (by kernel_rfl) (fun _ _ _ h => h) (by rfl) ?_ (by assumption) ?_
    rotate_left
    · intro w' hSw
      (try dsimp only at hSw)
      go_simp
      all_goals with_reducible rfl
    (try simp only [Act.put, List.setIfInBounds_toArray, List.set_cons_zero, List.set_cons_succ])
    refine wpAnyH_ready (rs := [1, 3]) (by kernel_rfl) (by simp) (AllReadyH.cons rfl (fun K hK => ?_) (AllReadyH.cons rfl (fun K hK => ?_) AllReadyH.nil))
    · go_simp
      refine (KC.out _ HY.out).mono ?_
      rintro e y6 ⟨u, M', rfl, hal, hc, hb⟩
      have HA := Lib.hid hal
      have HCP : Hid (Cop w.heap.size y6 u M') := ⟨hc.row.mono HY.out.size, fun b hm => (hc.ids b hm).mono HY.out.size⟩
      have hml : M'.length ≤ 999 := by rw [hal.1]; exact HML.out
      replace HY := Lib.hid (below_to HY.out hb)
      replace HI := Lib.hid (own_below HI.out hb)
      obtain ⟨A7, c7, rfl⟩ := own_slice' hc.row
      have HNB : Hid (¬ some gb = (Value.slice A7 M'.length c7).ownBlock ∧ ¬ some k = (Value.slice A7 M'.length c7).ownBlock) := ⟨fun e => Nat.not_le.2 hS0.lt ((hc.row.lt gb e.symm).1), fun e => Nat.not_le.2 HK.out.lt ((hc.row.lt k e.symm).1)⟩
      replace HK := Lib.hid (HK.out.below hb)
      have hS1 : Boxd y6 gb D 28 := hS0.below hb
      clear hal hc hb
      go_wp2_with fail
      refine hK.out _ _ ?_ (fun hHeld => ?_)
      · exact hS1
      clear hK K
      (try simp only [Act.put, List.setIfInBounds_toArray, List.set_cons_zero, List.set_cons_succ])
      refine wpAnyH_ready (rs := [3]) (by kernel_rfl) (by simp) (AllReadyH.cons rfl (fun K hK => ?_) AllReadyH.nil)
      refine step_slice (by rfl) 22 1 _ rfl _ _ (by simp [Act.eval, Act.put]) (KS1.out _) 78 rfl ?_
      obtain ⟨y8, hy8⟩ : ∃ y, y = World.alloc y6 (.cells D 28) := ⟨_, rfl⟩
      have hb := below_one y6 (.cells D 28)
      have HLT : Hid (Boxd (World.alloc y6 (.cells D 28)) (World.heap y6).size D 28) := heap_alloc_last _ _
      rw [← hy8] at hb HLT
      rw [← hy8]
      replace HY := Lib.hid (below_to HY.out hb)
      replace HI := Lib.hid (own_below HI.out hb)
      replace HK := Lib.hid (HK.out.below hb)
      replace HCP := Lib.hid (HCP.out.below hb)
      have hBX : Boxd y8 gb D 28 := hS1.below hb
      clear hb hy8
      refine hK.out _ _ ?_ (fun hHeld => ?_)
      · exact hBX
      clear hK K
      (try simp only [Act.put, List.setIfInBounds_toArray, List.set_cons_zero, List.set_cons_succ])
      refine wpAnyH_ready (rs := [4]) (by kernel_rfl) (by simp) (AllReadyH.cons rfl (fun K hK => ?_) AllReadyH.nil)
      refine step_box (by rfl) (.tmp 76) (.tmp 78) _ rfl w.heap.size 28 iB _ 6 64 Tryd.underlying22 HIB.out.1 HIB.out.2.1 HIB.out.2.2.1 HIB.out.2.2.2 rfl (by omega) 28 D _ HLT.out HLD.out HOD1.out (.slice A7 M'.length c7) M'.length (flatB M') (by rfl) HCP.out.row (by rfl) (by unfold maxLen; omega) (by omega) HY.out.size 79 rfl ?_
      intro v9 w9 hown hgrow
      rw [← HDD.out] at hown
      have HN : Hid (Cop w.heap.size w9 v9 (M' ++ [{ nb with v := .slice A6 ids.length c6 }])) := HCP.out.more (x := nb) (by rw [HIL.out]; exact HI.out) hown hgrow
      have HYN : Hid (Below w.heap.size w w9) := below_row HY.out (Nat.le_refl _) HCP.out.row hgrow
      have hS9 : Boxd w9 gb D 28 := (hgrow.block gb hBX.lt HNB.out.1).trans hBX
      replace HK : Hid (Boxd w9 k #[.slice none 0 0, .int .i64 0] 45) := (hgrow.block k HK.out.lt HNB.out.2).trans HK.out
      obtain ⟨A9, c9, rfl⟩ := own_slice' hown
      clear hown hgrow
      refine hK.out _ _ ?_ (fun hHeld => ?_)
      · exact hS9
      clear hK K
      (try simp only [Act.put, List.setIfInBounds_toArray, List.set_cons_zero, List.set_cons_succ])
      refine ByHand.take_yes (v := ?_) 8 83 rfl rfl (by kernel_rfl) (by kernel_rfl) (by kernel_rfl) (fun _ _ _ h => h) (by rfl) ?_ (by assumption) ?_
      rotate_left
      · intro w' hSw
        (try dsimp only at hSw)
        go_simp
        all_goals with_reducible rfl
      (try simp only [Act.put, List.setIfInBounds_toArray, List.set_cons_zero, List.set_cons_succ])
      refine wpAnyH_ready (rs := [9]) (by kernel_rfl) (by simp) (AllReadyH.cons rfl (fun K hK => ?_) AllReadyH.nil)
      refine step_store (by rfl) 45 (.tmp 12) (.tmp 83) rfl rfl k #[.slice A9 (M'.length + 1) c9, .int .i64 (IntKind.i64.wrap (ahead - mn))] (by rfl) (by rfl) 45 _ HK.out (ch_info _ _) (by rfl) (ch_one _ _ _ _) ?_
      intro w10 hr ho
      rw [HWL.out] at hr
      have HKB := HK
      replace HK := Lib.hid hr
      replace HN := Lib.hid (cop_far HN.out HKB.out ch_ne.1 ch_ne.2 ho)
      replace HYN := Lib.hid (below_one_of HYN.out ho HGW.out HYN.out.size)
      have hS10 : Boxd w10 gb D 28 := hS9.one ho HNE.out.2
      clear hr ho
      refine hK.out _ _ ?_ (fun hHeld => ?_)
      · exact hS10
      clear hK K
      (try simp only [Act.put, List.setIfInBounds_toArray, List.set_cons_zero, List.set_cons_succ])
      refine ByHand.take_yes (v := ?_) 10 13 rfl rfl (by kernel_rfl) (by kernel_rfl) (by kernel_rfl) (fun _ _ _ h => h) (by rfl) ?_ (by assumption) ?_
      rotate_left
      · intro w' hSw
        (try dsimp only at hSw)
        go_simp
        all_goals with_reducible rfl
      (try simp only [Act.put, List.setIfInBounds_toArray, List.set_cons_zero, List.set_cons_succ])
      refine wpAnyH_done (by kernel_rfl) ?_ _
      go_wp2_with fail
      refine bodyPost_ret (results_two rfl _ _ _ _ _ _ _ rfl HK.out Tryd.underlying45 rfl (ch_info _ _) rfl) rfl ?_
      exact HFT.out _ _ _ _ HA.out HN.out HYN.out
    · refine step_slice (by rfl) 22 1 _ rfl _ _ (by simp [Act.eval, Act.put]) (KS1.out _) 78 rfl ?_
      obtain ⟨y8, hy8⟩ : ∃ y, y = World.alloc z.drew (.cells D 28) := ⟨_, rfl⟩
      have hb := below_one z.drew (.cells D 28)
      have HLT : Hid (Boxd (World.alloc z.drew (.cells D 28)) (World.heap z.drew).size D 28) := heap_alloc_last _ _
      rw [← hy8] at hb HLT
      rw [← hy8]
      replace HY := Lib.hid (below_to HY.out hb)
      replace HI := Lib.hid (own_below HI.out hb)
      replace HK := Lib.hid (HK.out.below hb)
      have hS1 : Boxd y8 gb D 28 := hS0.below hb
      clear hb hy8
      refine hK.out _ _ ?_ (fun hHeld => ?_)
      · exact hS1
      clear hK K
      (try simp only [Act.put, List.setIfInBounds_toArray, List.set_cons_zero, List.set_cons_succ])
      refine wpAnyH_ready (rs := [1]) (by kernel_rfl) (by simp) (AllReadyH.cons rfl (fun K hK => ?_) AllReadyH.nil)
      go_simp
      refine (KC.out _ HY.out).mono ?_
      rintro e y6 ⟨u, M', rfl, hal, hc, hb⟩
      have HA := Lib.hid hal
      have HCP : Hid (Cop w.heap.size y6 u M') := ⟨hc.row.mono HY.out.size, fun b hm => (hc.ids b hm).mono HY.out.size⟩
      have hml : M'.length ≤ 999 := by rw [hal.1]; exact HML.out
      replace HY := Lib.hid (below_to HY.out hb)
      replace HI := Lib.hid (own_below HI.out hb)
      obtain ⟨A7, c7, rfl⟩ := own_slice' hc.row
      have HNB : Hid (¬ some gb = (Value.slice A7 M'.length c7).ownBlock ∧ ¬ some k = (Value.slice A7 M'.length c7).ownBlock) := ⟨fun e => Nat.not_le.2 hS1.lt ((hc.row.lt gb e.symm).1), fun e => Nat.not_le.2 HK.out.lt ((hc.row.lt k e.symm).1)⟩
      replace HK := Lib.hid (HK.out.below hb)
      replace HLT := Lib.hid (HLT.out.below hb)
      have hBX : Boxd y6 gb D 28 := hS1.below hb
      clear hal hc hb
      go_wp2_with fail
      refine hK.out _ _ ?_ (fun hHeld => ?_)
      · exact hBX
      clear hK K
      (try simp only [Act.put, List.setIfInBounds_toArray, List.set_cons_zero, List.set_cons_succ])
      refine wpAnyH_ready (rs := [4]) (by kernel_rfl) (by simp) (AllReadyH.cons rfl (fun K hK => ?_) AllReadyH.nil)
      refine step_box (by rfl) (.tmp 76) (.tmp 78) _ rfl w.heap.size 28 iB _ 6 64 Tryd.underlying22 HIB.out.1 HIB.out.2.1 HIB.out.2.2.1 HIB.out.2.2.2 rfl (by omega) 28 D _ HLT.out HLD.out HOD1.out (.slice A7 M'.length c7) M'.length (flatB M') (by rfl) HCP.out.row (by rfl) (by unfold maxLen; omega) (by omega) HY.out.size 79 rfl ?_
      intro v9 w9 hown hgrow
      rw [← HDD.out] at hown
      have HN : Hid (Cop w.heap.size w9 v9 (M' ++ [{ nb with v := .slice A6 ids.length c6 }])) := HCP.out.more (x := nb) (by rw [HIL.out]; exact HI.out) hown hgrow
      have HYN : Hid (Below w.heap.size w w9) := below_row HY.out (Nat.le_refl _) HCP.out.row hgrow
      have hS9 : Boxd w9 gb D 28 := (hgrow.block gb hBX.lt HNB.out.1).trans hBX
      replace HK : Hid (Boxd w9 k #[.slice none 0 0, .int .i64 0] 45) := (hgrow.block k HK.out.lt HNB.out.2).trans HK.out
      obtain ⟨A9, c9, rfl⟩ := own_slice' hown
      clear hown hgrow
      refine hK.out _ _ ?_ (fun hHeld => ?_)
      · exact hS9
      clear hK K
      (try simp only [Act.put, List.setIfInBounds_toArray, List.set_cons_zero, List.set_cons_succ])
      refine ByHand.take_yes (v := ?_) 8 83 rfl rfl (by kernel_rfl) (by kernel_rfl) (by kernel_rfl) (fun _ _ _ h => h) (by rfl) ?_ (by assumption) ?_
      rotate_left
      · intro w' hSw
        (try dsimp only at hSw)
        go_simp
        all_goals with_reducible rfl
      (try simp only [Act.put, List.setIfInBounds_toArray, List.set_cons_zero, List.set_cons_succ])
      refine wpAnyH_ready (rs := [9]) (by kernel_rfl) (by simp) (AllReadyH.cons rfl (fun K hK => ?_) AllReadyH.nil)
      refine step_store (by rfl) 45 (.tmp 12) (.tmp 83) rfl rfl k #[.slice A9 (M'.length + 1) c9, .int .i64 (IntKind.i64.wrap (ahead - mn))] (by rfl) (by rfl) 45 _ HK.out (ch_info _ _) (by rfl) (ch_one _ _ _ _) ?_
      intro w10 hr ho
      rw [HWL.out] at hr
      have HKB := HK
      replace HK := Lib.hid hr
      replace HN := Lib.hid (cop_far HN.out HKB.out ch_ne.1 ch_ne.2 ho)
      replace HYN := Lib.hid (below_one_of HYN.out ho HGW.out HYN.out.size)
      have hS10 : Boxd w10 gb D 28 := hS9.one ho HNE.out.2
      clear hr ho
      refine hK.out _ _ ?_ (fun hHeld => ?_)
      · exact hS10
      clear hK K
      (try simp only [Act.put, List.setIfInBounds_toArray, List.set_cons_zero, List.set_cons_succ])
      refine ByHand.take_yes (v := ?_) 10 13 rfl rfl (by kernel_rfl) (by kernel_rfl) (by kernel_rfl) (fun _ _ _ h => h) (by rfl) ?_ (by assumption) ?_
      rotate_left
      · intro w' hSw
        (try dsimp only at hSw)
        go_simp
        all_goals with_reducible rfl
      (try simp only [Act.put, List.setIfInBounds_toArray, List.set_cons_zero, List.set_cons_succ])
      refine wpAnyH_done (by kernel_rfl) ?_ _
      go_wp2_with fail
      refine bodyPost_ret (results_two rfl _ _ _ _ _ _ _ rfl HK.out Tryd.underlying45 rfl (ch_info _ _) rfl) rfl ?_
      exact HFT.out _ _ _ _ HA.out HN.out HYN.out
set_option maxRecDepth 20000 in
set_option maxHeartbeats 4000000 in
theorem r_ok1 (M : List Bl) (m a ahead how : Int) (ids : List Int) (v vi : Value) (B Bi : Nat) (w : World) (hB : B ≤ w.heap.size) (hBi : Bi ≤ w.heap.size) (hv : Bls w B v M) (hvi : Ints w Bi .i64 vi ids) (hN : M.length ≤ 999) (hI : ∀ b ∈ M, b.ids.length ≤ 1000) (hII : ids.length ≤ 1000) (hg : goodM M = true) (hm : 0 ≤ m ∧ m ≤ 2879) (h0 : 0 < M.length) (i : Nat) (hi : M.length = i + 1) (x : Bl) (hx : M[i]? = some x) (hq : x.month < m) (hf : follB M m = true) (ha : moneyB a = true) (hh : moneyB ahead = true) : Calls Tryd.prog 22 #[v, .int .i64 m, .int .i64 a, .int .i64 ahead, .int .i64 how, vi] w (ToldR (issL M m a ahead how ids) (issK M m a ahead) (issE M m a ahead) w) := by
  obtain ⟨k, w0, e0, f0, hK, hb⟩ := boxd_new w #[.slice none 0 0, .int .i64 0] 45
  have KG := Lib.hid (fun W (h : Below w.heap.size w W) => r_good M v B W (Nat.le_trans hB h.size) (hv.below (h.mono hB)) (by omega))
  have KP := Lib.hid (fun W => r_money a W)
  have KQ := Lib.hid (fun W => r_money ahead W)
  have HK := Lib.hid hK
  have HW := Lib.hid hb
  have HGW : Hid (w.heap.size ≤ k) := show _ ≤ _ by rw [e0]; exact Nat.le_refl _
  have lM := hv.1.len
  have KC := Lib.hid (fun W (h : Below w.heap.size w W) => c_cbills M v B W (Nat.le_trans hB h.size) (hv.below (h.mono hB)) (by omega) hI)
  have HVI := Lib.hid (fun W (h : Below w.heap.size w W) => hvi.below (h.mono hBi))
  obtain ⟨b, off, k', e9, hbb, -⟩ := hv.1.open h0
  have HR : Hid (w.rangeAt b (off + i * 6) x.cells.toList) := by
    subst e9
    exact hv.1.at_ hx
  have X0 : Hid (x.cells.toList[0]? = some (.int .i64 x.month)) := show _ = _ from rfl
  have HBL := Lib.hid (Nat.lt_of_lt_of_le hbb hB)
  subst e9
  have u0 : decide (0 < M.length) = true := decide_eq_true (by omega)
  have u4 : ((M.length : Int) - 1) = (i : Int) := by omega
  have u1 : wrap64 ((M.length : Int) - 1) = (i : Int) := by unfold wrap64; omega
  have u2 : (i : Int) < M.length := by omega
  obtain ⟨A1, k1, rfl, -⟩ := id hvi
  have t1 : decide (m < 0) = false := decide_eq_false (by omega)
  have t2 : decide (2879 < m) = false := decide_eq_false (by omega)
  have t3 : decide (m ≤ x.month) = false := decide_eq_false (by omega)
  have h1 : issE M m a ahead = 0 := by
    unfold issE
    rw [if_pos hg, if_pos ⟨decide_eq_true hm, hf, ha, hh⟩]
  have h2 : issL M m a ahead how ids = M ++ [newB m a how ids ahead] := by unfold issL; rw [if_pos h1]
  have h3 : issK M m a ahead = ahead - min a ahead := by unfold issK; rw [if_pos h1]
  rw [h1, h2, h3]
  have qa := money_iff.1 ha
  have qh := money_iff.1 hh
  have KF := Lib.hid (fun W => rfirst_any m W)
  have hcl : ∀ v', { newB m a how ids ahead with v := v' } = (⟨m, a, a - min a ahead, if a - min a ahead = 0 then firV m else -1, how, v', ids⟩ : Bl) := fun _ => rfl
  have HIL : Hid ((newB m a how ids ahead).ids = ids) := show _ = _ from rfl
  generalize hnb : newB m a how ids ahead = nb at *
  obtain ⟨mn, hmn⟩ : ∃ mn, mn = min a ahead := ⟨_, rfl⟩
  have t5 : (if ahead < a then ahead else a) = mn := by
    rw [hmn]
    by_cases h : ahead < a
    · rw [if_pos h]; omega
    · rw [if_neg h]; omega
  rw [← hmn] at hcl ⊢
  have w1 : wrap64 (a - mn) = a - mn := by unfold wrap64; omega
  have HS0 : Hid (∀ v', (Tryd.prog.info? 28).map (·.size) = some (⟨m, a, a - mn, -1, how, v', ids⟩ : Bl).cells.size) := fun v' => bl_info ⟨m, a, a - mn, -1, how, v', ids⟩
  have HO0 : Hid (∀ A n c, (⟨m, a, a - mn, -1, how, .slice A n c, ids⟩ : Bl).cells.all (·.oneCell') = true) := fun A n c => bl_one ⟨m, a, a - mn, -1, how, .slice A n c, ids⟩ rfl
  have HC0 : Hid (∀ v', (⟨m, a, a - mn, -1, how, v', ids⟩ : Bl).cells = #[.int .i64 m, .int .i64 a, .int .i64 (a - mn), .int .i64 (-1), .int .i64 how, v']) := fun _ => rfl
  have HSD : Hid (∀ v', (Tryd.prog.info? 28).map (·.size) = some ({ nb with v := v' } : Bl).cells.size) := fun v' => bl_info { nb with v := v' }
  have HOD : Hid (∀ A n c, ({ nb with v := .slice A n c } : Bl).cells.all (·.oneCell') = true) := fun A n c => bl_one { nb with v := .slice A n c } rfl
  have HZD : Hid (∀ v', ({ nb with v := v' } : Bl).cells.toList.length = 6) := fun _ => rfl
  have KS : Hid (∀ (v' : Value) (W : World), (Instr.buildSlice 22 1 #[(0, .agg ({ nb with v := v' } : Bl).cells)]).run Tryd.prog W = .ok (.slice (some ⟨W.heap.size, 0, none⟩) 1 1) (W.alloc (.cells ({ nb with v := v' } : Bl).cells 28))) := fun v' W => run_bill { nb with v := v' } W
  obtain ⟨iB, i1, i2, i3, i4⟩ := info_parts bill_zero
  have HIB := Lib.hid (And.intro i1 (And.intro i2 (And.intro i3 i4)))
  obtain ⟨iI, i5, i6, i7, i8⟩ := info_parts int_zero
  have HII := Lib.hid (And.intro i5 (And.intro i6 (And.intro i7 i8)))
  rw [hg] at KG
  rw [ha] at KP
  rw [hh] at KQ
  obtain ⟨lf, hlf⟩ : ∃ lf, lf = ahead - mn := ⟨_, rfl⟩
  have HWL : Hid (IntKind.i64.wrap (ahead - mn) = lf) := show _ = _ by rw [hlf]; exact IntWalk.i64_in _ (by omega)
  rw [← hlf]
  have HML := Lib.hid hN
  have HLI := Lib.hid hII
  have HFT : Hid (∀ (M' : List Bl) (v' u : Value) (w' : World), AlikeB M M' → Cop w.heap.size w' u (M' ++ [{ nb with v := v' }]) → Below w.heap.size w w' → ToldR (M ++ [nb]) lf 0 w (.returned (.tuple #[.agg #[u, .int .i64 lf], .int .i64 0])) w') := fun M' v' u w' ha hc hb => ⟨u, M' ++ [{ nb with v := v' }], rfl, alike_append ha (alike_iff.2 rfl), hc, hb⟩
  clear hlf
  by_cases hz : a - mn = 0
  · have t6 : (a - mn == 0) = true := by simp; omega
    have HD3 : Hid (∀ v', (⟨m, a, a - mn, -1, how, v', ids⟩ : Bl).cells.setIfInBounds 3 (.int .i64 (firV m)) = ({ nb with v := v' } : Bl).cells) := fun v' => show _ = _ by
      rw [hcl, if_pos hz]
      rfl
    have X2 : Hid (∀ v', (⟨m, a, a - mn, -1, how, v', ids⟩ : Bl).cells[2]? = some (.int .i64 (a - mn))) := fun _ => rfl
    have X6 : Hid (∀ v', 6 = (⟨m, a, a - mn, -1, how, v', ids⟩ : Bl).cells.size) := fun _ => rfl
    generalize firV m = f at *
    generalize firE m = fe at *
    clear hz
    clear h1 h2 h3 hv hvi hB hBi hI hII hg hm hf ha hh qa qh hnb hmn i1 i2 i3 i4 i5 i6 i7 i8 hK hb hcl
    clear hx hi hbb h0 hq
    generalize x.cells = C9 at *
    generalize x.month = q at *
    go_enter Tryd.func22, Tryd.ntmps22
    go_upto_region 1 with fail
    rw [← f0, ← e0]
    clear e0 f0
    go_upto_region 6 with (first
      | (go_at_call 14; (refine (KG.out _ HW.out).mono ?_); rintro e y ⟨rfl, hb⟩; have HY := Lib.hid (below_to HW.out hb); replace HK := Lib.hid (HK.out.below hb); have cq : y.cell? ⟨b, off + i * 6, none⟩ = some (.int .i64 q) := range_keep HR.out HY.out HBL.out 0 _ X0.out; clear hb)
      | (go_at_call 32; (first | (with_reducible refine (KP.out _).mono ?_) | (with_reducible refine (KQ.out _).mono ?_)); rintro e y4 ⟨rfl, rfl⟩))
    go_upto_region 7 with (first
      | (at_builtin; refine Slice.wpList_append_ints rfl (.tmp 62) (.tmp 63) _ rfl y.heap.size 3 iI (.int .i64 0) 8 Tryd.underlying26 HII.out.1 HII.out.2.1 HII.out.2.2.1 HII.out.2.2.2 rfl (.slice (some ⟨y.heap.size, 0, none⟩) 0 0) 0 [] rfl (World.ownsRow_made y #[] 0 (Nat.le_refl _) (by simp) (by simp)) Bi .i64 (.slice A1 ids.length k1) ids rfl (HVI.out _ (below_to HY.out (below_one _ _))) (by have := HLI.out; unfold maxLen; omega) (by have := HLI.out; omega) (by simp) ?_; intro v3 w3 hown hgrow; rw [Nat.zero_add, List.nil_append] at hown; have HYS := Lib.hid HY.out.size; have HB3 := Lib.hid (show Below y.heap.size y w3 from (below_one _ _).grown hgrow (below_one _ _).size (new_own y)); have HI : Hid (w3.ownsRow w.heap.size 3 1 v3 ids.length (ids.map (Value.int .i64))) := (hown : World.ownsRow _ _ _ _ _ _ _).mono HYS.out; replace HK := Lib.hid (HK.out.below HB3.out); replace HY := Lib.hid (below_to HY.out HB3.out); obtain ⟨A6, c6, rfl⟩ := own_slice' hown; clear hown hgrow)
      | (refine o_store rfl 28 (.tmp 15) (.tmp 65) rfl rfl w3.heap.size #[.int .i64 m, .int .i64 a, .int .i64 (a - mn), .int .i64 (-1), .int .i64 how, .slice A6 ids.length c6] rfl rfl _ _ (heap_alloc_last _ _) (by rw [← HC0.out]; exact HS0.out _) rfl (by rw [← HC0.out]; exact HO0.out _ _ _) ?_; intro z hr ho; rw [← HC0.out] at hr; have HB6 := Lib.hid (below_one_of (below_one w3 _) ho (Nat.le_refl _) (below_one w3 _).size); have HW6 := Lib.hid HY.out.size; have HKL := Lib.hid HK.out.lt; replace HI := Lib.hid (own_below HI.out HB6.out); replace HK := Lib.hid (HK.out.below HB6.out); replace HY := Lib.hid (below_to HY.out HB6.out); have HC := Lib.hid hr; clear hr ho))
    obtain ⟨gb, hgb⟩ : ∃ g, g = w3.heap.size := ⟨_, rfl⟩
    rw [← hgb]
    rw [← hgb] at HC HW6 HKL
    clear hgb
    have HNE : Hid (¬ k = gb ∧ ¬ gb = k) := show _ ∧ _ from ⟨fun e => Nat.lt_irrefl _ (by rw [e] at HKL; exact HKL.out), fun e => Nat.lt_irrefl _ (by rw [e] at HKL; exact HKL.out)⟩
    have c2 := HC.out.cell.trans (X2.out _)
    go_upto_region 9 with (first
      | (go_at_call 37; (with_reducible refine (KF.out _).mono ?_); rintro e y5 ⟨rfl, rfl⟩)
      | (refine o_put rfl 3 _ _ rfl rfl gb 3 (.int .i64 f) rfl rfl rfl 28 _ HC.out (by rw [← X6.out]; decide) i_one ?_; intro z2 hr ho; rw [HD3.out] at hr; replace HY := Lib.hid (below_one_of HY.out ho HW6.out HY.out.size); replace HI := Lib.hid (HI.out.kept (one_grown ho) (own_box HI.out HC.out)); replace HK := Lib.hid (HK.out.one ho HNE.out.1); replace HC := Lib.hid hr; clear hr ho))
    have HLD := Lib.hid (HZD.out (.slice A6 ids.length c6))
    have HSD1 := Lib.hid (HSD.out (.slice A6 ids.length c6))
    have HOD1 := Lib.hid (HOD.out A6 ids.length c6)
    have KS1 := Lib.hid (fun W => KS.out (.slice A6 ids.length c6) W)
    generalize hDD : ({ nb with v := .slice A6 ids.length c6 } : Bl).cells = D at *
    have HDD := Lib.hid hDD
    clear hDD KS
    replace HY := Lib.hid (below_drawn HY.out)
    replace HI := Lib.hid (own_below HI.out (w' := z2.drew) (below_drawn (Below.refl _ _)))
    replace HK := Lib.hid (HK.out.below (w' := z2.drew) (below_drawn (Below.refl _ _)))
    have hS0 : Boxd z2.drew gb D 28 := HC.out
    refine wp_region_held_drew (S := (fun W => Boxd W gb D 28)) (by kernel_rfl) hS0 (fun hHeld => ?_)
    refine take_row 2 77 rfl rfl (by kernel_rfl) (by kernel_rfl) (by kernel_rfl) 28 _ rfl gb rfl D _ Tryd.underlying28 rfl HSD1.out (fun _ h => h) (fun _ _ _ h => h) (by rfl) (by assumption) ?_
    (try simp only [Act.put, List.setIfInBounds_toArray, List.set_cons_zero, List.set_cons_succ])
    refine ByHand.take_yes (v := ?_) 0 75 rfl rfl (by kernel_rfl) (by kernel_rfl) (by kernel_rfl) (fun _ _ _ h => h) (by rfl) ?_ (by assumption) ?_
    rotate_left
    · intro w' hSw
      (try dsimp only at hSw)
      go_simp
      all_goals with_reducible rfl
    (try simp only [Act.put, List.setIfInBounds_toArray, List.set_cons_zero, List.set_cons_succ])
    refine ByHand.take_yes (v := ?_) 5 80 rfl rfl (by kernel_rfl) (by kernel_rfl) (by kernel_rfl) (fun _ _ _ h => h) (by rfl) ?_ (by assumption) ?_
    rotate_left
    · intro w' hSw
      (try dsimp only at hSw)
      go_simp
      all_goals with_reducible rfl
    (try simp only [Act.put, List.setIfInBounds_toArray, List.set_cons_zero, List.set_cons_succ])
    refine ByHand.take_yes (v := ?_) 6 81 rfl rfl (by kernel_rfl) (by kernel_rfl) (by kernel_rfl) (fun _ _ _ h => h) (by rfl) ?_ (by assumption) ?_
    rotate_left
    · intro w' hSw
      (try dsimp only at hSw)
      go_simp
      all_goals with_reducible rfl
    (try simp only [Act.put, List.setIfInBounds_toArray, List.set_cons_zero, List.set_cons_succ])
    refine ByHand.take_yes (v := ?_) 7 82 rfl rfl (by kernel_rfl) (by kernel_rfl) (by kernel_rfl) (fun _ _ _ h => h) (by rfl) ?_ (by assumption) ?_
    rotate_left
    · intro w' hSw
      (try dsimp only at hSw)
      go_simp
      all_goals with_reducible rfl
    (try simp only [Act.put, List.setIfInBounds_toArray, List.set_cons_zero, List.set_cons_succ])
    refine wpAnyH_ready (rs := [1, 3]) (by kernel_rfl) (by simp) (AllReadyH.cons rfl (fun K hK => ?_) (AllReadyH.cons rfl (fun K hK => ?_) AllReadyH.nil))
    · go_simp
      refine (KC.out _ HY.out).mono ?_
      rintro e y6 ⟨u, M', rfl, hal, hc, hb⟩
      have HA := Lib.hid hal
      have HCP : Hid (Cop w.heap.size y6 u M') := ⟨hc.row.mono HY.out.size, fun b hm => (hc.ids b hm).mono HY.out.size⟩
      have hml : M'.length ≤ 999 := by rw [hal.1]; exact HML.out
      replace HY := Lib.hid (below_to HY.out hb)
      replace HI := Lib.hid (own_below HI.out hb)
      obtain ⟨A7, c7, rfl⟩ := own_slice' hc.row
      have HNB : Hid (¬ some gb = (Value.slice A7 M'.length c7).ownBlock ∧ ¬ some k = (Value.slice A7 M'.length c7).ownBlock) := ⟨fun e => Nat.not_le.2 hS0.lt ((hc.row.lt gb e.symm).1), fun e => Nat.not_le.2 HK.out.lt ((hc.row.lt k e.symm).1)⟩
      replace HK := Lib.hid (HK.out.below hb)
      have hS1 : Boxd y6 gb D 28 := hS0.below hb
      clear hal hc hb
      go_wp2_with fail
      refine hK.out _ _ ?_ (fun hHeld => ?_)
      · exact hS1
      clear hK K
      (try simp only [Act.put, List.setIfInBounds_toArray, List.set_cons_zero, List.set_cons_succ])
      refine wpAnyH_ready (rs := [3]) (by kernel_rfl) (by simp) (AllReadyH.cons rfl (fun K hK => ?_) AllReadyH.nil)
      refine step_slice (by rfl) 22 1 _ rfl _ _ (by simp [Act.eval, Act.put]) (KS1.out _) 78 rfl ?_
      obtain ⟨y8, hy8⟩ : ∃ y, y = World.alloc y6 (.cells D 28) := ⟨_, rfl⟩
      have hb := below_one y6 (.cells D 28)
      have HLT : Hid (Boxd (World.alloc y6 (.cells D 28)) (World.heap y6).size D 28) := heap_alloc_last _ _
      rw [← hy8] at hb HLT
      rw [← hy8]
      replace HY := Lib.hid (below_to HY.out hb)
      replace HI := Lib.hid (own_below HI.out hb)
      replace HK := Lib.hid (HK.out.below hb)
      replace HCP := Lib.hid (HCP.out.below hb)
      have hBX : Boxd y8 gb D 28 := hS1.below hb
      clear hb hy8
      refine hK.out _ _ ?_ (fun hHeld => ?_)
      · exact hBX
      clear hK K
      (try simp only [Act.put, List.setIfInBounds_toArray, List.set_cons_zero, List.set_cons_succ])
      refine wpAnyH_ready (rs := [4]) (by kernel_rfl) (by simp) (AllReadyH.cons rfl (fun K hK => ?_) AllReadyH.nil)
      refine step_box (by rfl) (.tmp 76) (.tmp 78) _ rfl w.heap.size 28 iB _ 6 64 Tryd.underlying22 HIB.out.1 HIB.out.2.1 HIB.out.2.2.1 HIB.out.2.2.2 rfl (by omega) 28 D _ HLT.out HLD.out HOD1.out (.slice A7 M'.length c7) M'.length (flatB M') (by rfl) HCP.out.row (by rfl) (by unfold maxLen; omega) (by omega) HY.out.size 79 rfl ?_
      intro v9 w9 hown hgrow
      rw [← HDD.out] at hown
      have HN : Hid (Cop w.heap.size w9 v9 (M' ++ [{ nb with v := .slice A6 ids.length c6 }])) := HCP.out.more (x := nb) (by rw [HIL.out]; exact HI.out) hown hgrow
      have HYN : Hid (Below w.heap.size w w9) := below_row HY.out (Nat.le_refl _) HCP.out.row hgrow
      have hS9 : Boxd w9 gb D 28 := (hgrow.block gb hBX.lt HNB.out.1).trans hBX
      replace HK : Hid (Boxd w9 k #[.slice none 0 0, .int .i64 0] 45) := (hgrow.block k HK.out.lt HNB.out.2).trans HK.out
      obtain ⟨A9, c9, rfl⟩ := own_slice' hown
      clear hown hgrow
      refine hK.out _ _ ?_ (fun hHeld => ?_)
      · exact hS9
      clear hK K
      (try simp only [Act.put, List.setIfInBounds_toArray, List.set_cons_zero, List.set_cons_succ])
      refine ByHand.take_yes (v := ?_) 8 83 rfl rfl (by kernel_rfl) (by kernel_rfl) (by kernel_rfl) (fun _ _ _ h => h) (by rfl) ?_ (by assumption) ?_
      rotate_left
      · intro w' hSw
        (try dsimp only at hSw)
        go_simp
        all_goals with_reducible rfl
      (try simp only [Act.put, List.setIfInBounds_toArray, List.set_cons_zero, List.set_cons_succ])
      refine wpAnyH_ready (rs := [9]) (by kernel_rfl) (by simp) (AllReadyH.cons rfl (fun K hK => ?_) AllReadyH.nil)
      refine step_store (by rfl) 45 (.tmp 12) (.tmp 83) rfl rfl k #[.slice A9 (M'.length + 1) c9, .int .i64 (IntKind.i64.wrap (ahead - mn))] (by rfl) (by rfl) 45 _ HK.out (ch_info _ _) (by rfl) (ch_one _ _ _ _) ?_
      intro w10 hr ho
      rw [HWL.out] at hr
      have HKB := HK
      replace HK := Lib.hid hr
      replace HN := Lib.hid (cop_far HN.out HKB.out ch_ne.1 ch_ne.2 ho)
      replace HYN := Lib.hid (below_one_of HYN.out ho HGW.out HYN.out.size)
      have hS10 : Boxd w10 gb D 28 := hS9.one ho HNE.out.2
      clear hr ho
      refine hK.out _ _ ?_ (fun hHeld => ?_)
      · exact hS10
      clear hK K
      (try simp only [Act.put, List.setIfInBounds_toArray, List.set_cons_zero, List.set_cons_succ])
      refine ByHand.take_yes (v := ?_) 10 13 rfl rfl (by kernel_rfl) (by kernel_rfl) (by kernel_rfl) (fun _ _ _ h => h) (by rfl) ?_ (by assumption) ?_
      rotate_left
      · intro w' hSw
        (try dsimp only at hSw)
        go_simp
        all_goals with_reducible rfl
      (try simp only [Act.put, List.setIfInBounds_toArray, List.set_cons_zero, List.set_cons_succ])
      refine wpAnyH_done (by kernel_rfl) ?_ _
      go_wp2_with fail
      refine bodyPost_ret (results_two rfl _ _ _ _ _ _ _ rfl HK.out Tryd.underlying45 rfl (ch_info _ _) rfl) rfl ?_
      exact HFT.out _ _ _ _ HA.out HN.out HYN.out
    · refine step_slice (by rfl) 22 1 _ rfl _ _ (by simp [Act.eval, Act.put]) (KS1.out _) 78 rfl ?_
      obtain ⟨y8, hy8⟩ : ∃ y, y = World.alloc z2.drew (.cells D 28) := ⟨_, rfl⟩
      have hb := below_one z2.drew (.cells D 28)
      have HLT : Hid (Boxd (World.alloc z2.drew (.cells D 28)) (World.heap z2.drew).size D 28) := heap_alloc_last _ _
      rw [← hy8] at hb HLT
      rw [← hy8]
      replace HY := Lib.hid (below_to HY.out hb)
      replace HI := Lib.hid (own_below HI.out hb)
      replace HK := Lib.hid (HK.out.below hb)
      have hS1 : Boxd y8 gb D 28 := hS0.below hb
      clear hb hy8
      refine hK.out _ _ ?_ (fun hHeld => ?_)
      · exact hS1
      clear hK K
      (try simp only [Act.put, List.setIfInBounds_toArray, List.set_cons_zero, List.set_cons_succ])
      refine wpAnyH_ready (rs := [1]) (by kernel_rfl) (by simp) (AllReadyH.cons rfl (fun K hK => ?_) AllReadyH.nil)
      go_simp
      refine (KC.out _ HY.out).mono ?_
      rintro e y6 ⟨u, M', rfl, hal, hc, hb⟩
      have HA := Lib.hid hal
      have HCP : Hid (Cop w.heap.size y6 u M') := ⟨hc.row.mono HY.out.size, fun b hm => (hc.ids b hm).mono HY.out.size⟩
      have hml : M'.length ≤ 999 := by rw [hal.1]; exact HML.out
      replace HY := Lib.hid (below_to HY.out hb)
      replace HI := Lib.hid (own_below HI.out hb)
      obtain ⟨A7, c7, rfl⟩ := own_slice' hc.row
      have HNB : Hid (¬ some gb = (Value.slice A7 M'.length c7).ownBlock ∧ ¬ some k = (Value.slice A7 M'.length c7).ownBlock) := ⟨fun e => Nat.not_le.2 hS1.lt ((hc.row.lt gb e.symm).1), fun e => Nat.not_le.2 HK.out.lt ((hc.row.lt k e.symm).1)⟩
      replace HK := Lib.hid (HK.out.below hb)
      replace HLT := Lib.hid (HLT.out.below hb)
      have hBX : Boxd y6 gb D 28 := hS1.below hb
      clear hal hc hb
      go_wp2_with fail
      refine hK.out _ _ ?_ (fun hHeld => ?_)
      · exact hBX
      clear hK K
      (try simp only [Act.put, List.setIfInBounds_toArray, List.set_cons_zero, List.set_cons_succ])
      refine wpAnyH_ready (rs := [4]) (by kernel_rfl) (by simp) (AllReadyH.cons rfl (fun K hK => ?_) AllReadyH.nil)
      refine step_box (by rfl) (.tmp 76) (.tmp 78) _ rfl w.heap.size 28 iB _ 6 64 Tryd.underlying22 HIB.out.1 HIB.out.2.1 HIB.out.2.2.1 HIB.out.2.2.2 rfl (by omega) 28 D _ HLT.out HLD.out HOD1.out (.slice A7 M'.length c7) M'.length (flatB M') (by rfl) HCP.out.row (by rfl) (by unfold maxLen; omega) (by omega) HY.out.size 79 rfl ?_
      intro v9 w9 hown hgrow
      rw [← HDD.out] at hown
      have HN : Hid (Cop w.heap.size w9 v9 (M' ++ [{ nb with v := .slice A6 ids.length c6 }])) := HCP.out.more (x := nb) (by rw [HIL.out]; exact HI.out) hown hgrow
      have HYN : Hid (Below w.heap.size w w9) := below_row HY.out (Nat.le_refl _) HCP.out.row hgrow
      have hS9 : Boxd w9 gb D 28 := (hgrow.block gb hBX.lt HNB.out.1).trans hBX
      replace HK : Hid (Boxd w9 k #[.slice none 0 0, .int .i64 0] 45) := (hgrow.block k HK.out.lt HNB.out.2).trans HK.out
      obtain ⟨A9, c9, rfl⟩ := own_slice' hown
      clear hown hgrow
      refine hK.out _ _ ?_ (fun hHeld => ?_)
      · exact hS9
      clear hK K
      (try simp only [Act.put, List.setIfInBounds_toArray, List.set_cons_zero, List.set_cons_succ])
      refine ByHand.take_yes (v := ?_) 8 83 rfl rfl (by kernel_rfl) (by kernel_rfl) (by kernel_rfl) (fun _ _ _ h => h) (by rfl) ?_ (by assumption) ?_
      rotate_left
      · intro w' hSw
        (try dsimp only at hSw)
        go_simp
        all_goals with_reducible rfl
      (try simp only [Act.put, List.setIfInBounds_toArray, List.set_cons_zero, List.set_cons_succ])
      refine wpAnyH_ready (rs := [9]) (by kernel_rfl) (by simp) (AllReadyH.cons rfl (fun K hK => ?_) AllReadyH.nil)
      refine step_store (by rfl) 45 (.tmp 12) (.tmp 83) rfl rfl k #[.slice A9 (M'.length + 1) c9, .int .i64 (IntKind.i64.wrap (ahead - mn))] (by rfl) (by rfl) 45 _ HK.out (ch_info _ _) (by rfl) (ch_one _ _ _ _) ?_
      intro w10 hr ho
      rw [HWL.out] at hr
      have HKB := HK
      replace HK := Lib.hid hr
      replace HN := Lib.hid (cop_far HN.out HKB.out ch_ne.1 ch_ne.2 ho)
      replace HYN := Lib.hid (below_one_of HYN.out ho HGW.out HYN.out.size)
      have hS10 : Boxd w10 gb D 28 := hS9.one ho HNE.out.2
      clear hr ho
      refine hK.out _ _ ?_ (fun hHeld => ?_)
      · exact hS10
      clear hK K
      (try simp only [Act.put, List.setIfInBounds_toArray, List.set_cons_zero, List.set_cons_succ])
      refine ByHand.take_yes (v := ?_) 10 13 rfl rfl (by kernel_rfl) (by kernel_rfl) (by kernel_rfl) (fun _ _ _ h => h) (by rfl) ?_ (by assumption) ?_
      rotate_left
      · intro w' hSw
        (try dsimp only at hSw)
        go_simp
        all_goals with_reducible rfl
      (try simp only [Act.put, List.setIfInBounds_toArray, List.set_cons_zero, List.set_cons_succ])
      refine wpAnyH_done (by kernel_rfl) ?_ _
      go_wp2_with fail
      refine bodyPost_ret (results_two rfl _ _ _ _ _ _ _ rfl HK.out Tryd.underlying45 rfl (ch_info _ _) rfl) rfl ?_
      exact HFT.out _ _ _ _ HA.out HN.out HYN.out
  · have t6 : (a - mn == 0) = false := by simp; omega
    have HD3 : Hid (∀ v', (⟨m, a, a - mn, -1, how, v', ids⟩ : Bl).cells = ({ nb with v := v' } : Bl).cells) := fun v' => show _ = _ by
      rw [hcl, if_neg hz]
    have X2 : Hid (∀ v', (⟨m, a, a - mn, -1, how, v', ids⟩ : Bl).cells[2]? = some (.int .i64 (a - mn))) := fun _ => rfl
    have X6 : Hid (∀ v', 6 = (⟨m, a, a - mn, -1, how, v', ids⟩ : Bl).cells.size) := fun _ => rfl
    generalize firV m = f at *
    generalize firE m = fe at *
    clear hz
    clear h1 h2 h3 hv hvi hB hBi hI hII hg hm hf ha hh qa qh hnb hmn i1 i2 i3 i4 i5 i6 i7 i8 hK hb hcl
    clear hx hi hbb h0 hq
    generalize x.cells = C9 at *
    generalize x.month = q at *
    go_enter Tryd.func22, Tryd.ntmps22
    go_upto_region 1 with fail
    rw [← f0, ← e0]
    clear e0 f0
    go_upto_region 6 with (first
      | (go_at_call 14; (refine (KG.out _ HW.out).mono ?_); rintro e y ⟨rfl, hb⟩; have HY := Lib.hid (below_to HW.out hb); replace HK := Lib.hid (HK.out.below hb); have cq : y.cell? ⟨b, off + i * 6, none⟩ = some (.int .i64 q) := range_keep HR.out HY.out HBL.out 0 _ X0.out; clear hb)
      | (go_at_call 32; (first | (with_reducible refine (KP.out _).mono ?_) | (with_reducible refine (KQ.out _).mono ?_)); rintro e y4 ⟨rfl, rfl⟩))
    go_upto_region 7 with (first
      | (at_builtin; refine Slice.wpList_append_ints rfl (.tmp 62) (.tmp 63) _ rfl y.heap.size 3 iI (.int .i64 0) 8 Tryd.underlying26 HII.out.1 HII.out.2.1 HII.out.2.2.1 HII.out.2.2.2 rfl (.slice (some ⟨y.heap.size, 0, none⟩) 0 0) 0 [] rfl (World.ownsRow_made y #[] 0 (Nat.le_refl _) (by simp) (by simp)) Bi .i64 (.slice A1 ids.length k1) ids rfl (HVI.out _ (below_to HY.out (below_one _ _))) (by have := HLI.out; unfold maxLen; omega) (by have := HLI.out; omega) (by simp) ?_; intro v3 w3 hown hgrow; rw [Nat.zero_add, List.nil_append] at hown; have HYS := Lib.hid HY.out.size; have HB3 := Lib.hid (show Below y.heap.size y w3 from (below_one _ _).grown hgrow (below_one _ _).size (new_own y)); have HI : Hid (w3.ownsRow w.heap.size 3 1 v3 ids.length (ids.map (Value.int .i64))) := (hown : World.ownsRow _ _ _ _ _ _ _).mono HYS.out; replace HK := Lib.hid (HK.out.below HB3.out); replace HY := Lib.hid (below_to HY.out HB3.out); obtain ⟨A6, c6, rfl⟩ := own_slice' hown; clear hown hgrow)
      | (refine o_store rfl 28 (.tmp 15) (.tmp 65) rfl rfl w3.heap.size #[.int .i64 m, .int .i64 a, .int .i64 (a - mn), .int .i64 (-1), .int .i64 how, .slice A6 ids.length c6] rfl rfl _ _ (heap_alloc_last _ _) (by rw [← HC0.out]; exact HS0.out _) rfl (by rw [← HC0.out]; exact HO0.out _ _ _) ?_; intro z hr ho; rw [← HC0.out] at hr; have HB6 := Lib.hid (below_one_of (below_one w3 _) ho (Nat.le_refl _) (below_one w3 _).size); have HW6 := Lib.hid HY.out.size; have HKL := Lib.hid HK.out.lt; replace HI := Lib.hid (own_below HI.out HB6.out); replace HK := Lib.hid (HK.out.below HB6.out); replace HY := Lib.hid (below_to HY.out HB6.out); have HC := Lib.hid hr; clear hr ho))
    obtain ⟨gb, hgb⟩ : ∃ g, g = w3.heap.size := ⟨_, rfl⟩
    rw [← hgb]
    rw [← hgb] at HC HW6 HKL
    clear hgb
    have HNE : Hid (¬ k = gb ∧ ¬ gb = k) := show _ ∧ _ from ⟨fun e => Nat.lt_irrefl _ (by rw [e] at HKL; exact HKL.out), fun e => Nat.lt_irrefl _ (by rw [e] at HKL; exact HKL.out)⟩
    have c2 := HC.out.cell.trans (X2.out _)
    rw [HD3.out] at HC
    go_upto_region 9 with fail
    have HLD := Lib.hid (HZD.out (.slice A6 ids.length c6))
    have HSD1 := Lib.hid (HSD.out (.slice A6 ids.length c6))
    have HOD1 := Lib.hid (HOD.out A6 ids.length c6)
    have KS1 := Lib.hid (fun W => KS.out (.slice A6 ids.length c6) W)
    generalize hDD : ({ nb with v := .slice A6 ids.length c6 } : Bl).cells = D at *
    have HDD := Lib.hid hDD
    clear hDD KS
    replace HY := Lib.hid (below_drawn HY.out)
    replace HI := Lib.hid (own_below HI.out (w' := z.drew) (below_drawn (Below.refl _ _)))
    replace HK := Lib.hid (HK.out.below (w' := z.drew) (below_drawn (Below.refl _ _)))
    have hS0 : Boxd z.drew gb D 28 := HC.out
    refine wp_region_held_drew (S := (fun W => Boxd W gb D 28)) (by kernel_rfl) hS0 (fun hHeld => ?_)
    refine take_row 2 77 rfl rfl (by kernel_rfl) (by kernel_rfl) (by kernel_rfl) 28 _ rfl gb rfl D _ Tryd.underlying28 rfl HSD1.out (fun _ h => h) (fun _ _ _ h => h) (by rfl) (by assumption) ?_
    (try simp only [Act.put, List.setIfInBounds_toArray, List.set_cons_zero, List.set_cons_succ])
    refine ByHand.take_yes (v := ?_) 0 75 rfl rfl (by kernel_rfl) (by kernel_rfl) (by kernel_rfl) (fun _ _ _ h => h) (by rfl) ?_ (by assumption) ?_
    rotate_left
    · intro w' hSw
      (try dsimp only at hSw)
      go_simp
      all_goals with_reducible rfl
    (try simp only [Act.put, List.setIfInBounds_toArray, List.set_cons_zero, List.set_cons_succ])
    refine ByHand.take_yes (v := ?_) 5 80 rfl rfl (by kernel_rfl) (by kernel_rfl) (by kernel_rfl) (fun _ _ _ h => h) (by rfl) ?_ (by assumption) ?_
    rotate_left
    · intro w' hSw
      (try dsimp only at hSw)
      go_simp
      all_goals with_reducible rfl
    (try simp only [Act.put, List.setIfInBounds_toArray, List.set_cons_zero, List.set_cons_succ])
    refine ByHand.take_yes (v := ?_) 6 81 rfl rfl (by kernel_rfl) (by kernel_rfl) (by kernel_rfl) (fun _ _ _ h => h) (by rfl) ?_ (by assumption) ?_
    rotate_left
    · intro w' hSw
      (try dsimp only at hSw)
      go_simp
      all_goals with_reducible rfl
    (try simp only [Act.put, List.setIfInBounds_toArray, List.set_cons_zero, List.set_cons_succ])
    refine ByHand.take_yes (v := ?_) 7 82 rfl rfl (by kernel_rfl) (by kernel_rfl) (by kernel_rfl) (fun _ _ _ h => h) (by rfl) ?_ (by assumption) ?_
    rotate_left
    · intro w' hSw
      (try dsimp only at hSw)
      go_simp
      all_goals with_reducible rfl
    (try simp only [Act.put, List.setIfInBounds_toArray, List.set_cons_zero, List.set_cons_succ])
    refine wpAnyH_ready (rs := [1, 3]) (by kernel_rfl) (by simp) (AllReadyH.cons rfl (fun K hK => ?_) (AllReadyH.cons rfl (fun K hK => ?_) AllReadyH.nil))
    · go_simp
      refine (KC.out _ HY.out).mono ?_
      rintro e y6 ⟨u, M', rfl, hal, hc, hb⟩
      have HA := Lib.hid hal
      have HCP : Hid (Cop w.heap.size y6 u M') := ⟨hc.row.mono HY.out.size, fun b hm => (hc.ids b hm).mono HY.out.size⟩
      have hml : M'.length ≤ 999 := by rw [hal.1]; exact HML.out
      replace HY := Lib.hid (below_to HY.out hb)
      replace HI := Lib.hid (own_below HI.out hb)
      obtain ⟨A7, c7, rfl⟩ := own_slice' hc.row
      have HNB : Hid (¬ some gb = (Value.slice A7 M'.length c7).ownBlock ∧ ¬ some k = (Value.slice A7 M'.length c7).ownBlock) := ⟨fun e => Nat.not_le.2 hS0.lt ((hc.row.lt gb e.symm).1), fun e => Nat.not_le.2 HK.out.lt ((hc.row.lt k e.symm).1)⟩
      replace HK := Lib.hid (HK.out.below hb)
      have hS1 : Boxd y6 gb D 28 := hS0.below hb
      clear hal hc hb
      go_wp2_with fail
      refine hK.out _ _ ?_ (fun hHeld => ?_)
      · exact hS1
      clear hK K
      (try simp only [Act.put, List.setIfInBounds_toArray, List.set_cons_zero, List.set_cons_succ])
      refine wpAnyH_ready (rs := [3]) (by kernel_rfl) (by simp) (AllReadyH.cons rfl (fun K hK => ?_) AllReadyH.nil)
      refine step_slice (by rfl) 22 1 _ rfl _ _ (by simp [Act.eval, Act.put]) (KS1.out _) 78 rfl ?_
      obtain ⟨y8, hy8⟩ : ∃ y, y = World.alloc y6 (.cells D 28) := ⟨_, rfl⟩
      have hb := below_one y6 (.cells D 28)
      have HLT : Hid (Boxd (World.alloc y6 (.cells D 28)) (World.heap y6).size D 28) := heap_alloc_last _ _
      rw [← hy8] at hb HLT
      rw [← hy8]
      replace HY := Lib.hid (below_to HY.out hb)
      replace HI := Lib.hid (own_below HI.out hb)
      replace HK := Lib.hid (HK.out.below hb)
      replace HCP := Lib.hid (HCP.out.below hb)
      have hBX : Boxd y8 gb D 28 := hS1.below hb
      clear hb hy8
      refine hK.out _ _ ?_ (fun hHeld => ?_)
      · exact hBX
      clear hK K
      (try simp only [Act.put, List.setIfInBounds_toArray, List.set_cons_zero, List.set_cons_succ])
      refine wpAnyH_ready (rs := [4]) (by kernel_rfl) (by simp) (AllReadyH.cons rfl (fun K hK => ?_) AllReadyH.nil)
      refine step_box (by rfl) (.tmp 76) (.tmp 78) _ rfl w.heap.size 28 iB _ 6 64 Tryd.underlying22 HIB.out.1 HIB.out.2.1 HIB.out.2.2.1 HIB.out.2.2.2 rfl (by omega) 28 D _ HLT.out HLD.out HOD1.out (.slice A7 M'.length c7) M'.length (flatB M') (by rfl) HCP.out.row (by rfl) (by unfold maxLen; omega) (by omega) HY.out.size 79 rfl ?_
      intro v9 w9 hown hgrow
      rw [← HDD.out] at hown
      have HN : Hid (Cop w.heap.size w9 v9 (M' ++ [{ nb with v := .slice A6 ids.length c6 }])) := HCP.out.more (x := nb) (by rw [HIL.out]; exact HI.out) hown hgrow
      have HYN : Hid (Below w.heap.size w w9) := below_row HY.out (Nat.le_refl _) HCP.out.row hgrow
      have hS9 : Boxd w9 gb D 28 := (hgrow.block gb hBX.lt HNB.out.1).trans hBX
      replace HK : Hid (Boxd w9 k #[.slice none 0 0, .int .i64 0] 45) := (hgrow.block k HK.out.lt HNB.out.2).trans HK.out
      obtain ⟨A9, c9, rfl⟩ := own_slice' hown
      clear hown hgrow
      refine hK.out _ _ ?_ (fun hHeld => ?_)
      · exact hS9
      clear hK K
      (try simp only [Act.put, List.setIfInBounds_toArray, List.set_cons_zero, List.set_cons_succ])
      refine ByHand.take_yes (v := ?_) 8 83 rfl rfl (by kernel_rfl) (by kernel_rfl) (by kernel_rfl) (fun _ _ _ h => h) (by rfl) ?_ (by assumption) ?_
      rotate_left
      · intro w' hSw
        (try dsimp only at hSw)
        go_simp
        all_goals with_reducible rfl
      (try simp only [Act.put, List.setIfInBounds_toArray, List.set_cons_zero, List.set_cons_succ])
      refine wpAnyH_ready (rs := [9]) (by kernel_rfl) (by simp) (AllReadyH.cons rfl (fun K hK => ?_) AllReadyH.nil)
      refine step_store (by rfl) 45 (.tmp 12) (.tmp 83) rfl rfl k #[.slice A9 (M'.length + 1) c9, .int .i64 (IntKind.i64.wrap (ahead - mn))] (by rfl) (by rfl) 45 _ HK.out (ch_info _ _) (by rfl) (ch_one _ _ _ _) ?_
      intro w10 hr ho
      rw [HWL.out] at hr
      have HKB := HK
      replace HK := Lib.hid hr
      replace HN := Lib.hid (cop_far HN.out HKB.out ch_ne.1 ch_ne.2 ho)
      replace HYN := Lib.hid (below_one_of HYN.out ho HGW.out HYN.out.size)
      have hS10 : Boxd w10 gb D 28 := hS9.one ho HNE.out.2
      clear hr ho
      refine hK.out _ _ ?_ (fun hHeld => ?_)
      · exact hS10
      clear hK K
      (try simp only [Act.put, List.setIfInBounds_toArray, List.set_cons_zero, List.set_cons_succ])
      refine ByHand.take_yes (v := ?_) 10 13 rfl rfl (by kernel_rfl) (by kernel_rfl) (by kernel_rfl) (fun _ _ _ h => h) (by rfl) ?_ (by assumption) ?_
      rotate_left
      · intro w' hSw
        (try dsimp only at hSw)
        go_simp
        all_goals with_reducible rfl
      (try simp only [Act.put, List.setIfInBounds_toArray, List.set_cons_zero, List.set_cons_succ])
      refine wpAnyH_done (by kernel_rfl) ?_ _
      go_wp2_with fail
      refine bodyPost_ret (results_two rfl _ _ _ _ _ _ _ rfl HK.out Tryd.underlying45 rfl (ch_info _ _) rfl) rfl ?_
      exact HFT.out _ _ _ _ HA.out HN.out HYN.out
    · refine step_slice (by rfl) 22 1 _ rfl _ _ (by simp [Act.eval, Act.put]) (KS1.out _) 78 rfl ?_
      obtain ⟨y8, hy8⟩ : ∃ y, y = World.alloc z.drew (.cells D 28) := ⟨_, rfl⟩
      have hb := below_one z.drew (.cells D 28)
      have HLT : Hid (Boxd (World.alloc z.drew (.cells D 28)) (World.heap z.drew).size D 28) := heap_alloc_last _ _
      rw [← hy8] at hb HLT
      rw [← hy8]
      replace HY := Lib.hid (below_to HY.out hb)
      replace HI := Lib.hid (own_below HI.out hb)
      replace HK := Lib.hid (HK.out.below hb)
      have hS1 : Boxd y8 gb D 28 := hS0.below hb
      clear hb hy8
      refine hK.out _ _ ?_ (fun hHeld => ?_)
      · exact hS1
      clear hK K
      (try simp only [Act.put, List.setIfInBounds_toArray, List.set_cons_zero, List.set_cons_succ])
      refine wpAnyH_ready (rs := [1]) (by kernel_rfl) (by simp) (AllReadyH.cons rfl (fun K hK => ?_) AllReadyH.nil)
      go_simp
      refine (KC.out _ HY.out).mono ?_
      rintro e y6 ⟨u, M', rfl, hal, hc, hb⟩
      have HA := Lib.hid hal
      have HCP : Hid (Cop w.heap.size y6 u M') := ⟨hc.row.mono HY.out.size, fun b hm => (hc.ids b hm).mono HY.out.size⟩
      have hml : M'.length ≤ 999 := by rw [hal.1]; exact HML.out
      replace HY := Lib.hid (below_to HY.out hb)
      replace HI := Lib.hid (own_below HI.out hb)
      obtain ⟨A7, c7, rfl⟩ := own_slice' hc.row
      have HNB : Hid (¬ some gb = (Value.slice A7 M'.length c7).ownBlock ∧ ¬ some k = (Value.slice A7 M'.length c7).ownBlock) := ⟨fun e => Nat.not_le.2 hS1.lt ((hc.row.lt gb e.symm).1), fun e => Nat.not_le.2 HK.out.lt ((hc.row.lt k e.symm).1)⟩
      replace HK := Lib.hid (HK.out.below hb)
      replace HLT := Lib.hid (HLT.out.below hb)
      have hBX : Boxd y6 gb D 28 := hS1.below hb
      clear hal hc hb
      go_wp2_with fail
      refine hK.out _ _ ?_ (fun hHeld => ?_)
      · exact hBX
      clear hK K
      (try simp only [Act.put, List.setIfInBounds_toArray, List.set_cons_zero, List.set_cons_succ])
      refine wpAnyH_ready (rs := [4]) (by kernel_rfl) (by simp) (AllReadyH.cons rfl (fun K hK => ?_) AllReadyH.nil)
      refine step_box (by rfl) (.tmp 76) (.tmp 78) _ rfl w.heap.size 28 iB _ 6 64 Tryd.underlying22 HIB.out.1 HIB.out.2.1 HIB.out.2.2.1 HIB.out.2.2.2 rfl (by omega) 28 D _ HLT.out HLD.out HOD1.out (.slice A7 M'.length c7) M'.length (flatB M') (by rfl) HCP.out.row (by rfl) (by unfold maxLen; omega) (by omega) HY.out.size 79 rfl ?_
      intro v9 w9 hown hgrow
      rw [← HDD.out] at hown
      have HN : Hid (Cop w.heap.size w9 v9 (M' ++ [{ nb with v := .slice A6 ids.length c6 }])) := HCP.out.more (x := nb) (by rw [HIL.out]; exact HI.out) hown hgrow
      have HYN : Hid (Below w.heap.size w w9) := below_row HY.out (Nat.le_refl _) HCP.out.row hgrow
      have hS9 : Boxd w9 gb D 28 := (hgrow.block gb hBX.lt HNB.out.1).trans hBX
      replace HK : Hid (Boxd w9 k #[.slice none 0 0, .int .i64 0] 45) := (hgrow.block k HK.out.lt HNB.out.2).trans HK.out
      obtain ⟨A9, c9, rfl⟩ := own_slice' hown
      clear hown hgrow
      refine hK.out _ _ ?_ (fun hHeld => ?_)
      · exact hS9
      clear hK K
      (try simp only [Act.put, List.setIfInBounds_toArray, List.set_cons_zero, List.set_cons_succ])
      refine ByHand.take_yes (v := ?_) 8 83 rfl rfl (by kernel_rfl) (by kernel_rfl) (by kernel_rfl) (fun _ _ _ h => h) (by rfl) ?_ (by assumption) ?_
      rotate_left
      · intro w' hSw
        (try dsimp only at hSw)
        go_simp
        all_goals with_reducible rfl
      (try simp only [Act.put, List.setIfInBounds_toArray, List.set_cons_zero, List.set_cons_succ])
      refine wpAnyH_ready (rs := [9]) (by kernel_rfl) (by simp) (AllReadyH.cons rfl (fun K hK => ?_) AllReadyH.nil)
      refine step_store (by rfl) 45 (.tmp 12) (.tmp 83) rfl rfl k #[.slice A9 (M'.length + 1) c9, .int .i64 (IntKind.i64.wrap (ahead - mn))] (by rfl) (by rfl) 45 _ HK.out (ch_info _ _) (by rfl) (ch_one _ _ _ _) ?_
      intro w10 hr ho
      rw [HWL.out] at hr
      have HKB := HK
      replace HK := Lib.hid hr
      replace HN := Lib.hid (cop_far HN.out HKB.out ch_ne.1 ch_ne.2 ho)
      replace HYN := Lib.hid (below_one_of HYN.out ho HGW.out HYN.out.size)
      have hS10 : Boxd w10 gb D 28 := hS9.one ho HNE.out.2
      clear hr ho
      refine hK.out _ _ ?_ (fun hHeld => ?_)
      · exact hS10
      clear hK K
      (try simp only [Act.put, List.setIfInBounds_toArray, List.set_cons_zero, List.set_cons_succ])
      refine ByHand.take_yes (v := ?_) 10 13 rfl rfl (by kernel_rfl) (by kernel_rfl) (by kernel_rfl) (fun _ _ _ h => h) (by rfl) ?_ (by assumption) ?_
      rotate_left
      · intro w' hSw
        (try dsimp only at hSw)
        go_simp
        all_goals with_reducible rfl
      (try simp only [Act.put, List.setIfInBounds_toArray, List.set_cons_zero, List.set_cons_succ])
      refine wpAnyH_done (by kernel_rfl) ?_ _
      go_wp2_with fail
      refine bodyPost_ret (results_two rfl _ _ _ _ _ _ _ rfl HK.out Tryd.underlying45 rfl (ch_info _ _) rfl) rfl ?_
      exact HFT.out _ _ _ _ HA.out HN.out HYN.out
theorem r_issue (M : List Bl) (m a ahead how : Int) (ids : List Int) (v vi : Value) (B Bi : Nat) (w : World) (hB : B ≤ w.heap.size) (hBi : Bi ≤ w.heap.size) (hv : Bls w B v M) (hvi : Ints w Bi .i64 vi ids) (hN : M.length ≤ 999) (hI : ∀ b ∈ M, b.ids.length ≤ 1000) (hII : ids.length ≤ 1000) : Calls Tryd.prog 22 #[v, .int .i64 m, .int .i64 a, .int .i64 ahead, .int .i64 how, vi] w (ToldR (issL M m a ahead how ids) (issK M m a ahead) (issE M m a ahead) w) := by
  cases hg : goodM M with
  | false => exact r_form M m a ahead how ids v vi B Bi w hB hv hvi hN hg
  | true =>
    by_cases hm : m < 0
    · exact r_low M m a ahead how ids v vi B Bi w hB hv hvi hN hg hm
    · by_cases hm2 : 2879 < m
      · exact r_high M m a ahead how ids v vi B Bi w hB hv hvi hN hg hm hm2
      · have hmm : 0 ≤ m ∧ m ≤ 2879 := ⟨by omega, by omega⟩
        rcases Nat.eq_zero_or_pos M.length with h0 | h0
        · have hf : follB M m = true := by
            obtain rfl : M = [] := List.eq_nil_of_length_eq_zero h0
            rfl
          cases ha : moneyB a with
          | false => exact r_amount0 M m a ahead how ids v vi B Bi w hB hv hvi hg hmm h0 ha
          | true =>
            cases hh : moneyB ahead with
            | false => exact r_ahead0 M m a ahead how ids v vi B Bi w hB hv hvi hg hmm h0 ha hh
            | true => exact r_ok0 M m a ahead how ids v vi B Bi w hB hBi hv hvi hN hI hII hg hmm h0 hf ha hh
        · obtain ⟨i, hi⟩ : ∃ i, M.length = i + 1 := ⟨M.length - 1, by omega⟩
          obtain ⟨x, hx⟩ : ∃ x, M[i]? = some x := ⟨_, List.getElem?_eq_getElem (by omega)⟩
          have hfx : follB M m = decide (x.month < m) := by
            unfold follB
            rw [List.getLast?_eq_getElem?, hi, Nat.add_sub_cancel, hx]
          by_cases hq : x.month < m
          · have hf : follB M m = true := by rw [hfx]; exact decide_eq_true hq
            cases ha : moneyB a with
            | false => exact r_amount1 M m a ahead how ids v vi B Bi w hB hv hvi hN hg hmm h0 i hi x hx hq ha
            | true =>
              cases hh : moneyB ahead with
              | false => exact r_ahead1 M m a ahead how ids v vi B Bi w hB hv hvi hN hg hmm h0 i hi x hx hq ha hh
              | true => exact r_ok1 M m a ahead how ids v vi B Bi w hB hBi hv hvi hN hI hII hg hmm h0 i hi x hx hq hf ha hh
          · exact r_foll M m a ahead how ids v vi B Bi w hB hv hvi hN hg hmm h0 i hi x hx hq (by rw [hfx]; exact decide_eq_false hq)
end Go.Proofs.YtjjbdemhccpllaaDoor.RBill
