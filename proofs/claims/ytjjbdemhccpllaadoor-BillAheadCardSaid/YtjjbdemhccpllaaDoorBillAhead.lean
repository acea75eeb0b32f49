/- What was paid ahead covers a new bill as far as it goes: covered wholly, on its first day; all others stay, at any good bills; no condition. -/
import Derived.Test.YtjjbdemhccpllaaDoorCards
import Derived.Test.YtjjbdemhccpllaaDoorTie
import Derived.Test.YtjjbdemhccpllaaDoorGA
import Derived.Test.YtjjbdemhccpllaaDoorBillWakes
import Derived.Test.YtjjbdemhccpllaaDoorRefBill
import Derived.Test.YtjjbdemhccpllaaDoorBillMath2
namespace Go.Proofs.YtjjbdemhccpllaaDoor.Law
open Go.ChangeShapes Go.WideShapes Go.ChangeAt Go.RowKit Loan Money Box Rws Slice Plan Bill Date Cal RBill

set_option linter.unusedSimpArgs false

/-- What stands while BillAhead goes: the numbers' box beside it. -/
structure Ah (w0 W : World) (M : List Bl) (v : Value) (g4 : Nat) (C4 : Array Value) : Prop where
  bo : Bo w0 W M v
  b4 : Boxd W g4 C4 53
theorem Ah.below {w0 W W' : World} {M : List Bl} {v : Value} {g4 : Nat} {C4 : Array Value} (h : Ah w0 W M v g4 C4) (hb : Below W.heap.size W W') : Ah w0 W' M v g4 C4 := ⟨h.bo.below hb, h.b4.below hb⟩
theorem box_pair {W : World} {g : Nat} {a b : Int} (h : Boxd W g #[.int .i64 a, .int .i64 b] 3) : Ints W W.heap.size .i64 (.slice (some ⟨g, 0, none⟩) 2 2) [a, b] :=
  ⟨some ⟨g, 0, none⟩, 2, rfl, by simp, fun h => (by cases h), fun _ => ⟨g, 0, rfl, h.lt, fun i hi => by
    have hi' : i < 2 := hi
    rw [h.cell]
    match i, hi' with
    | 0, _ => rfl
    | 1, _ => rfl⟩⟩
theorem run_45 (w : World) : (Instr.buildSlice 26 2 #[(0, .int .i64 4), (1, .int .i64 5)]).run Tryd.prog w = .ok (.slice (some ⟨w.heap.size, 0, none⟩) 2 2) (w.alloc (.cells #[.int .i64 4, .int .i64 5] 3)) := by kernel_rfl
theorem bls_take {W : World} {B n k : Nat} {a : Addr} {l : List Bl} (h : Bls W B (.slice (some a) l.length k) l) (hn : n ≤ l.length) : Bls W B (.slice (some a) n k) (l.take n) := by
  have hl : (l.take n).length = n := by rw [List.length_take]; omega
  obtain ⟨⟨A, k', e, h1, h2, h3⟩, hi⟩ := h
  injection e with e1 _ e3
  subst e1 e3
  refine ⟨⟨some a, k, by rw [hl], by rw [hl]; omega, ⟨fun h => (by cases h), by rw [hl]; have := h2.2; omega⟩, fun h0 => ?_⟩, fun b hb => hi b (List.mem_of_mem_take hb)⟩
  rw [hl] at h0
  obtain ⟨b, off, e, hb, hc⟩ := h3 (by omega)
  refine ⟨b, off, e, hb, fun i x hx => hc i x ?_⟩
  have hi2 : i < n := by
    have := (List.getElem?_eq_some_iff.1 hx).1
    rw [hl] at this
    exact this
  rwa [List.getElem?_take_of_lt hi2] at hx
theorem alike_take {L L' : List Bl} (n : Nat) (h : AlikeB L L') : AlikeB (L.take n) (L'.take n) := by
  rw [alike_iff] at *
  rw [List.map_take, List.map_take, h]
theorem ahead_find {M : List Bl} {mo a how ahead : Int} {ids : List Int} (hg : goodM M = true) (hm : 0 ≤ mo ∧ mo ≤ 2879) (hf : follB M mo = true) (ha : moneyB a = true) (hh : 0 ≤ ahead) : findI (M ++ [newB mo a how ids ahead]) mo = (M.length : Nat) ∧ foundB (M ++ [newB mo a how ids ahead]) mo = newB mo a how ids ahead := by
  have hl : ∀ y, M.getLast? = some y → y.month < mo := fun y hy => by
    unfold follB at hf
    rw [hy] at hf
    exact of_decide_eq_true hf
  obtain ⟨h1, h2⟩ := good_next (n := 0) hg (new_ok (how := how) (ids := ids) hm ha hh) hm.1 hl
  have hi : idx (isB mo) (M ++ [newB mo a how ids ahead]) = (M.length : Nat) := by
    refine idx_at (x := newB mo a how ids ahead) (by rw [List.getElem?_append_right (Nat.le_refl _), Nat.sub_self]; rfl) ?_ (fun j hj y hy => ?_)
    · show (mo == mo) = true
      simp
    · rw [List.getElem?_append_left hj] at hy
      have : y.month < mo := h2 (Int.le_refl _) y (List.mem_of_getElem? hy)
      show (y.month == mo) = false
      rw [beq_eq_false_iff_ne]
      omega
  have hfi : findI (M ++ [newB mo a how ids ahead]) mo = (M.length : Nat) := by
    unfold findI
    rw [if_pos (show goodM _ = true from h1), hi]
  refine ⟨hfi, ?_⟩
  unfold foundB
  rw [hfi, if_pos (by omega), List.getD_eq_getElem?_getD, show ((M.length : Nat) : Int).toNat = M.length from rfl, List.getElem?_append_right (Nat.le_refl _), Nat.sub_self]
  rfl
theorem foundA_alike {M M' : List Bl} (m : Int) (h : AlikeB M M') (v : Value) : ({ foundB M' m with v := v } : Bl) = { foundB M m with v := v } := by
  have hb : bare (foundB M' m) = bare (foundB M m) := by
    unfold foundB
    rw [find_alike m h]
    by_cases h0 : 0 ≤ findI M m
    · rw [if_pos h0, if_pos h0, List.getD_eq_getElem?_getD, List.getD_eq_getElem?_getD]
      have e := congrArg (fun l => l[(findI M m).toNat]?) (alike_iff.1 h)
      simp only [List.getElem?_map] at e
      cases h1 : M[(findI M m).toNat]? with
      | none =>
        cases h2 : M'[(findI M m).toNat]? with
        | none => rfl
        | some y => rw [h1, h2] at e; cases e
      | some x =>
        cases h2 : M'[(findI M m).toNat]? with
        | none => rw [h1, h2] at e; cases e
        | some y =>
          rw [h1, h2] at e
          exact Option.some.inj e
    · rw [if_neg h0, if_neg h0]
  have e : ({ bare (foundB M' m) with v := v } : Bl) = { bare (foundB M m) with v := v } := by rw [hb]
  exact e
set_option maxRecDepth 20000 in
set_option maxHeartbeats 8000000 in
theorem ahead_many (M : List Bl) (x y gap : Int) (v : Value) (w : World) (hv : Bls w w.heap.size v M) (LD : Hid (Laid w)) (h1 : manyB M = true) : Calls Tryd.prog 7 #[v, .agg #[.int .u32 x, .int .u32 y], .int .u8 gap] w fun e w' => e = .returned (.bool true) ∧ Below w.heap.size w w' := by
  obtain ⟨g4, wb, e1, e2, h4, hb4⟩ := boxd_new w #[.int .u32 x, .int .u32 y] 53
  have HM : Hid (Ah w wb M v g4 #[.int .u32 x, .int .u32 y]) := ⟨⟨hb4, LD.out.of hb4, hv.below hb4⟩, h4⟩
  obtain ⟨A, k, rfl⟩ := hv.1.shape
  have lM := hv.1.len
  clear hv LD h4 hb4
  go_enter Tryd.func7, Tryd.ntmps7
  go_upto_region 1 with fail
  rw [← e2, ← e1]
  clear e1 e2
  go_wp2_with (first
    | (go_at_call 8; (with_reducible refine (large_any M _ w _ HM.out.bo).mono ?_); rintro e y1 ⟨rfl, hb⟩; rw [h1]; replace HM := Lib.hid (HM.out.below hb); clear hb)
    | (go_at_call 9; (with_reducible refine (wakes_bill _ HM.out.bo.laid).mono ?_); rintro e y9 ⟨rfl, hb⟩; replace HM := Lib.hid (HM.out.below hb); clear hb))
  go_ret
  exact ⟨rfl, HM.out.bo.low⟩
set_option maxRecDepth 20000 in
set_option maxHeartbeats 8000000 in
theorem ahead_bad (M : List Bl) (x y gap : Int) (v : Value) (w : World) (hv : Bls w w.heap.size v M) (LD : Hid (Laid w)) (h1 : manyB M = false) (hg : goodM M = false) : Calls Tryd.prog 7 #[v, .agg #[.int .u32 x, .int .u32 y], .int .u8 gap] w fun e w' => e = .returned (.bool true) ∧ Below w.heap.size w w' := by
  obtain ⟨g4, wb, e1, e2, h4, hb4⟩ := boxd_new w #[.int .u32 x, .int .u32 y] 53
  have HM : Hid (Ah w wb M v g4 #[.int .u32 x, .int .u32 y]) := ⟨⟨hb4, LD.out.of hb4, hv.below hb4⟩, h4⟩
  obtain ⟨A, k, rfl⟩ := hv.1.shape
  have lM := hv.1.len
  clear hv LD h4 hb4
  have KRG := Lib.hid (fun W (h : Bo w W M (.slice A M.length k)) => r_good M (.slice A M.length k) w.heap.size W h.low.size h.bls (Nat.le_trans (many_no h1).1 (by decide)))
  rw [hg] at KRG
  clear hg
  go_enter Tryd.func7, Tryd.ntmps7
  go_upto_region 1 with fail
  rw [← e2, ← e1]
  clear e1 e2
  go_wp2_with (first
    | (go_at_call 8; (with_reducible refine (large_any M _ w _ HM.out.bo).mono ?_); rintro e y1 ⟨rfl, hb⟩; rw [h1]; replace HM := Lib.hid (HM.out.below hb); clear hb)
    | (go_at_call 14; (refine (KRG.out _ HM.out.bo).mono ?_); rintro e y2 ⟨rfl, hb⟩; replace HM := Lib.hid (HM.out.below hb); clear hb)
    | (go_at_call 9; (with_reducible refine (wakes_bill _ HM.out.bo.laid).mono ?_); rintro e y9 ⟨rfl, hb⟩; replace HM := Lib.hid (HM.out.below hb); clear hb))
  go_ret
  exact ⟨rfl, HM.out.bo.low⟩
set_option maxRecDepth 20000 in
set_option maxHeartbeats 8000000 in
theorem ahead_far0 (M : List Bl) (x y gap : Int) (v : Value) (w : World) (hv : Bls w w.heap.size v M) (LD : Hid (Laid w)) (g0 : 0 ≤ gap) (g1 : gap ≤ 255)  (h1 : manyB M = false) (hg : goodM M = true) (mo : Int) (hmo : mo = nextM M + gap) (h0 : M.length = 0) (hf : 2879 < mo) : Calls Tryd.prog 7 #[v, .agg #[.int .u32 x, .int .u32 y], .int .u8 gap] w fun e w' => e = .returned (.bool true) ∧ Below w.heap.size w w' := by
  obtain ⟨g4, wb, e1, e2, h4, hb4⟩ := boxd_new w #[.int .u32 x, .int .u32 y] 53
  have HM : Hid (Ah w wb M v g4 #[.int .u32 x, .int .u32 y]) := ⟨⟨hb4, LD.out.of hb4, hv.below hb4⟩, h4⟩
  have u0 : decide (0 < M.length) = false := decide_eq_false (by omega)
  have hnx : nextM M = 0 := by
    obtain rfl : M = [] := List.eq_nil_of_length_eq_zero h0
    rfl
  have hmg : mo = gap := by omega
  subst hmg
  have s1 : IntKind.i64.wrap mo = mo := IntWalk.i64_in _ (by omega)
  have v1 : wrap64 mo = mo := by unfold wrap64; omega
  obtain ⟨A, k, rfl⟩ := hv.1.shape
  have lM := hv.1.len
  clear hv LD h4 hb4
  have KRG := Lib.hid (fun W (h : Bo w W M (.slice A M.length k)) => r_good M (.slice A M.length k) w.heap.size W h.low.size h.bls (Nat.le_trans (many_no h1).1 (by decide)))
  rw [hg] at KRG
  have t1 : decide (2879 < mo) = true := decide_eq_true hf
  clear hf
  clear hnx h0
  clear hg hmo g0 g1
  go_enter Tryd.func7, Tryd.ntmps7
  go_upto_region 1 with fail
  rw [← e2, ← e1]
  clear e1 e2
  go_wp2_with (first
    | (go_at_call 8; (with_reducible refine (large_any M _ w _ HM.out.bo).mono ?_); rintro e y1 ⟨rfl, hb⟩; rw [h1]; replace HM := Lib.hid (HM.out.below hb); clear hb)
    | (go_at_call 14; (refine (KRG.out _ HM.out.bo).mono ?_); rintro e y2 ⟨rfl, hb⟩; replace HM := Lib.hid (HM.out.below hb); clear hb)
    | (go_at_call 9; (with_reducible refine (wakes_bill _ HM.out.bo.laid).mono ?_); rintro e y9 ⟨rfl, hb⟩; replace HM := Lib.hid (HM.out.below hb); clear hb))
  go_ret
  exact ⟨rfl, HM.out.bo.low⟩
set_option maxRecDepth 20000 in
set_option maxHeartbeats 8000000 in
theorem ahead_far1 (M : List Bl) (x y gap : Int) (v : Value) (w : World) (hv : Bls w w.heap.size v M) (LD : Hid (Laid w)) (g0 : 0 ≤ gap) (g1 : gap ≤ 255)  (h1 : manyB M = false) (hg : goodM M = true) (mo : Int) (hmo : mo = nextM M + gap) (i : Nat) (hi : M.length = i + 1) (z : Bl) (hz : M[i]? = some z) (hf : 2879 < mo) : Calls Tryd.prog 7 #[v, .agg #[.int .u32 x, .int .u32 y], .int .u8 gap] w fun e w' => e = .returned (.bool true) ∧ Below w.heap.size w w' := by
  obtain ⟨g4, wb, e1, e2, h4, hb4⟩ := boxd_new w #[.int .u32 x, .int .u32 y] 53
  have HM : Hid (Ah w wb M v g4 #[.int .u32 x, .int .u32 y]) := ⟨⟨hb4, LD.out.of hb4, hv.below hb4⟩, h4⟩
  obtain ⟨b, off, k', e9, -, -⟩ := hv.1.open (by omega)
  subst e9
  have cz0 : Hid (∀ W, Bo w W M (.slice (some ⟨b, off, none⟩) M.length k') → W.cell? ⟨b, off + i * 6, none⟩ = some (.int .i64 z.month)) := fun W h => h.bls.1.at_ hz 0 _ rfl
  have u0 : decide (0 < M.length) = true := decide_eq_true (by omega)
  have u4 : ((M.length : Int) - 1) = (i : Int) := by omega
  have hN9 := (many_no h1).1
  have u5 : wrap64 ((M.length : Int) - 1) = (i : Int) := by unfold wrap64; omega
  clear hN9
  have u2 : (i : Int) < M.length := by omega
  have hnx : nextM M = z.month + 1 := by
    unfold nextM
    rw [List.getLast?_eq_getElem?, hi, Nat.add_sub_cancel, hz]
  have hzok := ok_iff.1 (good_all hg z (List.mem_of_getElem? hz))
  have hz0 := hzok.m0
  have hz1 := hzok.m1
  have s1 : IntKind.i64.wrap gap = gap := IntWalk.i64_in _ (by omega)
  have v0 : wrap64 (z.month + 1) = z.month + 1 := by unfold wrap64; omega
  have v1 : wrap64 (z.month + 1 + gap) = mo := by rw [hmo, hnx]; unfold wrap64; omega
  have lM := hv.1.len
  clear hv LD h4 hb4
  have KRG := Lib.hid (fun W (h : Bo w W M (.slice (some ⟨b, off, none⟩) M.length k')) => r_good M (.slice (some ⟨b, off, none⟩) M.length k') w.heap.size W h.low.size h.bls (Nat.le_trans (many_no h1).1 (by decide)))
  rw [hg] at KRG
  have t1 : decide (2879 < mo) = true := decide_eq_true hf
  clear hf
  clear hnx hzok hz0 hz1 hz hi
  generalize z.month = zm at *
  clear hg hmo g0 g1
  go_enter Tryd.func7, Tryd.ntmps7
  go_upto_region 1 with fail
  rw [← e2, ← e1]
  clear e1 e2
  go_wp2_with (first
    | (go_at_call 8; (with_reducible refine (large_any M _ w _ HM.out.bo).mono ?_); rintro e y1 ⟨rfl, hb⟩; rw [h1]; replace HM := Lib.hid (HM.out.below hb); clear hb)
    | (go_at_call 14; (refine (KRG.out _ HM.out.bo).mono ?_); rintro e y2 ⟨rfl, hb⟩; replace HM := Lib.hid (HM.out.below hb); have cz := cz0.out _ HM.out.bo; clear hb)
    | (go_at_call 9; (with_reducible refine (wakes_bill _ HM.out.bo.laid).mono ?_); rintro e y9 ⟨rfl, hb⟩; replace HM := Lib.hid (HM.out.below hb); clear hb))
  go_ret
  exact ⟨rfl, HM.out.bo.low⟩
set_option maxRecDepth 20000 in
set_option maxHeartbeats 8000000 in
theorem ahead_long (M : List Bl) (x y gap : Int) (v : Value) (w : World) (hv : Bls w w.heap.size v M) (LD : Hid (Laid w)) (g0 : 0 ≤ gap) (g1 : gap ≤ 255)  (h1 : manyB M = false) (hg : goodM M = true) (mo : Int) (hmo : mo = nextM M + gap) (i : Nat) (hi : M.length = i + 1) (z : Bl) (hz : M[i]? = some z) (hf : ¬ 2879 < mo) (hn : 390 < M.length) : Calls Tryd.prog 7 #[v, .agg #[.int .u32 x, .int .u32 y], .int .u8 gap] w fun e w' => e = .returned (.bool true) ∧ Below w.heap.size w w' := by
  obtain ⟨g4, wb, e1, e2, h4, hb4⟩ := boxd_new w #[.int .u32 x, .int .u32 y] 53
  have HM : Hid (Ah w wb M v g4 #[.int .u32 x, .int .u32 y]) := ⟨⟨hb4, LD.out.of hb4, hv.below hb4⟩, h4⟩
  obtain ⟨b, off, k', e9, -, -⟩ := hv.1.open (by omega)
  subst e9
  have cz0 : Hid (∀ W, Bo w W M (.slice (some ⟨b, off, none⟩) M.length k') → W.cell? ⟨b, off + i * 6, none⟩ = some (.int .i64 z.month)) := fun W h => h.bls.1.at_ hz 0 _ rfl
  have u0 : decide (0 < M.length) = true := decide_eq_true (by omega)
  have u4 : ((M.length : Int) - 1) = (i : Int) := by omega
  have hN9 := (many_no h1).1
  have u5 : wrap64 ((M.length : Int) - 1) = (i : Int) := by unfold wrap64; omega
  clear hN9
  have u2 : (i : Int) < M.length := by omega
  have hnx : nextM M = z.month + 1 := by
    unfold nextM
    rw [List.getLast?_eq_getElem?, hi, Nat.add_sub_cancel, hz]
  have hzok := ok_iff.1 (good_all hg z (List.mem_of_getElem? hz))
  have hz0 := hzok.m0
  have hz1 := hzok.m1
  have s1 : IntKind.i64.wrap gap = gap := IntWalk.i64_in _ (by omega)
  have v0 : wrap64 (z.month + 1) = z.month + 1 := by unfold wrap64; omega
  have v1 : wrap64 (z.month + 1 + gap) = mo := by rw [hmo, hnx]; unfold wrap64; omega
  have lM := hv.1.len
  clear hv LD h4 hb4
  have KRG := Lib.hid (fun W (h : Bo w W M (.slice (some ⟨b, off, none⟩) M.length k')) => r_good M (.slice (some ⟨b, off, none⟩) M.length k') w.heap.size W h.low.size h.bls (Nat.le_trans (many_no h1).1 (by decide)))
  rw [hg] at KRG
  have t1 : decide (2879 < mo) = false := decide_eq_false hf
  have t2 : decide (390 < M.length) = true := decide_eq_true hn
  have t2' : decide ((390 : Int) < (M.length : Int)) = true := decide_eq_true (by omega)
  clear hf hn
  clear hnx hzok hz0 hz1 hz hi
  generalize z.month = zm at *
  clear hg hmo g0 g1
  go_enter Tryd.func7, Tryd.ntmps7
  go_upto_region 1 with fail
  rw [← e2, ← e1]
  clear e1 e2
  go_wp2_with (first
    | (go_at_call 8; (with_reducible refine (large_any M _ w _ HM.out.bo).mono ?_); rintro e y1 ⟨rfl, hb⟩; rw [h1]; replace HM := Lib.hid (HM.out.below hb); clear hb)
    | (go_at_call 14; (refine (KRG.out _ HM.out.bo).mono ?_); rintro e y2 ⟨rfl, hb⟩; replace HM := Lib.hid (HM.out.below hb); have cz := cz0.out _ HM.out.bo; clear hb)
    | (go_at_call 9; (with_reducible refine (wakes_bill _ HM.out.bo.laid).mono ?_); rintro e y9 ⟨rfl, hb⟩; replace HM := Lib.hid (HM.out.below hb); clear hb))
  go_ret
  exact ⟨rfl, HM.out.bo.low⟩
set_option maxRecDepth 20000 in
set_option maxHeartbeats 8000000 in
theorem ahead_main0 (M : List Bl) (x y gap : Int) (v : Value) (w : World) (hv : Bls w w.heap.size v M) (LD : Hid (Laid w)) (x0 : 0 ≤ x) (x1 : x ≤ 4294967295) (y0 : 0 ≤ y) (y1 : y ≤ 4294967295) (g0 : 0 ≤ gap) (g1 : gap ≤ 255)  (h1 : manyB M = false) (hg : goodM M = true) (mo : Int) (hmo : mo = nextM M + gap) (h0 : M.length = 0) (hf : ¬ 2879 < mo) (hn : ¬ 390 < M.length) : Calls Tryd.prog 7 #[v, .agg #[.int .u32 x, .int .u32 y], .int .u8 gap] w fun e w' => e = .returned (.bool true) ∧ Below w.heap.size w w' := by
  obtain ⟨g4, wb, e1, e2, h4, hb4⟩ := boxd_new w #[.int .u32 x, .int .u32 y] 53
  have HM : Hid (Ah w wb M v g4 #[.int .u32 x, .int .u32 y]) := ⟨⟨hb4, LD.out.of hb4, hv.below hb4⟩, h4⟩
  have u0 : decide (0 < M.length) = false := decide_eq_false (by omega)
  have hnx : nextM M = 0 := by
    obtain rfl : M = [] := List.eq_nil_of_length_eq_zero h0
    rfl
  have hmg : mo = gap := by omega
  subst hmg
  have s1 : IntKind.i64.wrap mo = mo := IntWalk.i64_in _ (by omega)
  have v1 : wrap64 mo = mo := by unfold wrap64; omega
  obtain ⟨A, k, rfl⟩ := hv.1.shape
  have lM := hv.1.len
  clear hv LD h4 hb4
  have KRG := Lib.hid (fun W (h : Bo w W M (.slice A M.length k)) => r_good M (.slice A M.length k) w.heap.size W h.low.size h.bls (Nat.le_trans (many_no h1).1 (by decide)))
  rw [hg] at KRG
  have t1 : decide (2879 < mo) = false := decide_eq_false hf
  have t2 : decide (390 < M.length) = false := decide_eq_false (by omega)
  have t2' : decide ((390 : Int) < (M.length : Int)) = false := decide_eq_false (by omega)
  have hI : ∀ b ∈ M, b.ids.length ≤ 1000 := fun b hb => Nat.le_trans ((many_no h1).2 b hb) (by decide)
  have KCP := Lib.hid (fun W (h : Bo w W M (.slice A M.length k)) => c_cbills M (.slice A M.length k) w.heap.size W h.low.size h.bls (by omega) hI)
  have hm0 : 0 ≤ mo ∧ mo ≤ 2879 := ⟨by omega, by omega⟩
  have hfo : follB M mo = true := by
    unfold follB
    obtain rfl : M = [] := List.eq_nil_of_length_eq_zero h0
    rfl
  have hax := money_iff.2 (⟨x0, by omega⟩ : 0 ≤ x ∧ x ≤ 10000000000000)
  have hay := money_iff.2 (⟨y0, by omega⟩ : 0 ≤ y ∧ y ≤ 10000000000000)
  obtain ⟨mn, hmn⟩ : ∃ mn, mn = min x y := ⟨_, rfl⟩
  obtain ⟨lf, hlf⟩ : ∃ lf, lf = y - mn := ⟨_, rfl⟩
  have hie : issE M mo x y = 0 := by unfold issE; rw [if_pos hg, if_pos ⟨decide_eq_true hm0, hfo, hax, hay⟩]
  have hik : issK M mo x y = lf := by unfold issK; rw [if_pos hie, hlf, hmn]
  have hil : issL M mo x y 2 [4, 5] = M ++ [newB mo x 2 [4, 5] y] := by unfold issL; rw [if_pos hie]
  obtain ⟨hfi, hfb⟩ := ahead_find (how := 2) (ids := [4, 5]) hg hm0 hfo hax y0
  have hcl : ∀ v', { newB mo x 2 [4, 5] y with v := v' } = (⟨mo, x, x - mn, if x - mn = 0 then firV mo else -1, 2, v', [4, 5]⟩ : Bl) := fun _ => by rw [hmn]; rfl
  have hids9 : ∀ b ∈ M ++ [newB mo x 2 [4, 5] y], b.ids.length ≤ 1000 := fun b hb => by
    rcases List.mem_append.1 hb with hb | hb
    · exact hI b hb
    · obtain rfl := List.mem_singleton.1 hb
      show [(4 : Int), 5].length ≤ 1000
      decide
  obtain ⟨cv, hcv⟩ : ∃ cv, cv = (if x - mn = 0 then firV mo else -1) := ⟨_, rfl⟩
  obtain ⟨bz, hbz⟩ : ∃ bz : Bool, bz = (x - mn == 0) := ⟨_, rfl⟩
  have t6 : decide (0 ≤ cv) = bz := by
    rw [hbz, hcv]
    by_cases h : x - mn = 0
    · rw [if_pos h]
      have := (firV_small mo).1
      rw [decide_eq_true this, h]
      rfl
    · rw [if_neg h]
      have e : (x - mn == 0) = false := by rw [beq_eq_false_iff_ne]; exact h
      rw [e]
      decide
  rw [← hcv] at hcl
  generalize newB mo x 2 [4, 5] y = nb at *
  have K1 : Hid (∀ W u M' vi, Laid W → AlikeB M M' → Bls W W.heap.size u M' → Ints W W.heap.size .i64 vi [4, 5] → Calls Tryd.prog 21 #[u, .int .i64 mo, .int .i64 x, .int .i64 y, .int .i64 2, vi] W fun e w' => ∃ ga R c2, e = .returned (.tuple #[.slice (some ⟨ga, 0, none⟩) (M.length + 1) c2, .int .i64 lf, .int .i64 0]) ∧ AlikeB (M ++ [nb]) R ∧ Bls w' w'.heap.size (.slice (some ⟨ga, 0, none⟩) R.length c2) R ∧ R.length = M.length + 1 ∧ M.length + 1 ≤ c2 ∧ c2 ≤ 9223372036854775807 ∧ Below W.heap.size W w') := fun W u M' vi hl ha hu hi => by
    have h := b_issue M' mo x y 2 [4, 5] u vi W.heap.size W.heap.size W (Nat.le_refl _) (Nat.le_refl _) hu hi (by rw [ha.1]; omega) (alike_ids ha hI) (by decide) hl
    obtain ⟨q1, q2⟩ := issL_alike mo x y 2 [4, 5] ha
    rw [issE_alike mo x y ha, q2, hie, hik] at h
    rw [hil] at q1
    exact h.mono fun e w' ⟨u, R, h1, h2, h3, h4⟩ => by
      have hh := alike_trans q1 h2
      have hln : R.length = M.length + 1 := by rw [hh.1, List.length_append]; rfl
      obtain ⟨ga, c2, rfl, -⟩ := own_form h3.row (by omega)
      have hcap : R.length ≤ c2 ∧ c2 ≤ 9223372036854775807 := by
        rcases h3.row.2 with ⟨e, -⟩ | ⟨g', cap, cur, e, -, -, hn, hm, -⟩
        · cases e
        · injection e with _ _ e
          subst e
          unfold maxLen at hm
          exact ⟨hn, by omega⟩
      refine ⟨ga, R, c2, ?_, hh, h3.bls, hln, by omega, hcap.2, h4⟩
      rw [h1, hln]
  have K2 : Hid (∀ W u R, Laid W → AlikeB (M ++ [nb]) R → Bls W W.heap.size u R → Calls Tryd.prog 11 #[u, .int .i64 mo] W fun e w' => ∃ A7 c7, e = .returned (.tuple #[.agg (⟨mo, x, x - mn, cv, 2, .slice A7 2 c7, [4, 5]⟩ : Bl).cells, .bool true]) ∧ Ints w' w'.heap.size .i64 (.slice A7 2 c7) [4, 5] ∧ Below W.heap.size W w') := fun W u R hl ha hu => by
    have h := b_find R mo u W.heap.size W (Nat.le_refl _) hu (alike_ids ha hids9) hl
    rw [find_alike mo ha, hfi, decide_eq_true (by omega)] at h
    have hids : (foundB R mo).ids = [4, 5] := by
      have e : ({ foundB R mo with v := .slice none 0 0 } : Bl).ids = ({ foundB (M ++ [nb]) mo with v := .slice none 0 0 } : Bl).ids := by rw [foundA_alike mo ha]
      rw [hfb, hcl] at e
      exact e
    exact h.mono fun e w' ⟨v', h1, h2, h3⟩ => by
      rw [foundA_alike mo ha, hfb, hcl] at h1
      rw [hids] at h2
      obtain ⟨A7, c7, rfl⟩ := own_slice' h2
      exact ⟨A7, c7, h1, Ints.of_own (n := 2) rfl h2, h3⟩
  have KNB : Hid (∀ W u R ga c2, AlikeB (M ++ [nb]) R → R.length = M.length + 1 → Bls W W.heap.size u R → u = .slice (some ⟨ga, 0, none⟩) R.length c2 → ∃ A6 c6, W.rangeAt ga (M.length * 6) (⟨mo, x, x - mn, cv, 2, .slice A6 2 c6, [4, 5]⟩ : Bl).cells.toList ∧ Ints W W.heap.size .i64 (.slice A6 2 c6) [4, 5]) := fun W u R ga c2 ha hl hu he => by
    obtain ⟨v', hv'⟩ := ha.2 M.length nb (by rw [List.getElem?_append_right (Nat.le_refl _), Nat.sub_self]; rfl)
    rw [hcl] at hv'
    have hi2 := hu.2 _ (List.mem_of_getElem? hv')
    obtain ⟨A6, c6, rfl, -⟩ := id (show Ints W W.heap.size .i64 v' [4, 5] from hi2)
    subst he
    have hr := hu.1.at_ hv'
    rw [Nat.zero_add] at hr
    exact ⟨A6, c6, hr, hi2⟩
  have KTK : Hid (∀ W R ga c2, AlikeB (M ++ [nb]) R → R.length = M.length + 1 → Bls W W.heap.size (.slice (some ⟨ga, 0, none⟩) R.length c2) R → Bls W W.heap.size (.slice (some ⟨ga, 0, none⟩) M.length c2) (R.take M.length) ∧ AlikeB (R.take M.length) M) := fun W R ga c2 ha hl hu => by
    refine ⟨bls_take hu (by omega), ?_⟩
    have h := alike_take M.length ha
    rw [List.take_left] at h
    exact alike_symm h
  have KSB := Lib.hid (fun R1 R2 u1 u2 W (ha : AlikeB R1 R2) h1 h2 => same_bills R1 R2 ha u1 u2 (World.heap W).size W (Nat.le_refl _) h1 h2)
  have KIN := Lib.hid (fun v1 v2 W h1 h2 => Due.ints_same [4, 5] v1 v2 (World.heap W).size W h1 h2)
  have KSI : Hid (∀ A6 c6 A7 c7 W, Ints W W.heap.size .i64 (.slice A6 2 c6) [4, 5] → Ints W W.heap.size .i64 (.slice A7 2 c7) [4, 5] → Calls Tryd.prog 19 #[.agg (⟨mo, x, x - mn, cv, 2, .slice A6 2 c6, [4, 5]⟩ : Bl).cells, .agg (⟨mo, x, x - mn, cv, 2, .slice A7 2 c7, [4, 5]⟩ : Bl).cells] W fun e w' => e = .returned (.bool true) ∧ Below W.heap.size W w') := fun A6 c6 A7 c7 W h1 h2 => same_bill mo x (x - mn) cv 2 [4, 5] (.slice A6 2 c6) (.slice A7 2 c7) W.heap.size W (Nat.le_refl _) h1 h2
  have HSD : Hid (∀ A6 c6, (Tryd.prog.info? 28).map (·.size) = some (⟨mo, x, x - mn, cv, 2, .slice A6 2 c6, [4, 5]⟩ : Bl).cells.size) := fun A6 c6 => bl_info ⟨mo, x, x - mn, cv, 2, .slice A6 2 c6, [4, 5]⟩
  have HSD' : Hid (∀ A6 c6, (Tryd.prog.info? 28).map (·.size) = some (⟨mo, x, x - mn, cv, 2, .slice A6 2 c6, [4, 5]⟩ : Bl).cells.toList.length) := fun A6 c6 => bl_info' ⟨mo, x, x - mn, cv, 2, .slice A6 2 c6, [4, 5]⟩
  have HOD : Hid (∀ A6 c6, (⟨mo, x, x - mn, cv, 2, .slice A6 2 c6, [4, 5]⟩ : Bl).cells.all (·.oneCell') = true) := fun A6 c6 => bl_one ⟨mo, x, x - mn, cv, 2, .slice A6 2 c6, [4, 5]⟩ rfl
  have HZD : Hid (∀ A6 c6, 6 = (⟨mo, x, x - mn, cv, 2, .slice A6 2 c6, [4, 5]⟩ : Bl).cells.size) := fun _ _ => rfl
  have HDC : Hid (∀ A6 c6, (⟨mo, x, x - mn, cv, 2, .slice A6 2 c6, [4, 5]⟩ : Bl).cells = #[.int .i64 mo, .int .i64 x, .int .i64 (x - mn), .int .i64 cv, .int .i64 2, .slice A6 2 c6]) := fun _ _ => rfl
  have r1 : IntKind.i64.wrap x = x := IntWalk.i64_in _ (by omega)
  have r2 : IntKind.i64.wrap y = y := IntWalk.i64_in _ (by omega)
  have r3 : wrap64 x = x := by rw [← IntWalk.i64_left]; exact r1
  have r4 : wrap64 y = y := by rw [← IntWalk.i64_left]; exact r2
  have r5 : wrap64 ((M.length : Int) + 1) = (M.length : Int) + 1 := by unfold wrap64; omega
  have r6 : wrap64 (y - lf) = mn := by unfold wrap64; omega
  have r7 : wrap64 (x - mn) = x - mn := by unfold wrap64; omega
  have r8 : (if y < x then y else x) = mn := by
    rw [hmn]
    by_cases h : y < x
    · rw [if_pos h]; omega
    · rw [if_neg h]; omega
  have HRR := Lib.hid (And.intro r1 (And.intro r2 (And.intro r3 (And.intro r4 (And.intro r5 (And.intro r6 (And.intro r7 r8)))))))
  clear r5 r6 r7 r8
  have t7 : (x - mn == 0) = bz := hbz.symm
  have t8 : (bz == bz) = true := by simp
  have t9 : (mn != mn) = false := by simp
  have t10 : (x - mn != x - mn) = false := by simp
  have t11 : (mo != mo) = false := by simp
  have t12 : (((M.length : Int) + 1) != ((M.length : Int) + 1)) = false := by simp
  clear hie hik hil hfi hfb hcl hids9 hcv hbz hmn hlf hax hay hfo hm0 hI hf hn x0 x1 y0 y1
  clear hnx h0
  clear hg hmo g0 g1
  go_enter Tryd.func7, Tryd.ntmps7
  go_upto_region 1 with fail
  rw [← e2, ← e1]
  clear e1 e2
  go_upto_region 9 with (first
    | (go_at_call 8; (with_reducible refine (large_any M _ w _ HM.out.bo).mono ?_); rintro e y1 ⟨rfl, hb⟩; rw [h1]; replace HM := Lib.hid (HM.out.below hb); clear hb)
    | (go_at_call 14; (refine (KRG.out _ HM.out.bo).mono ?_); rintro e y2 ⟨rfl, hb⟩; replace HM := Lib.hid (HM.out.below hb); clear hb))
  replace HM := Lib.hid (HM.out.below (W' := y2.drew) (below_drawn (Below.refl _ _)))
  have hS0 : y2.drew.cell? ⟨g4, 0, none⟩ = some (.int .u32 x) ∧ y2.drew.cell? ⟨g4, 1, none⟩ = some (.int .u32 y) := ⟨HM.out.b4.cell, HM.out.b4.cell⟩
  refine wp_region_held_drew (S := (fun W => W.cell? ⟨g4, 0, none⟩ = some (.int .u32 x) ∧ W.cell? ⟨g4, 1, none⟩ = some (.int .u32 y))) (by kernel_rfl) hS0 (fun hHeld => ?_)
  refine ByHand.take_yes (v := ?_) 0 47 rfl rfl (by kernel_rfl) (by kernel_rfl) (by kernel_rfl) (fun _ _ _ h => h) (by rfl) ?_ (by assumption) ?_
  rotate_left
  · intro w' hSw
    (try dsimp only at hSw)
    go_simp
    all_goals with_reducible rfl
  (try simp only [Act.put, List.setIfInBounds_toArray, List.set_cons_zero, List.set_cons_succ])
  refine ByHand.take_yes (v := ?_) 2 49 rfl rfl (by kernel_rfl) (by kernel_rfl) (by kernel_rfl) (fun _ _ _ h => h) (by rfl) ?_ (by assumption) ?_
  rotate_left
  · intro w' hSw
    (try dsimp only at hSw)
    go_simp
    all_goals with_reducible rfl
  (try simp only [Act.put, List.setIfInBounds_toArray, List.set_cons_zero, List.set_cons_succ])
  refine ByHand.take_yes (v := ?_) 3 50 rfl rfl (by kernel_rfl) (by kernel_rfl) (by kernel_rfl) (fun _ _ _ h => h) (by rfl) ?_ (by assumption) ?_
  rotate_left
  · intro w' hSw
    (try dsimp only at hSw)
    go_simp
    all_goals with_reducible rfl
  (try simp only [Act.put, List.setIfInBounds_toArray, List.set_cons_zero, List.set_cons_succ])
  refine ByHand.take_yes (v := ?_) 4 51 rfl rfl (by kernel_rfl) (by kernel_rfl) (by kernel_rfl) (fun _ _ _ h => h) (by rfl) ?_ (by assumption) ?_
  rotate_left
  · intro w' hSw
    (try dsimp only at hSw)
    go_simp
    all_goals with_reducible rfl
  (try simp only [Act.put, List.setIfInBounds_toArray, List.set_cons_zero, List.set_cons_succ])
  refine ByHand.take_yes (v := ?_) 5 52 rfl rfl (by kernel_rfl) (by kernel_rfl) (by kernel_rfl) (fun _ _ _ h => h) (by rfl) ?_ (by assumption) ?_
  rotate_left
  · intro w' hSw
    (try dsimp only at hSw)
    go_simp
    all_goals with_reducible rfl
  (try simp only [Act.put, List.setIfInBounds_toArray, List.set_cons_zero, List.set_cons_succ])
  refine ByHand.take_yes (v := ?_) 6 53 rfl rfl (by kernel_rfl) (by kernel_rfl) (by kernel_rfl) (fun _ _ _ h => h) (by rfl) ?_ (by assumption) ?_
  rotate_left
  · intro w' hSw
    (try dsimp only at hSw)
    go_simp
    all_goals with_reducible rfl
  (try simp only [Act.put, List.setIfInBounds_toArray, List.set_cons_zero, List.set_cons_succ])
  refine ByHand.take_yes (v := ?_) 7 54 rfl rfl (by kernel_rfl) (by kernel_rfl) (by kernel_rfl) (fun _ _ _ h => h) (by rfl) ?_ (by assumption) ?_
  rotate_left
  · intro w' hSw
    (try dsimp only at hSw)
    go_simp
    all_goals with_reducible rfl
  (try simp only [Act.put, List.setIfInBounds_toArray, List.set_cons_zero, List.set_cons_succ])
  refine ByHand.take_yes (v := ?_) 8 55 rfl rfl (by kernel_rfl) (by kernel_rfl) (by kernel_rfl) (fun _ _ _ h => h) (by rfl) ?_ (by assumption) ?_
  rotate_left
  · intro w' hSw
    (try dsimp only at hSw)
    go_simp
    all_goals with_reducible rfl
  (try simp only [Act.put, List.setIfInBounds_toArray, List.set_cons_zero, List.set_cons_succ])
  refine wpAnyH_ready (rs := [1, 9]) (by kernel_rfl) (by simp) (AllReadyH.cons rfl (fun K hK => ?_) (AllReadyH.cons rfl (fun K hK => ?_) AllReadyH.nil))
  · go_simp
    refine (KCP.out _ HM.out.bo).mono ?_
    rintro e q1 ⟨u, M', rfl, ha, hc, hb⟩
    have HA := Lib.hid ha
    have HI := Lib.hid hc.bls
    replace HM := Lib.hid (HM.out.below hb)
    have hS1 := (show q1.cell? ⟨g4, 0, none⟩ = some (.int .u32 x) ∧ q1.cell? ⟨g4, 1, none⟩ = some (.int .u32 y) from ⟨HM.out.b4.cell, HM.out.b4.cell⟩)
    obtain ⟨A1, c1, rfl⟩ := own_slice' hc.row
    clear ha hc hb
    go_wp2_with fail
    refine hK.out _ _ ?_ (fun hHeld => ?_)
    · exact hS1
    clear hK K
    (try simp only [Act.put, List.setIfInBounds_toArray, List.set_cons_zero, List.set_cons_succ])
    refine wpAnyH_ready (rs := [9]) (by kernel_rfl) (by simp) (AllReadyH.cons rfl (fun K hK => ?_) AllReadyH.nil)
    refine step_slice (by rfl) 26 2 _ rfl _ _ (by simp [Act.eval, Act.put]) (run_45 _) 56 rfl ?_
    obtain ⟨q3, hy8⟩ : ∃ y, y = World.alloc q1 (.cells #[.int .i64 4, .int .i64 5] 3) := ⟨_, rfl⟩
    obtain ⟨gi, hgi⟩ : ∃ g, g = (World.heap q1).size := ⟨_, rfl⟩
    have hb := below_one q1 (.cells #[.int .i64 4, .int .i64 5] 3)
    have HBI : Hid (Boxd (World.alloc q1 (.cells #[.int .i64 4, .int .i64 5] 3)) (World.heap q1).size #[.int .i64 4, .int .i64 5] 3) := heap_alloc_last _ _
    rw [← hy8] at hb HBI
    rw [← hgi] at HBI
    rw [← hy8, ← hgi]
    replace HM := Lib.hid (HM.out.below hb)
    replace HI := Lib.hid (bls_below HI.out hb)
    have hS3 := (show q3.cell? ⟨g4, 0, none⟩ = some (.int .u32 x) ∧ q3.cell? ⟨g4, 1, none⟩ = some (.int .u32 y) from ⟨HM.out.b4.cell, HM.out.b4.cell⟩)
    clear hb hy8 hgi
    refine hK.out _ _ ?_ (fun hHeld => ?_)
    · exact hS3
    clear hK K
    (try simp only [Act.put, List.setIfInBounds_toArray, List.set_cons_zero, List.set_cons_succ])
    refine wpAnyH_ready (rs := [10]) (by kernel_rfl) (by simp) (AllReadyH.cons rfl (fun K hK => ?_) AllReadyH.nil)
    go_simp
    (try simp only [r1, r2, r3, r4])
    refine (K1.out _ _ _ _ HM.out.bo.laid HA.out HI.out (box_pair HBI.out)).mono ?_
    rintro e q2 ⟨ga, R, c2, rfl, ha, hr, hrl, hc1, hc2, hb⟩
    have HR := Lib.hid hr
    have HAR := Lib.hid ha
    have HRL := Lib.hid hrl
    replace HM := Lib.hid (HM.out.below hb)
    have hS2 := (show q2.cell? ⟨g4, 0, none⟩ = some (.int .u32 x) ∧ q2.cell? ⟨g4, 1, none⟩ = some (.int .u32 y) from ⟨HM.out.b4.cell, HM.out.b4.cell⟩)
    clear ha hr hrl hb HA HI HBI
    go_wp2_with fail
    refine hK.out _ _ ?_ (fun hHeld => ?_)
    · exact hS2
    clear hK K
    (try simp only [Act.put, List.setIfInBounds_toArray, List.set_cons_zero, List.set_cons_succ])
    refine ByHand.take_yes (v := ?_) 11 46 rfl rfl (by kernel_rfl) (by kernel_rfl) (by kernel_rfl) (fun _ _ _ h => h) (by rfl) ?_ (by assumption) ?_
    rotate_left
    · intro w' hSw
      (try dsimp only at hSw)
      go_simp
      all_goals with_reducible rfl
    (try simp only [Act.put, List.setIfInBounds_toArray, List.set_cons_zero, List.set_cons_succ])
    refine ByHand.take_yes (v := ?_) 12 58 rfl rfl (by kernel_rfl) (by kernel_rfl) (by kernel_rfl) (fun _ _ _ h => h) (by rfl) ?_ (by assumption) ?_
    rotate_left
    · intro w' hSw
      (try dsimp only at hSw)
      go_simp
      all_goals with_reducible rfl
    (try simp only [Act.put, List.setIfInBounds_toArray, List.set_cons_zero, List.set_cons_succ])
    refine ByHand.take_yes (v := ?_) 13 59 rfl rfl (by kernel_rfl) (by kernel_rfl) (by kernel_rfl) (fun _ _ _ h => h) (by rfl) ?_ (by assumption) ?_
    rotate_left
    · intro w' hSw
      (try dsimp only at hSw)
      go_simp
      all_goals with_reducible rfl
    (try simp only [Act.put, List.setIfInBounds_toArray, List.set_cons_zero, List.set_cons_succ])
    refine ByHand.take_yes (v := ?_) 14 60 rfl rfl (by kernel_rfl) (by kernel_rfl) (by kernel_rfl) (fun _ _ _ h => h) (by rfl) ?_ (by assumption) ?_
    rotate_left
    · intro w' hSw
      (try dsimp only at hSw)
      go_simp
      all_goals with_reducible rfl
    (try simp only [Act.put, List.setIfInBounds_toArray, List.set_cons_zero, List.set_cons_succ])
    refine ByHand.take_yes (v := ?_) 15 8 rfl rfl (by kernel_rfl) (by kernel_rfl) (by kernel_rfl) (fun _ _ _ h => h) (by rfl) ?_ (by assumption) ?_
    rotate_left
    · intro w' hSw
      (try dsimp only at hSw)
      go_simp
      all_goals with_reducible rfl
    (try simp only [Act.put, List.setIfInBounds_toArray, List.set_cons_zero, List.set_cons_succ])
    refine ByHand.take_yes (v := ?_) 16 9 rfl rfl (by kernel_rfl) (by kernel_rfl) (by kernel_rfl) (fun _ _ _ h => h) (by rfl) ?_ (by assumption) ?_
    rotate_left
    · intro w' hSw
      (try dsimp only at hSw)
      go_simp
      all_goals with_reducible rfl
    (try simp only [Act.put, List.setIfInBounds_toArray, List.set_cons_zero, List.set_cons_succ])
    refine ByHand.take_yes (v := ?_) 17 10 rfl rfl (by kernel_rfl) (by kernel_rfl) (by kernel_rfl) (fun _ _ _ h => h) (by rfl) ?_ (by assumption) ?_
    rotate_left
    · intro w' hSw
      (try dsimp only at hSw)
      go_simp
      all_goals with_reducible rfl
    (try simp only [Act.put, List.setIfInBounds_toArray, List.set_cons_zero, List.set_cons_succ])
    refine wpAnyH_done (by kernel_rfl) ?_ _
    clear r1 r2 r3 r4 hS0 hS1 hS2 hS3
    have hcl : M.length ≤ c2 := Nat.le_trans (Nat.le_succ _) hc1
    have hcI : (M.length : Int) ≤ (c2 : Int) := Int.ofNat_le.2 hcl
    clear hc1 hc2
    have r5 := HRR.out.2.2.2.2.1
    go_upto_region 12 with (first
      | (go_at_call 20; (refine (KSB.out _ _ _ _ _ (KTK.out _ _ _ _ HAR.out HRL.out HR.out).2 (KTK.out _ _ _ _ HAR.out HRL.out HR.out).1 (bls_up HM.out.bo.bls HM.out.bo.low.size)).mono ?_); rintro e q4 ⟨rfl, hb⟩; replace HM := Lib.hid (HM.out.below hb); replace HR := Lib.hid (bls_below HR.out hb); clear hb))
    clear r5 hcl hcI
    obtain ⟨A6, c6, hr6, hi6⟩ := KNB.out _ _ _ _ _ HAR.out HRL.out HR.out rfl
    have H6 := Lib.hid hr6
    have HI6 := Lib.hid hi6
    have HSD1 := Lib.hid (HSD.out A6 c6)
    have HSD2 := Lib.hid (HSD'.out A6 c6)
    have HOD1 := Lib.hid (HOD.out A6 c6)
    have HZD1 := Lib.hid (HZD.out A6 c6)
    have HDC1 := Lib.hid (HDC.out A6 c6)
    have KSI1 := Lib.hid (fun A7 c7 W => KSI.out A6 c6 A7 c7 W)
    generalize (⟨mo, x, x - mn, cv, 2, .slice A6 2 c6, [4, 5]⟩ : Bl).cells = D at *
    clear hr6 hi6
    go_upto_region 13 with (first
      | (refine load_mid_want (by rfl) 28 _ rfl ga (M.length * 6) rfl D _ H6.out Tryd.underlying28 rfl HSD2.out ?_)
      | (refine o_store rfl 28 _ _ rfl rfl q4.heap.size D rfl rfl _ _ (heap_alloc_last _ _) HSD1.out HZD1.out HOD1.out ?_; intro q5 hr ho; have hb := below_one_of (below_one q4 _) ho (Nat.le_refl _) (below_one q4 _).size; have HB1 := Lib.hid hr; replace HM := Lib.hid (HM.out.below hb); replace HR := Lib.hid (bls_below HR.out hb); replace HI6 := Lib.hid ((HI6.out.below hb).more hb.size); clear hr ho hb))
    have r1 := HRR.out.1
    have r2 := HRR.out.2.1
    have r3 := HRR.out.2.2.1
    have r4 := HRR.out.2.2.2.1
    have r6 := HRR.out.2.2.2.2.2.1
    have r7 := HRR.out.2.2.2.2.2.2.1
    have r8 := HRR.out.2.2.2.2.2.2.2
    obtain ⟨g1, hg1⟩ : ∃ g, g = q4.heap.size := ⟨_, rfl⟩
    rw [← hg1]
    rw [← hg1] at HB1
    clear hg1
    have f0 : q5.cell? ⟨g4, 0, none⟩ = some (.int .u32 x) := HM.out.b4.cell
    have f1 : q5.cell? ⟨g4, 1, none⟩ = some (.int .u32 y) := HM.out.b4.cell
    have z0 : q5.cell? ⟨g1, 0, none⟩ = some (.int .i64 mo) := HB1.out.cell.trans (by rw [HDC1.out]; rfl)
    have z2 : q5.cell? ⟨g1, 2, none⟩ = some (.int .i64 (x - mn)) := HB1.out.cell.trans (by rw [HDC1.out]; rfl)
    have z4 : q5.cell? ⟨g1, 4, none⟩ = some (.int .i64 2) := HB1.out.cell.trans (by rw [HDC1.out]; rfl)
    have z5 : q5.cell? ⟨g1, 5, none⟩ = some (.slice A6 2 c6) := HB1.out.cell.trans (by rw [HDC1.out]; rfl)
    obtain ⟨gl, wl, e1, e2, hl6, hb6⟩ := boxd_new q5 #[.int .i64 4, .int .i64 5] 3
    have HLB := Lib.hid hb6
    have HLI := Lib.hid (box_pair hl6)
    clear hl6 hb6
    go_upto_region 16 with (first
      | (go_at_call 26; rw [← e2, ← e1]; (refine (KIN.out _ _ _ ((HI6.out.below HLB.out).more HLB.out.size) HLI.out).mono ?_); rintro e q6 ⟨rfl, nq6, hw6⟩; have hb := (show Below q5.heap.size q5 q6 by rw [hw6]; exact below_drewN HLB.out nq6); replace HM := Lib.hid (HM.out.below hb); replace HR := Lib.hid (bls_below HR.out hb); replace HI6 := Lib.hid ((HI6.out.below hb).more hb.size); replace HB1 := Lib.hid (HB1.out.below hb); clear hb hw6))
    clear f0 f1 z0 z2 z4 z5 e1 e2 r1 r2 r3 r4 r6 r7 r8
    have HR9 : Hid (Bls q6 q6.heap.size (.slice (some ⟨ga, 0, none⟩) (M.length + 1) c2) R) := (show Bls _ _ _ _ by rw [← HRL.out]; exact HR.out)
    go_upto_region 17 with (first
      | (go_at_call 11; (refine (K2.out _ _ _ HM.out.bo.laid HAR.out HR9.out).mono ?_); rintro e q7 ⟨A7, c7, rfl, hi, hb⟩; have HI7 := Lib.hid hi; replace HM := Lib.hid (HM.out.below hb); replace HI6 := Lib.hid ((HI6.out.below hb).more hb.size); replace HB1 := Lib.hid (HB1.out.below hb); have HSE1 := Lib.hid (HSD.out A7 c7); have HOE1 := Lib.hid (HOD.out A7 c7); have HZE1 := Lib.hid (HZD.out A7 c7); have KSI2 := Lib.hid (fun W => KSI1.out A7 c7 W); clear hi hb; generalize (⟨mo, x, x - mn, cv, 2, .slice A7 2 c7, [4, 5]⟩ : Bl).cells = D2 at *)
      | (refine o_store rfl 28 _ _ rfl rfl q7.heap.size D2 rfl rfl _ _ (heap_alloc_last _ _) HSE1.out HZE1.out HOE1.out ?_; intro q8 hr ho; have hb := below_one_of (below_one q7 _) ho (Nat.le_refl _) (below_one q7 _).size; have HB2 := Lib.hid hr; replace HM := Lib.hid (HM.out.below hb); replace HI6 := Lib.hid ((HI6.out.below hb).more hb.size); replace HI7 := Lib.hid ((HI7.out.below hb).more hb.size); replace HB1 := Lib.hid (HB1.out.below hb); clear hr ho hb))
    obtain ⟨g2, hg2⟩ : ∃ g, g = q7.heap.size := ⟨_, rfl⟩
    rw [← hg2]
    rw [← hg2] at HB2
    clear hg2
    go_wp2_with (first
      | (refine o_load (by rfl) 28 _ rfl g1 rfl _ _ _ HB1.out Tryd.underlying28 rfl HSD1.out ?_)
      | (refine o_load (by rfl) 28 _ rfl g2 rfl _ _ _ HB2.out Tryd.underlying28 rfl HSE1.out ?_)
      | (go_at_call 19; (refine (KSI2.out _ HI6.out HI7.out).mono ?_); rintro e q9 ⟨rfl, hb⟩; replace HM := Lib.hid (HM.out.below hb); have z2 : q9.cell? ⟨g1, 2, none⟩ = some (.int .i64 (x - mn)) := (HB1.out.below hb).cell.trans (by rw [HDC1.out]; rfl); have z3 : q9.cell? ⟨g1, 3, none⟩ = some (.int .i64 cv) := (HB1.out.below hb).cell.trans (by rw [HDC1.out]; rfl); clear hb)
      | (go_at_call 9; (with_reducible refine (wakes_bill _ HM.out.bo.laid).mono ?_); rintro e y9 ⟨rfl, hb⟩; replace HM := Lib.hid (HM.out.below hb); clear hb))
    go_ret
    exact ⟨rfl, HM.out.bo.low⟩
  · refine step_slice (by rfl) 26 2 _ rfl _ _ (by simp [Act.eval, Act.put]) (run_45 _) 56 rfl ?_
    obtain ⟨q3, hy8⟩ : ∃ y, y = World.alloc y2.drew (.cells #[.int .i64 4, .int .i64 5] 3) := ⟨_, rfl⟩
    obtain ⟨gi, hgi⟩ : ∃ g, g = (World.heap y2.drew).size := ⟨_, rfl⟩
    have hb := below_one y2.drew (.cells #[.int .i64 4, .int .i64 5] 3)
    have HBI : Hid (Boxd (World.alloc y2.drew (.cells #[.int .i64 4, .int .i64 5] 3)) (World.heap y2.drew).size #[.int .i64 4, .int .i64 5] 3) := heap_alloc_last _ _
    rw [← hy8] at hb HBI
    rw [← hgi] at HBI
    rw [← hy8, ← hgi]
    replace HM := Lib.hid (HM.out.below hb)
    have hS3 := (show q3.cell? ⟨g4, 0, none⟩ = some (.int .u32 x) ∧ q3.cell? ⟨g4, 1, none⟩ = some (.int .u32 y) from ⟨HM.out.b4.cell, HM.out.b4.cell⟩)
    clear hb hy8 hgi
    refine hK.out _ _ ?_ (fun hHeld => ?_)
    · exact hS3
    clear hK K
    (try simp only [Act.put, List.setIfInBounds_toArray, List.set_cons_zero, List.set_cons_succ])
    refine wpAnyH_ready (rs := [1]) (by kernel_rfl) (by simp) (AllReadyH.cons rfl (fun K hK => ?_) AllReadyH.nil)
    go_simp
    refine (KCP.out _ HM.out.bo).mono ?_
    rintro e q1 ⟨u, M', rfl, ha, hc, hb⟩
    have HA := Lib.hid ha
    have HI := Lib.hid hc.bls
    replace HM := Lib.hid (HM.out.below hb)
    replace HBI := Lib.hid (HBI.out.below hb)
    have hS1 := (show q1.cell? ⟨g4, 0, none⟩ = some (.int .u32 x) ∧ q1.cell? ⟨g4, 1, none⟩ = some (.int .u32 y) from ⟨HM.out.b4.cell, HM.out.b4.cell⟩)
    obtain ⟨A1, c1, rfl⟩ := own_slice' hc.row
    clear ha hc hb
    go_wp2_with fail
    refine hK.out _ _ ?_ (fun hHeld => ?_)
    · exact hS1
    clear hK K
    (try simp only [Act.put, List.setIfInBounds_toArray, List.set_cons_zero, List.set_cons_succ])
    refine wpAnyH_ready (rs := [10]) (by kernel_rfl) (by simp) (AllReadyH.cons rfl (fun K hK => ?_) AllReadyH.nil)
    go_simp
    (try simp only [r1, r2, r3, r4])
    refine (K1.out _ _ _ _ HM.out.bo.laid HA.out HI.out (box_pair HBI.out)).mono ?_
    rintro e q2 ⟨ga, R, c2, rfl, ha, hr, hrl, hc1, hc2, hb⟩
    have HR := Lib.hid hr
    have HAR := Lib.hid ha
    have HRL := Lib.hid hrl
    replace HM := Lib.hid (HM.out.below hb)
    have hS2 := (show q2.cell? ⟨g4, 0, none⟩ = some (.int .u32 x) ∧ q2.cell? ⟨g4, 1, none⟩ = some (.int .u32 y) from ⟨HM.out.b4.cell, HM.out.b4.cell⟩)
    clear ha hr hrl hb HA HI HBI
    go_wp2_with fail
    refine hK.out _ _ ?_ (fun hHeld => ?_)
    · exact hS2
    clear hK K
    (try simp only [Act.put, List.setIfInBounds_toArray, List.set_cons_zero, List.set_cons_succ])
    refine ByHand.take_yes (v := ?_) 11 46 rfl rfl (by kernel_rfl) (by kernel_rfl) (by kernel_rfl) (fun _ _ _ h => h) (by rfl) ?_ (by assumption) ?_
    rotate_left
    · intro w' hSw
      (try dsimp only at hSw)
      go_simp
      all_goals with_reducible rfl
    (try simp only [Act.put, List.setIfInBounds_toArray, List.set_cons_zero, List.set_cons_succ])
    refine ByHand.take_yes (v := ?_) 12 58 rfl rfl (by kernel_rfl) (by kernel_rfl) (by kernel_rfl) (fun _ _ _ h => h) (by rfl) ?_ (by assumption) ?_
    rotate_left
    · intro w' hSw
      (try dsimp only at hSw)
      go_simp
      all_goals with_reducible rfl
    (try simp only [Act.put, List.setIfInBounds_toArray, List.set_cons_zero, List.set_cons_succ])
    refine ByHand.take_yes (v := ?_) 13 59 rfl rfl (by kernel_rfl) (by kernel_rfl) (by kernel_rfl) (fun _ _ _ h => h) (by rfl) ?_ (by assumption) ?_
    rotate_left
    · intro w' hSw
      (try dsimp only at hSw)
      go_simp
      all_goals with_reducible rfl
    (try simp only [Act.put, List.setIfInBounds_toArray, List.set_cons_zero, List.set_cons_succ])
    refine ByHand.take_yes (v := ?_) 14 60 rfl rfl (by kernel_rfl) (by kernel_rfl) (by kernel_rfl) (fun _ _ _ h => h) (by rfl) ?_ (by assumption) ?_
    rotate_left
    · intro w' hSw
      (try dsimp only at hSw)
      go_simp
      all_goals with_reducible rfl
    (try simp only [Act.put, List.setIfInBounds_toArray, List.set_cons_zero, List.set_cons_succ])
    refine ByHand.take_yes (v := ?_) 15 8 rfl rfl (by kernel_rfl) (by kernel_rfl) (by kernel_rfl) (fun _ _ _ h => h) (by rfl) ?_ (by assumption) ?_
    rotate_left
    · intro w' hSw
      (try dsimp only at hSw)
      go_simp
      all_goals with_reducible rfl
    (try simp only [Act.put, List.setIfInBounds_toArray, List.set_cons_zero, List.set_cons_succ])
    refine ByHand.take_yes (v := ?_) 16 9 rfl rfl (by kernel_rfl) (by kernel_rfl) (by kernel_rfl) (fun _ _ _ h => h) (by rfl) ?_ (by assumption) ?_
    rotate_left
    · intro w' hSw
      (try dsimp only at hSw)
      go_simp
      all_goals with_reducible rfl
    (try simp only [Act.put, List.setIfInBounds_toArray, List.set_cons_zero, List.set_cons_succ])
    refine ByHand.take_yes (v := ?_) 17 10 rfl rfl (by kernel_rfl) (by kernel_rfl) (by kernel_rfl) (fun _ _ _ h => h) (by rfl) ?_ (by assumption) ?_
    rotate_left
    · intro w' hSw
      (try dsimp only at hSw)
      go_simp
      all_goals with_reducible rfl
    (try simp only [Act.put, List.setIfInBounds_toArray, List.set_cons_zero, List.set_cons_succ])
    refine wpAnyH_done (by kernel_rfl) ?_ _
    clear r1 r2 r3 r4 hS0 hS1 hS2 hS3
    have hcl : M.length ≤ c2 := Nat.le_trans (Nat.le_succ _) hc1
    have hcI : (M.length : Int) ≤ (c2 : Int) := Int.ofNat_le.2 hcl
    clear hc1 hc2
    have r5 := HRR.out.2.2.2.2.1
    go_upto_region 12 with (first
      | (go_at_call 20; (refine (KSB.out _ _ _ _ _ (KTK.out _ _ _ _ HAR.out HRL.out HR.out).2 (KTK.out _ _ _ _ HAR.out HRL.out HR.out).1 (bls_up HM.out.bo.bls HM.out.bo.low.size)).mono ?_); rintro e q4 ⟨rfl, hb⟩; replace HM := Lib.hid (HM.out.below hb); replace HR := Lib.hid (bls_below HR.out hb); clear hb))
    clear r5 hcl hcI
    obtain ⟨A6, c6, hr6, hi6⟩ := KNB.out _ _ _ _ _ HAR.out HRL.out HR.out rfl
    have H6 := Lib.hid hr6
    have HI6 := Lib.hid hi6
    have HSD1 := Lib.hid (HSD.out A6 c6)
    have HSD2 := Lib.hid (HSD'.out A6 c6)
    have HOD1 := Lib.hid (HOD.out A6 c6)
    have HZD1 := Lib.hid (HZD.out A6 c6)
    have HDC1 := Lib.hid (HDC.out A6 c6)
    have KSI1 := Lib.hid (fun A7 c7 W => KSI.out A6 c6 A7 c7 W)
    generalize (⟨mo, x, x - mn, cv, 2, .slice A6 2 c6, [4, 5]⟩ : Bl).cells = D at *
    clear hr6 hi6
    go_upto_region 13 with (first
      | (refine load_mid_want (by rfl) 28 _ rfl ga (M.length * 6) rfl D _ H6.out Tryd.underlying28 rfl HSD2.out ?_)
      | (refine o_store rfl 28 _ _ rfl rfl q4.heap.size D rfl rfl _ _ (heap_alloc_last _ _) HSD1.out HZD1.out HOD1.out ?_; intro q5 hr ho; have hb := below_one_of (below_one q4 _) ho (Nat.le_refl _) (below_one q4 _).size; have HB1 := Lib.hid hr; replace HM := Lib.hid (HM.out.below hb); replace HR := Lib.hid (bls_below HR.out hb); replace HI6 := Lib.hid ((HI6.out.below hb).more hb.size); clear hr ho hb))
    have r1 := HRR.out.1
    have r2 := HRR.out.2.1
    have r3 := HRR.out.2.2.1
    have r4 := HRR.out.2.2.2.1
    have r6 := HRR.out.2.2.2.2.2.1
    have r7 := HRR.out.2.2.2.2.2.2.1
    have r8 := HRR.out.2.2.2.2.2.2.2
    obtain ⟨g1, hg1⟩ : ∃ g, g = q4.heap.size := ⟨_, rfl⟩
    rw [← hg1]
    rw [← hg1] at HB1
    clear hg1
    have f0 : q5.cell? ⟨g4, 0, none⟩ = some (.int .u32 x) := HM.out.b4.cell
    have f1 : q5.cell? ⟨g4, 1, none⟩ = some (.int .u32 y) := HM.out.b4.cell
    have z0 : q5.cell? ⟨g1, 0, none⟩ = some (.int .i64 mo) := HB1.out.cell.trans (by rw [HDC1.out]; rfl)
    have z2 : q5.cell? ⟨g1, 2, none⟩ = some (.int .i64 (x - mn)) := HB1.out.cell.trans (by rw [HDC1.out]; rfl)
    have z4 : q5.cell? ⟨g1, 4, none⟩ = some (.int .i64 2) := HB1.out.cell.trans (by rw [HDC1.out]; rfl)
    have z5 : q5.cell? ⟨g1, 5, none⟩ = some (.slice A6 2 c6) := HB1.out.cell.trans (by rw [HDC1.out]; rfl)
    obtain ⟨gl, wl, e1, e2, hl6, hb6⟩ := boxd_new q5 #[.int .i64 4, .int .i64 5] 3
    have HLB := Lib.hid hb6
    have HLI := Lib.hid (box_pair hl6)
    clear hl6 hb6
    go_upto_region 16 with (first
      | (go_at_call 26; rw [← e2, ← e1]; (refine (KIN.out _ _ _ ((HI6.out.below HLB.out).more HLB.out.size) HLI.out).mono ?_); rintro e q6 ⟨rfl, nq6, hw6⟩; have hb := (show Below q5.heap.size q5 q6 by rw [hw6]; exact below_drewN HLB.out nq6); replace HM := Lib.hid (HM.out.below hb); replace HR := Lib.hid (bls_below HR.out hb); replace HI6 := Lib.hid ((HI6.out.below hb).more hb.size); replace HB1 := Lib.hid (HB1.out.below hb); clear hb hw6))
    clear f0 f1 z0 z2 z4 z5 e1 e2 r1 r2 r3 r4 r6 r7 r8
    have HR9 : Hid (Bls q6 q6.heap.size (.slice (some ⟨ga, 0, none⟩) (M.length + 1) c2) R) := (show Bls _ _ _ _ by rw [← HRL.out]; exact HR.out)
    go_upto_region 17 with (first
      | (go_at_call 11; (refine (K2.out _ _ _ HM.out.bo.laid HAR.out HR9.out).mono ?_); rintro e q7 ⟨A7, c7, rfl, hi, hb⟩; have HI7 := Lib.hid hi; replace HM := Lib.hid (HM.out.below hb); replace HI6 := Lib.hid ((HI6.out.below hb).more hb.size); replace HB1 := Lib.hid (HB1.out.below hb); have HSE1 := Lib.hid (HSD.out A7 c7); have HOE1 := Lib.hid (HOD.out A7 c7); have HZE1 := Lib.hid (HZD.out A7 c7); have KSI2 := Lib.hid (fun W => KSI1.out A7 c7 W); clear hi hb; generalize (⟨mo, x, x - mn, cv, 2, .slice A7 2 c7, [4, 5]⟩ : Bl).cells = D2 at *)
      | (refine o_store rfl 28 _ _ rfl rfl q7.heap.size D2 rfl rfl _ _ (heap_alloc_last _ _) HSE1.out HZE1.out HOE1.out ?_; intro q8 hr ho; have hb := below_one_of (below_one q7 _) ho (Nat.le_refl _) (below_one q7 _).size; have HB2 := Lib.hid hr; replace HM := Lib.hid (HM.out.below hb); replace HI6 := Lib.hid ((HI6.out.below hb).more hb.size); replace HI7 := Lib.hid ((HI7.out.below hb).more hb.size); replace HB1 := Lib.hid (HB1.out.below hb); clear hr ho hb))
    obtain ⟨g2, hg2⟩ : ∃ g, g = q7.heap.size := ⟨_, rfl⟩
    rw [← hg2]
    rw [← hg2] at HB2
    clear hg2
    go_wp2_with (first
      | (refine o_load (by rfl) 28 _ rfl g1 rfl _ _ _ HB1.out Tryd.underlying28 rfl HSD1.out ?_)
      | (refine o_load (by rfl) 28 _ rfl g2 rfl _ _ _ HB2.out Tryd.underlying28 rfl HSE1.out ?_)
      | (go_at_call 19; (refine (KSI2.out _ HI6.out HI7.out).mono ?_); rintro e q9 ⟨rfl, hb⟩; replace HM := Lib.hid (HM.out.below hb); have z2 : q9.cell? ⟨g1, 2, none⟩ = some (.int .i64 (x - mn)) := (HB1.out.below hb).cell.trans (by rw [HDC1.out]; rfl); have z3 : q9.cell? ⟨g1, 3, none⟩ = some (.int .i64 cv) := (HB1.out.below hb).cell.trans (by rw [HDC1.out]; rfl); clear hb)
      | (go_at_call 9; (with_reducible refine (wakes_bill _ HM.out.bo.laid).mono ?_); rintro e y9 ⟨rfl, hb⟩; replace HM := Lib.hid (HM.out.below hb); clear hb))
    go_ret
    exact ⟨rfl, HM.out.bo.low⟩
set_option maxRecDepth 20000 in
set_option maxHeartbeats 8000000 in
theorem ahead_main1 (M : List Bl) (x y gap : Int) (v : Value) (w : World) (hv : Bls w w.heap.size v M) (LD : Hid (Laid w)) (x0 : 0 ≤ x) (x1 : x ≤ 4294967295) (y0 : 0 ≤ y) (y1 : y ≤ 4294967295) (g0 : 0 ≤ gap) (g1 : gap ≤ 255)  (h1 : manyB M = false) (hg : goodM M = true) (mo : Int) (hmo : mo = nextM M + gap) (i : Nat) (hi : M.length = i + 1) (z : Bl) (hz : M[i]? = some z) (hf : ¬ 2879 < mo) (hn : ¬ 390 < M.length) : Calls Tryd.prog 7 #[v, .agg #[.int .u32 x, .int .u32 y], .int .u8 gap] w fun e w' => e = .returned (.bool true) ∧ Below w.heap.size w w' := by
  obtain ⟨g4, wb, e1, e2, h4, hb4⟩ := boxd_new w #[.int .u32 x, .int .u32 y] 53
  have HM : Hid (Ah w wb M v g4 #[.int .u32 x, .int .u32 y]) := ⟨⟨hb4, LD.out.of hb4, hv.below hb4⟩, h4⟩
  obtain ⟨b, off, k', e9, -, -⟩ := hv.1.open (by omega)
  subst e9
  have cz0 : Hid (∀ W, Bo w W M (.slice (some ⟨b, off, none⟩) M.length k') → W.cell? ⟨b, off + i * 6, none⟩ = some (.int .i64 z.month)) := fun W h => h.bls.1.at_ hz 0 _ rfl
  have u0 : decide (0 < M.length) = true := decide_eq_true (by omega)
  have u4 : ((M.length : Int) - 1) = (i : Int) := by omega
  have hN9 := (many_no h1).1
  have u5 : wrap64 ((M.length : Int) - 1) = (i : Int) := by unfold wrap64; omega
  clear hN9
  have u2 : (i : Int) < M.length := by omega
  have hnx : nextM M = z.month + 1 := by
    unfold nextM
    rw [List.getLast?_eq_getElem?, hi, Nat.add_sub_cancel, hz]
  have hzok := ok_iff.1 (good_all hg z (List.mem_of_getElem? hz))
  have hz0 := hzok.m0
  have hz1 := hzok.m1
  have s1 : IntKind.i64.wrap gap = gap := IntWalk.i64_in _ (by omega)
  have v0 : wrap64 (z.month + 1) = z.month + 1 := by unfold wrap64; omega
  have v1 : wrap64 (z.month + 1 + gap) = mo := by rw [hmo, hnx]; unfold wrap64; omega
  have lM := hv.1.len
  clear hv LD h4 hb4
  have KRG := Lib.hid (fun W (h : Bo w W M (.slice (some ⟨b, off, none⟩) M.length k')) => r_good M (.slice (some ⟨b, off, none⟩) M.length k') w.heap.size W h.low.size h.bls (Nat.le_trans (many_no h1).1 (by decide)))
  rw [hg] at KRG
  have t1 : decide (2879 < mo) = false := decide_eq_false hf
  have t2 : decide (390 < M.length) = false := decide_eq_false (by omega)
  have t2' : decide ((390 : Int) < (M.length : Int)) = false := decide_eq_false (by omega)
  have hI : ∀ b ∈ M, b.ids.length ≤ 1000 := fun b hb => Nat.le_trans ((many_no h1).2 b hb) (by decide)
  have KCP := Lib.hid (fun W (h : Bo w W M (.slice (some ⟨b, off, none⟩) M.length k')) => c_cbills M (.slice (some ⟨b, off, none⟩) M.length k') w.heap.size W h.low.size h.bls (by omega) hI)
  have hm0 : 0 ≤ mo ∧ mo ≤ 2879 := ⟨by omega, by omega⟩
  have hzm : z.month < mo := by rw [hmo, hnx]; omega
  have hfo : follB M mo = true := by
    unfold follB
    rw [List.getLast?_eq_getElem?, hi, Nat.add_sub_cancel, hz]
    exact decide_eq_true hzm
  have hax := money_iff.2 (⟨x0, by omega⟩ : 0 ≤ x ∧ x ≤ 10000000000000)
  have hay := money_iff.2 (⟨y0, by omega⟩ : 0 ≤ y ∧ y ≤ 10000000000000)
  obtain ⟨mn, hmn⟩ : ∃ mn, mn = min x y := ⟨_, rfl⟩
  obtain ⟨lf, hlf⟩ : ∃ lf, lf = y - mn := ⟨_, rfl⟩
  have hie : issE M mo x y = 0 := by unfold issE; rw [if_pos hg, if_pos ⟨decide_eq_true hm0, hfo, hax, hay⟩]
  have hik : issK M mo x y = lf := by unfold issK; rw [if_pos hie, hlf, hmn]
  have hil : issL M mo x y 2 [4, 5] = M ++ [newB mo x 2 [4, 5] y] := by unfold issL; rw [if_pos hie]
  obtain ⟨hfi, hfb⟩ := ahead_find (how := 2) (ids := [4, 5]) hg hm0 hfo hax y0
  have hcl : ∀ v', { newB mo x 2 [4, 5] y with v := v' } = (⟨mo, x, x - mn, if x - mn = 0 then firV mo else -1, 2, v', [4, 5]⟩ : Bl) := fun _ => by rw [hmn]; rfl
  have hids9 : ∀ b ∈ M ++ [newB mo x 2 [4, 5] y], b.ids.length ≤ 1000 := fun b hb => by
    rcases List.mem_append.1 hb with hb | hb
    · exact hI b hb
    · obtain rfl := List.mem_singleton.1 hb
      show [(4 : Int), 5].length ≤ 1000
      decide
  obtain ⟨cv, hcv⟩ : ∃ cv, cv = (if x - mn = 0 then firV mo else -1) := ⟨_, rfl⟩
  obtain ⟨bz, hbz⟩ : ∃ bz : Bool, bz = (x - mn == 0) := ⟨_, rfl⟩
  have t6 : decide (0 ≤ cv) = bz := by
    rw [hbz, hcv]
    by_cases h : x - mn = 0
    · rw [if_pos h]
      have := (firV_small mo).1
      rw [decide_eq_true this, h]
      rfl
    · rw [if_neg h]
      have e : (x - mn == 0) = false := by rw [beq_eq_false_iff_ne]; exact h
      rw [e]
      decide
  rw [← hcv] at hcl
  generalize newB mo x 2 [4, 5] y = nb at *
  have K1 : Hid (∀ W u M' vi, Laid W → AlikeB M M' → Bls W W.heap.size u M' → Ints W W.heap.size .i64 vi [4, 5] → Calls Tryd.prog 21 #[u, .int .i64 mo, .int .i64 x, .int .i64 y, .int .i64 2, vi] W fun e w' => ∃ ga R c2, e = .returned (.tuple #[.slice (some ⟨ga, 0, none⟩) (M.length + 1) c2, .int .i64 lf, .int .i64 0]) ∧ AlikeB (M ++ [nb]) R ∧ Bls w' w'.heap.size (.slice (some ⟨ga, 0, none⟩) R.length c2) R ∧ R.length = M.length + 1 ∧ M.length + 1 ≤ c2 ∧ c2 ≤ 9223372036854775807 ∧ Below W.heap.size W w') := fun W u M' vi hl ha hu hi => by
    have h := b_issue M' mo x y 2 [4, 5] u vi W.heap.size W.heap.size W (Nat.le_refl _) (Nat.le_refl _) hu hi (by rw [ha.1]; omega) (alike_ids ha hI) (by decide) hl
    obtain ⟨q1, q2⟩ := issL_alike mo x y 2 [4, 5] ha
    rw [issE_alike mo x y ha, q2, hie, hik] at h
    rw [hil] at q1
    exact h.mono fun e w' ⟨u, R, h1, h2, h3, h4⟩ => by
      have hh := alike_trans q1 h2
      have hln : R.length = M.length + 1 := by rw [hh.1, List.length_append]; rfl
      obtain ⟨ga, c2, rfl, -⟩ := own_form h3.row (by omega)
      have hcap : R.length ≤ c2 ∧ c2 ≤ 9223372036854775807 := by
        rcases h3.row.2 with ⟨e, -⟩ | ⟨g', cap, cur, e, -, -, hn, hm, -⟩
        · cases e
        · injection e with _ _ e
          subst e
          unfold maxLen at hm
          exact ⟨hn, by omega⟩
      refine ⟨ga, R, c2, ?_, hh, h3.bls, hln, by omega, hcap.2, h4⟩
      rw [h1, hln]
  have K2 : Hid (∀ W u R, Laid W → AlikeB (M ++ [nb]) R → Bls W W.heap.size u R → Calls Tryd.prog 11 #[u, .int .i64 mo] W fun e w' => ∃ A7 c7, e = .returned (.tuple #[.agg (⟨mo, x, x - mn, cv, 2, .slice A7 2 c7, [4, 5]⟩ : Bl).cells, .bool true]) ∧ Ints w' w'.heap.size .i64 (.slice A7 2 c7) [4, 5] ∧ Below W.heap.size W w') := fun W u R hl ha hu => by
    have h := b_find R mo u W.heap.size W (Nat.le_refl _) hu (alike_ids ha hids9) hl
    rw [find_alike mo ha, hfi, decide_eq_true (by omega)] at h
    have hids : (foundB R mo).ids = [4, 5] := by
      have e : ({ foundB R mo with v := .slice none 0 0 } : Bl).ids = ({ foundB (M ++ [nb]) mo with v := .slice none 0 0 } : Bl).ids := by rw [foundA_alike mo ha]
      rw [hfb, hcl] at e
      exact e
    exact h.mono fun e w' ⟨v', h1, h2, h3⟩ => by
      rw [foundA_alike mo ha, hfb, hcl] at h1
      rw [hids] at h2
      obtain ⟨A7, c7, rfl⟩ := own_slice' h2
      exact ⟨A7, c7, h1, Ints.of_own (n := 2) rfl h2, h3⟩
  have KNB : Hid (∀ W u R ga c2, AlikeB (M ++ [nb]) R → R.length = M.length + 1 → Bls W W.heap.size u R → u = .slice (some ⟨ga, 0, none⟩) R.length c2 → ∃ A6 c6, W.rangeAt ga (M.length * 6) (⟨mo, x, x - mn, cv, 2, .slice A6 2 c6, [4, 5]⟩ : Bl).cells.toList ∧ Ints W W.heap.size .i64 (.slice A6 2 c6) [4, 5]) := fun W u R ga c2 ha hl hu he => by
    obtain ⟨v', hv'⟩ := ha.2 M.length nb (by rw [List.getElem?_append_right (Nat.le_refl _), Nat.sub_self]; rfl)
    rw [hcl] at hv'
    have hi2 := hu.2 _ (List.mem_of_getElem? hv')
    obtain ⟨A6, c6, rfl, -⟩ := id (show Ints W W.heap.size .i64 v' [4, 5] from hi2)
    subst he
    have hr := hu.1.at_ hv'
    rw [Nat.zero_add] at hr
    exact ⟨A6, c6, hr, hi2⟩
  have KTK : Hid (∀ W R ga c2, AlikeB (M ++ [nb]) R → R.length = M.length + 1 → Bls W W.heap.size (.slice (some ⟨ga, 0, none⟩) R.length c2) R → Bls W W.heap.size (.slice (some ⟨ga, 0, none⟩) M.length c2) (R.take M.length) ∧ AlikeB (R.take M.length) M) := fun W R ga c2 ha hl hu => by
    refine ⟨bls_take hu (by omega), ?_⟩
    have h := alike_take M.length ha
    rw [List.take_left] at h
    exact alike_symm h
  have KSB := Lib.hid (fun R1 R2 u1 u2 W (ha : AlikeB R1 R2) h1 h2 => same_bills R1 R2 ha u1 u2 (World.heap W).size W (Nat.le_refl _) h1 h2)
  have KIN := Lib.hid (fun v1 v2 W h1 h2 => Due.ints_same [4, 5] v1 v2 (World.heap W).size W h1 h2)
  have KSI : Hid (∀ A6 c6 A7 c7 W, Ints W W.heap.size .i64 (.slice A6 2 c6) [4, 5] → Ints W W.heap.size .i64 (.slice A7 2 c7) [4, 5] → Calls Tryd.prog 19 #[.agg (⟨mo, x, x - mn, cv, 2, .slice A6 2 c6, [4, 5]⟩ : Bl).cells, .agg (⟨mo, x, x - mn, cv, 2, .slice A7 2 c7, [4, 5]⟩ : Bl).cells] W fun e w' => e = .returned (.bool true) ∧ Below W.heap.size W w') := fun A6 c6 A7 c7 W h1 h2 => same_bill mo x (x - mn) cv 2 [4, 5] (.slice A6 2 c6) (.slice A7 2 c7) W.heap.size W (Nat.le_refl _) h1 h2
  have HSD : Hid (∀ A6 c6, (Tryd.prog.info? 28).map (·.size) = some (⟨mo, x, x - mn, cv, 2, .slice A6 2 c6, [4, 5]⟩ : Bl).cells.size) := fun A6 c6 => bl_info ⟨mo, x, x - mn, cv, 2, .slice A6 2 c6, [4, 5]⟩
  have HSD' : Hid (∀ A6 c6, (Tryd.prog.info? 28).map (·.size) = some (⟨mo, x, x - mn, cv, 2, .slice A6 2 c6, [4, 5]⟩ : Bl).cells.toList.length) := fun A6 c6 => bl_info' ⟨mo, x, x - mn, cv, 2, .slice A6 2 c6, [4, 5]⟩
  have HOD : Hid (∀ A6 c6, (⟨mo, x, x - mn, cv, 2, .slice A6 2 c6, [4, 5]⟩ : Bl).cells.all (·.oneCell') = true) := fun A6 c6 => bl_one ⟨mo, x, x - mn, cv, 2, .slice A6 2 c6, [4, 5]⟩ rfl
  have HZD : Hid (∀ A6 c6, 6 = (⟨mo, x, x - mn, cv, 2, .slice A6 2 c6, [4, 5]⟩ : Bl).cells.size) := fun _ _ => rfl
  have HDC : Hid (∀ A6 c6, (⟨mo, x, x - mn, cv, 2, .slice A6 2 c6, [4, 5]⟩ : Bl).cells = #[.int .i64 mo, .int .i64 x, .int .i64 (x - mn), .int .i64 cv, .int .i64 2, .slice A6 2 c6]) := fun _ _ => rfl
  have r1 : IntKind.i64.wrap x = x := IntWalk.i64_in _ (by omega)
  have r2 : IntKind.i64.wrap y = y := IntWalk.i64_in _ (by omega)
  have r3 : wrap64 x = x := by rw [← IntWalk.i64_left]; exact r1
  have r4 : wrap64 y = y := by rw [← IntWalk.i64_left]; exact r2
  have r5 : wrap64 ((M.length : Int) + 1) = (M.length : Int) + 1 := by unfold wrap64; omega
  have r6 : wrap64 (y - lf) = mn := by unfold wrap64; omega
  have r7 : wrap64 (x - mn) = x - mn := by unfold wrap64; omega
  have r8 : (if y < x then y else x) = mn := by
    rw [hmn]
    by_cases h : y < x
    · rw [if_pos h]; omega
    · rw [if_neg h]; omega
  have HRR := Lib.hid (And.intro r1 (And.intro r2 (And.intro r3 (And.intro r4 (And.intro r5 (And.intro r6 (And.intro r7 r8)))))))
  clear r5 r6 r7 r8
  have t7 : (x - mn == 0) = bz := hbz.symm
  have t8 : (bz == bz) = true := by simp
  have t9 : (mn != mn) = false := by simp
  have t10 : (x - mn != x - mn) = false := by simp
  have t11 : (mo != mo) = false := by simp
  have t12 : (((M.length : Int) + 1) != ((M.length : Int) + 1)) = false := by simp
  clear hzm hie hik hil hfi hfb hcl hids9 hcv hbz hmn hlf hax hay hfo hm0 hI hf hn x0 x1 y0 y1
  clear hnx hzok hz0 hz1 hz hi
  generalize z.month = zm at *
  clear hg hmo g0 g1
  go_enter Tryd.func7, Tryd.ntmps7
  go_upto_region 1 with fail
  rw [← e2, ← e1]
  clear e1 e2
  go_upto_region 9 with (first
    | (go_at_call 8; (with_reducible refine (large_any M _ w _ HM.out.bo).mono ?_); rintro e y1 ⟨rfl, hb⟩; rw [h1]; replace HM := Lib.hid (HM.out.below hb); clear hb)
    | (go_at_call 14; (refine (KRG.out _ HM.out.bo).mono ?_); rintro e y2 ⟨rfl, hb⟩; replace HM := Lib.hid (HM.out.below hb); have cz := cz0.out _ HM.out.bo; clear hb))
  replace HM := Lib.hid (HM.out.below (W' := y2.drew) (below_drawn (Below.refl _ _)))
  have hS0 : y2.drew.cell? ⟨g4, 0, none⟩ = some (.int .u32 x) ∧ y2.drew.cell? ⟨g4, 1, none⟩ = some (.int .u32 y) := ⟨HM.out.b4.cell, HM.out.b4.cell⟩
  refine wp_region_held_drew (S := (fun W => W.cell? ⟨g4, 0, none⟩ = some (.int .u32 x) ∧ W.cell? ⟨g4, 1, none⟩ = some (.int .u32 y))) (by kernel_rfl) hS0 (fun hHeld => ?_)
  refine ByHand.take_yes (v := ?_) 0 47 rfl rfl (by kernel_rfl) (by kernel_rfl) (by kernel_rfl) (fun _ _ _ h => h) (by rfl) ?_ (by assumption) ?_
  rotate_left
  · intro w' hSw
    (try dsimp only at hSw)
    go_simp
    all_goals with_reducible rfl
  (try simp only [Act.put, List.setIfInBounds_toArray, List.set_cons_zero, List.set_cons_succ])
  refine ByHand.take_yes (v := ?_) 2 49 rfl rfl (by kernel_rfl) (by kernel_rfl) (by kernel_rfl) (fun _ _ _ h => h) (by rfl) ?_ (by assumption) ?_
  rotate_left
  · intro w' hSw
    (try dsimp only at hSw)
    go_simp
    all_goals with_reducible rfl
  (try simp only [Act.put, List.setIfInBounds_toArray, List.set_cons_zero, List.set_cons_succ])
  refine ByHand.take_yes (v := ?_) 3 50 rfl rfl (by kernel_rfl) (by kernel_rfl) (by kernel_rfl) (fun _ _ _ h => h) (by rfl) ?_ (by assumption) ?_
  rotate_left
  · intro w' hSw
    (try dsimp only at hSw)
    go_simp
    all_goals with_reducible rfl
  (try simp only [Act.put, List.setIfInBounds_toArray, List.set_cons_zero, List.set_cons_succ])
  refine ByHand.take_yes (v := ?_) 4 51 rfl rfl (by kernel_rfl) (by kernel_rfl) (by kernel_rfl) (fun _ _ _ h => h) (by rfl) ?_ (by assumption) ?_
  rotate_left
  · intro w' hSw
    (try dsimp only at hSw)
    go_simp
    all_goals with_reducible rfl
  (try simp only [Act.put, List.setIfInBounds_toArray, List.set_cons_zero, List.set_cons_succ])
  refine ByHand.take_yes (v := ?_) 5 52 rfl rfl (by kernel_rfl) (by kernel_rfl) (by kernel_rfl) (fun _ _ _ h => h) (by rfl) ?_ (by assumption) ?_
  rotate_left
  · intro w' hSw
    (try dsimp only at hSw)
    go_simp
    all_goals with_reducible rfl
  (try simp only [Act.put, List.setIfInBounds_toArray, List.set_cons_zero, List.set_cons_succ])
  refine ByHand.take_yes (v := ?_) 6 53 rfl rfl (by kernel_rfl) (by kernel_rfl) (by kernel_rfl) (fun _ _ _ h => h) (by rfl) ?_ (by assumption) ?_
  rotate_left
  · intro w' hSw
    (try dsimp only at hSw)
    go_simp
    all_goals with_reducible rfl
  (try simp only [Act.put, List.setIfInBounds_toArray, List.set_cons_zero, List.set_cons_succ])
  refine ByHand.take_yes (v := ?_) 7 54 rfl rfl (by kernel_rfl) (by kernel_rfl) (by kernel_rfl) (fun _ _ _ h => h) (by rfl) ?_ (by assumption) ?_
  rotate_left
  · intro w' hSw
    (try dsimp only at hSw)
    go_simp
    all_goals with_reducible rfl
  (try simp only [Act.put, List.setIfInBounds_toArray, List.set_cons_zero, List.set_cons_succ])
  refine ByHand.take_yes (v := ?_) 8 55 rfl rfl (by kernel_rfl) (by kernel_rfl) (by kernel_rfl) (fun _ _ _ h => h) (by rfl) ?_ (by assumption) ?_
  rotate_left
  · intro w' hSw
    (try dsimp only at hSw)
    go_simp
    all_goals with_reducible rfl
  (try simp only [Act.put, List.setIfInBounds_toArray, List.set_cons_zero, List.set_cons_succ])
  refine wpAnyH_ready (rs := [1, 9]) (by kernel_rfl) (by simp) (AllReadyH.cons rfl (fun K hK => ?_) (AllReadyH.cons rfl (fun K hK => ?_) AllReadyH.nil))
  · go_simp
    refine (KCP.out _ HM.out.bo).mono ?_
    rintro e q1 ⟨u, M', rfl, ha, hc, hb⟩
    have HA := Lib.hid ha
    have HI := Lib.hid hc.bls
    replace HM := Lib.hid (HM.out.below hb)
    have hS1 := (show q1.cell? ⟨g4, 0, none⟩ = some (.int .u32 x) ∧ q1.cell? ⟨g4, 1, none⟩ = some (.int .u32 y) from ⟨HM.out.b4.cell, HM.out.b4.cell⟩)
    obtain ⟨A1, c1, rfl⟩ := own_slice' hc.row
    clear ha hc hb
    go_wp2_with fail
    refine hK.out _ _ ?_ (fun hHeld => ?_)
    · exact hS1
    clear hK K
    (try simp only [Act.put, List.setIfInBounds_toArray, List.set_cons_zero, List.set_cons_succ])
    refine wpAnyH_ready (rs := [9]) (by kernel_rfl) (by simp) (AllReadyH.cons rfl (fun K hK => ?_) AllReadyH.nil)
    refine step_slice (by rfl) 26 2 _ rfl _ _ (by simp [Act.eval, Act.put]) (run_45 _) 56 rfl ?_
    obtain ⟨q3, hy8⟩ : ∃ y, y = World.alloc q1 (.cells #[.int .i64 4, .int .i64 5] 3) := ⟨_, rfl⟩
    obtain ⟨gi, hgi⟩ : ∃ g, g = (World.heap q1).size := ⟨_, rfl⟩
    have hb := below_one q1 (.cells #[.int .i64 4, .int .i64 5] 3)
    have HBI : Hid (Boxd (World.alloc q1 (.cells #[.int .i64 4, .int .i64 5] 3)) (World.heap q1).size #[.int .i64 4, .int .i64 5] 3) := heap_alloc_last _ _
    rw [← hy8] at hb HBI
    rw [← hgi] at HBI
    rw [← hy8, ← hgi]
    replace HM := Lib.hid (HM.out.below hb)
    replace HI := Lib.hid (bls_below HI.out hb)
    have hS3 := (show q3.cell? ⟨g4, 0, none⟩ = some (.int .u32 x) ∧ q3.cell? ⟨g4, 1, none⟩ = some (.int .u32 y) from ⟨HM.out.b4.cell, HM.out.b4.cell⟩)
    clear hb hy8 hgi
    refine hK.out _ _ ?_ (fun hHeld => ?_)
    · exact hS3
    clear hK K
    (try simp only [Act.put, List.setIfInBounds_toArray, List.set_cons_zero, List.set_cons_succ])
    refine wpAnyH_ready (rs := [10]) (by kernel_rfl) (by simp) (AllReadyH.cons rfl (fun K hK => ?_) AllReadyH.nil)
    go_simp
    (try simp only [r1, r2, r3, r4])
    refine (K1.out _ _ _ _ HM.out.bo.laid HA.out HI.out (box_pair HBI.out)).mono ?_
    rintro e q2 ⟨ga, R, c2, rfl, ha, hr, hrl, hc1, hc2, hb⟩
    have HR := Lib.hid hr
    have HAR := Lib.hid ha
    have HRL := Lib.hid hrl
    replace HM := Lib.hid (HM.out.below hb)
    have hS2 := (show q2.cell? ⟨g4, 0, none⟩ = some (.int .u32 x) ∧ q2.cell? ⟨g4, 1, none⟩ = some (.int .u32 y) from ⟨HM.out.b4.cell, HM.out.b4.cell⟩)
    clear ha hr hrl hb HA HI HBI
    go_wp2_with fail
    refine hK.out _ _ ?_ (fun hHeld => ?_)
    · exact hS2
    clear hK K
    (try simp only [Act.put, List.setIfInBounds_toArray, List.set_cons_zero, List.set_cons_succ])
    refine ByHand.take_yes (v := ?_) 11 46 rfl rfl (by kernel_rfl) (by kernel_rfl) (by kernel_rfl) (fun _ _ _ h => h) (by rfl) ?_ (by assumption) ?_
    rotate_left
    · intro w' hSw
      (try dsimp only at hSw)
      go_simp
      all_goals with_reducible rfl
    (try simp only [Act.put, List.setIfInBounds_toArray, List.set_cons_zero, List.set_cons_succ])
    refine ByHand.take_yes (v := ?_) 12 58 rfl rfl (by kernel_rfl) (by kernel_rfl) (by kernel_rfl) (fun _ _ _ h => h) (by rfl) ?_ (by assumption) ?_
    rotate_left
    · intro w' hSw
      (try dsimp only at hSw)
      go_simp
      all_goals with_reducible rfl
    (try simp only [Act.put, List.setIfInBounds_toArray, List.set_cons_zero, List.set_cons_succ])
    refine ByHand.take_yes (v := ?_) 13 59 rfl rfl (by kernel_rfl) (by kernel_rfl) (by kernel_rfl) (fun _ _ _ h => h) (by rfl) ?_ (by assumption) ?_
    rotate_left
    · intro w' hSw
      (try dsimp only at hSw)
      go_simp
      all_goals with_reducible rfl
    (try simp only [Act.put, List.setIfInBounds_toArray, List.set_cons_zero, List.set_cons_succ])
    refine ByHand.take_yes (v := ?_) 14 60 rfl rfl (by kernel_rfl) (by kernel_rfl) (by kernel_rfl) (fun _ _ _ h => h) (by rfl) ?_ (by assumption) ?_
    rotate_left
    · intro w' hSw
      (try dsimp only at hSw)
      go_simp
      all_goals with_reducible rfl
    (try simp only [Act.put, List.setIfInBounds_toArray, List.set_cons_zero, List.set_cons_succ])
    refine ByHand.take_yes (v := ?_) 15 8 rfl rfl (by kernel_rfl) (by kernel_rfl) (by kernel_rfl) (fun _ _ _ h => h) (by rfl) ?_ (by assumption) ?_
    rotate_left
    · intro w' hSw
      (try dsimp only at hSw)
      go_simp
      all_goals with_reducible rfl
    (try simp only [Act.put, List.setIfInBounds_toArray, List.set_cons_zero, List.set_cons_succ])
    refine ByHand.take_yes (v := ?_) 16 9 rfl rfl (by kernel_rfl) (by kernel_rfl) (by kernel_rfl) (fun _ _ _ h => h) (by rfl) ?_ (by assumption) ?_
    rotate_left
    · intro w' hSw
      (try dsimp only at hSw)
      go_simp
      all_goals with_reducible rfl
    (try simp only [Act.put, List.setIfInBounds_toArray, List.set_cons_zero, List.set_cons_succ])
    refine ByHand.take_yes (v := ?_) 17 10 rfl rfl (by kernel_rfl) (by kernel_rfl) (by kernel_rfl) (fun _ _ _ h => h) (by rfl) ?_ (by assumption) ?_
    rotate_left
    · intro w' hSw
      (try dsimp only at hSw)
      go_simp
      all_goals with_reducible rfl
    (try simp only [Act.put, List.setIfInBounds_toArray, List.set_cons_zero, List.set_cons_succ])
    refine wpAnyH_done (by kernel_rfl) ?_ _
    clear r1 r2 r3 r4 hS0 hS1 hS2 hS3
    have hcl : M.length ≤ c2 := Nat.le_trans (Nat.le_succ _) hc1
    have hcI : (M.length : Int) ≤ (c2 : Int) := Int.ofNat_le.2 hcl
    clear hc1 hc2
    have r5 := HRR.out.2.2.2.2.1
    go_upto_region 12 with (first
      | (go_at_call 20; (refine (KSB.out _ _ _ _ _ (KTK.out _ _ _ _ HAR.out HRL.out HR.out).2 (KTK.out _ _ _ _ HAR.out HRL.out HR.out).1 (bls_up HM.out.bo.bls HM.out.bo.low.size)).mono ?_); rintro e q4 ⟨rfl, hb⟩; replace HM := Lib.hid (HM.out.below hb); replace HR := Lib.hid (bls_below HR.out hb); clear hb))
    clear r5 hcl hcI
    obtain ⟨A6, c6, hr6, hi6⟩ := KNB.out _ _ _ _ _ HAR.out HRL.out HR.out rfl
    have H6 := Lib.hid hr6
    have HI6 := Lib.hid hi6
    have HSD1 := Lib.hid (HSD.out A6 c6)
    have HSD2 := Lib.hid (HSD'.out A6 c6)
    have HOD1 := Lib.hid (HOD.out A6 c6)
    have HZD1 := Lib.hid (HZD.out A6 c6)
    have HDC1 := Lib.hid (HDC.out A6 c6)
    have KSI1 := Lib.hid (fun A7 c7 W => KSI.out A6 c6 A7 c7 W)
    generalize (⟨mo, x, x - mn, cv, 2, .slice A6 2 c6, [4, 5]⟩ : Bl).cells = D at *
    clear hr6 hi6
    go_upto_region 13 with (first
      | (refine load_mid_want (by rfl) 28 _ rfl ga (M.length * 6) rfl D _ H6.out Tryd.underlying28 rfl HSD2.out ?_)
      | (refine o_store rfl 28 _ _ rfl rfl q4.heap.size D rfl rfl _ _ (heap_alloc_last _ _) HSD1.out HZD1.out HOD1.out ?_; intro q5 hr ho; have hb := below_one_of (below_one q4 _) ho (Nat.le_refl _) (below_one q4 _).size; have HB1 := Lib.hid hr; replace HM := Lib.hid (HM.out.below hb); replace HR := Lib.hid (bls_below HR.out hb); replace HI6 := Lib.hid ((HI6.out.below hb).more hb.size); clear hr ho hb))
    have r1 := HRR.out.1
    have r2 := HRR.out.2.1
    have r3 := HRR.out.2.2.1
    have r4 := HRR.out.2.2.2.1
    have r6 := HRR.out.2.2.2.2.2.1
    have r7 := HRR.out.2.2.2.2.2.2.1
    have r8 := HRR.out.2.2.2.2.2.2.2
    obtain ⟨g1, hg1⟩ : ∃ g, g = q4.heap.size := ⟨_, rfl⟩
    rw [← hg1]
    rw [← hg1] at HB1
    clear hg1
    have f0 : q5.cell? ⟨g4, 0, none⟩ = some (.int .u32 x) := HM.out.b4.cell
    have f1 : q5.cell? ⟨g4, 1, none⟩ = some (.int .u32 y) := HM.out.b4.cell
    have z0 : q5.cell? ⟨g1, 0, none⟩ = some (.int .i64 mo) := HB1.out.cell.trans (by rw [HDC1.out]; rfl)
    have z2 : q5.cell? ⟨g1, 2, none⟩ = some (.int .i64 (x - mn)) := HB1.out.cell.trans (by rw [HDC1.out]; rfl)
    have z4 : q5.cell? ⟨g1, 4, none⟩ = some (.int .i64 2) := HB1.out.cell.trans (by rw [HDC1.out]; rfl)
    have z5 : q5.cell? ⟨g1, 5, none⟩ = some (.slice A6 2 c6) := HB1.out.cell.trans (by rw [HDC1.out]; rfl)
    obtain ⟨gl, wl, e1, e2, hl6, hb6⟩ := boxd_new q5 #[.int .i64 4, .int .i64 5] 3
    have HLB := Lib.hid hb6
    have HLI := Lib.hid (box_pair hl6)
    clear hl6 hb6
    go_upto_region 16 with (first
      | (go_at_call 26; rw [← e2, ← e1]; (refine (KIN.out _ _ _ ((HI6.out.below HLB.out).more HLB.out.size) HLI.out).mono ?_); rintro e q6 ⟨rfl, nq6, hw6⟩; have hb := (show Below q5.heap.size q5 q6 by rw [hw6]; exact below_drewN HLB.out nq6); replace HM := Lib.hid (HM.out.below hb); replace HR := Lib.hid (bls_below HR.out hb); replace HI6 := Lib.hid ((HI6.out.below hb).more hb.size); replace HB1 := Lib.hid (HB1.out.below hb); clear hb hw6))
    clear f0 f1 z0 z2 z4 z5 e1 e2 r1 r2 r3 r4 r6 r7 r8
    have HR9 : Hid (Bls q6 q6.heap.size (.slice (some ⟨ga, 0, none⟩) (M.length + 1) c2) R) := (show Bls _ _ _ _ by rw [← HRL.out]; exact HR.out)
    go_upto_region 17 with (first
      | (go_at_call 11; (refine (K2.out _ _ _ HM.out.bo.laid HAR.out HR9.out).mono ?_); rintro e q7 ⟨A7, c7, rfl, hi, hb⟩; have HI7 := Lib.hid hi; replace HM := Lib.hid (HM.out.below hb); replace HI6 := Lib.hid ((HI6.out.below hb).more hb.size); replace HB1 := Lib.hid (HB1.out.below hb); have HSE1 := Lib.hid (HSD.out A7 c7); have HOE1 := Lib.hid (HOD.out A7 c7); have HZE1 := Lib.hid (HZD.out A7 c7); have KSI2 := Lib.hid (fun W => KSI1.out A7 c7 W); clear hi hb; generalize (⟨mo, x, x - mn, cv, 2, .slice A7 2 c7, [4, 5]⟩ : Bl).cells = D2 at *)
      | (refine o_store rfl 28 _ _ rfl rfl q7.heap.size D2 rfl rfl _ _ (heap_alloc_last _ _) HSE1.out HZE1.out HOE1.out ?_; intro q8 hr ho; have hb := below_one_of (below_one q7 _) ho (Nat.le_refl _) (below_one q7 _).size; have HB2 := Lib.hid hr; replace HM := Lib.hid (HM.out.below hb); replace HI6 := Lib.hid ((HI6.out.below hb).more hb.size); replace HI7 := Lib.hid ((HI7.out.below hb).more hb.size); replace HB1 := Lib.hid (HB1.out.below hb); clear hr ho hb))
    obtain ⟨g2, hg2⟩ : ∃ g, g = q7.heap.size := ⟨_, rfl⟩
    rw [← hg2]
    rw [← hg2] at HB2
    clear hg2
    go_wp2_with (first
      | (refine o_load (by rfl) 28 _ rfl g1 rfl _ _ _ HB1.out Tryd.underlying28 rfl HSD1.out ?_)
      | (refine o_load (by rfl) 28 _ rfl g2 rfl _ _ _ HB2.out Tryd.underlying28 rfl HSE1.out ?_)
      | (go_at_call 19; (refine (KSI2.out _ HI6.out HI7.out).mono ?_); rintro e q9 ⟨rfl, hb⟩; replace HM := Lib.hid (HM.out.below hb); have z2 : q9.cell? ⟨g1, 2, none⟩ = some (.int .i64 (x - mn)) := (HB1.out.below hb).cell.trans (by rw [HDC1.out]; rfl); have z3 : q9.cell? ⟨g1, 3, none⟩ = some (.int .i64 cv) := (HB1.out.below hb).cell.trans (by rw [HDC1.out]; rfl); clear hb)
      | (go_at_call 9; (with_reducible refine (wakes_bill _ HM.out.bo.laid).mono ?_); rintro e y9 ⟨rfl, hb⟩; replace HM := Lib.hid (HM.out.below hb); clear hb))
    go_ret
    exact ⟨rfl, HM.out.bo.low⟩
  · refine step_slice (by rfl) 26 2 _ rfl _ _ (by simp [Act.eval, Act.put]) (run_45 _) 56 rfl ?_
    obtain ⟨q3, hy8⟩ : ∃ y, y = World.alloc y2.drew (.cells #[.int .i64 4, .int .i64 5] 3) := ⟨_, rfl⟩
    obtain ⟨gi, hgi⟩ : ∃ g, g = (World.heap y2.drew).size := ⟨_, rfl⟩
    have hb := below_one y2.drew (.cells #[.int .i64 4, .int .i64 5] 3)
    have HBI : Hid (Boxd (World.alloc y2.drew (.cells #[.int .i64 4, .int .i64 5] 3)) (World.heap y2.drew).size #[.int .i64 4, .int .i64 5] 3) := heap_alloc_last _ _
    rw [← hy8] at hb HBI
    rw [← hgi] at HBI
    rw [← hy8, ← hgi]
    replace HM := Lib.hid (HM.out.below hb)
    have hS3 := (show q3.cell? ⟨g4, 0, none⟩ = some (.int .u32 x) ∧ q3.cell? ⟨g4, 1, none⟩ = some (.int .u32 y) from ⟨HM.out.b4.cell, HM.out.b4.cell⟩)
    clear hb hy8 hgi
    refine hK.out _ _ ?_ (fun hHeld => ?_)
    · exact hS3
    clear hK K
    (try simp only [Act.put, List.setIfInBounds_toArray, List.set_cons_zero, List.set_cons_succ])
    refine wpAnyH_ready (rs := [1]) (by kernel_rfl) (by simp) (AllReadyH.cons rfl (fun K hK => ?_) AllReadyH.nil)
    go_simp
    refine (KCP.out _ HM.out.bo).mono ?_
    rintro e q1 ⟨u, M', rfl, ha, hc, hb⟩
    have HA := Lib.hid ha
    have HI := Lib.hid hc.bls
    replace HM := Lib.hid (HM.out.below hb)
    replace HBI := Lib.hid (HBI.out.below hb)
    have hS1 := (show q1.cell? ⟨g4, 0, none⟩ = some (.int .u32 x) ∧ q1.cell? ⟨g4, 1, none⟩ = some (.int .u32 y) from ⟨HM.out.b4.cell, HM.out.b4.cell⟩)
    obtain ⟨A1, c1, rfl⟩ := own_slice' hc.row
    clear ha hc hb
    go_wp2_with fail
    refine hK.out _ _ ?_ (fun hHeld => ?_)
    · exact hS1
    clear hK K
    (try simp only [Act.put, List.setIfInBounds_toArray, List.set_cons_zero, List.set_cons_succ])
    refine wpAnyH_ready (rs := [10]) (by kernel_rfl) (by simp) (AllReadyH.cons rfl (fun K hK => ?_) AllReadyH.nil)
    go_simp
    (try simp only [r1, r2, r3, r4])
    refine (K1.out _ _ _ _ HM.out.bo.laid HA.out HI.out (box_pair HBI.out)).mono ?_
    rintro e q2 ⟨ga, R, c2, rfl, ha, hr, hrl, hc1, hc2, hb⟩
    have HR := Lib.hid hr
    have HAR := Lib.hid ha
    have HRL := Lib.hid hrl
    replace HM := Lib.hid (HM.out.below hb)
    have hS2 := (show q2.cell? ⟨g4, 0, none⟩ = some (.int .u32 x) ∧ q2.cell? ⟨g4, 1, none⟩ = some (.int .u32 y) from ⟨HM.out.b4.cell, HM.out.b4.cell⟩)
    clear ha hr hrl hb HA HI HBI
    go_wp2_with fail
    refine hK.out _ _ ?_ (fun hHeld => ?_)
    · exact hS2
    clear hK K
    (try simp only [Act.put, List.setIfInBounds_toArray, List.set_cons_zero, List.set_cons_succ])
    refine ByHand.take_yes (v := ?_) 11 46 rfl rfl (by kernel_rfl) (by kernel_rfl) (by kernel_rfl) (fun _ _ _ h => h) (by rfl) ?_ (by assumption) ?_
    rotate_left
    · intro w' hSw
      (try dsimp only at hSw)
      go_simp
      all_goals with_reducible rfl
    (try simp only [Act.put, List.setIfInBounds_toArray, List.set_cons_zero, List.set_cons_succ])
    refine ByHand.take_yes (v := ?_) 12 58 rfl rfl (by kernel_rfl) (by kernel_rfl) (by kernel_rfl) (fun _ _ _ h => h) (by rfl) ?_ (by assumption) ?_
    rotate_left
    · intro w' hSw
      (try dsimp only at hSw)
      go_simp
      all_goals with_reducible rfl
    (try simp only [Act.put, List.setIfInBounds_toArray, List.set_cons_zero, List.set_cons_succ])
    refine ByHand.take_yes (v := ?_) 13 59 rfl rfl (by kernel_rfl) (by kernel_rfl) (by kernel_rfl) (fun _ _ _ h => h) (by rfl) ?_ (by assumption) ?_
    rotate_left
    · intro w' hSw
      (try dsimp only at hSw)
      go_simp
      all_goals with_reducible rfl
    (try simp only [Act.put, List.setIfInBounds_toArray, List.set_cons_zero, List.set_cons_succ])
    refine ByHand.take_yes (v := ?_) 14 60 rfl rfl (by kernel_rfl) (by kernel_rfl) (by kernel_rfl) (fun _ _ _ h => h) (by rfl) ?_ (by assumption) ?_
    rotate_left
    · intro w' hSw
      (try dsimp only at hSw)
      go_simp
      all_goals with_reducible rfl
    (try simp only [Act.put, List.setIfInBounds_toArray, List.set_cons_zero, List.set_cons_succ])
    refine ByHand.take_yes (v := ?_) 15 8 rfl rfl (by kernel_rfl) (by kernel_rfl) (by kernel_rfl) (fun _ _ _ h => h) (by rfl) ?_ (by assumption) ?_
    rotate_left
    · intro w' hSw
      (try dsimp only at hSw)
      go_simp
      all_goals with_reducible rfl
    (try simp only [Act.put, List.setIfInBounds_toArray, List.set_cons_zero, List.set_cons_succ])
    refine ByHand.take_yes (v := ?_) 16 9 rfl rfl (by kernel_rfl) (by kernel_rfl) (by kernel_rfl) (fun _ _ _ h => h) (by rfl) ?_ (by assumption) ?_
    rotate_left
    · intro w' hSw
      (try dsimp only at hSw)
      go_simp
      all_goals with_reducible rfl
    (try simp only [Act.put, List.setIfInBounds_toArray, List.set_cons_zero, List.set_cons_succ])
    refine ByHand.take_yes (v := ?_) 17 10 rfl rfl (by kernel_rfl) (by kernel_rfl) (by kernel_rfl) (fun _ _ _ h => h) (by rfl) ?_ (by assumption) ?_
    rotate_left
    · intro w' hSw
      (try dsimp only at hSw)
      go_simp
      all_goals with_reducible rfl
    (try simp only [Act.put, List.setIfInBounds_toArray, List.set_cons_zero, List.set_cons_succ])
    refine wpAnyH_done (by kernel_rfl) ?_ _
    clear r1 r2 r3 r4 hS0 hS1 hS2 hS3
    have hcl : M.length ≤ c2 := Nat.le_trans (Nat.le_succ _) hc1
    have hcI : (M.length : Int) ≤ (c2 : Int) := Int.ofNat_le.2 hcl
    clear hc1 hc2
    have r5 := HRR.out.2.2.2.2.1
    go_upto_region 12 with (first
      | (go_at_call 20; (refine (KSB.out _ _ _ _ _ (KTK.out _ _ _ _ HAR.out HRL.out HR.out).2 (KTK.out _ _ _ _ HAR.out HRL.out HR.out).1 (bls_up HM.out.bo.bls HM.out.bo.low.size)).mono ?_); rintro e q4 ⟨rfl, hb⟩; replace HM := Lib.hid (HM.out.below hb); replace HR := Lib.hid (bls_below HR.out hb); clear hb))
    clear r5 hcl hcI
    obtain ⟨A6, c6, hr6, hi6⟩ := KNB.out _ _ _ _ _ HAR.out HRL.out HR.out rfl
    have H6 := Lib.hid hr6
    have HI6 := Lib.hid hi6
    have HSD1 := Lib.hid (HSD.out A6 c6)
    have HSD2 := Lib.hid (HSD'.out A6 c6)
    have HOD1 := Lib.hid (HOD.out A6 c6)
    have HZD1 := Lib.hid (HZD.out A6 c6)
    have HDC1 := Lib.hid (HDC.out A6 c6)
    have KSI1 := Lib.hid (fun A7 c7 W => KSI.out A6 c6 A7 c7 W)
    generalize (⟨mo, x, x - mn, cv, 2, .slice A6 2 c6, [4, 5]⟩ : Bl).cells = D at *
    clear hr6 hi6
    go_upto_region 13 with (first
      | (refine load_mid_want (by rfl) 28 _ rfl ga (M.length * 6) rfl D _ H6.out Tryd.underlying28 rfl HSD2.out ?_)
      | (refine o_store rfl 28 _ _ rfl rfl q4.heap.size D rfl rfl _ _ (heap_alloc_last _ _) HSD1.out HZD1.out HOD1.out ?_; intro q5 hr ho; have hb := below_one_of (below_one q4 _) ho (Nat.le_refl _) (below_one q4 _).size; have HB1 := Lib.hid hr; replace HM := Lib.hid (HM.out.below hb); replace HR := Lib.hid (bls_below HR.out hb); replace HI6 := Lib.hid ((HI6.out.below hb).more hb.size); clear hr ho hb))
    have r1 := HRR.out.1
    have r2 := HRR.out.2.1
    have r3 := HRR.out.2.2.1
    have r4 := HRR.out.2.2.2.1
    have r6 := HRR.out.2.2.2.2.2.1
    have r7 := HRR.out.2.2.2.2.2.2.1
    have r8 := HRR.out.2.2.2.2.2.2.2
    obtain ⟨g1, hg1⟩ : ∃ g, g = q4.heap.size := ⟨_, rfl⟩
    rw [← hg1]
    rw [← hg1] at HB1
    clear hg1
    have f0 : q5.cell? ⟨g4, 0, none⟩ = some (.int .u32 x) := HM.out.b4.cell
    have f1 : q5.cell? ⟨g4, 1, none⟩ = some (.int .u32 y) := HM.out.b4.cell
    have z0 : q5.cell? ⟨g1, 0, none⟩ = some (.int .i64 mo) := HB1.out.cell.trans (by rw [HDC1.out]; rfl)
    have z2 : q5.cell? ⟨g1, 2, none⟩ = some (.int .i64 (x - mn)) := HB1.out.cell.trans (by rw [HDC1.out]; rfl)
    have z4 : q5.cell? ⟨g1, 4, none⟩ = some (.int .i64 2) := HB1.out.cell.trans (by rw [HDC1.out]; rfl)
    have z5 : q5.cell? ⟨g1, 5, none⟩ = some (.slice A6 2 c6) := HB1.out.cell.trans (by rw [HDC1.out]; rfl)
    obtain ⟨gl, wl, e1, e2, hl6, hb6⟩ := boxd_new q5 #[.int .i64 4, .int .i64 5] 3
    have HLB := Lib.hid hb6
    have HLI := Lib.hid (box_pair hl6)
    clear hl6 hb6
    go_upto_region 16 with (first
      | (go_at_call 26; rw [← e2, ← e1]; (refine (KIN.out _ _ _ ((HI6.out.below HLB.out).more HLB.out.size) HLI.out).mono ?_); rintro e q6 ⟨rfl, nq6, hw6⟩; have hb := (show Below q5.heap.size q5 q6 by rw [hw6]; exact below_drewN HLB.out nq6); replace HM := Lib.hid (HM.out.below hb); replace HR := Lib.hid (bls_below HR.out hb); replace HI6 := Lib.hid ((HI6.out.below hb).more hb.size); replace HB1 := Lib.hid (HB1.out.below hb); clear hb hw6))
    clear f0 f1 z0 z2 z4 z5 e1 e2 r1 r2 r3 r4 r6 r7 r8
    have HR9 : Hid (Bls q6 q6.heap.size (.slice (some ⟨ga, 0, none⟩) (M.length + 1) c2) R) := (show Bls _ _ _ _ by rw [← HRL.out]; exact HR.out)
    go_upto_region 17 with (first
      | (go_at_call 11; (refine (K2.out _ _ _ HM.out.bo.laid HAR.out HR9.out).mono ?_); rintro e q7 ⟨A7, c7, rfl, hi, hb⟩; have HI7 := Lib.hid hi; replace HM := Lib.hid (HM.out.below hb); replace HI6 := Lib.hid ((HI6.out.below hb).more hb.size); replace HB1 := Lib.hid (HB1.out.below hb); have HSE1 := Lib.hid (HSD.out A7 c7); have HOE1 := Lib.hid (HOD.out A7 c7); have HZE1 := Lib.hid (HZD.out A7 c7); have KSI2 := Lib.hid (fun W => KSI1.out A7 c7 W); clear hi hb; generalize (⟨mo, x, x - mn, cv, 2, .slice A7 2 c7, [4, 5]⟩ : Bl).cells = D2 at *)
      | (refine o_store rfl 28 _ _ rfl rfl q7.heap.size D2 rfl rfl _ _ (heap_alloc_last _ _) HSE1.out HZE1.out HOE1.out ?_; intro q8 hr ho; have hb := below_one_of (below_one q7 _) ho (Nat.le_refl _) (below_one q7 _).size; have HB2 := Lib.hid hr; replace HM := Lib.hid (HM.out.below hb); replace HI6 := Lib.hid ((HI6.out.below hb).more hb.size); replace HI7 := Lib.hid ((HI7.out.below hb).more hb.size); replace HB1 := Lib.hid (HB1.out.below hb); clear hr ho hb))
    obtain ⟨g2, hg2⟩ : ∃ g, g = q7.heap.size := ⟨_, rfl⟩
    rw [← hg2]
    rw [← hg2] at HB2
    clear hg2
    go_wp2_with (first
      | (refine o_load (by rfl) 28 _ rfl g1 rfl _ _ _ HB1.out Tryd.underlying28 rfl HSD1.out ?_)
      | (refine o_load (by rfl) 28 _ rfl g2 rfl _ _ _ HB2.out Tryd.underlying28 rfl HSE1.out ?_)
      | (go_at_call 19; (refine (KSI2.out _ HI6.out HI7.out).mono ?_); rintro e q9 ⟨rfl, hb⟩; replace HM := Lib.hid (HM.out.below hb); have z2 : q9.cell? ⟨g1, 2, none⟩ = some (.int .i64 (x - mn)) := (HB1.out.below hb).cell.trans (by rw [HDC1.out]; rfl); have z3 : q9.cell? ⟨g1, 3, none⟩ = some (.int .i64 cv) := (HB1.out.below hb).cell.trans (by rw [HDC1.out]; rfl); clear hb)
      | (go_at_call 9; (with_reducible refine (wakes_bill _ HM.out.bo.laid).mono ?_); rintro e y9 ⟨rfl, hb⟩; replace HM := Lib.hid (HM.out.below hb); clear hb))
    go_ret
    exact ⟨rfl, HM.out.bo.low⟩
theorem ahead_walk (M : List Bl) (x y gap : Int) (v : Value) (w : World) (hv : Bls w w.heap.size v M) (LD : Hid (Laid w)) (x0 : 0 ≤ x) (x1 : x ≤ 4294967295) (y0 : 0 ≤ y) (y1 : y ≤ 4294967295) (g0 : 0 ≤ gap) (g1 : gap ≤ 255)  : Calls Tryd.prog 7 #[v, .agg #[.int .u32 x, .int .u32 y], .int .u8 gap] w fun e w' => e = .returned (.bool true) ∧ Below w.heap.size w w' := by
  cases h1 : manyB M with
  | true => exact ahead_many M x y gap v w hv LD h1
  | false =>
    cases hg : goodM M with
    | false => exact ahead_bad M x y gap v w hv LD h1 hg
    | true =>
      rcases Nat.eq_zero_or_pos M.length with h0 | h0
      · by_cases hf : 2879 < nextM M + gap
        · exact ahead_far0 M x y gap v w hv LD g0 g1 h1 hg _ rfl h0 hf
        · exact ahead_main0 M x y gap v w hv LD x0 x1 y0 y1 g0 g1 h1 hg _ rfl h0 hf (by omega)
      · obtain ⟨i, hi⟩ : ∃ i, M.length = i + 1 := ⟨M.length - 1, by omega⟩
        obtain ⟨z, hz⟩ : ∃ z, M[i]? = some z := ⟨_, List.getElem?_eq_getElem (by omega)⟩
        by_cases hf : 2879 < nextM M + gap
        · exact ahead_far1 M x y gap v w hv LD g0 g1 h1 hg _ rfl i hi z hz hf
        · by_cases hn : 390 < M.length
          · exact ahead_long M x y gap v w hv LD g0 g1 h1 hg _ rfl i hi z hz hf hn
          · exact ahead_main1 M x y gap v w hv LD x0 x1 y0 y1 g0 g1 h1 hg _ rfl i hi z hz hf hn

set_option maxRecDepth 100000 in
theorem billAhead_lifted (os : Os) (started : os.Started) (H : Type) (enc : TypeId × Value → H) :
    ReturnsInHanded {} Tryd.checked os 7 .any (fun w args => (Rows.billAheadSpec.pre enc Tryd.prog Tryd.f7 Rows.billAheadRow.domain false w args ∧ laidMetH Tryd.prog Rows.billAheadRow.laid w) ∧ sizedMet enc Tryd.prog Tryd.f7 (OpenSpec.ofChange Rows.billAheadSpec) false w args) (Rows.billAheadSpec.post enc Tryd.prog Tryd.f7 false true false false) := by
  refine Door.law_lifted (C := Tryd.checked) (tb := 4) (by kernel_rfl) started (by kernel_rfl) Tryd.func7
    (ChangeSpec.witness_shaped (enc := enc) (C := Tryd.checked) (os := os) (X := fun w _ => laidMetH Tryd.prog Rows.billAheadRow.laid w) false (World.laidAll Tryd.prog os Rows.billAheadRow.laid) #[Value.slice none 0 0, .agg #[.int .u32 0, .int .u32 0], .int .u8 0] 8 (World.laidAll_os _ _ _)
      (World.shaped_of_ZipB (by kernel_rfl) (by kernel_rfl)) (by kernel_rfl) (by kernel_rfl) (by kernel_rfl)
      (by rw [MakeChecks.laidMetH_plain _ _ _ (by kernel_rfl)]; exact laidMet_laidAll _ (by kernel_rfl) (by kernel_rfl)))
    (by kernel_rfl) (by kernel_rfl) rfl rfl Tryd.underlying4 ?_
  intro W base args ds p hval0 hA0 hL
  have hval : ∀ (j : Nat) t v, Tryd.f7.params[j]? = some t → args[j]? = some v → Value.okWide Tryd.prog W .any base t v := hval0
  have hA : DataW.TrodAll enc Tryd.prog W 0 (fun _ => true) true Tryd.f7.params.toList args.toList ds p := hA0
  clear hval0 hA0
  rw [MakeChecks.laidMetH_plain _ _ _ (by kernel_rfl)] at hL
  rw [Tryd.params7] at hA hval
  obtain ⟨v0, vs0, d0, ds0, p0, q0, hargs, rfl, rfl, h0, r0⟩ := trodAll_cons hA
  obtain ⟨v1, vs1, d1, ds1, p1, q1, rfl, rfl, rfl, h1, r1⟩ := trodAll_cons r0
  obtain ⟨v2, vs2, d2, ds2, p2, q2, rfl, rfl, rfl, h2, r2⟩ := trodAll_cons r1
  obtain ⟨rfl, rfl, rfl⟩ := trodAll_nil r2
  obtain rfl : args = #[v0, v1, v2] := by cases args; simp_all
  refine ⟨rfl, ?_⟩
  obtain ⟨M, hv⟩ := open_bills (hval 0 22 v0 rfl rfl) h0
  obtain ⟨zs1, hzl1, rfl, hw1⟩ := Shell.open_arr Tryd.underlying53 Tryd.underlying52 (by kernel_rfl) (by kernel_rfl) (hval 1 53 v1 rfl rfl) h1
  obtain ⟨x, y, rfl⟩ := Shell.list2 zs1 hzl1
  have bx : 0 ≤ x ∧ x ≤ 4294967295 := by simpa [Lit.wf, IntKind.min, IntKind.max, IntKind.bits, IntKind.signed] using hw1 x (by simp)
  have by_ : 0 ≤ y ∧ y ≤ 4294967295 := by simpa [Lit.wf, IntKind.min, IntKind.max, IntKind.bits, IntKind.signed] using hw1 y (by simp)
  obtain ⟨gap, rfl, -, -, g2⟩ := open_int Tryd.underlying5 (hval 2 5 v2 rfl rfl) h2
  have bg : 0 ≤ gap ∧ gap ≤ 255 := by simpa [Lit.wf, IntKind.min, IntKind.max, IntKind.bits, IntKind.signed] using g2
  have LD := Lib.hid (Date.laid_of hL (by exact List.mem_cons_self ..))
  exact ahead_walk M x y gap v0 W hv LD bx.1 bx.2 by_.1 by_.2 bg.1 bg.2

theorem billAhead_over : Rows.billAheadRow.holds Tryd.pinned (OpenSpec.ofChange Rows.billAheadSpec) :=
  OpenClaim.holds_of_wide 7 Tryd.f7 rfl rfl rfl rfl rfl rfl rfl ⟨rfl, rfl, rfl, rfl, rfl⟩ rfl rfl rfl rfl rfl (by kernel_rfl) Tryd.func7 (by kernel_rfl)
    (of_decide_eq_true (by kernel_rfl)) (by unfold Func.isWrapper; first | (rw [if_pos (by decide +kernel)]; kernel_rfl) | (rw [if_neg (by decide +kernel)]; exact ⟨rfl, rfl⟩))
    (fun os st H enc _ => billAhead_lifted os st H enc)

/-- The statement: the card. -/
theorem billAhead_proved : Rows.BillAheadCardSaid :=
  Claim7.holds_tied_plain_at .later [] [.data] true Rows.billAheadCard.stood.harness false
    billAhead_over (fun _ h => by cases h) (by kernel_rfl) (fun _ h => by cases h) billAhead_row_tie rfl ⟨rfl, rfl⟩ (by kernel_rfl) rfl
    (fun f fn hf hfn => by
      obtain rfl : f = 7 := Option.some.inj ((show Tryd.prog.funcNamed "annuity/annuitylaw19.BillAhead" = some 7 by kernel_rfl).symm.trans hf) |>.symm
      obtain rfl : fn = Tryd.f7 := (Option.some.inj (Tryd.func7.symm.trans hfn)).symm
      exact ⟨by kernel_rfl, fun j t ht => by
        have hall : (Tryd.f7.params.toList.all fun u => !Tryd.prog.wantsStandIn u) = true := by kernel_rfl
        exact (show Tryd.prog.wantsStandIn t = false by simpa using List.all_eq_true.1 hall t (Array.mem_def.1 (Array.mem_of_getElem? ht)))⟩)
    (by kernel_rfl)
end Go.Proofs.YtjjbdemhccpllaaDoor.Law
