/- The examples that every law of layer 6 asks beside its own sentence. -/
import Derived.Test.YtjcgclfcompioaaSpan
namespace Go.Proofs.Ytjcgclfcompioaa.Span
open Go.ChangeShapes Go.WideShapes Go.ChangeAt Go.RowKit Pairs Slice

theorem chg_ex {f : Bool → Bool → Bool} {a b zs js : List (Int × Int)} {g k : Bool} {e : Int} (h : Chg f a b g k zs e) (hg : g = true) (hk : k = true) (hj : IsJ f a b js) (hl : js.length ≤ 1000) : zs = js ∧ e = 0 := by
  have h2 := chg_yes (f := f) (a := a) (b := b) hg hk hj
  have h3 := h.same h2
  rw [show resL js = js from if_pos hl, show resE js = 0 from if_pos hl] at h3
  exact h3
theorem ex_add : IsJ orF [(0, 5)] [(5, 9)] [(0, 9)] := ⟨by kernel_rfl, fun d => by
  rw [has_one, has_one, has_one]
  show decide ((0 : Int) ≤ d ∧ d < 9) = (decide ((0 : Int) ≤ d ∧ d < 5) || decide ((5 : Int) ≤ d ∧ d < 9))
  rw [← Bool.decide_or]
  exact decide_eq_decide.2 (by omega)⟩
theorem ex_cut : IsJ lessF [(0, 9)] [(2, 4)] [(0, 2), (4, 9)] := ⟨by kernel_rfl, fun d => by
  rw [has_one, has_one, has_cons, has_one]
  show (decide ((0 : Int) ≤ d ∧ d < 2) || decide ((4 : Int) ≤ d ∧ d < 9)) = (decide ((0 : Int) ≤ d ∧ d < 9) && !decide ((2 : Int) ≤ d ∧ d < 4))
  by_cases h : (2 : Int) ≤ d ∧ d < 4
  · rw [decide_eq_true h, decide_eq_false (by omega), decide_eq_false (by omega)]; simp
  · rw [decide_eq_false h, ← Bool.decide_or, Bool.not_false, Bool.and_true]
    exact decide_eq_decide.2 (by omega)⟩
theorem ex_both : IsJ andF [(0, 2), (4, 9)] [(1, 6)] [(1, 2), (4, 6)] := ⟨by kernel_rfl, fun d => by
  rw [has_cons, has_one (4, 6), has_cons (0, 2), has_one (4, 9), has_one (1, 6)]
  show (decide ((1 : Int) ≤ d ∧ d < 2) || decide ((4 : Int) ≤ d ∧ d < 6)) = ((decide ((0 : Int) ≤ d ∧ d < 2) || decide ((4 : Int) ≤ d ∧ d < 9)) && decide ((1 : Int) ≤ d ∧ d < 6))
  rw [← Bool.decide_or, ← Bool.decide_or, ← Bool.decide_and]
  exact decide_eq_decide.2 (by omega)⟩
theorem ex_days : daysV [(1, 2), (4, 6)] = 3 := by kernel_rfl
theorem ex_has : hasV [(1, 2), (4, 6)] 5 = true ∧ hasV [(1, 2), (4, 6)] 3 = false := ⟨by kernel_rfl, by kernel_rfl⟩
theorem below_drew {B : Nat} {a w : World} (h : Below B a w) : Below B a w.drew := ⟨h.os, h.tape, h.output, h.size, h.block⟩
theorem quiet_below {w w' : World} {n : Nat} (h : w' = w.drewN n) : Below w.heap.size w w' := h ▸ below_drewN (Below.refl _ _) n
/-- An array of two that was laid: its cells, carried as a slice's are. -/
theorem lit_two (w : World) (T : TypeId) (a b : Int) : Ints (w.alloc (.cells #[.int .i64 a, .int .i64 b] T)) (w.alloc (.cells #[.int .i64 a, .int .i64 b] T)).heap.size .i64 (.slice (some ⟨w.heap.size, 0, none⟩) 2 2) [a, b] :=
  ⟨_, 2, rfl, by simp, fun h => (by cases h), fun _ => ⟨w.heap.size, 0, rfl, by simp, fun i hi => by
    rw [World.cell?_alloc_new]
    match i, hi with
    | 0, _ => rfl
    | 1, _ => rfl⟩⟩
theorem lit_three (w : World) (T : TypeId) (a b c : Int) : Ints (w.alloc (.cells #[.int .i64 a, .int .i64 b, .int .i64 c] T)) (w.alloc (.cells #[.int .i64 a, .int .i64 b, .int .i64 c] T)).heap.size .i64 (.slice (some ⟨w.heap.size, 0, none⟩) 3 3) [a, b, c] :=
  ⟨_, 3, rfl, by simp, fun h => (by cases h), fun _ => ⟨w.heap.size, 0, rfl, by simp, fun i hi => by
    rw [World.cell?_alloc_new]
    match i, hi with
    | 0, _ => rfl
    | 1, _ => rfl
    | 2, _ => rfl⟩⟩
theorem arr3_at {w : World} {B g : Nat} {a b c : Int} (h : Ints w B .i64 (.slice (some ⟨g, 0, none⟩) 3 3) [a, b, c]) : w.cell? ⟨g, 0, none⟩ = some (.int .i64 a) ∧ w.cell? ⟨g, 1, none⟩ = some (.int .i64 b) ∧ w.cell? ⟨g, 2, none⟩ = some (.int .i64 c) := by
  obtain ⟨A', c', e, -, -, hc⟩ := h
  injection e with e1 e2 e3
  obtain ⟨x, off, hx, -, hcell⟩ := hc (by simp)
  rw [← e1] at hx
  injection hx with hx
  injection hx with h1 h2
  subst h1; subst h2
  exact ⟨hcell 0 (by simp), hcell 1 (by simp), hcell 2 (by simp)⟩
theorem arr_at {w : World} {B g : Nat} {a b : Int} (h : Ints w B .i64 (.slice (some ⟨g, 0, none⟩) 2 2) [a, b]) : w.cell? ⟨g, 0, none⟩ = some (.int .i64 a) ∧ w.cell? ⟨g, 1, none⟩ = some (.int .i64 b) := by
  obtain ⟨A', c', e, -, -, hc⟩ := h
  injection e with e1 e2 e3
  obtain ⟨x, off, hx, -, hcell⟩ := hc (by simp)
  rw [← e1] at hx
  injection hx with hx
  injection hx with h1 h2
  subst h1; subst h2
  exact ⟨hcell 0 (by simp), hcell 1 (by simp)⟩
theorem prs_at {w : World} {B n c : Nat} {A : Option Addr} {zs : List (Int × Int)} (h : Prs w B (.slice A n c) zs) (h0 : 0 < zs.length) : ∃ b off, A = some ⟨b, off, none⟩ ∧ b < B ∧
    ∀ i, i < zs.length → w.cell? ⟨b, off + i * 2, none⟩ = some (.int .i64 (zs.getD i (0, 0)).1) ∧ w.cell? ⟨b, off + i * 2 + 1, none⟩ = some (.int .i64 (zs.getD i (0, 0)).2) := by
  obtain ⟨A', c', e, -, -, hc⟩ := h
  injection e with e1 e2 e3
  subst e1
  exact hc h0
/-- What Add, Cut, Both tell where all goes well. -/
theorem chg_well {f : Bool → Bool → Bool} {a b zs : List (Int × Int)} {g k : Bool} {e : Int} (h : Chg f a b g k zs e) (hg : g = true) (hk : k = true) (hf : ∀ js, IsJ f a b js → js.length ≤ 1000) : e = 0 ∧ IsJ f a b zs ∧ goodB zs = true := by
  have hgood := h.good
  obtain ⟨js, hj, h1, h2⟩ := h.yes hg hk
  have hl := hf js hj
  rw [show resL js = js from if_pos hl] at h1
  rw [show resE js = 0 from if_pos hl] at h2
  subst h1
  exact ⟨h2, hj, hgood⟩
theorem one_norm {x y : Int} (h : argB x y = true) : normB (-1) [(x, y)] = true := (good_norm (one_good h)).1
theorem days_args {p k : Nat} (h : (p : Int) < 87659) (h2 : (k : Int) < 87659 - (p : Int)) : argB (p : Int) ((p : Int) + 1 + (k : Int)) = true := decide_eq_true (by omega)
theorem days_wrap {p k : Nat} (h : (p : Int) < 87659) (h2 : (k : Int) < 87659 - (p : Int)) : wrap64 ((p : Int) + 1 + (k : Int)) = (p : Int) + 1 + (k : Int) := by unfold wrap64; omega
theorem lit_list (w : World) (T : TypeId) (zs : List Int) (hl : zs.length ≤ 9223372036854775807) :
    Ints (w.alloc (.cells (zs.map (Value.int .i64)).toArray T)) (w.alloc (.cells (zs.map (Value.int .i64)).toArray T)).heap.size .i64 (.slice (some ⟨w.heap.size, 0, none⟩) zs.length zs.length) zs := by
  refine ⟨some ⟨w.heap.size, 0, none⟩, zs.length, rfl, hl, fun h => (by cases h), fun h0 => ⟨w.heap.size, 0, rfl, by simp, fun i hi => ?_⟩⟩
  rw [World.cell?_alloc_new]
  simp [List.getD_eq_getElem?_getD, hi]
theorem lit_five (w : World) (T : TypeId) (a b c d e : Int) : Ints (w.alloc (.cells #[.int .i64 a, .int .i64 b, .int .i64 c, .int .i64 d, .int .i64 e] T)) (w.alloc (.cells #[.int .i64 a, .int .i64 b, .int .i64 c, .int .i64 d, .int .i64 e] T)).heap.size .i64 (.slice (some ⟨w.heap.size, 0, none⟩) 5 5) [a, b, c, d, e] := lit_list w T [a, b, c, d, e] (by simp)
theorem look_at {w : World} {B g n c : Nat} {zs : List Int} (h : Ints w B .i64 (.slice (some ⟨g, 0, none⟩) n c) zs) {j : Nat} (hj : j < zs.length) : w.cell? ⟨g, j, none⟩ = some (.int .i64 (zs.getD j 0)) := by
  obtain ⟨A', c', e, -, -, hc⟩ := h
  injection e with e1 e2 e3
  obtain ⟨x, off, hx, -, hcell⟩ := hc (by omega)
  rw [← e1] at hx
  injection hx with hx
  injection hx with h1 h2
  subst h1; subst h2
  have := hcell j hj
  rwa [Nat.zero_add] at this
theorem has_one' (x y d : Int) : hasB [(x, y)] d = (decide (x ≤ d) && decide (d < y)) := by rw [has_one, ← Bool.decide_and]
theorem hasV_good {zs : List (Int × Int)} (h : goodB zs = true) (d : Int) : hasV zs d = hasB zs d := by unfold hasV; rw [h]; rfl
theorem wrap_next {j : Nat} (h : j ≤ 200) : wrap64 ((j : Int) + 1) = (j : Int) + 1 := by unfold wrap64; omega
theorem loop_less {j n : Nat} (h : j < n) : n - (intOf (.int .i64 ((j : Int) + 1))).toNat < n - (intOf (.int .i64 (j : Int))).toNat := by
  show n - ((j : Int) + 1).toNat < n - ((j : Int)).toNat
  omega
theorem num_next (j : Nat) : Value.int .i64 ((j : Int) + 1) = .int .i64 ((j + 1 : Nat) : Int) := rfl
/-! A set less many stretches, one by one. -/
theorem isJ_swap {a b zs : List (Int × Int)} (h : IsJ andF a b zs) : IsJ andF b a zs := ⟨h.1, fun d => (h.2 d).trans (Bool.and_comm _ _)⟩
theorem isJ_self {a : List (Int × Int)} (h : normB (-1) a = true) : IsJ andF a a a := ⟨h, fun _ => (Bool.and_self _).symm⟩
theorem isJ_less0 {a : List (Int × Int)} (h : normB (-1) a = true) (b : List (Int × Int)) : IsJ lessF a (b.take 0) a := ⟨h, fun d => by show hasB a d = (hasB a d && !(false)); simp⟩
theorem isJ_less {a b ds js : List (Int × Int)} {j : Nat} (hj : j < b.length) (h : IsJ lessF a (b.take j) ds) (k : IsJ lessF ds [((b.getD j (0, 0)).1, (b.getD j (0, 0)).2)] js) : IsJ lessF a (b.take (j + 1)) js :=
  ⟨k.1, fun d => by
    rw [k.2 d, h.2 d, has_next b j hj d, has_one]
    show ((hasB a d && !(hasB (b.take j) d)) && !(decide ((b.getD j (0, 0)).1 ≤ d ∧ d < (b.getD j (0, 0)).2))) = (hasB a d && !(hasB (b.take j) d || decide ((b.getD j (0, 0)).1 ≤ d ∧ d < (b.getD j (0, 0)).2)))
    rw [Bool.not_or, Bool.and_assoc]⟩
theorem getD_in {b : List (Int × Int)} {j : Nat} (hj : j < b.length) : b.getD j (0, 0) ∈ b := by
  rw [List.getD_eq_getElem?_getD, List.getElem?_eq_getElem hj]
  exact List.getElem_mem hj
theorem arg_of {b : List (Int × Int)} (h : normB (-1) b = true) {j : Nat} (hj : j < b.length) : argB (b.getD j (0, 0)).1 (b.getD j (0, 0)).2 = true := by
  have := norm_mem h _ (getD_in hj)
  exact decide_eq_true (by omega)
theorem good_of {a : List (Int × Int)} (h : normB (-1) a = true) (hl : a.length ≤ 1000) : goodB a = true := by
  unfold goodB; rw [h, decide_eq_true hl]; rfl
theorem cut_few {a b ds : List (Int × Int)} (ha : normB (-1) a = true) (hb : normB (-1) b = true) (la : a.length ≤ 200) (lb : b.length ≤ 200) {j : Nat} (h : IsJ lessF a (b.take j) ds) : ds.length ≤ 400 := by
  have := less_few ha (norm_take j hb) h
  have : (b.take j).length ≤ b.length := by rw [List.length_take]; exact Nat.min_le_right _ _
  omega
theorem days_less {a b x y : List (Int × Int)} (ga : goodB a = true) (gx : goodB x = true) (gy : goodB y = true) (hx : IsJ andF a b x) (hy : IsJ lessF a b y) :
    daysV x = daysV a - daysV y ∧ wrap64 (daysV a - daysV y) = daysV a - daysV y := by
  have h := days_parts (good_norm ga).1 hx hy
  have r1 := days_range (good_norm ga).1
  have l1 := last_le (good_norm ga).1 (by omega)
  have r2 := days_range hy.1
  unfold daysV
  rw [ga, gx, gy]
  simp only [if_true]
  refine ⟨by omega, ?_⟩
  have r3 := days_range hx.1
  unfold wrap64; omega
set_option maxHeartbeats 1000000 in
theorem wakes_span (w : World) : Calls Try.prog 8 #[] w fun e w' => e = .returned (.bool true) ∧ Below w.heap.size w w' := by
  go_enter Try.func8, Try.ntmps8
  go_wp2_with fail
  have hcc := u_add [(0, 5)] 5 9 (.slice (some ⟨w.heap.size, 0, none⟩) 1 1) _ (w.alloc (.cells #[.int .i64 0, .int .i64 5] 51)) (Nat.le_refl _) (prs_new w (0, 5) _) (by simp)
  refine hcc.mono ?_
  clear hcc
  rintro e w1 ⟨v1, zs, n, rfl, hc, hp, hb⟩
  obtain ⟨rfl, rfl⟩ := chg_ex hc (by kernel_rfl) (by kernel_rfl) ex_add (by simp)
  clear hc
  have B1 := Lib.hid (below_via (below_new (Below.refl w.heap.size w) (.cells #[.int .i64 0, .int .i64 5] 51)) hb)
  obtain ⟨A1, c1, rfl⟩ := hp.shape
  have P1 := Lib.hid hp
  clear hp hb
  go_wp2_with fail
  have hcc := u_cut [(0, 9)] 2 4 _ _ w1 (Nat.le_refl _) P1.out (by simp)
  refine hcc.mono ?_
  clear hcc
  rintro e w2 ⟨v2, zs, n, rfl, hc, hp, hb⟩
  obtain ⟨rfl, rfl⟩ := chg_ex hc (by kernel_rfl) (by kernel_rfl) ex_cut (by simp)
  clear hc
  have B2 := Lib.hid (below_via B1.out hb)
  obtain ⟨A2, c2, rfl⟩ := hp.shape
  have P2 := Lib.hid hp
  have P1 := Lib.hid ((P1.out.below hb).more hb.size)
  clear hp hb
  go_wp2_with fail
  have hcc := u_both [(0, 2), (4, 9)] [(1, 6)] _ (.slice (some ⟨w2.heap.size, 0, none⟩) 1 1) _ (w2.alloc (.cells #[.int .i64 1, .int .i64 6] 51)) (Nat.le_refl _) ((P2.out.alloc (Nat.le_refl _) _).more (by simp)) (prs_new w2 (1, 6) _) (by simp) (by simp)
  refine hcc.mono ?_
  clear hcc
  rintro e w3 ⟨v3, zs, n, rfl, hc, hp, hb⟩
  obtain ⟨rfl, rfl⟩ := chg_ex hc (by kernel_rfl) (by kernel_rfl) ex_both (by simp)
  clear hc
  have B3 := Lib.hid (below_via (below_new B2.out (.cells #[.int .i64 1, .int .i64 6] 51)) hb)
  obtain ⟨A3, c3, rfl⟩ := hp.shape
  have P3 := Lib.hid hp
  have P1 := Lib.hid (((P1.out.alloc (Nat.le_refl _) (.cells #[.int .i64 1, .int .i64 6] 51)).more (B' := _) (by simp)).below hb)
  clear hp hb
  obtain ⟨g1, f1, rfl, -, hc1⟩ := prs_at P1.out (by simp)
  have hx : w3.cell? ⟨g1, f1 + 0 * 2 + 1, none⟩ = some (.int .i64 9) := (hc1 0 (by simp)).2
  rw [Nat.zero_mul, Nat.add_zero] at hx
  clear hc1 P1 P2
  go_wp2_with fail
  refine (u_days _ _ _ w3 (Nat.le_refl _) P3.out (by simp)).mono ?_
  rw [ex_days]
  rintro e w4 ⟨rfl, hb⟩
  have P3 := Lib.hid ((P3.out.below hb).more hb.size)
  have B3 := Lib.hid (below_via B3.out hb)
  clear hb hx
  go_wp2_with fail
  refine (u_has _ 5 _ _ w4 (Nat.le_refl _) P3.out (by simp)).mono ?_
  rw [ex_has.1]
  rintro e w5 ⟨rfl, hb⟩
  have P3 := Lib.hid ((P3.out.below hb).more hb.size)
  have B3 := Lib.hid (below_via B3.out hb)
  clear hb
  go_wp2_with fail
  refine (u_has _ 3 _ _ w5 (Nat.le_refl _) P3.out (by simp)).mono ?_
  rw [ex_has.2]
  rintro e w6 ⟨rfl, hb⟩
  have B3 := Lib.hid (below_via B3.out hb)
  clear hb
  go_wp2_with fail
  go_ret
  exact ⟨rfl, B3.out⟩
end Go.Proofs.Ytjcgclfcompioaa.Span
