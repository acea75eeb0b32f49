/- The document's own Add, Cut, Both, at any stretches. -/
import Derived.Test.YtjcgclfcompioaaRefJoined0
import Derived.Test.YtjcgclfcompioaaRefJoined1
import Derived.Test.YtjcgclfcompioaaRefJoined2
namespace Go.Proofs.Ytjcgclfcompioaa.Span
open Go.ChangeShapes Go.WideShapes Go.ChangeAt Go.RowKit Pairs Slice

def argB (x y : Int) : Bool := decide (0 ≤ x ∧ x < y ∧ y ≤ 87659)
/-- What Add, Cut, Both tell: a set and the error's number. -/
structure Chg (f : Bool → Bool → Bool) (a b : List (Int × Int)) (g k : Bool) (zs : List (Int × Int)) (e : Int) : Prop where
  form : g = false → zs = [] ∧ e = 11
  arg : g = true → k = false → zs = [] ∧ e = 1
  yes : g = true → k = true → ∃ js, IsJ f a b js ∧ zs = resL js ∧ e = resE js
section
variable {f : Bool → Bool → Bool} {a b zs zs' : List (Int × Int)} {g k : Bool} {e e' : Int}
theorem Chg.same (h : Chg f a b g k zs e) (h' : Chg f a b g k zs' e') : zs = zs' ∧ e = e' := by
  cases g with
  | false =>
    obtain ⟨rfl, rfl⟩ := h.form rfl
    obtain ⟨rfl, rfl⟩ := h'.form rfl
    exact ⟨rfl, rfl⟩
  | true =>
    cases k with
    | false =>
      obtain ⟨rfl, rfl⟩ := h.arg rfl rfl
      obtain ⟨rfl, rfl⟩ := h'.arg rfl rfl
      exact ⟨rfl, rfl⟩
    | true =>
      obtain ⟨js, j1, rfl, rfl⟩ := h.yes rfl rfl
      obtain ⟨js', j1', rfl, rfl⟩ := h'.yes rfl rfl
      obtain rfl := isJ_same j1 j1'
      exact ⟨rfl, rfl⟩
theorem chg_form (h : g = false) : Chg f a b g k [] 11 := ⟨fun _ => ⟨rfl, rfl⟩, fun h' => (by rw [h] at h'; cases h'), fun h' => (by rw [h] at h'; cases h')⟩
theorem chg_arg (h : g = true) (h2 : k = false) : Chg f a b g k [] 1 := ⟨fun h' => (by rw [h] at h'; cases h'), fun _ _ => ⟨rfl, rfl⟩, fun _ h' => (by rw [h2] at h'; cases h')⟩
theorem chg_yes (h : g = true) (h2 : k = true) {js : List (Int × Int)} (hj : IsJ f a b js) : Chg f a b g k (resL js) (resE js) :=
  ⟨fun h' => (by rw [h] at h'; cases h'), fun _ h' => (by rw [h2] at h'; cases h'), fun _ _ => ⟨js, hj, rfl, rfl⟩⟩
theorem Chg.len (h : Chg f a b g k zs e) : zs.length ≤ 1000 := by
  cases g with
  | false => rw [(h.form rfl).1]; simp
  | true =>
    cases k with
    | false => rw [(h.arg rfl rfl).1]; simp
    | true =>
      obtain ⟨js, -, rfl, -⟩ := h.yes rfl rfl
      unfold resL
      split
      · assumption
      · simp
theorem res_good {js : List (Int × Int)} (h : normB (-1) js = true) : goodB (resL js) = true := by
  unfold resL
  split
  · rename_i hl
    unfold goodB; rw [h, decide_eq_true hl]; rfl
  · rfl
theorem Chg.good (h : Chg f a b g k zs e) : goodB zs = true := by
  cases g with
  | false => rw [(h.form rfl).1]; rfl
  | true =>
    cases k with
    | false => rw [(h.arg rfl rfl).1]; rfl
    | true =>
      obtain ⟨js, hj, rfl, -⟩ := h.yes rfl rfl
      exact res_good hj.1
end
theorem one_good {x y : Int} (h : argB x y = true) : goodB [(x, y)] = true := by
  have := of_decide_eq_true h
  unfold goodB
  rw [show normB (-1) [(x, y)] = true from (normB_cons _ _ _).2 ⟨by show (-1 : Int) < x ∧ x < y ∧ y ≤ 87659; omega, rfl⟩]
  rfl
theorem prs_one {w : World} {g : Nat} {p : Int × Int} {B : Nat} (hB : g < B) (h0 : w.cell? ⟨g, 0, none⟩ = some (.int .i64 p.1)) (h1 : w.cell? ⟨g, 1, none⟩ = some (.int .i64 p.2)) : Prs w B (.slice (some ⟨g, 0, none⟩) 1 1) [p] :=
  ⟨some ⟨g, 0, none⟩, 1, rfl, by simp, ⟨fun h => (by cases h), Nat.le_refl _⟩, fun _ => ⟨g, 0, rfl, hB, fun i hi => by
    obtain rfl : i = 0 := by simpa using hi
    exact ⟨h0, h1⟩⟩⟩
theorem prs_new (w : World) (p : Int × Int) (T : TypeId) : Prs (w.alloc (.cells #[.int .i64 p.1, .int .i64 p.2] T)) (w.alloc (.cells #[.int .i64 p.1, .int .i64 p.2] T)).heap.size (.slice (some ⟨w.heap.size, 0, none⟩) 1 1) [p] :=
  prs_one (by simp) (ends_cells w _ _ T).1 (ends_cells w _ _ T).2
section
variable (a : List (Int × Int)) (x y : Int) (va : Value) (B : Nat) (w : World)
theorem r_change_form (how : Int) (ha : Prs w B va a) (hg : goodB a = false) :
    Calls Try.prog 30 #[va, .int .i64 x, .int .i64 y, .int .i64 how] w fun e w' => e = .returned (.tuple #[.slice none 0 0, .int .i64 11]) ∧ Below w.heap.size w w' := by
  have G := r_good a va B w ha
  obtain ⟨Aa, ca, rfl⟩ := ha.shape
  rw [hg] at G
  clear ha hg
  go_enter Try.func30, Try.ntmps30
  go_wp2_with fail
  refine G.mono ?_
  rintro e w1 ⟨rfl, n, rfl⟩
  go_wp2_with fail
  go_ret2
  exact ⟨rfl, below_drewN (Below.refl _ _) n⟩
theorem r_change_arg (how : Int) (ha : Prs w B va a) (hg : goodB a = true) (hk : argB x y = false) :
    Calls Try.prog 30 #[va, .int .i64 x, .int .i64 y, .int .i64 how] w fun e w' => e = .returned (.tuple #[.slice none 0 0, .int .i64 1]) ∧ Below w.heap.size w w' := by
  have G := r_good a va B w ha
  obtain ⟨Aa, ca, rfl⟩ := ha.shape
  have hk := of_decide_eq_false hk
  rw [hg] at G
  clear ha hg
  by_cases h1 : x < 0
  · have t1 := decide_eq_true h1
    clear hk
    go_enter Try.func30, Try.ntmps30
    go_wp2_with fail
    refine G.mono ?_
    rintro e w1 ⟨rfl, n, rfl⟩
    go_wp2_with fail
    go_ret2
    exact ⟨rfl, below_drewN (Below.refl _ _) n⟩
  have t1 := decide_eq_false h1
  by_cases h2 : y ≤ x
  · have t2 := decide_eq_true h2
    clear hk
    go_enter Try.func30, Try.ntmps30
    go_wp2_with fail
    refine G.mono ?_
    rintro e w1 ⟨rfl, n, rfl⟩
    go_wp2_with fail
    go_ret2
    exact ⟨rfl, below_drewN (Below.refl _ _) n⟩
  have t2 := decide_eq_false h2
  have h3 : 87659 < y := by omega
  have t3 := decide_eq_true h3
  clear hk
  go_enter Try.func30, Try.ntmps30
  go_wp2_with fail
  refine G.mono ?_
  rintro e w1 ⟨rfl, n, rfl⟩
  go_wp2_with fail
  go_ret2
  exact ⟨rfl, below_drewN (Below.refl _ _) n⟩
theorem arg_tests {x y : Int} (hk : argB x y = true) : decide (x < 0) = false ∧ decide (y ≤ x) = false ∧ decide (87659 < y) = false ∧ ¬ x < 0 ∧ ¬ y ≤ x ∧ ¬ 87659 < y := by
  have hk := of_decide_eq_true hk
  exact ⟨decide_eq_false (by omega), decide_eq_false (by omega), decide_eq_false (by omega), by omega, by omega, by omega⟩
theorem r_change_yes (how : Int) (f : Bool → Bool → Bool) (hB : B ≤ w.heap.size) (ha : Prs w B va a) (hg : goodB a = true) (hk : argB x y = true)
    (J : ∀ (b : List (Int × Int)) (vb : Value) (B : Nat) (w : World), B ≤ w.heap.size → Prs w B va a → Prs w B vb b → goodB b = true →
      Calls Try.prog 32 #[va, vb, .int .i64 how] w fun e w' => ∃ v zs, e = .returned (.tuple #[v, .int .i64 (resE zs)]) ∧ IsJ f a b zs ∧ Prs w' w'.heap.size v (resL zs) ∧ Below w.heap.size w w') :
    Calls Try.prog 30 #[va, .int .i64 x, .int .i64 y, .int .i64 how] w fun e w' => ∃ v zs, e = .returned (.tuple #[v, .int .i64 (resE zs)]) ∧ IsJ f a [(x, y)] zs ∧ Prs w' w'.heap.size v (resL zs) ∧ Below w.heap.size w w' := by
  have G := r_good a va B w ha
  have HO := Lib.hid (one_good hk)
  obtain ⟨t1, t2, t3, h1, h2, h3⟩ := arg_tests hk
  obtain ⟨Aa, ca, rfl⟩ := ha.shape
  have HA := Lib.hid ha
  rw [hg] at G
  clear ha hg hk
  go_enter Try.func30, Try.ntmps30
  go_wp2_with fail
  refine G.mono ?_
  rintro e w1 ⟨rfl, n, rfl⟩
  go_wp2_with fail
  have hcc := J [(x, y)] (.slice (some ⟨w.heap.size, 0, none⟩) 1 1) _ ((w.drewN n).alloc (.cells #[.int .i64 x, .int .i64 y] 53)) (Nat.le_refl _)
    (((HA.out.more hB).drewN n |>.alloc (Nat.le_refl _) _).more (by simp)) (prs_new (w.drewN n) (x, y) _) HO.out
  refine hcc.mono ?_
  clear hcc
  rintro e w2 ⟨v, zs, rfl, hj, hp, hb⟩
  obtain ⟨A, c, rfl⟩ := hp.shape
  have HP := Lib.hid hp
  clear hp
  go_wp2_with fail
  go_ret2
  exact ⟨_, zs, rfl, hj, HP.out, below_via (below_new (below_drewN (Below.refl _ _) n) _) hb⟩
end
theorem r_add (a : List (Int × Int)) (x y : Int) (va : Value) (B : Nat) (w : World) (hB : B ≤ w.heap.size) (ha : Prs w B va a) :
    Calls Try.prog 18 #[va, .int .i64 x, .int .i64 y] w fun e w' => ∃ v zs n, e = .returned (.tuple #[v, .int .i64 n]) ∧ Chg orF a [(x, y)] (goodB a) (argB x y) zs n ∧ Prs w' w'.heap.size v zs ∧ Below w.heap.size w w' := by
  cases hg : goodB a with
  | false =>
    have C := r_change_form a x y va B w 0 ha hg
    obtain ⟨Aa, ca, rfl⟩ := ha.shape
    clear ha hg
    go_enter Try.func18, Try.ntmps18
    go_wp2_with fail
    refine C.mono ?_
    rintro e w1 ⟨rfl, hb⟩
    go_wp2_with fail
    go_ret2
    exact ⟨_, [], 11, rfl, chg_form rfl, Prs.nil_ _ _, hb⟩
  | true =>
    cases hk : argB x y with
    | false =>
      have C := r_change_arg a x y va B w 0 ha hg hk
      obtain ⟨Aa, ca, rfl⟩ := ha.shape
      clear ha hg hk
      go_enter Try.func18, Try.ntmps18
      go_wp2_with fail
      refine C.mono ?_
      rintro e w1 ⟨rfl, hb⟩
      go_wp2_with fail
      go_ret2
      exact ⟨_, [], 1, rfl, chg_arg rfl rfl, Prs.nil_ _ _, hb⟩
    | true =>
      have C := r_change_yes a x y va B w 0 orF hB ha hg hk (fun b vb B w hB ha hb gb => r_joined0 a b va vb B w hB ha hb hg gb)
      obtain ⟨Aa, ca, rfl⟩ := ha.shape
      clear ha hg hk
      go_enter Try.func18, Try.ntmps18
      go_wp2_with fail
      refine C.mono ?_
      rintro e w1 ⟨v, zs, rfl, hj, hp, hb⟩
      obtain ⟨A, c, rfl⟩ := hp.shape
      have HP := Lib.hid hp
      clear hp
      go_wp2_with fail
      go_ret2
      exact ⟨_, resL zs, resE zs, rfl, chg_yes rfl rfl hj, HP.out, hb⟩
theorem r_cut (a : List (Int × Int)) (x y : Int) (va : Value) (B : Nat) (w : World) (hB : B ≤ w.heap.size) (ha : Prs w B va a) :
    Calls Try.prog 20 #[va, .int .i64 x, .int .i64 y] w fun e w' => ∃ v zs n, e = .returned (.tuple #[v, .int .i64 n]) ∧ Chg lessF a [(x, y)] (goodB a) (argB x y) zs n ∧ Prs w' w'.heap.size v zs ∧ Below w.heap.size w w' := by
  cases hg : goodB a with
  | false =>
    have C := r_change_form a x y va B w 1 ha hg
    obtain ⟨Aa, ca, rfl⟩ := ha.shape
    clear ha hg
    go_enter Try.func20, Try.ntmps20
    go_wp2_with fail
    refine C.mono ?_
    rintro e w1 ⟨rfl, hb⟩
    go_wp2_with fail
    go_ret2
    exact ⟨_, [], 11, rfl, chg_form rfl, Prs.nil_ _ _, hb⟩
  | true =>
    cases hk : argB x y with
    | false =>
      have C := r_change_arg a x y va B w 1 ha hg hk
      obtain ⟨Aa, ca, rfl⟩ := ha.shape
      clear ha hg hk
      go_enter Try.func20, Try.ntmps20
      go_wp2_with fail
      refine C.mono ?_
      rintro e w1 ⟨rfl, hb⟩
      go_wp2_with fail
      go_ret2
      exact ⟨_, [], 1, rfl, chg_arg rfl rfl, Prs.nil_ _ _, hb⟩
    | true =>
      have C := r_change_yes a x y va B w 1 lessF hB ha hg hk (fun b vb B w hB ha hb gb => r_joined1 a b va vb B w hB ha hb hg gb)
      obtain ⟨Aa, ca, rfl⟩ := ha.shape
      clear ha hg hk
      go_enter Try.func20, Try.ntmps20
      go_wp2_with fail
      refine C.mono ?_
      rintro e w1 ⟨v, zs, rfl, hj, hp, hb⟩
      obtain ⟨A, c, rfl⟩ := hp.shape
      have HP := Lib.hid hp
      clear hp
      go_wp2_with fail
      go_ret2
      exact ⟨_, resL zs, resE zs, rfl, chg_yes rfl rfl hj, HP.out, hb⟩
theorem r_both (a b : List (Int × Int)) (va vb : Value) (B : Nat) (w : World) (hB : B ≤ w.heap.size) (ha : Prs w B va a) (hb : Prs w B vb b) :
    Calls Try.prog 22 #[va, vb] w fun e w' => ∃ v zs n, e = .returned (.tuple #[v, .int .i64 n]) ∧ Chg andF a b (goodB a && goodB b) true zs n ∧ Prs w' w'.heap.size v zs ∧ Below w.heap.size w w' := by
  have G1 := r_good a va B w ha
  have G2 := fun n => r_good b vb B (w.drewN n) (hb.drewN n)
  cases hg : goodB a with
  | false =>
    rw [hg] at G1
    obtain ⟨Aa, ca, rfl⟩ := ha.shape
    obtain ⟨Ab, cb, rfl⟩ := hb.shape
    clear ha hb hg
    go_enter Try.func22, Try.ntmps22
    go_wp2_with fail
    refine G1.mono ?_
    rintro e w1 ⟨rfl, n, rfl⟩
    go_wp2_with fail
    go_ret2
    exact ⟨_, [], 11, rfl, chg_form rfl, Prs.nil_ _ _, below_drewN (Below.refl _ _) n⟩
  | true =>
    rw [hg] at G1
    cases hg2 : goodB b with
    | false =>
      rw [hg2] at G2
      obtain ⟨Aa, ca, rfl⟩ := ha.shape
      obtain ⟨Ab, cb, rfl⟩ := hb.shape
      clear ha hb hg hg2
      go_enter Try.func22, Try.ntmps22
      go_wp2_with fail
      refine G1.mono ?_
      rintro e w1 ⟨rfl, n, rfl⟩
      go_wp2_with fail
      refine (G2 n).mono ?_
      rintro e w1 ⟨rfl, m, rfl⟩
      go_wp2_with fail
      go_ret2
      exact ⟨_, [], 11, rfl, chg_form rfl, Prs.nil_ _ _, below_drewN (Below.refl _ _) (n + m)⟩
    | true =>
      rw [hg2] at G2
      have J := fun n => r_joined2 a b va vb B (w.drewN n) hB (ha.drewN n) (hb.drewN n) hg hg2
      obtain ⟨Aa, ca, rfl⟩ := ha.shape
      obtain ⟨Ab, cb, rfl⟩ := hb.shape
      clear ha hb hg hg2
      go_enter Try.func22, Try.ntmps22
      go_wp2_with fail
      refine G1.mono ?_
      rintro e w1 ⟨rfl, n, rfl⟩
      go_wp2_with fail
      refine (G2 n).mono ?_
      rintro e w1 ⟨rfl, m, rfl⟩
      go_wp2_with fail
      have hcc := J (n + m)
      refine hcc.mono ?_
      clear hcc
      rintro e w2 ⟨v, zs, rfl, hj, hp, hb⟩
      obtain ⟨A, c, rfl⟩ := hp.shape
      have HP := Lib.hid hp
      clear hp
      go_wp2_with fail
      go_ret2
      exact ⟨_, resL zs, resE zs, rfl, chg_yes rfl rfl hj, HP.out, below_via (below_drewN (Below.refl _ _) (n + m)) hb⟩
end Go.Proofs.Ytjcgclfcompioaa.Span
