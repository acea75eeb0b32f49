/- Plain mathematics of what is shared out by weights: quotients, rests, and who gets one cent more. Of no program. -/
import Derived.Test.YtbdcinecdigjgaaSortMath
namespace Go.Proofs.Ytbdcinecdigjgaa.Share
open Stable

/-! sums over places -/
def pre (f : Nat → Int) (n : Nat) : Int := ((List.range n).map f).sum
theorem pre_zero (f : Nat → Int) : pre f 0 = 0 := rfl
theorem pre_succ (f : Nat → Int) (n : Nat) : pre f (n + 1) = pre f n + f n := by
  unfold pre
  rw [List.range_succ, List.map_append, List.sum_append]
  simp
theorem pre_congr {f g : Nat → Int} {n : Nat} (h : ∀ i, i < n → f i = g i) : pre f n = pre g n := by
  induction n with
  | zero => rfl
  | succ n ih => rw [pre_succ, pre_succ, ih fun i hi => h i (by omega), h n (by omega)]
theorem pre_le {f g : Nat → Int} {n : Nat} (h : ∀ i, i < n → f i ≤ g i) : pre f n ≤ pre g n := by
  induction n with
  | zero => exact Int.le_refl _
  | succ n ih =>
    rw [pre_succ, pre_succ]
    have := ih fun i hi => h i (by omega)
    have := h n (by omega)
    omega
theorem pre_nonneg {f : Nat → Int} {n : Nat} (h : ∀ i, i < n → 0 ≤ f i) : 0 ≤ pre f n := by
  induction n with
  | zero => exact Int.le_refl _
  | succ n ih =>
    rw [pre_succ]
    have := ih fun i hi => h i (by omega)
    have := h n (by omega)
    omega
theorem pre_mono {f : Nat → Int} {j n : Nat} (h : ∀ i, i < n → 0 ≤ f i) (hj : j ≤ n) : pre f j ≤ pre f n := by
  induction n with
  | zero => rw [show j = 0 from by omega]; exact Int.le_refl _
  | succ n ih =>
    by_cases e : j = n + 1
    · rw [e]; exact Int.le_refl _
    · rw [pre_succ]
      have := ih (fun i hi => h i (by omega)) (by omega)
      have := h n (by omega)
      omega
theorem pre_add (f g : Nat → Int) (n : Nat) : pre (fun i => f i + g i) n = pre f n + pre g n := by
  induction n with
  | zero => rfl
  | succ n ih => rw [pre_succ, pre_succ, pre_succ, ih]; omega
theorem pre_const (c : Int) (n : Nat) : pre (fun _ => c) n = n * c := by
  induction n with
  | zero => simp [pre_zero]
  | succ n ih => rw [pre_succ, ih, Int.natCast_add, Int.add_mul]; simp
theorem sum_perm {l l' : List Int} (h : l.Perm l') : l.sum = l'.sum := by
  induction h with
  | nil => rfl
  | cons x _ ih => simp [ih]
  | swap x y l => simp; omega
  | trans _ _ h1 h2 => exact h1.trans h2

/-! an order of n places -/
section
variable {n : Nat} {Q Q' : Nat → Nat}
theorem place_inj (h : Re 0 n (fun i => i) Q) : ∀ i j, Q i = Q j → i = j := h.inj fun _ _ e => e
theorem place_lt (h : Re 0 n (fun i => i) Q) {i : Nat} (hi : i < n) : Q i < n := by
  obtain ⟨k, -, k2, k3⟩ := h.inside (Nat.zero_le i) hi
  rw [k3]; exact k2
theorem places_nodup (h : Re 0 n (fun i => i) Q) (m : Nat) : ((List.range m).map Q).Nodup := by
  refine List.Pairwise.map Q (R := (· ≠ ·)) (fun a b hne e => hne (place_inj h _ _ e)) ?_
  exact List.nodup_range
theorem place_onto (h : Re 0 n (fun i => i) Q) {j : Nat} (hj : j < n) : ∃ i, i < n ∧ Q i = j := by
  by_cases hm : j ∈ (List.range n).map Q
  · obtain ⟨i, hi, e⟩ := List.mem_map.1 hm
    exact ⟨i, List.mem_range.1 hi, e⟩
  · exfalso
    have hs : (List.range n).map Q ⊆ (List.range n).erase j := by
      intro x hx
      obtain ⟨i, hi, rfl⟩ := List.mem_map.1 hx
      refine (List.mem_erase_of_ne (fun e => hm (by rw [← e]; exact hx))).2 (List.mem_range.2 (place_lt h (List.mem_range.1 hi)))
    have hl := (places_nodup h n).length_le_of_subset hs
    rw [List.length_map, List.length_range, List.length_erase_of_mem (List.mem_range.2 hj), List.length_range] at hl
    omega
theorem places_perm (h : Re 0 n (fun i => i) Q) : ((List.range n).map Q).Perm (List.range n) := by
  rw [List.perm_ext_iff_of_nodup (places_nodup h n) List.nodup_range]
  intro x
  constructor
  · intro hx
    obtain ⟨i, hi, rfl⟩ := List.mem_map.1 hx
    exact List.mem_range.2 (place_lt h (List.mem_range.1 hi))
  · intro hx
    obtain ⟨i, hi, e⟩ := place_onto h (List.mem_range.1 hx)
    exact List.mem_map.2 ⟨i, List.mem_range.2 hi, e⟩
theorem pre_places (h : Re 0 n (fun i => i) Q) (f : Nat → Int) : pre (fun k => f (Q k)) n = pre f n := by
  unfold pre
  have := sum_perm ((places_perm h).map f)
  rw [List.map_map] at this
  exact this

/-- Who is among the first k. -/
def chosen (Q : Nat → Nat) (k i : Nat) : Bool := (List.range k).any fun j => Q j == i
theorem chosen_iff (Q : Nat → Nat) (k i : Nat) : chosen Q k i = true ↔ ∃ j, j < k ∧ Q j = i := by
  unfold chosen; rw [List.any_eq_true]; simp
def bump (Q : Nat → Nat) (k i : Nat) : Int := if chosen Q k i = true then 1 else 0
theorem bump_zero (Q : Nat → Nat) (i : Nat) : bump Q 0 i = 0 := rfl
theorem bump_bd (Q : Nat → Nat) (k i : Nat) : 0 ≤ bump Q k i ∧ bump Q k i ≤ 1 := by unfold bump; split <;> omega
theorem bump_new (h : Re 0 n (fun i => i) Q) (k : Nat) : bump Q k (Q k) = 0 := by
  unfold bump
  rw [if_neg]
  rw [chosen_iff]
  rintro ⟨j, hj, e⟩
  have := place_inj h _ _ e
  omega
theorem bump_here (Q : Nat → Nat) (k : Nat) : bump Q (k + 1) (Q k) = 1 := by
  unfold bump
  rw [if_pos]
  rw [chosen_iff]
  exact ⟨k, by omega, rfl⟩
theorem bump_other {Q : Nat → Nat} {k i : Nat} (h : i ≠ Q k) : bump Q (k + 1) i = bump Q k i := by
  unfold bump
  have e : chosen Q (k + 1) i = chosen Q k i := by
    rw [Bool.eq_iff_iff, chosen_iff, chosen_iff]
    constructor
    · rintro ⟨j, hj, e⟩
      refine ⟨j, ?_, e⟩
      by_cases hk : j = k
      · subst hk; exact absurd e.symm h
      · omega
    · rintro ⟨j, hj, e⟩
      exact ⟨j, by omega, e⟩
  rw [e]
theorem bump_at (h : Re 0 n (fun i => i) Q) (k j : Nat) : bump Q k (Q j) = if j < k then 1 else 0 := by
  unfold bump
  by_cases hj : j < k
  · rw [if_pos hj, if_pos ((chosen_iff _ _ _).2 ⟨j, hj, rfl⟩)]
  · rw [if_neg hj, if_neg]
    rw [chosen_iff]
    rintro ⟨l, hl, e⟩
    have := place_inj h _ _ e
    omega
theorem pre_first (k n : Nat) (h : k ≤ n) : pre (fun j => if j < k then 1 else 0) n = k := by
  induction n with
  | zero => rw [show k = 0 from by omega]; rfl
  | succ n ih =>
    rw [pre_succ]
    by_cases e : k = n + 1
    · rw [e, if_pos (by omega)]
      have : pre (fun j => if j < n + 1 then (1 : Int) else 0) n = pre (fun _ => 1) n := pre_congr fun i hi => if_pos (by omega)
      rw [this, pre_const]; omega
    · rw [ih (by omega), if_neg (by omega)]; omega
theorem pre_bump (h : Re 0 n (fun i => i) Q) {k : Nat} (hk : k ≤ n) : pre (bump Q k) n = k := by
  rw [← pre_places h (bump Q k), ← pre_first k n hk]
  exact pre_congr fun j _ => bump_at h k j

/-- Sorted twice it is the same. -/
theorem sorted_one {R R' : Nat → Nat → Prop} (h : Re 0 n (fun i => i) Q) (h' : Re 0 n (fun i => i) Q') (hs : Srt R Q 0 n) (hs' : Srt R' Q' 0 n) (hR : ∀ i j, i < n → j < n → R i j → R' j i → False) :
    ∀ k, k < n → Q k = Q' k := by
  intro k
  induction k using Nat.strongRecOn with
  | ind k ih =>
    intro hk
    obtain ⟨j, hj, ej⟩ := place_onto h' (place_lt h hk)
    obtain ⟨i, hi, ei⟩ := place_onto h (place_lt h' hk)
    by_cases e : j = k
    · rw [← ej, e]
    · exfalso
      have j1 : k < j := by
        rcases Nat.lt_or_ge k j with h1 | h1
        · exact h1
        · have := ih j (by omega) hj
          rw [ej] at this
          exact absurd (place_inj h _ _ this) e
      have i1 : k < i := by
        rcases Nat.lt_trichotomy k i with h1 | h1 | h1
        · exact h1
        · subst h1
          rw [← ej] at ei
          exact absurd (place_inj h' _ _ ei) e
        · have := ih i h1 hi
          rw [ei] at this
          have := place_inj h' _ _ this
          omega
      have r1 := hs k i (Nat.zero_le _) i1 hi
      have r2 := hs' k j (Nat.zero_le _) j1 hj
      rw [ei] at r1
      rw [ej] at r2
      exact hR _ _ (place_lt h hk) (place_lt h' hk) r1 r2
theorem bump_congr {k : Nat} (h : ∀ j, j < k → Q j = Q' j) (i : Nat) : bump Q k i = bump Q' k i := by
  unfold bump
  have e : chosen Q k i = chosen Q' k i := by
    rw [Bool.eq_iff_iff, chosen_iff, chosen_iff]
    constructor
    · rintro ⟨j, hj, e⟩; exact ⟨j, hj, by rw [← h j hj]; exact e⟩
    · rintro ⟨j, hj, e⟩; exact ⟨j, hj, by rw [h j hj]; exact e⟩
  rw [e]
end

/-! quotients and rests -/
section
variable {t s : Int} {w : Nat → Int} {n : Nat}
def quo (t s : Int) (w : Nat → Int) (i : Nat) : Int := t * w i / s
def rst (t s : Int) (w : Nat → Int) (i : Nat) : Int := t * w i % s
structure Weights (t s : Int) (w : Nat → Int) (n : Nat) : Prop where
  t0 : 0 ≤ t
  s0 : 0 < s
  w0 : ∀ i, i < n → 0 ≤ w i
  sum : pre w n = s
theorem Weights.le (h : Weights t s w n) {i : Nat} (hi : i < n) : w i ≤ s := by
  rw [← h.sum]
  have h1 := pre_mono (f := w) (j := i + 1) h.w0 (by omega)
  have h2 := pre_nonneg (f := w) (n := i) fun k hk => h.w0 k (by omega)
  rw [pre_succ] at h1
  omega
theorem quo_rst (t s : Int) (w : Nat → Int) (i : Nat) : quo t s w i * s + rst t s w i = t * w i := by
  unfold quo rst
  have := Int.mul_ediv_add_emod (t * w i) s
  rw [Int.mul_comm] at this
  exact this
theorem Weights.q0 (h : Weights t s w n) {i : Nat} (hi : i < n) : 0 ≤ quo t s w i := Int.ediv_nonneg (Int.mul_nonneg h.t0 (h.w0 i hi)) (Int.le_of_lt h.s0)
theorem Weights.q1 (h : Weights t s w n) {i : Nat} (hi : i < n) : quo t s w i ≤ t := by
  unfold quo
  have h1 : t * w i ≤ t * s := Int.mul_le_mul_of_nonneg_left (h.le hi) h.t0
  have h2 := Int.ediv_le_ediv h.s0 h1
  rwa [Int.mul_ediv_cancel _ (by have := h.s0; omega)] at h2
theorem Weights.r0 (h : Weights t s w n) (i : Nat) : 0 ≤ rst t s w i := Int.emod_nonneg _ (by have := h.s0; omega)
theorem Weights.r1 (h : Weights t s w n) (i : Nat) : rst t s w i < s := Int.emod_lt_of_pos _ h.s0
theorem pre_quo (t s : Int) (w : Nat → Int) (j : Nat) : pre (quo t s w) j * s + pre (rst t s w) j = t * pre w j := by
  induction j with
  | zero => simp [pre_zero]
  | succ j ih =>
    rw [pre_succ, pre_succ, pre_succ, Int.add_mul, Int.mul_add]
    have := quo_rst t s w j
    omega
theorem Weights.pq (h : Weights t s w n) {j : Nat} (hj : j ≤ n) : 0 ≤ pre (quo t s w) j ∧ pre (quo t s w) j ≤ t := by
  refine ⟨pre_nonneg fun i hi => h.q0 (by omega), ?_⟩
  have h1 := pre_quo t s w j
  have h2 : 0 ≤ pre (rst t s w) j := pre_nonneg fun i _ => h.r0 i
  have h3 : pre w j ≤ s := by rw [← h.sum]; exact pre_mono h.w0 hj
  have h4 : t * pre w j ≤ t * s := Int.mul_le_mul_of_nonneg_left h3 h.t0
  have h5 : pre (quo t s w) j * s ≤ t * s := by omega
  exact Int.le_of_mul_le_mul_right h5 h.s0
def lft (t s : Int) (w : Nat → Int) (n : Nat) : Int := t - pre (quo t s w) n
theorem Weights.left_eq (h : Weights t s w n) : lft t s w n * s = pre (rst t s w) n := by
  have h1 := pre_quo t s w n
  rw [h.sum] at h1
  unfold lft
  rw [Int.sub_mul]
  omega
theorem Weights.left_bd (h : Weights t s w n) : 0 ≤ lft t s w n ∧ lft t s w n ≤ n := by
  refine ⟨by have := (h.pq (Nat.le_refl n)).2; unfold lft; omega, ?_⟩
  have h1 := h.left_eq
  have h2 : pre (rst t s w) n ≤ pre (fun _ => s) n := pre_le fun i _ => Int.le_of_lt (h.r1 i)
  rw [pre_const] at h2
  exact Int.le_of_mul_le_mul_right (by omega) h.s0
def outS (t s : Int) (w : Nat → Int) (n : Nat) (Q : Nat → Nat) (i : Nat) : Int := quo t s w i + bump Q (lft t s w n).toNat i
theorem Weights.total (h : Weights t s w n) {Q : Nat → Nat} (hQ : Re 0 n (fun i => i) Q) : pre (outS t s w n Q) n = t := by
  have hl := h.left_bd
  have e : pre (outS t s w n Q) n = pre (quo t s w) n + pre (bump Q (lft t s w n).toNat) n := pre_add _ _ n
  rw [e, pre_bump hQ (by omega)]
  unfold lft at *
  omega
/-- Who has no rest is not among those that get one more. -/
theorem Weights.none (h : Weights t s w n) {Q : Nat → Nat} (hQ : Re 0 n (fun i => i) Q) (hs : ∀ i j, i < j → j < n → rst t s w (Q j) ≤ rst t s w (Q i)) {i : Nat} (hr : rst t s w i = 0) : bump Q (lft t s w n).toNat i = 0 := by
  unfold bump
  rw [if_neg]
  rw [chosen_iff]
  rintro ⟨k, hk, rfl⟩
  have hl := h.left_bd
  have h1 := h.left_eq
  rw [← pre_places hQ (rst t s w)] at h1
  have h2 : pre (fun k => rst t s w (Q k)) n ≤ pre (fun j => if j < k then s - 1 else 0) n := by
    refine pre_le fun j hj => ?_
    by_cases e : j < k
    · rw [if_pos e]; have := h.r1 (Q j); omega
    · rw [if_neg e]
      by_cases e2 : j = k
      · rw [e2, hr]; exact Int.le_refl _
      · have := hs k j (by omega) hj; omega
  have h3 : pre (fun j => if j < k then s - 1 else 0) n = k * (s - 1) := by
    have e : ∀ m, pre (fun j => if j < k then s - 1 else 0) m = (if m ≤ k then (m : Int) else k) * (s - 1) := by
      intro m
      induction m with
      | zero => simp [pre_zero]
      | succ m ih =>
        rw [pre_succ, ih]
        by_cases e1 : m < k
        · rw [if_pos (by omega), if_pos e1, if_pos (by omega), Int.natCast_add, Int.add_mul]; simp
        · rw [if_neg e1]
          by_cases e2 : m = k
          · rw [if_pos (by omega), if_neg (by omega), e2]; omega
          · rw [if_neg (by omega), if_neg (by omega)]; omega
    rw [e n]
    by_cases e1 : n ≤ k
    · omega
    · rw [if_neg e1]
  have h4 : (k : Int) * (s - 1) ≤ (lft t s w n - 1) * (s - 1) := Int.mul_le_mul_of_nonneg_right (by omega) (by have := h.s0; omega)
  have h5 : (lft t s w n - 1) * (s - 1) = lft t s w n * s - lft t s w n - s + 1 := by grind
  have := h.s0
  omega
/-- Who comes ahead of one that gets one more gets one more. -/
theorem bump_ahead {R : Nat → Nat → Prop} {Q : Nat → Nat} (hQ : Re 0 n (fun i => i) Q) (hs : Srt R Q 0 n) (ha : ∀ i j, R i j → R j i → False) {k i j : Nat} (hi : i < n) (hij : R i j) : bump Q k j ≤ bump Q k i := by
  by_cases hj : chosen Q k j = true
  · obtain ⟨l, hl, rfl⟩ := (chosen_iff _ _ _).1 hj
    obtain ⟨m, hm, rfl⟩ := place_onto hQ hi
    rw [bump_at hQ, bump_at hQ, if_pos hl]
    by_cases e : m < k
    · rw [if_pos e]; exact Int.le_refl _
    · exact (ha _ _ hij (hs l m (Nat.zero_le _) (by omega) hm)).elim
  · have : bump Q k j = 0 := by unfold bump; rw [if_neg hj]
    rw [this]; exact (bump_bd Q k i).1
end

/-! the best of those that have got nothing yet -/
section
variable {n : Nat} {Q : Nat → Nat} {R : Nat → Nat → Prop}
/-- Of the first i: none that has got nothing yet, or the one that comes ahead of all such. -/
def Best (R : Nat → Nat → Prop) (Q : Nat → Nat) (k i : Nat) (b : Int) : Prop :=
  (b = -1 ∧ ∀ j, j < i → chosen Q k j = true) ∨ (∃ c : Nat, b = c ∧ c < i ∧ chosen Q k c = false ∧ ∀ j, j < i → chosen Q k j = false → j = c ∨ R c j)
theorem best_zero (R : Nat → Nat → Prop) (Q : Nat → Nat) (k : Nat) : Best R Q k 0 (-1) := Or.inl ⟨rfl, fun j h => by omega⟩
theorem best_pass {k i : Nat} {b : Int} (h : Best R Q k i b) (hc : chosen Q k i = true) : Best R Q k (i + 1) b := by
  rcases h with ⟨h1, h2⟩ | ⟨c, h1, h2, h3, h4⟩
  · refine Or.inl ⟨h1, fun j hj => ?_⟩
    by_cases e : j = i
    · rw [e]; exact hc
    · exact h2 j (by omega)
  · refine Or.inr ⟨c, h1, by omega, h3, fun j hj hj2 => ?_⟩
    by_cases e : j = i
    · rw [e, hc] at hj2; cases hj2
    · exact h4 j (by omega) hj2
theorem best_first {k i : Nat} (h : Best R Q k i (-1)) (hc : chosen Q k i = false) : Best R Q k (i + 1) i := by
  rcases h with ⟨-, h2⟩ | ⟨c, h1, -⟩
  · refine Or.inr ⟨i, rfl, by omega, hc, fun j hj hj2 => ?_⟩
    by_cases e : j = i
    · exact Or.inl e
    · rw [h2 j (by omega)] at hj2; cases hj2
  · omega
theorem best_more {k i c : Nat} (ht : ∀ {i j k}, R i j → R j k → R i k) (h : Best R Q k i (c : Int)) (hc : chosen Q k i = false) (hr : R i c) : Best R Q k (i + 1) i := by
  rcases h with ⟨h1, -⟩ | ⟨c', h1, h2, h3, h4⟩
  · omega
  · obtain rfl : c = c' := by omega
    refine Or.inr ⟨i, rfl, by omega, hc, fun j hj hj2 => ?_⟩
    by_cases e : j = i
    · exact Or.inl e
    · rcases h4 j (by omega) hj2 with e2 | e2
      · rw [e2]; exact Or.inr hr
      · exact Or.inr (ht hr e2)
theorem best_stay {k i c : Nat} (h : Best R Q k i (c : Int)) (hr : R c i) : Best R Q k (i + 1) c := by
  rcases h with ⟨h1, -⟩ | ⟨c', h1, h2, h3, h4⟩
  · omega
  · obtain rfl : c = c' := by omega
    refine Or.inr ⟨c, rfl, by omega, h3, fun j hj hj2 => ?_⟩
    by_cases e : j = i
    · rw [e]; exact Or.inr hr
    · exact h4 j (by omega) hj2
theorem not_chosen (h : Re 0 n (fun i => i) Q) {k j : Nat} (hj : k ≤ j) : chosen Q k (Q j) = false := by
  rw [Bool.eq_false_iff]
  intro hc
  obtain ⟨l, hl, e⟩ := (chosen_iff _ _ _).1 hc
  have := place_inj h _ _ e
  omega
theorem best_all (h : Re 0 n (fun i => i) Q) (hs : Srt R Q 0 n) (ha : ∀ i j, R i j → R j i → False) {k : Nat} {b : Int} (hk : k < n) (hb : Best R Q k n b) : b = (Q k : Nat) := by
  rcases hb with ⟨-, h2⟩ | ⟨c, h1, h2, h3, h4⟩
  · have := h2 (Q k) (place_lt h hk)
    rw [not_chosen h (Nat.le_refl _)] at this; cases this
  · obtain ⟨m, hm, rfl⟩ := place_onto h h2
    have hkm : k ≤ m := by
      rcases Nat.lt_or_ge m k with hl | hl
      · rw [(chosen_iff _ _ _).2 ⟨m, hl, rfl⟩] at h3; cases h3
      · exact hl
    by_cases e : m = k
    · rw [h1, e]
    · exfalso
      rcases h4 (Q k) (place_lt h hk) (not_chosen h (Nat.le_refl _)) with e2 | e2
      · have := place_inj h _ _ e2; omega
      · exact ha _ _ e2 (hs k m (Nat.zero_le _) (by omega) hm)
theorem best_bd {k i : Nat} {b : Int} (h : Best R Q k i b) : b = -1 ∨ ∃ c : Nat, b = c ∧ c < i := by
  rcases h with ⟨h1, -⟩ | ⟨c, h1, h2, -⟩
  · exact Or.inl h1
  · exact Or.inr ⟨c, h1, h2⟩
end
end Go.Proofs.Ytbdcinecdigjgaa.Share
