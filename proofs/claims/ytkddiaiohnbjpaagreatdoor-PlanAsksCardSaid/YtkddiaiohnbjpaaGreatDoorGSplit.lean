/- Plain mathematics of what is shared out by weights: quotients, rests, and who gets one cent more. Of no program. share's comparing closure: which place of the rests comes first. What may be shared, and by which weights: share.bad, share.fit, the document's own good; what slices.IndexFunc tells of it. What share.Fill and the document's own Fill tell, at any total and any rooms. What share.Split tells, at any total and any weights. -/
import Derived.Test.YtkddiaiohnbjpaaGreatDoorGSort
import Derived.Shelf.Abstract
import Derived.Test.YtkddiaiohnbjpaaGreatDoorGA
import Derived.Test.YtkddiaiohnbjpaaGreatDoorGAdd
import Derived.Deep.QuietTactic
import Derived.BigQuiet
import Derived.Test.YtkddiaiohnbjpaaGreatDoorGNum
import Derived.Deep.OwnRows
import Derived.Lib.Hide
namespace Go.Proofs.YtkddiaiohnbjpaaGreatDoor.Share
open Stable

/-! sums over places -/
def pre (f : Nat → Int) (n : Nat) : Int := ((List.range n).map f).sum
theorem pre_zero (f : Nat → Int) : pre f 0 = 0 := rfl
theorem pre_succ (f : Nat → Int) (n : Nat) : pre f (n + 1) = pre f n + f n := by
  unfold pre
  rw [List.range_succ, List.map_append, List.sum_append]
  simp
theorem pre_congr {f g : Nat → Int} {n : Nat} (h : ∀ i, i < n → f i = g i) : pre f n = pre g n := by
  induction n with
  | zero => rfl
  | succ n ih => rw [pre_succ, pre_succ, ih fun i hi => h i (by omega), h n (by omega)]
theorem pre_le {f g : Nat → Int} {n : Nat} (h : ∀ i, i < n → f i ≤ g i) : pre f n ≤ pre g n := by
  induction n with
  | zero => exact Int.le_refl _
  | succ n ih =>
    rw [pre_succ, pre_succ]
    have := ih fun i hi => h i (by omega)
    have := h n (by omega)
    omega
theorem pre_nonneg {f : Nat → Int} {n : Nat} (h : ∀ i, i < n → 0 ≤ f i) : 0 ≤ pre f n := by
  induction n with
  | zero => exact Int.le_refl _
  | succ n ih =>
    rw [pre_succ]
    have := ih fun i hi => h i (by omega)
    have := h n (by omega)
    omega
theorem pre_mono {f : Nat → Int} {j n : Nat} (h : ∀ i, i < n → 0 ≤ f i) (hj : j ≤ n) : pre f j ≤ pre f n := by
  induction n with
  | zero => rw [show j = 0 from by omega]; exact Int.le_refl _
  | succ n ih =>
    by_cases e : j = n + 1
    · rw [e]; exact Int.le_refl _
    · rw [pre_succ]
      have := ih (fun i hi => h i (by omega)) (by omega)
      have := h n (by omega)
      omega
theorem pre_add (f g : Nat → Int) (n : Nat) : pre (fun i => f i + g i) n = pre f n + pre g n := by
  induction n with
  | zero => rfl
  | succ n ih => rw [pre_succ, pre_succ, pre_succ, ih]; omega
theorem pre_const (c : Int) (n : Nat) : pre (fun _ => c) n = n * c := by
  induction n with
  | zero => simp [pre_zero]
  | succ n ih => rw [pre_succ, ih, Int.natCast_add, Int.add_mul]; simp
theorem sum_perm {l l' : List Int} (h : l.Perm l') : l.sum = l'.sum := by
  induction h with
  | nil => rfl
  | cons x _ ih => simp [ih]
  | swap x y l => simp; omega
  | trans _ _ h1 h2 => exact h1.trans h2

/-! an order of n places -/
section
variable {n : Nat} {Q Q' : Nat → Nat}
theorem place_inj (h : Re 0 n (fun i => i) Q) : ∀ i j, Q i = Q j → i = j := h.inj fun _ _ e => e
theorem place_lt (h : Re 0 n (fun i => i) Q) {i : Nat} (hi : i < n) : Q i < n := by
  obtain ⟨k, -, k2, k3⟩ := h.inside (Nat.zero_le i) hi
  rw [k3]; exact k2
theorem places_nodup (h : Re 0 n (fun i => i) Q) (m : Nat) : ((List.range m).map Q).Nodup := by
  refine List.Pairwise.map Q (R := (· ≠ ·)) (fun a b hne e => hne (place_inj h _ _ e)) ?_
  exact List.nodup_range
theorem place_onto (h : Re 0 n (fun i => i) Q) {j : Nat} (hj : j < n) : ∃ i, i < n ∧ Q i = j := by
  by_cases hm : j ∈ (List.range n).map Q
  · obtain ⟨i, hi, e⟩ := List.mem_map.1 hm
    exact ⟨i, List.mem_range.1 hi, e⟩
  · exfalso
    have hs : (List.range n).map Q ⊆ (List.range n).erase j := by
      intro x hx
      obtain ⟨i, hi, rfl⟩ := List.mem_map.1 hx
      refine (List.mem_erase_of_ne (fun e => hm (by rw [← e]; exact hx))).2 (List.mem_range.2 (place_lt h (List.mem_range.1 hi)))
    have hl := (places_nodup h n).length_le_of_subset hs
    rw [List.length_map, List.length_range, List.length_erase_of_mem (List.mem_range.2 hj), List.length_range] at hl
    omega
theorem places_perm (h : Re 0 n (fun i => i) Q) : ((List.range n).map Q).Perm (List.range n) := by
  rw [List.perm_ext_iff_of_nodup (places_nodup h n) List.nodup_range]
  intro x
  constructor
  · intro hx
    obtain ⟨i, hi, rfl⟩ := List.mem_map.1 hx
    exact List.mem_range.2 (place_lt h (List.mem_range.1 hi))
  · intro hx
    obtain ⟨i, hi, e⟩ := place_onto h (List.mem_range.1 hx)
    exact List.mem_map.2 ⟨i, List.mem_range.2 hi, e⟩
theorem pre_places (h : Re 0 n (fun i => i) Q) (f : Nat → Int) : pre (fun k => f (Q k)) n = pre f n := by
  unfold pre
  have := sum_perm ((places_perm h).map f)
  rw [List.map_map] at this
  exact this

/-- Who is among the first k. -/
def chosen (Q : Nat → Nat) (k i : Nat) : Bool := (List.range k).any fun j => Q j == i
theorem chosen_iff (Q : Nat → Nat) (k i : Nat) : chosen Q k i = true ↔ ∃ j, j < k ∧ Q j = i := by
  unfold chosen; rw [List.any_eq_true]; simp
def bump (Q : Nat → Nat) (k i : Nat) : Int := if chosen Q k i = true then 1 else 0
theorem bump_zero (Q : Nat → Nat) (i : Nat) : bump Q 0 i = 0 := rfl
theorem bump_bd (Q : Nat → Nat) (k i : Nat) : 0 ≤ bump Q k i ∧ bump Q k i ≤ 1 := by unfold bump; split <;> omega
theorem bump_new (h : Re 0 n (fun i => i) Q) (k : Nat) : bump Q k (Q k) = 0 := by
  unfold bump
  rw [if_neg]
  rw [chosen_iff]
  rintro ⟨j, hj, e⟩
  have := place_inj h _ _ e
  omega
theorem bump_here (Q : Nat → Nat) (k : Nat) : bump Q (k + 1) (Q k) = 1 := by
  unfold bump
  rw [if_pos]
  rw [chosen_iff]
  exact ⟨k, by omega, rfl⟩
theorem bump_other {Q : Nat → Nat} {k i : Nat} (h : i ≠ Q k) : bump Q (k + 1) i = bump Q k i := by
  unfold bump
  have e : chosen Q (k + 1) i = chosen Q k i := by
    rw [Bool.eq_iff_iff, chosen_iff, chosen_iff]
    constructor
    · rintro ⟨j, hj, e⟩
      refine ⟨j, ?_, e⟩
      by_cases hk : j = k
      · subst hk; exact absurd e.symm h
      · omega
    · rintro ⟨j, hj, e⟩
      exact ⟨j, by omega, e⟩
  rw [e]
theorem bump_at (h : Re 0 n (fun i => i) Q) (k j : Nat) : bump Q k (Q j) = if j < k then 1 else 0 := by
  unfold bump
  by_cases hj : j < k
  · rw [if_pos hj, if_pos ((chosen_iff _ _ _).2 ⟨j, hj, rfl⟩)]
  · rw [if_neg hj, if_neg]
    rw [chosen_iff]
    rintro ⟨l, hl, e⟩
    have := place_inj h _ _ e
    omega
theorem pre_first (k n : Nat) (h : k ≤ n) : pre (fun j => if j < k then 1 else 0) n = k := by
  induction n with
  | zero => rw [show k = 0 from by omega]; rfl
  | succ n ih =>
    rw [pre_succ]
    by_cases e : k = n + 1
    · rw [e, if_pos (by omega)]
      have : pre (fun j => if j < n + 1 then (1 : Int) else 0) n = pre (fun _ => 1) n := pre_congr fun i hi => if_pos (by omega)
      rw [this, pre_const]; omega
    · rw [ih (by omega), if_neg (by omega)]; omega
theorem pre_bump (h : Re 0 n (fun i => i) Q) {k : Nat} (hk : k ≤ n) : pre (bump Q k) n = k := by
  rw [← pre_places h (bump Q k), ← pre_first k n hk]
  exact pre_congr fun j _ => bump_at h k j

/-- Sorted twice it is the same. -/
theorem sorted_one {R R' : Nat → Nat → Prop} (h : Re 0 n (fun i => i) Q) (h' : Re 0 n (fun i => i) Q') (hs : Srt R Q 0 n) (hs' : Srt R' Q' 0 n) (hR : ∀ i j, i < n → j < n → R i j → R' j i → False) :
    ∀ k, k < n → Q k = Q' k := by
  intro k
  induction k using Nat.strongRecOn with
  | ind k ih =>
    intro hk
    obtain ⟨j, hj, ej⟩ := place_onto h' (place_lt h hk)
    obtain ⟨i, hi, ei⟩ := place_onto h (place_lt h' hk)
    by_cases e : j = k
    · rw [← ej, e]
    · exfalso
      have j1 : k < j := by
        rcases Nat.lt_or_ge k j with h1 | h1
        · exact h1
        · have := ih j (by omega) hj
          rw [ej] at this
          exact absurd (place_inj h _ _ this) e
      have i1 : k < i := by
        rcases Nat.lt_trichotomy k i with h1 | h1 | h1
        · exact h1
        · subst h1
          rw [← ej] at ei
          exact absurd (place_inj h' _ _ ei) e
        · have := ih i h1 hi
          rw [ei] at this
          have := place_inj h' _ _ this
          omega
      have r1 := hs k i (Nat.zero_le _) i1 hi
      have r2 := hs' k j (Nat.zero_le _) j1 hj
      rw [ei] at r1
      rw [ej] at r2
      exact hR _ _ (place_lt h hk) (place_lt h' hk) r1 r2
theorem bump_congr {k : Nat} (h : ∀ j, j < k → Q j = Q' j) (i : Nat) : bump Q k i = bump Q' k i := by
  unfold bump
  have e : chosen Q k i = chosen Q' k i := by
    rw [Bool.eq_iff_iff, chosen_iff, chosen_iff]
    constructor
    · rintro ⟨j, hj, e⟩; exact ⟨j, hj, by rw [← h j hj]; exact e⟩
    · rintro ⟨j, hj, e⟩; exact ⟨j, hj, by rw [h j hj]; exact e⟩
  rw [e]
end

/-! quotients and rests -/
section
variable {t s : Int} {w : Nat → Int} {n : Nat}
def quo (t s : Int) (w : Nat → Int) (i : Nat) : Int := t * w i / s
def rst (t s : Int) (w : Nat → Int) (i : Nat) : Int := t * w i % s
structure Weights (t s : Int) (w : Nat → Int) (n : Nat) : Prop where
  t0 : 0 ≤ t
  s0 : 0 < s
  w0 : ∀ i, i < n → 0 ≤ w i
  sum : pre w n = s
theorem Weights.le (h : Weights t s w n) {i : Nat} (hi : i < n) : w i ≤ s := by
  rw [← h.sum]
  have h1 := pre_mono (f := w) (j := i + 1) h.w0 (by omega)
  have h2 := pre_nonneg (f := w) (n := i) fun k hk => h.w0 k (by omega)
  rw [pre_succ] at h1
  omega
theorem quo_rst (t s : Int) (w : Nat → Int) (i : Nat) : quo t s w i * s + rst t s w i = t * w i := by
  unfold quo rst
  have := Int.mul_ediv_add_emod (t * w i) s
  rw [Int.mul_comm] at this
  exact this
theorem Weights.q0 (h : Weights t s w n) {i : Nat} (hi : i < n) : 0 ≤ quo t s w i := Int.ediv_nonneg (Int.mul_nonneg h.t0 (h.w0 i hi)) (Int.le_of_lt h.s0)
theorem Weights.q1 (h : Weights t s w n) {i : Nat} (hi : i < n) : quo t s w i ≤ t := by
  unfold quo
  have h1 : t * w i ≤ t * s := Int.mul_le_mul_of_nonneg_left (h.le hi) h.t0
  have h2 := Int.ediv_le_ediv h.s0 h1
  rwa [Int.mul_ediv_cancel _ (by have := h.s0; omega)] at h2
theorem Weights.r0 (h : Weights t s w n) (i : Nat) : 0 ≤ rst t s w i := Int.emod_nonneg _ (by have := h.s0; omega)
theorem Weights.r1 (h : Weights t s w n) (i : Nat) : rst t s w i < s := Int.emod_lt_of_pos _ h.s0
theorem pre_quo (t s : Int) (w : Nat → Int) (j : Nat) : pre (quo t s w) j * s + pre (rst t s w) j = t * pre w j := by
  induction j with
  | zero => simp [pre_zero]
  | succ j ih =>
    rw [pre_succ, pre_succ, pre_succ, Int.add_mul, Int.mul_add]
    have := quo_rst t s w j
    omega
theorem Weights.pq (h : Weights t s w n) {j : Nat} (hj : j ≤ n) : 0 ≤ pre (quo t s w) j ∧ pre (quo t s w) j ≤ t := by
  refine ⟨pre_nonneg fun i hi => h.q0 (by omega), ?_⟩
  have h1 := pre_quo t s w j
  have h2 : 0 ≤ pre (rst t s w) j := pre_nonneg fun i _ => h.r0 i
  have h3 : pre w j ≤ s := by rw [← h.sum]; exact pre_mono h.w0 hj
  have h4 : t * pre w j ≤ t * s := Int.mul_le_mul_of_nonneg_left h3 h.t0
  have h5 : pre (quo t s w) j * s ≤ t * s := by omega
  exact Int.le_of_mul_le_mul_right h5 h.s0
def lft (t s : Int) (w : Nat → Int) (n : Nat) : Int := t - pre (quo t s w) n
theorem Weights.left_eq (h : Weights t s w n) : lft t s w n * s = pre (rst t s w) n := by
  have h1 := pre_quo t s w n
  rw [h.sum] at h1
  unfold lft
  rw [Int.sub_mul]
  omega
theorem Weights.left_bd (h : Weights t s w n) : 0 ≤ lft t s w n ∧ lft t s w n ≤ n := by
  refine ⟨by have := (h.pq (Nat.le_refl n)).2; unfold lft; omega, ?_⟩
  have h1 := h.left_eq
  have h2 : pre (rst t s w) n ≤ pre (fun _ => s) n := pre_le fun i _ => Int.le_of_lt (h.r1 i)
  rw [pre_const] at h2
  exact Int.le_of_mul_le_mul_right (by omega) h.s0
def outS (t s : Int) (w : Nat → Int) (n : Nat) (Q : Nat → Nat) (i : Nat) : Int := quo t s w i + bump Q (lft t s w n).toNat i
theorem Weights.total (h : Weights t s w n) {Q : Nat → Nat} (hQ : Re 0 n (fun i => i) Q) : pre (outS t s w n Q) n = t := by
  have hl := h.left_bd
  have e : pre (outS t s w n Q) n = pre (quo t s w) n + pre (bump Q (lft t s w n).toNat) n := pre_add _ _ n
  rw [e, pre_bump hQ (by omega)]
  unfold lft at *
  omega
/-- Who has no rest is not among those that get one more. -/
theorem Weights.none (h : Weights t s w n) {Q : Nat → Nat} (hQ : Re 0 n (fun i => i) Q) (hs : ∀ i j, i < j → j < n → rst t s w (Q j) ≤ rst t s w (Q i)) {i : Nat} (hr : rst t s w i = 0) : bump Q (lft t s w n).toNat i = 0 := by
  unfold bump
  rw [if_neg]
  rw [chosen_iff]
  rintro ⟨k, hk, rfl⟩
  have hl := h.left_bd
  have h1 := h.left_eq
  rw [← pre_places hQ (rst t s w)] at h1
  have h2 : pre (fun k => rst t s w (Q k)) n ≤ pre (fun j => if j < k then s - 1 else 0) n := by
    refine pre_le fun j hj => ?_
    by_cases e : j < k
    · rw [if_pos e]; have := h.r1 (Q j); omega
    · rw [if_neg e]
      by_cases e2 : j = k
      · rw [e2, hr]; exact Int.le_refl _
      · have := hs k j (by omega) hj; omega
  have h3 : pre (fun j => if j < k then s - 1 else 0) n = k * (s - 1) := by
    have e : ∀ m, pre (fun j => if j < k then s - 1 else 0) m = (if m ≤ k then (m : Int) else k) * (s - 1) := by
      intro m
      induction m with
      | zero => simp [pre_zero]
      | succ m ih =>
        rw [pre_succ, ih]
        by_cases e1 : m < k
        · rw [if_pos (by omega), if_pos e1, if_pos (by omega), Int.natCast_add, Int.add_mul]; simp
        · rw [if_neg e1]
          by_cases e2 : m = k
          · rw [if_pos (by omega), if_neg (by omega), e2]; omega
          · rw [if_neg (by omega), if_neg (by omega)]; omega
    rw [e n]
    by_cases e1 : n ≤ k
    · omega
    · rw [if_neg e1]
  have h4 : (k : Int) * (s - 1) ≤ (lft t s w n - 1) * (s - 1) := Int.mul_le_mul_of_nonneg_right (by omega) (by have := h.s0; omega)
  have h5 : (lft t s w n - 1) * (s - 1) = lft t s w n * s - lft t s w n - s + 1 := by grind
  have := h.s0
  omega
/-- Who comes ahead of one that gets one more gets one more. -/
theorem bump_ahead {R : Nat → Nat → Prop} {Q : Nat → Nat} (hQ : Re 0 n (fun i => i) Q) (hs : Srt R Q 0 n) (ha : ∀ i j, R i j → R j i → False) {k i j : Nat} (hi : i < n) (hij : R i j) : bump Q k j ≤ bump Q k i := by
  by_cases hj : chosen Q k j = true
  · obtain ⟨l, hl, rfl⟩ := (chosen_iff _ _ _).1 hj
    obtain ⟨m, hm, rfl⟩ := place_onto hQ hi
    rw [bump_at hQ, bump_at hQ, if_pos hl]
    by_cases e : m < k
    · rw [if_pos e]; exact Int.le_refl _
    · exact (ha _ _ hij (hs l m (Nat.zero_le _) (by omega) hm)).elim
  · have : bump Q k j = 0 := by unfold bump; rw [if_neg hj]
    rw [this]; exact (bump_bd Q k i).1
end

/-! the best of those that have got nothing yet -/
section
variable {n : Nat} {Q : Nat → Nat} {R : Nat → Nat → Prop}
/-- Of the first i: none that has got nothing yet, or the one that comes ahead of all such. -/
def Best (R : Nat → Nat → Prop) (Q : Nat → Nat) (k i : Nat) (b : Int) : Prop :=
  (b = -1 ∧ ∀ j, j < i → chosen Q k j = true) ∨ (∃ c : Nat, b = c ∧ c < i ∧ chosen Q k c = false ∧ ∀ j, j < i → chosen Q k j = false → j = c ∨ R c j)
theorem best_zero (R : Nat → Nat → Prop) (Q : Nat → Nat) (k : Nat) : Best R Q k 0 (-1) := Or.inl ⟨rfl, fun j h => by omega⟩
theorem best_pass {k i : Nat} {b : Int} (h : Best R Q k i b) (hc : chosen Q k i = true) : Best R Q k (i + 1) b := by
  rcases h with ⟨h1, h2⟩ | ⟨c, h1, h2, h3, h4⟩
  · refine Or.inl ⟨h1, fun j hj => ?_⟩
    by_cases e : j = i
    · rw [e]; exact hc
    · exact h2 j (by omega)
  · refine Or.inr ⟨c, h1, by omega, h3, fun j hj hj2 => ?_⟩
    by_cases e : j = i
    · rw [e, hc] at hj2; cases hj2
    · exact h4 j (by omega) hj2
theorem best_first {k i : Nat} (h : Best R Q k i (-1)) (hc : chosen Q k i = false) : Best R Q k (i + 1) i := by
  rcases h with ⟨-, h2⟩ | ⟨c, h1, -⟩
  · refine Or.inr ⟨i, rfl, by omega, hc, fun j hj hj2 => ?_⟩
    by_cases e : j = i
    · exact Or.inl e
    · rw [h2 j (by omega)] at hj2; cases hj2
  · omega
theorem best_more {k i c : Nat} (ht : ∀ {i j k}, R i j → R j k → R i k) (h : Best R Q k i (c : Int)) (hc : chosen Q k i = false) (hr : R i c) : Best R Q k (i + 1) i := by
  rcases h with ⟨h1, -⟩ | ⟨c', h1, h2, h3, h4⟩
  · omega
  · obtain rfl : c = c' := by omega
    refine Or.inr ⟨i, rfl, by omega, hc, fun j hj hj2 => ?_⟩
    by_cases e : j = i
    · exact Or.inl e
    · rcases h4 j (by omega) hj2 with e2 | e2
      · rw [e2]; exact Or.inr hr
      · exact Or.inr (ht hr e2)
theorem best_stay {k i c : Nat} (h : Best R Q k i (c : Int)) (hr : R c i) : Best R Q k (i + 1) c := by
  rcases h with ⟨h1, -⟩ | ⟨c', h1, h2, h3, h4⟩
  · omega
  · obtain rfl : c = c' := by omega
    refine Or.inr ⟨c, rfl, by omega, h3, fun j hj hj2 => ?_⟩
    by_cases e : j = i
    · rw [e]; exact Or.inr hr
    · exact h4 j (by omega) hj2
theorem not_chosen (h : Re 0 n (fun i => i) Q) {k j : Nat} (hj : k ≤ j) : chosen Q k (Q j) = false := by
  rw [Bool.eq_false_iff]
  intro hc
  obtain ⟨l, hl, e⟩ := (chosen_iff _ _ _).1 hc
  have := place_inj h _ _ e
  omega
theorem best_all (h : Re 0 n (fun i => i) Q) (hs : Srt R Q 0 n) (ha : ∀ i j, R i j → R j i → False) {k : Nat} {b : Int} (hk : k < n) (hb : Best R Q k n b) : b = (Q k : Nat) := by
  rcases hb with ⟨-, h2⟩ | ⟨c, h1, h2, h3, h4⟩
  · have := h2 (Q k) (place_lt h hk)
    rw [not_chosen h (Nat.le_refl _)] at this; cases this
  · obtain ⟨m, hm, rfl⟩ := place_onto h h2
    have hkm : k ≤ m := by
      rcases Nat.lt_or_ge m k with hl | hl
      · rw [(chosen_iff _ _ _).2 ⟨m, hl, rfl⟩] at h3; cases h3
      · exact hl
    by_cases e : m = k
    · rw [h1, e]
    · exfalso
      rcases h4 (Q k) (place_lt h hk) (not_chosen h (Nat.le_refl _)) with e2 | e2
      · have := place_inj h _ _ e2; omega
      · exact ha _ _ e2 (hs k m (Nat.zero_le _) (by omega) hm)
theorem best_bd {k i : Nat} {b : Int} (h : Best R Q k i b) : b = -1 ∨ ∃ c : Nat, b = c ∧ c < i := by
  rcases h with ⟨h1, -⟩ | ⟨c, h1, h2, -⟩
  · exact Or.inl h1
  · exact Or.inr ⟨c, h1, h2⟩
end
end Go.Proofs.YtkddiaiohnbjpaaGreatDoor.Share
namespace Go.Proofs.YtkddiaiohnbjpaaGreatDoor.Share
open Go.ChangeShapes Go.WideShapes Go.ChangeAt Go.RowKit Bits Slice Law Stable

theorem nan_any (a : Int) (w : World) : Calls Tryz.prog 154 #[.int .u64 a] w fun e w' => e = .returned (.bool false) ∧ w = w' := by
  have h : (a != a) = false := by simp
  go_enter Tryz.func154, Tryz.ntmps154
  go_wp2_with fail
  go_ret
  exact ⟨rfl, rfl⟩

/-- -1, 0, 1. -/
def cmpI (a b : Int) : Int := if a < b then -1 else if b < a then 1 else 0
theorem compare_any (a b : Int) (w : World) : Calls Tryz.prog 142 #[.int .u64 a, .int .u64 b] w fun e w' => e = .returned (.int .i64 (cmpI a b)) ∧ w = w' := by
  by_cases h : a < b
  · have H : Hid (cmpI a b = -1) := if_pos h
    go_enter Tryz.func142, Tryz.ntmps142
    go_wp2_with fail
    refine (nan_any _ _).mono ?_
    rintro e w' ⟨rfl, rfl⟩
    go_wp2_with fail
    refine (nan_any _ _).mono ?_
    rintro e w' ⟨rfl, rfl⟩
    go_wp2_with fail
    go_ret
    exact ⟨ret_int H.out.symm, rfl⟩
  · by_cases h2 : b < a
    · have H : Hid (cmpI a b = 1) := by show cmpI a b = 1; unfold cmpI; rw [if_neg h, if_pos h2]
      go_enter Tryz.func142, Tryz.ntmps142
      go_wp2_with fail
      refine (nan_any _ _).mono ?_
      rintro e w' ⟨rfl, rfl⟩
      go_wp2_with fail
      refine (nan_any _ _).mono ?_
      rintro e w' ⟨rfl, rfl⟩
      go_wp2_with fail
      go_ret
      exact ⟨ret_int H.out.symm, rfl⟩
    · have H : Hid (cmpI a b = 0) := by show cmpI a b = 0; unfold cmpI; rw [if_neg h, if_neg h2]
      go_enter Tryz.func142, Tryz.ntmps142
      go_wp2_with fail
      refine (nan_any _ _).mono ?_
      rintro e w' ⟨rfl, rfl⟩
      go_wp2_with fail
      refine (nan_any _ _).mono ?_
      rintro e w' ⟨rfl, rfl⟩
      go_wp2_with fail
      go_ret
      exact ⟨ret_int H.out.symm, rfl⟩

theorem Calls.quiet_left {P : Program} {f : FuncId} {args : Array Value} {w : World} {n : Nat} {v : Value}
    (h : Calls P f args (w.drewN n) fun e w' => e = .returned v ∧ w.drewN n = w') : Calls P f args (w.drewN n) fun e w'' => e = .returned v ∧ ∃ m, w'' = w.drewN m :=
  h.mono fun _ _ ⟨he, hm⟩ => ⟨he, n, hm.symm⟩

/-- Of two places that with the greater rest first, of as great ones the first. -/
def ltR (rs : List Int) (i j : Nat) : Bool := decide (rs.getD j 0 < rs.getD i 0)
def ordR (rs : List Int) (i j : Nat) : Prop := rs.getD j 0 < rs.getD i 0 ∨ rs.getD i 0 = rs.getD j 0 ∧ i < j
theorem ordR_ord (rs : List Int) : Ord (ordR rs) (ltR rs) := by
  refine ⟨?_, ?_, ?_⟩
  · intro i j k h1 h2
    unfold ordR at *
    omega
  · intro i j h1 h2
    have := of_decide_eq_true h2
    exact Or.inl this
  · intro i j h1 h2
    have := of_decide_eq_false h2
    unfold ordR
    omega

theorem closure_any (rs : List Int) (v : Value) (B p : Nat) (w : World) (hp : w.cell? ⟨p, 0, none⟩ = some v) (hv : Ints w B .u64 v rs) (i j : Nat) (hi : i < rs.length) (hj : j < rs.length) :
    Calls Tryz.prog 141 #[.int .i64 i, .int .i64 j, .pointer (some ⟨p, 0, none⟩)] w fun e w' => e = .returned (.int .i64 (cmpI (rs.getD j 0) (rs.getD i 0))) ∧ ∃ k, w' = w.drewN k := by
  obtain ⟨A, c, rfl, hl, -, hcell⟩ := hv
  obtain ⟨b, off, rfl, hb, hcell⟩ := hcell (by omega)
  have h1 := hcell i hi
  have h2 := hcell j hj
  have i0 : (0 : Int) ≤ i := by omega
  have j0 : (0 : Int) ≤ j := by omega
  have i1 : (i : Int) < rs.length := by omega
  have j1 : (j : Int) < rs.length := by omega
  clear hcell
  generalize rs.getD i 0 = x at *
  generalize rs.getD j 0 = y at *
  go_enter Tryz.func141, Tryz.ntmps141
  go_wp2_with fail
  go_quiet ((exact Calls.quiet_left (compare_any _ _ _)))
  go_wp2_with fail
  go_ret
  exact ⟨rfl, _, rfl⟩

theorem int_info : (Tryz.prog.info? 3).map (fun i => (i.zero, i.size, i.bytes)) = some (some (.int .i64 0), 1, 8) := by kernel_rfl
theorem closure_enters : ∀ (args : Array Value) (w : World), (callFunc 141 args).run Tryz.prog w = .ok (.enter 141 args) w :=
  enters_of Tryz.func141 (by kernel_rfl) rfl
theorem cmpI_sign (a b : Int) : decide (cmpI a b < 0) = decide (a < b) := by
  unfold cmpI
  by_cases h : a < b
  · rw [if_pos h]; simp [h]
  · rw [if_neg h]
    by_cases h2 : b < a
    · rw [if_pos h2]; simp [h]
    · rw [if_neg h2]; simp [h]
/-- The closure compares, wherever only the row of places has turned. -/
theorem closure_cmp (rs : List Int) (v : Value) (B p g : Nat) (w : World) (hB : B ≤ w.heap.size) (hp : w.cell? ⟨p, 0, none⟩ = some v) (hv : Ints w B .u64 v rs) (hg : B ≤ g) (hpg : p ≠ g) :
    Cmp (fun i => (i : Int)) (ltR rs) (fun i j => cmpI (rs.getD j 0) (rs.getD i 0)) 141 #[.pointer (some ⟨p, 0, none⟩)] g rs.length w := by
  have hlt := lt_of_cell hp
  refine ⟨closure_enters, fun i j => cmpI_sign _ _, fun w' h i j hi hj => ?_⟩
  have kp : w'.cell? ⟨p, 0, none⟩ = some v := (World.cell?_of_block (w := w) (h.block p hlt (fun e => hpg (by injection e)))).trans hp
  have kv : Ints w' B .u64 v rs := hv.keep fun b o hb => World.cell?_of_block (w := w) (h.block b (by omega) (fun e => by injection e; omega))
  exact closure_any rs v B p w' kp kv i j hi hj

def Sorted (rs : List Int) (w : World) (e : Ending) (w' : World) : Prop :=
  ∃ (g : Nat) (Q : Nat → Nat), e = .returned (.slice (some ⟨g, 0, none⟩) rs.length rs.length) ∧ w'.rowIs g 3 rs.length (rowE (fun i => (i : Int)) Q) ∧ Re 0 rs.length (fun i => i) Q ∧ Srt (ordR rs) Q 0 rs.length ∧ Below w.heap.size w w' ∧ w.heap.size ≤ g

def placeRow (j : Nat) (i : Nat) : Value := .int .i64 (if i < j then (i : Int) else 0)

set_option maxHeartbeats 400000 in
theorem greatest_any (hm : ∀ (E : Nat → Int) (lt : Nat → Nat → Bool) (c : Nat → Nat → Int) (R : Nat → Nat → Prop) (F : FuncId) (cap : Array Value) (g n : Nat) (W : World), Ord R lt → Cmp E lt c F cap g n W → n ≤ 1152921504606846976 → ∀ d, MergeTo E R F cap g n W d)
    (rs : List Int) (v : Value) (B : Nat) (w : World) (hB : B ≤ w.heap.size) (hv : Ints w B .u64 v rs) (hlen : rs.length ≤ 1000) :
    Calls Tryz.prog 115 #[v] w (Sorted rs w) := by
  obtain ⟨A, c, rfl, hl, hn, hc⟩ := hv
  have HV : Hid (Ints w B .u64 (.slice A rs.length c) rs) := ⟨A, c, rfl, hl, hn, hc⟩
  have hmk := fun W : World => run_make_row' (P := Tryz.prog) 41 3 (.int .i64 0) 8 Tryz.underlying41 int_info rfl .i64 .i64 rs.length (by omega) (by omega) W
  have hmf : ∀ (fn : Fn) (first cap : Array Value) (w : World), (Instr.makeFunc fn first cap).run Tryz.prog w = .ok (.func fn first cap) w := fun _ _ _ _ => rfl
  have HM := Lib.hid hm
  clear hn hc hm
  go_enter Tryz.func115, Tryz.ntmps115
  go_wp2_with fail
  clear hmk
  go_loopw [10] (fun t wr => ∃ j : Nat, j ≤ rs.length ∧ t = .int .i64 j ∧ Hid (wr.rowIs (w.heap.size + 1) 3 rs.length (placeRow j)) ∧ Hid (Below (w.heap.size + 1) (w.alloc (.cells #[.slice A rs.length c] 136)) wr)) (fun t _ => rs.length - (intOf t).toNat)
  case atStart =>
    refine ⟨0, Nat.zero_le _, rfl, ?_, (Below.refl _ _).alloc (by simp) _⟩
    have h := World.rowIs_made (w.alloc (.cells #[.slice A rs.length c] 136)) (.int .i64 0) rs.length 3
    simp only [World.size_alloc] at h
    exact h.congr fun i _ => by unfold placeRow; rw [if_neg (by omega)]
  case round =>
    obtain ⟨j, hj, rfl, HRow, HB⟩ := hrel
    by_cases hlt : j < rs.length
    · have ca := HRow.out.cell hlt
      have fa := HRow.out.frozen j
      have lg := HRow.out.lt
      have j0 : (0 : Int) ≤ j := by omega
      have HS := Lib.hid (HRow.out.set j (.int .i64 j))
      go_wp2_with fail
      go_roundw
      case rel =>
        refine ⟨j + 1, hlt, by go_num, ?_, HB.out.setCell (by show w.heap.size + 1 ≤ w.heap.size + 1; omega) _⟩
        refine HS.out.congr fun i _ => ?_
        unfold placeRow
        by_cases e : i = j
        · subst e; rw [if_pos rfl, if_pos (by omega)]
        · rw [if_neg e]
          by_cases h1 : i < j
          · rw [if_pos h1, if_pos (by omega)]
          · rw [if_neg h1, if_neg (by omega)]
      case measure => simp [intOf]; omega
    · obtain rfl : j = rs.length := by omega
      obtain ⟨w1, rfl⟩ : ∃ w1 : World, w1 = wr := ⟨_, rfl⟩
      have hrow : w1.rowIs (w.heap.size + 1) 3 rs.length (rowE (fun i => (i : Int)) fun i => i) := HRow.out.congr fun i hi => by unfold placeRow rowE; rw [if_pos hi]
      have hp : w1.cell? ⟨w.heap.size, 0, none⟩ = some (.slice A rs.length c) := (HB.out.cell (p := ⟨w.heap.size, 0, none⟩) (by show w.heap.size < w.heap.size + 1; omega)).trans (by simp)
      have hb : Below w.heap.size w w1 := ((Below.refl _ _).alloc (Nat.le_refl _) _).trans (HB.out.mono (by omega))
      have hcmp := closure_cmp rs (.slice A rs.length c) B w.heap.size (w.heap.size + 1) w1 (by have := hb.size; omega) hp (HV.out.keep fun b o h => hb.cell (p := ⟨b, o, none⟩) (by show b < _; omega)) (by omega) (by omega)
      have HCall := Lib.hid (sort_any _ _ _ (ordR rs) (ordR_ord rs) _ _ _ _ w1 hcmp (HM.out _ _ _ (ordR rs) _ _ _ _ _ (ordR_ord rs) hcmp (by omega)) (by omega) hrow)
      have HBW := Lib.hid hb
      clear hrow hp hb hcmp HRow
      go_wp2_with fail
      have hcc := HCall.out
      refine hcc.mono ?_
      clear hcc HCall
      rintro e w2 ⟨Q, ⟨rfl, hr1, hg1⟩, hq1, hs1⟩
      have HR1 := Lib.hid hr1
      have HG1 := Lib.hid (HBW.out.grown hg1 HBW.out.size (fun k h => by injection h; omega))
      have HQ1 := Lib.hid hq1
      have HS1 := Lib.hid hs1
      clear hr1 hg1 hq1 hs1
      go_wp2_with fail
      go_ret
      exact ⟨_, Q, rfl, HR1.out, HQ1.out, HS1.out, HG1.out, Nat.le_succ _⟩

def SortedN (rs : List Int) (n : Nat) (w : World) (e : Ending) (w' : World) : Prop :=
  ∃ (g : Nat) (Q : Nat → Nat), e = .returned (.slice (some ⟨g, 0, none⟩) n n) ∧ w'.rowIs g 3 n (rowE (fun i => (i : Int)) Q) ∧ Re 0 n (fun i => i) Q ∧ Srt (ordR rs) Q 0 n ∧ Below w.heap.size w w' ∧ w.heap.size ≤ g
theorem greatest_n (hm : ∀ (E : Nat → Int) (lt : Nat → Nat → Bool) (c : Nat → Nat → Int) (R : Nat → Nat → Prop) (F : FuncId) (cap : Array Value) (g n : Nat) (W : World), Ord R lt → Cmp E lt c F cap g n W → n ≤ 1152921504606846976 → ∀ d, MergeTo E R F cap g n W d)
    (rs : List Int) (v : Value) (B : Nat) (w : World) (hB : B ≤ w.heap.size) (hv : Ints w B .u64 v rs) (hlen : rs.length ≤ 1000) (n : Nat) (hn : rs.length = n) :
    Calls Tryz.prog 115 #[v] w (SortedN rs n w) := by
  subst hn
  exact greatest_any hm rs v B w hB hv hlen
end Go.Proofs.YtkddiaiohnbjpaaGreatDoor.Share
namespace Go.Proofs.YtkddiaiohnbjpaaGreatDoor.Share
open Go.ChangeShapes Go.WideShapes Go.ChangeAt Go.RowKit Bits Money Slice

def okB (a : Int) : Bool := decide (0 ≤ a ∧ a ≤ 10000000000000)
theorem okB_yes {a : Int} (h0 : 0 ≤ a) (h : goodB a = true) : okB a = true := by
  have := (goodB_iff a).1 h
  exact decide_eq_true ⟨h0, this.2⟩
theorem okB_low {a : Int} (h : a < 0) : okB a = false := decide_eq_false (by omega)
theorem okB_great {a : Int} (h : goodB a = false) : okB a = false := by
  unfold goodB at h
  have := of_decide_eq_false h
  exact decide_eq_false (by omega)
theorem okB_iff (a : Int) : okB a = true ↔ 0 ≤ a ∧ a ≤ 10000000000000 := by unfold okB; simp

theorem bad_any (a : Int) (w : World) : Calls Tryz.prog 137 #[.int .i64 a] w fun e w' => e = .returned (.bool (!okB a)) ∧ w = w' := by
  by_cases h : a < 0
  · have H := Lib.hid (okB_low h)
    go_enter Tryz.func137, Tryz.ntmps137
    go_wp2_with fail
    go_ret
    exact ⟨by rw [H.out]; rfl, rfl⟩
  · cases hg : goodB a with
    | true =>
      have H := Lib.hid (okB_yes (by omega) hg)
      have G := Lib.hid hg
      clear hg
      go_enter Tryz.func137, Tryz.ntmps137
      go_wp2_with fail
      refine (Money.good_any a _).mono ?_
      rw [G.out]
      rintro e w' ⟨rfl, rfl⟩
      go_wp2_with fail
      go_ret
      exact ⟨by rw [H.out]; rfl, rfl⟩
    | false =>
      have H := Lib.hid (okB_great hg)
      have G := Lib.hid hg
      clear hg
      go_enter Tryz.func137, Tryz.ntmps137
      go_wp2_with fail
      refine (Money.good_any a _).mono ?_
      rw [G.out]
      rintro e w' ⟨rfl, rfl⟩
      go_wp2_with fail
      go_ret
      exact ⟨by rw [H.out]; rfl, rfl⟩

theorem rgood_any (a : Int) (w : World) : Calls Tryz.prog 120 #[.int .i64 a] w fun e w' => e = .returned (.bool (okB a)) ∧ w = w' := by
  by_cases h : a < 0
  · have H := Lib.hid (okB_low h)
    have h' : decide (0 ≤ a) = false := decide_eq_false (by omega)
    go_enter Tryz.func120, Tryz.ntmps120
    go_wp2_with fail
    go_ret
    exact ⟨ret_bool H.out.symm, rfl⟩
  · have h' : 0 ≤ a := by omega
    cases hg : goodB a with
    | true =>
      have H := Lib.hid (okB_yes (by omega) hg)
      have G := Lib.hid hg
      clear hg
      go_enter Tryz.func120, Tryz.ntmps120
      go_wp2_with fail
      refine (Ref.good_any a _).mono ?_
      rw [G.out]
      rintro e w' ⟨rfl, rfl⟩
      go_wp2_with fail
      go_ret
      exact ⟨ret_bool H.out.symm, rfl⟩
    | false =>
      have H := Lib.hid (okB_great hg)
      have G := Lib.hid hg
      clear hg
      go_enter Tryz.func120, Tryz.ntmps120
      go_wp2_with fail
      refine (Ref.good_any a _).mono ?_
      rw [G.out]
      rintro e w' ⟨rfl, rfl⟩
      go_wp2_with fail
      go_ret
      exact ⟨ret_bool H.out.symm, rfl⟩

/-- The place of the first one that may not be, or -1. -/
def badAt (zs : List Int) : Int := match zs.findIdx? (fun z => !okB z) with
  | some j => (j : Int)
  | none => -1
def OkTo (zs : List Int) (j : Nat) : Prop := ∀ i, i < j → okB (zs.getD i 0) = true
theorem okTo_zero (zs : List Int) : OkTo zs 0 := fun i h => absurd h (by omega)
theorem okTo_succ {zs : List Int} {j : Nat} (h : OkTo zs j) (hb : okB (zs.getD j 0) = true) : OkTo zs (j + 1) := fun i hi => by
  rcases Nat.lt_or_ge i j with h1 | h1
  · exact h i h1
  · obtain rfl : i = j := by omega
    exact hb
theorem getD_lt {zs : List Int} {j : Nat} (h : j < zs.length) : zs.getD j 0 = zs[j] := by simp [List.getD_eq_getElem?_getD, List.getElem?_eq_getElem h]
theorem badAt_some {zs : List Int} {j : Nat} (hj : j < zs.length) (h : OkTo zs j) (hb : okB (zs.getD j 0) = false) : badAt zs = j := by
  have e : zs.findIdx? (fun z => !okB z) = some j := by
    rw [List.findIdx?_eq_some_iff_getElem]
    refine ⟨hj, by rw [getD_lt hj] at hb; simp [hb], fun i hi => ?_⟩
    have := h i hi
    rw [getD_lt (by omega)] at this
    simp [this]
  unfold badAt; rw [e]
theorem badAt_none {zs : List Int} (h : OkTo zs zs.length) : badAt zs = -1 := by
  have e : zs.findIdx? (fun z => !okB z) = none := by
    rw [List.findIdx?_eq_none_iff]
    intro z hz
    obtain ⟨i, hi, rfl⟩ := List.getElem_of_mem hz
    have := h i hi
    rw [getD_lt hi] at this
    simp [this]
  unfold badAt; rw [e]
def allB (zs : List Int) : Bool := zs.all okB
theorem allB_iff (zs : List Int) : allB zs = true ↔ ∀ z ∈ zs, okB z = true := by unfold allB; rw [List.all_eq_true]
theorem allB_to (zs : List Int) : allB zs = true ↔ OkTo zs zs.length := by
  rw [allB_iff]
  constructor
  · intro h i hi
    rw [getD_lt hi]; exact h _ (List.getElem_mem hi)
  · intro h z hz
    obtain ⟨i, hi, rfl⟩ := List.getElem_of_mem hz
    have := h i hi
    rwa [getD_lt hi] at this
theorem badAt_sign (zs : List Int) : decide (0 ≤ badAt zs) = !allB zs := by
  cases h : allB zs with
  | true => rw [badAt_none ((allB_to zs).1 h)]; rfl
  | false =>
    unfold badAt
    cases e : zs.findIdx? (fun z => !okB z) with
    | some j => simp
    | none =>
      exfalso
      rw [List.findIdx?_eq_none_iff] at e
      have : allB zs = true := (allB_iff zs).2 fun z hz => by simpa using e z hz
      rw [h] at this; cases this
theorem badAt_bd (zs : List Int) (h : zs.length ≤ 9223372036854775807) : -1 ≤ badAt zs ∧ badAt zs ≤ 9223372036854775807 := by
  unfold badAt
  cases e : zs.findIdx? (fun z => !okB z) with
  | some j =>
    rw [List.findIdx?_eq_some_iff_getElem] at e
    obtain ⟨hj, -⟩ := e
    exact ⟨by show -1 ≤ (j : Int); omega, by show (j : Int) ≤ _; omega⟩
  | none => exact ⟨by show (-1 : Int) ≤ -1; omega, by show (-1 : Int) ≤ _; omega⟩

theorem index_any (zs : List Int) (v : Value) (B : Nat) (w : World) (hv : Ints w B .i64 v zs) :
    Calls Tryz.prog 152 #[v, .func (.func 137) #[] #[]] w fun e w' => e = .returned (.int .i64 (badAt zs)) ∧ w = w' := by
  obtain ⟨A, c, rfl, hl, -, hcell⟩ := hv
  have HC := Lib.hid hcell
  clear hcell
  go_enter Tryz.func152, Tryz.ntmps152
  go_wp2_with fail
  go_loop [8] (fun t => ∃ j : Nat, j ≤ zs.length ∧ t = .int .i64 j ∧ Hid (OkTo zs j)) (fun t => zs.length - (intOf t).toNat)
  case atStart => exact ⟨0, Nat.zero_le _, rfl, okTo_zero zs⟩
  case round =>
    obtain ⟨j, hj, rfl, HP⟩ := hrel
    by_cases hlt : j < zs.length
    · obtain ⟨b, off, rfl, hb, hcell⟩ := HC.out (by omega)
      have hx := hcell j hlt
      clear hcell
      have H1 := fun h => Lib.hid (okTo_succ HP.out h)
      have H2 := fun h => Lib.hid (badAt_some hlt HP.out h)
      cases ho : okB (zs.getD j 0) with
      | true =>
        have H3 := H1 ho
        clear H1 H2
        have HO := Lib.hid ho
        clear ho
        generalize zs.getD j 0 = x at *
        go_wp2_with fail
        refine (bad_any _ _).mono ?_
        rw [HO.out]
        rintro e w' ⟨rfl, rfl⟩
        go_wp2_with fail
        go_round
        case rel => exact ⟨j + 1, by omega, by go_num, H3⟩
        case measure => simp [intOf]; omega
      | false =>
        have H3 := H2 ho
        clear H1 H2
        have HO := Lib.hid ho
        clear ho
        generalize zs.getD j 0 = x at *
        go_wp2_with fail
        refine (bad_any _ _).mono ?_
        rw [HO.out]
        rintro e w' ⟨rfl, rfl⟩
        go_wp2_with fail
        go_ret
        exact ⟨ret_int H3.out.symm, rfl⟩
    · obtain rfl : j = zs.length := by omega
      have H3 := Lib.hid (badAt_none HP.out)
      go_wp2_with fail
      go_ret
      exact ⟨ret_int H3.out.symm, rfl⟩

theorem contains_any (zs : List Int) (v : Value) (B : Nat) (w : World) (hv : Ints w B .i64 v zs) :
    Calls Tryz.prog 138 #[v, .func (.func 137) #[] #[]] w fun e w' => e = .returned (.bool (!allB zs)) ∧ w = w' := by
  have hl : zs.length ≤ 9223372036854775807 := by obtain ⟨A, c, rfl, hl, -, -⟩ := hv; exact hl
  have HV := Lib.hid hv
  clear hv
  have HB := Lib.hid (badAt_sign zs)
  obtain ⟨b0, b1⟩ := badAt_bd zs hl
  go_enter Tryz.func138, Tryz.ntmps138
  go_wp2_with fail
  refine (index_any zs v B _ HV.out).mono ?_
  rintro e w' ⟨rfl, rfl⟩
  go_wp2_with fail
  go_ret
  exact ⟨ret_bool HB.out, rfl⟩

def fitB (total : Int) (zs : List Int) : Bool := decide (zs.length ≤ 1000) && okB total && allB zs
theorem fitB_iff (total : Int) (zs : List Int) : fitB total zs = true ↔ zs.length ≤ 1000 ∧ okB total = true ∧ allB zs = true := by
  unfold fitB; simp [and_assoc]

theorem fit_any (total : Int) (zs : List Int) (v : Value) (B : Nat) (w : World) (hv : Ints w B .i64 v zs) :
    Calls Tryz.prog 112 #[.int .i64 total, v] w fun e w' => e = .returned (.bool (fitB total zs)) ∧ w = w' := by
  obtain ⟨A, c, rfl, hl, hn, hc⟩ := hv
  have HV : Hid (Ints w B .i64 (.slice A zs.length c) zs) := ⟨A, c, rfl, hl, hn, hc⟩
  clear hc hn
  by_cases h : zs.length ≤ 1000
  · cases ho : okB total with
    | true =>
      have HF : Hid (fitB total zs = allB zs) := by show fitB total zs = allB zs; unfold fitB; rw [ho]; simp [h]
      have HO := Lib.hid ho
      clear ho
      go_enter Tryz.func112, Tryz.ntmps112
      go_wp2_with fail
      refine (bad_any _ _).mono ?_
      rw [HO.out]
      rintro e w' ⟨rfl, rfl⟩
      go_wp2_with fail
      refine (contains_any zs _ B _ HV.out).mono ?_
      rintro e w' ⟨rfl, rfl⟩
      cases hb : allB zs with
      | true =>
        have HB := Lib.hid hb
        clear hb
        go_wp2_with fail
        go_ret
        exact ⟨ret_bool (by rw [HF.out, HB.out]), rfl⟩
      | false =>
        have HB := Lib.hid hb
        clear hb
        go_wp2_with fail
        go_ret
        exact ⟨ret_bool (by rw [HF.out, HB.out]), rfl⟩
    | false =>
      have HF : Hid (fitB total zs = false) := by show fitB total zs = false; unfold fitB; rw [ho]; simp
      have HO := Lib.hid ho
      clear ho
      go_enter Tryz.func112, Tryz.ntmps112
      go_wp2_with fail
      refine (bad_any _ _).mono ?_
      rw [HO.out]
      rintro e w' ⟨rfl, rfl⟩
      go_wp2_with fail
      go_ret
      exact ⟨ret_bool HF.out.symm, rfl⟩
  · have HF : Hid (fitB total zs = false) := by show fitB total zs = false; unfold fitB; simp [h]
    have h' : 1000 < zs.length := by omega
    go_enter Tryz.func112, Tryz.ntmps112
    go_wp2_with fail
    go_ret
    exact ⟨ret_bool HF.out.symm, rfl⟩
end Go.Proofs.YtkddiaiohnbjpaaGreatDoor.Share
namespace Go.Proofs.YtkddiaiohnbjpaaGreatDoor.Share
open Go.ChangeShapes Go.WideShapes Go.ChangeAt Go.RowKit Bits Money Slice Law

/-- What is left ahead of room j. -/
def fRest (t : Int) (zs : List Int) : Nat → Int
  | 0 => t
  | j + 1 => fRest t zs j - min (zs.getD j 0) (fRest t zs j)
/-- What goes into room j. -/
def fPart (t : Int) (zs : List Int) (j : Nat) : Int := min (zs.getD j 0) (fRest t zs j)
theorem fRest_succ (t : Int) (zs : List Int) (j : Nat) : fRest t zs (j + 1) = fRest t zs j - fPart t zs j := rfl
def fParts (t : Int) (zs : List Int) : List Int := (List.range zs.length).map (fPart t zs)

theorem ok_at {zs : List Int} (h : allB zs = true) {j : Nat} (hj : j < zs.length) : 0 ≤ zs.getD j 0 ∧ zs.getD j 0 ≤ 10000000000000 := by
  rw [← okB_iff]; exact (allB_to zs).1 h j hj
theorem fRest_bd {t : Int} {zs : List Int} (ht : okB t = true) (h : allB zs = true) : ∀ j, j ≤ zs.length → 0 ≤ fRest t zs j ∧ fRest t zs j ≤ 10000000000000
  | 0, _ => (okB_iff t).1 ht
  | j + 1, hj => by
    have ih := fRest_bd ht h j (by omega)
    have hz := ok_at h (j := j) (by omega)
    rw [fRest_succ]
    unfold fPart
    omega

/-- A row of parts, filled up to j. -/
def partRow (f : Nat → Int) (j : Nat) (i : Nat) : Value := .int .i64 (if i < j then f i else 0)
theorem partRow_step {w : World} {b : Nat} {t : TypeId} {n j : Nat} {f : Nat → Int} (h : (w.setCell ⟨b, j, none⟩ (.int .i64 (f j))).rowIs b t n (fun i => if i = j then .int .i64 (f j) else partRow f j i)) :
    (w.setCell ⟨b, j, none⟩ (.int .i64 (f j))).rowIs b t n (partRow f (j + 1)) :=
  h.congr fun i _ => by
    unfold partRow
    by_cases e : i = j
    · subst e; rw [if_pos rfl, if_pos (by omega)]
    · rw [if_neg e]
      by_cases h1 : i < j
      · rw [if_pos h1, if_pos (by omega)]
      · rw [if_neg h1, if_neg (by omega)]

theorem i64_info : (Tryz.prog.info? 2).map (fun i => (i.zero, i.size, i.bytes)) = some (some (.int .i64 0), 1, 8) := by kernel_rfl

theorem ints_of_row {w : World} {g : Nat} {t : TypeId} {n : Nat} {k : IntKind} {f : Nat → Value} {zs : List Int} (hn : zs.length = n) (hm : n ≤ 9223372036854775807) (h : w.rowIs g t n f) (hf : ∀ i, i < n → f i = .int k (zs.getD i 0)) (c : Nat) :
    Ints w w.heap.size k (.slice (some ⟨g, 0, none⟩) n c) zs := by
  subst hn
  refine ⟨some ⟨g, 0, none⟩, c, rfl, hm, fun h => (by cases h), fun h0 => ⟨g, 0, rfl, h.lt, fun i hi => ?_⟩⟩
  rw [Nat.zero_add, h.cell hi, hf i hi]

theorem parts_row {w : World} {g : Nat} {t : TypeId} {zs : List Int} {f : Nat → Int} (hm : zs.length ≤ 9223372036854775807) (h : w.rowIs g t zs.length (partRow f zs.length)) :
    Ints w w.heap.size .i64 (.slice (some ⟨g, 0, none⟩) zs.length zs.length) ((List.range zs.length).map f) :=
  ints_of_row (by simp) hm h (fun i hi => by simp [partRow, hi, List.getD_eq_getElem?_getD]) _

def Filled (t : Int) (zs : List Int) (w : World) (e : Ending) (w' : World) : Prop :=
  ∃ v, e = .returned (.tuple #[v, .int .i64 (fRest t zs zs.length), .int .i64 0]) ∧ Ints w' w'.heap.size .i64 v (fParts t zs) ∧ Below w.heap.size w w'
def FillNot (w : World) (e : Ending) (w' : World) : Prop := e = .returned (.tuple #[.slice none 0 0, .int .i64 0, .int .i64 1]) ∧ w = w'

def fillV (t : Int) (zs : List Int) : Int := if fitB t zs = true then fRest t zs zs.length else 0
def fillE (t : Int) (zs : List Int) : Int := if fitB t zs = true then 0 else 1
def fillL (t : Int) (zs : List Int) : List Int := if fitB t zs = true then fParts t zs else []
theorem fillL_len {t : Int} {zs : List Int} (h : fitB t zs = true) : (fillL t zs).length = zs.length := by unfold fillL; rw [if_pos h]; simp [fParts]
/-- Whatever Fill is given. -/
def Fills (t : Int) (zs : List Int) (w : World) (e : Ending) (w' : World) : Prop :=
  ∃ v, e = .returned (.tuple #[v, .int .i64 (fillV t zs), .int .i64 (fillE t zs)]) ∧ Ints w' w'.heap.size .i64 v (fillL t zs) ∧ Below w.heap.size w w'

end Go.Proofs.YtkddiaiohnbjpaaGreatDoor.Share
namespace Go.Proofs.YtkddiaiohnbjpaaGreatDoor.Share
open Go.ChangeShapes Go.WideShapes Go.ChangeAt Go.RowKit Bits Money Slice Law Stable

def wt (zs : List Int) (i : Nat) : Int := zs.getD i 0
def rsL (t s : Int) (zs : List Int) : List Int := (List.range zs.length).map (rst t s (wt zs))
def outL (t s : Int) (zs : List Int) (Q : Nat → Nat) : List Int := (List.range zs.length).map (outS t s (wt zs) zs.length Q)
theorem rsL_len (t s : Int) (zs : List Int) : (rsL t s zs).length = zs.length := by simp [rsL]
theorem rsL_at (t s : Int) (zs : List Int) {i : Nat} (hi : i < zs.length) : (rsL t s zs).getD i 0 = rst t s (wt zs) i := by simp [rsL, List.getD_eq_getElem?_getD, hi]
/-- The places of the rests, those of the greatest first. -/
structure Places (t s : Int) (zs : List Int) (Q : Nat → Nat) : Prop where
  re : Re 0 zs.length (fun i => i) Q
  srt : Srt (ordR (rsL t s zs)) Q 0 zs.length

theorem psum_pre (zs : List Int) : ∀ j x, j ≤ zs.length → psum (zs.take j) = some x → x = pre (wt zs) j
  | 0, x, _, h => by
    have : psum (zs.take 0) = some 0 := rfl
    rw [this] at h
    injection h with h
    rw [← h]; rfl
  | j + 1, x, hj, h => by
    rw [psum_succ (by omega)] at h
    cases hp : psum (zs.take j) with
    | none => rw [hp] at h; cases h
    | some y =>
      rw [hp] at h
      have ih := psum_pre zs j y (by omega) hp
      rcases plusO_cases y (zs.getD j 0) with ⟨e, -⟩ | ⟨e, -⟩
      · have h' : plusO y (zs.getD j 0) = some x := h
        rw [e] at h'
        injection h' with h'
        rw [pre_succ, ← h', ih]; rfl
      · have h' : plusO y (zs.getD j 0) = some x := h
        rw [e] at h'; cases h'
theorem psum_good {zs : List Int} {s : Int} (h : psum zs = some s) (hs : s ≠ 0) : goodB s = true := by
  have hn : 0 < zs.length := by
    rcases Nat.eq_zero_or_pos zs.length with h0 | h0
    · have : zs = [] := List.eq_nil_of_length_eq_zero h0
      subst this
      have : psum [] = some 0 := rfl
      rw [this] at h
      injection h with h
      exact absurd h.symm hs
    · exact h0
  have h1 := psum_succ (zs := zs) (j := zs.length - 1) (by omega)
  rw [show zs.length - 1 + 1 = zs.length from by omega, List.take_length, h] at h1
  cases hp : psum (zs.take (zs.length - 1)) with
  | none => rw [hp] at h1; cases h1
  | some y =>
    rw [hp] at h1
    have h2 : some s = plusO y (zs.getD (zs.length - 1) 0) := h1
    rcases plusO_cases y (zs.getD (zs.length - 1) 0) with ⟨e, -, -, g⟩ | ⟨e, -⟩
    · rw [e] at h2
      injection h2 with h2
      rw [h2]; exact g
    · rw [e] at h2; cases h2
theorem weights_of {t s : Int} {zs : List Int} (hf : fitB t zs = true) (hp : psum zs = some s) (hs : s ≠ 0) : Weights t s (wt zs) zs.length ∧ s ≤ 10000000000000 := by
  obtain ⟨-, ht, ha⟩ := (fitB_iff t zs).1 hf
  have hw : ∀ i, i < zs.length → 0 ≤ wt zs i := fun i hi => (ok_at ha hi).1
  have e : s = pre (wt zs) zs.length := psum_pre zs _ s (Nat.le_refl _) (by rw [List.take_length]; exact hp)
  have h0 := pre_nonneg hw
  exact ⟨⟨((okB_iff t).1 ht).1, by omega, hw, e.symm⟩, ((goodB_iff s).1 (psum_good hp hs)).2⟩

theorem quotient_any (t w s : Int) (W : World) (t0 : 0 ≤ t) (t1 : t ≤ 10000000000000) (w0 : 0 ≤ w) (w1 : w ≤ s) (s0 : 0 < s) (s1 : s ≤ 10000000000000) :
    Calls Tryz.prog 114 #[.int .i64 t, .int .i64 w, .int .i64 s] W fun e W' => e = .returned (.tuple #[.int .i64 (t * w / s), .int .u64 (t * w % s)]) ∧ ∃ n, W' = W.drewN n := by
  have p0 : 0 ≤ t * w := Int.mul_nonneg t0 w0
  have p1 : t * w ≤ t * s := Int.mul_le_mul_of_nonneg_left w1 t0
  have p2 : t * s ≤ 10000000000000 * s := Int.mul_le_mul_of_nonneg_right t1 (by omega)
  have q0 : 0 ≤ t * w / s := Int.ediv_nonneg p0 (by omega)
  have q1 : t * w / s ≤ t := by
    have h2 := Int.ediv_le_ediv s0 p1
    rwa [Int.mul_ediv_cancel _ (by omega)] at h2
  have r0 : 0 ≤ t * w % s := Int.emod_nonneg _ (by omega)
  have r1 : t * w % s < s := Int.emod_lt_of_pos _ s0
  have h0 : 0 ≤ t * w / 18446744073709551616 := Int.ediv_nonneg p0 (by omega)
  have h1 : t * w / 18446744073709551616 < s := by omega
  have l0 : 0 ≤ t * w % 18446744073709551616 := by omega
  have l1 : t * w % 18446744073709551616 ≤ 18446744073709551615 := by omega
  have HE : Hid (t * w / 18446744073709551616 * 18446744073709551616 + t * w % 18446744073709551616 = t * w) := by show _ = _; omega
  generalize hq : t * w / s = q at *
  generalize hr : t * w % s = r at *
  generalize hhi : t * w / 18446744073709551616 = hi at *
  generalize hlo : t * w % 18446744073709551616 = lo at *
  have HHI := Lib.hid hhi
  have HLO := Lib.hid hlo
  clear hhi hlo
  have HQ' := Lib.hid hq
  have HR' := Lib.hid hr
  clear hq hr p0 p1 p2
  go_enter Tryz.func114, Tryz.ntmps114
  go_wp2_with fail
  refine (Money.mul_any _ _ _ (by omega) (by omega) (by omega) (by omega)).mono ?_
  rw [HHI.out, HLO.out]
  rintro e w' ⟨rfl, rfl⟩
  go_wp2_with fail
  refine (Money.div_ok hi lo s _ h0 h1 (by omega) l0 l1).mono ?_
  rw [HE.out, HQ'.out, HR'.out]
  rintro e w' ⟨rfl, n, rfl⟩
  go_wp2_with fail
  go_ret2
  exact ⟨rfl, n, rfl⟩

def SplitNot (w : World) (e : Ending) (w' : World) : Prop := e = .returned (.tuple #[.slice none 0 0, .int .i64 1]) ∧ Below w.heap.size w w'
def SplitYes (t s : Int) (zs : List Int) (w : World) (e : Ending) (w' : World) : Prop :=
  ∃ Q v, e = .returned (.tuple #[v, .int .i64 0]) ∧ Places t s zs Q ∧ Ints w' w'.heap.size .i64 v (outL t s zs Q) ∧ Below w.heap.size w w'

theorem split_unfit (t : Int) (zs : List Int) (v : Value) (B : Nat) (w : World) (hv : Ints w B .i64 v zs) (h : fitB t zs = false) :
    Calls Tryz.prog 81 #[.int .i64 t, v] w (SplitNot w) := by
  have HV := Lib.hid hv
  have H := Lib.hid h
  clear hv h
  go_enter Tryz.func81, Tryz.ntmps81
  go_wp2_with fail
  refine (fit_any t zs v B _ HV.out).mono ?_
  rw [H.out]
  rintro e w' ⟨rfl, rfl⟩
  go_wp2_with fail
  go_ret2
  exact ⟨rfl, Below.refl _ _⟩

theorem split_none (t : Int) (zs : List Int) (v : Value) (w : World) (hv : Ints w w.heap.size .i64 v zs) (h : fitB t zs = true) (hp : psum zs = none) :
    Calls Tryz.prog 81 #[.int .i64 t, v] w (SplitNot w) := by
  have HV := Lib.hid hv
  have H := Lib.hid h
  have HP := Lib.hid hp
  clear hv h hp
  go_enter Tryz.func81, Tryz.ntmps81
  go_wp2_with fail
  refine (fit_any t zs v _ _ HV.out).mono ?_
  rw [H.out]
  rintro e w' ⟨rfl, rfl⟩
  go_wp2_with fail
  refine (Money.sum_tells zs v _ HV.out).mono ?_
  rw [HP.out]
  rintro e w1 ⟨rfl, hb⟩
  have HB := Lib.hid hb
  clear hb
  have e1 : valO (none : Option Int) = 0 := rfl
  have e2 : errO (none : Option Int) = 14 := rfl
  rw [e1, e2]
  clear e1 e2
  go_wp2_with fail
  go_ret2
  exact ⟨rfl, HB.out⟩

theorem split_zero (t : Int) (zs : List Int) (v : Value) (w : World) (hv : Ints w w.heap.size .i64 v zs) (h : fitB t zs = true) (hp : psum zs = some 0) :
    Calls Tryz.prog 81 #[.int .i64 t, v] w (SplitNot w) := by
  have HV := Lib.hid hv
  have H := Lib.hid h
  have HP := Lib.hid hp
  clear hv h hp
  go_enter Tryz.func81, Tryz.ntmps81
  go_wp2_with fail
  refine (fit_any t zs v _ _ HV.out).mono ?_
  rw [H.out]
  rintro e w' ⟨rfl, rfl⟩
  go_wp2_with fail
  refine (Money.sum_tells zs v _ HV.out).mono ?_
  rw [HP.out]
  rintro e w1 ⟨rfl, hb⟩
  have HB := Lib.hid hb
  clear hb
  have e1 : valO (some 0 : Option Int) = 0 := rfl
  have e2 : errO (some 0 : Option Int) = 0 := rfl
  rw [e1, e2]
  clear e1 e2
  go_wp2_with fail
  go_ret2
  exact ⟨rfl, HB.out⟩

theorem u64_info : (Tryz.prog.info? 116).map (fun i => (i.zero, i.size, i.bytes)) = some (some (.int .u64 0), 1, 8) := by kernel_rfl
def restRow (f : Nat → Int) (j : Nat) (i : Nat) : Value := .int .u64 (if i < j then f i else 0)
def bumpRow (q : Nat → Int) (Q : Nat → Nat) (k : Nat) (i : Nat) : Value := .int .i64 (q i + bump Q k i)

/-- Ahead of round j of the quotients. -/
structure QState (t s : Int) (zs : List Int) (w : World) (j : Nat) (wr : World) : Prop where
  below : Below w.heap.size w wr
  parts : wr.rowIs w.heap.size 2 zs.length (partRow (quo t s (wt zs)) j)
  rests : wr.rowIs (w.heap.size + 1) 116 zs.length (restRow (rst t s (wt zs)) j)
theorem qState_start (t s : Int) (zs : List Int) (w : World) : QState t s zs w 0 ((w.alloc (.cells (madeCells #[.int .i64 0] zs.length) 2)).alloc (.cells (madeCells #[.int .u64 0] zs.length) 116)) := by
  refine ⟨((Below.refl _ _).alloc (Nat.le_refl _) _).alloc (by simp) _, ?_, ?_⟩
  · exact ((World.rowIs_made w (.int .i64 0) zs.length 2).alloc _).congr fun i _ => rfl
  · have h := World.rowIs_made (w.alloc (.cells (madeCells #[.int .i64 0] zs.length) 2)) (.int .u64 0) zs.length 116
    simp only [World.size_alloc] at h
    exact h.congr fun i _ => rfl
theorem qState_drewN {t s : Int} {zs : List Int} {w wr : World} {j : Nat} (h : QState t s zs w j wr) (m : Nat) : QState t s zs w j (wr.drewN m) := ⟨below_drewN h.below m, h.parts, h.rests⟩
theorem qState_step {t s : Int} {zs : List Int} {w wr : World} {j : Nat} (h : QState t s zs w j wr) {q r : Int} (hq : quo t s (wt zs) j = q) (hr : rst t s (wt zs) j = r) :
    QState t s zs w (j + 1) ((wr.setCell ⟨w.heap.size, j, none⟩ (.int .i64 q)).setCell ⟨w.heap.size + 1, j, none⟩ (.int .u64 r)) := by
  subst hq hr
  refine ⟨(h.below.setCell (Nat.le_refl _) _).setCell (by show w.heap.size ≤ w.heap.size + 1; omega) _, ?_, ?_⟩
  · exact (partRow_step (h.parts.set j _)).setOther (by show w.heap.size ≠ w.heap.size + 1; omega) _
  · refine ((h.rests.setOther (a := ⟨w.heap.size, j, none⟩) (by show w.heap.size + 1 ≠ w.heap.size; omega) _).set j (.int .u64 (rst t s (wt zs) j))).congr fun i _ => ?_
    unfold restRow
    by_cases e : i = j
    · subst e; rw [if_pos rfl, if_pos (by omega)]
    · rw [if_neg e]
      by_cases h1 : i < j
      · rw [if_pos h1, if_pos (by omega)]
      · rw [if_neg h1, if_neg (by omega)]

/-- Ahead of round k of the cents that are left over. -/
structure BState (t s : Int) (zs : List Int) (Q : Nat → Nat) (w : World) (g k : Nat) (wr : World) : Prop where
  below : Below w.heap.size w wr
  parts : wr.rowIs w.heap.size 2 zs.length (bumpRow (quo t s (wt zs)) Q k)
  places : wr.rowIs g 3 zs.length (rowE (fun i => (i : Int)) Q)
  apart : w.heap.size < g
theorem bState_start {t s : Int} {zs : List Int} {Q : Nat → Nat} {w wq w2 : World} {g : Nat} (h : QState t s zs w zs.length wq) (hr : w2.rowIs g 3 zs.length (rowE (fun i => (i : Int)) Q)) (hb : Below wq.heap.size wq w2) (hg : wq.heap.size ≤ g) :
    BState t s zs Q w g 0 w2 := by
  have hl := h.parts.lt
  refine ⟨h.below.trans (hb.mono h.below.size), (h.parts.of_block (hb.block _ hl)).congr fun i hi => ?_, hr, by omega⟩
  unfold partRow bumpRow
  rw [if_pos hi, bump_zero, Int.add_zero]
theorem bState_step {t s : Int} {zs : List Int} {Q : Nat → Nat} {w wr : World} {g k p : Nat} {q : Int} (h : BState t s zs Q w g k wr) (hp : Q k = p) (hq : quo t s (wt zs) p = q) :
    BState t s zs Q w g (k + 1) (wr.setCell ⟨w.heap.size, p, none⟩ (.int .i64 (q + 1))) := by
  subst hp hq
  refine ⟨h.below.setCell (Nat.le_refl _) _, (h.parts.set (Q k) _).congr fun i _ => ?_, h.places.setOther (by show g ≠ w.heap.size; have := h.apart; omega) _, h.apart⟩
  unfold bumpRow
  by_cases e : i = Q k
  · subst e
    rw [if_pos rfl, bump_here]
  · rw [if_neg e, bump_other e]
theorem bState_end {t s : Int} {zs : List Int} {Q : Nat → Nat} {w wr : World} {g L : Nat} (h : BState t s zs Q w g L wr) (hL : lft t s (wt zs) zs.length = L) (hm : zs.length ≤ 9223372036854775807) :
    Ints wr wr.heap.size .i64 (.slice (some ⟨w.heap.size, 0, none⟩) zs.length zs.length) (outL t s zs Q) :=
  ints_of_row (by simp [outL]) hm h.parts (fun i hi => by
    have e : (outL t s zs Q).getD i 0 = outS t s (wt zs) zs.length Q i := by simp [outL, List.getD_eq_getElem?_getD, hi]
    rw [e]
    unfold bumpRow outS
    rw [hL]
    rfl) _

theorem outL_at (t s : Int) (zs : List Int) (Q : Nat → Nat) {i : Nat} (hi : i < zs.length) : (outL t s zs Q).getD i 0 = outS t s (wt zs) zs.length Q i := by simp [outL, List.getD_eq_getElem?_getD, hi]
theorem bState_row {t s : Int} {zs : List Int} {Q : Nat → Nat} {w wr : World} {g L : Nat} (h : BState t s zs Q w g L wr) (hL : lft t s (wt zs) zs.length = L) :
    wr.rowIs w.heap.size 2 zs.length (fun i => .int .i64 ((outL t s zs Q).getD i 0)) :=
  h.parts.congr fun i hi => by
    rw [outL_at t s zs Q hi]
    unfold bumpRow outS
    rw [hL]
    simp
/-- It is shared out: into a row that the call has made. -/
def SplitMade (t s : Int) (zs : List Int) (w : World) (e : Ending) (w' : World) : Prop :=
  ∃ Q g, e = .returned (.tuple #[.slice (some ⟨g, 0, none⟩) zs.length zs.length, .int .i64 0]) ∧ Places t s zs Q ∧ w.heap.size ≤ g ∧ w'.rowIs g 2 zs.length (fun i => .int .i64 ((outL t s zs Q).getD i 0)) ∧ Below w.heap.size w w'
def MergeLaw : Prop := ∀ (E : Nat → Int) (lt : Nat → Nat → Bool) (c : Nat → Nat → Int) (R : Nat → Nat → Prop) (F : FuncId) (cap : Array Value) (g n : Nat) (W : World), Ord R lt → Cmp E lt c F cap g n W → n ≤ 1152921504606846976 → ∀ d, MergeTo E R F cap g n W d

set_option maxRecDepth 100000 in
set_option maxHeartbeats 1000000 in
theorem split_made (hm : MergeLaw) (t s : Int) (zs : List Int) (v : Value) (w : World) (hv : Ints w w.heap.size .i64 v zs) (h : fitB t zs = true) (hp : psum zs = some s) (hs : s ≠ 0) :
    Calls Tryz.prog 81 #[.int .i64 t, v] w (SplitMade t s zs w) := by
  obtain ⟨hlen, ht, hall⟩ := (fitB_iff t zs).1 h
  obtain ⟨hw, s1⟩ := weights_of h hp hs
  have s0 := hw.s0
  obtain ⟨t0, t1⟩ := (okB_iff t).1 ht
  obtain ⟨A, c, rfl, hl, hn, hc⟩ := hv
  have HV : Hid (Ints w w.heap.size .i64 (.slice A zs.length c) zs) := ⟨A, c, rfl, hl, hn, hc⟩
  have hmk := fun W : World => run_make_row' (P := Tryz.prog) 32 2 (.int .i64 0) 8 Tryz.underlying32 i64_info rfl .i64 .i64 zs.length (by omega) (by omega) W
  have hmk2 := fun W : World => run_make_row' (P := Tryz.prog) 136 116 (.int .u64 0) 8 Tryz.underlying136 u64_info rfl .i64 .i64 zs.length (by omega) (by omega) W
  have H := Lib.hid h
  have HP := Lib.hid hp
  have HW := Lib.hid hw
  have HM := Lib.hid hm
  have hsb : (s == 0) = false := by rw [beq_eq_false_iff_ne]; exact hs
  clear hn hc h ht hall hp hw hm hs
  go_enter Tryz.func81, Tryz.ntmps81
  go_wp2_with fail
  refine (fit_any t zs _ _ _ HV.out).mono ?_
  rw [H.out]
  rintro e w' ⟨rfl, rfl⟩
  go_wp2_with fail
  refine (Money.sum_tells zs _ _ HV.out).mono ?_
  rw [HP.out]
  rintro e w1 ⟨rfl, hb⟩
  have HB := Lib.hid hb
  clear hb
  have e1 : valO (some s) = s := rfl
  have e2 : errO (some s) = 0 := rfl
  rw [e1, e2]
  clear e1 e2
  go_wp2_with fail
  clear hmk hmk2
  go_loopw [10, 39] (fun x y wr => ∃ j : Nat, j ≤ zs.length ∧ y = .int .i64 j ∧ x = .int .i64 (t - pre (quo t s (wt zs)) j) ∧ Hid (QState t s zs w1 j wr)) (fun _ y _ => zs.length - (intOf y).toNat)
  case atStart => exact ⟨0, Nat.zero_le _, rfl, congrArg (Value.int IntKind.i64) (by rw [pre_zero]; omega), qState_start t s zs w1⟩
  case round =>
    obtain ⟨j, hj, rfl, rfl, HS⟩ := hrel
    obtain ⟨b0, b1⟩ := HW.out.pq hj
    by_cases hlt : j < zs.length
    · obtain ⟨A', c', e1, -, -, hc⟩ := HV.out
      injection e1 with e1 e2 e3
      subst e1
      subst e3
      obtain ⟨b, off, rfl, hbB, hc⟩ := hc (by omega)
      have hbw : Below w.heap.size w wr := below_via HB.out HS.out.below
      have hx := (hbw.cell (p := ⟨b, off + j, none⟩) hbB).trans (hc j hlt)
      have ca := HS.out.parts.cell hlt
      have fa := HS.out.parts.frozen j
      have la := HS.out.parts.lt
      have cb := HS.out.rests.cell hlt
      have fb := HS.out.rests.frozen j
      have lb := HS.out.rests.lt
      have x0 : 0 ≤ zs.getD j 0 := HW.out.w0 j hlt
      have x1 : zs.getD j 0 ≤ s := HW.out.le hlt
      have q0 := HW.out.q0 hlt
      have q1 := HW.out.q1 hlt
      have hps := pre_succ (quo t s (wt zs)) j
      have pa : partRow (quo t s (wt zs)) j j = .int .i64 0 := by unfold partRow; rw [if_neg (by omega)]
      have pb : restRow (rst t s (wt zs)) j j = .int .u64 0 := by unfold restRow; rw [if_neg (by omega)]
      rw [pa] at ca
      rw [pb] at cb
      have hqd : t * zs.getD j 0 / s = quo t s (wt zs) j := rfl
      have hrd : t * zs.getD j 0 % s = rst t s (wt zs) j := rfl
      have HQD := Lib.hid hqd
      have HRD := Lib.hid hrd
      clear hc hbw pa pb hqd hrd e2
      generalize hq : quo t s (wt zs) j = q at *
      generalize hr : rst t s (wt zs) j = r at *
      have HQ := Lib.hid hq
      have HR := Lib.hid hr
      have HPS := Lib.hid hps
      clear hq hr hps
      generalize zs.getD j 0 = x at *
      generalize pre (quo t s (wt zs)) j = y at *
      go_wp2_with fail
      refine (quotient_any t x s _ t0 t1 x0 x1 s0 s1).mono ?_
      rw [HQD.out, HRD.out]
      rintro e w' ⟨rfl, m, rfl⟩
      go_wp2_with fail
      go_roundw
      case rel => exact ⟨j + 1, hlt, by go_num, congrArg (Value.int IntKind.i64) (by rw [HPS.out]; omega), qState_step (qState_drewN HS.out m) HQ.out HR.out⟩
      case measure => simp [intOf]; omega
    · obtain rfl : j = zs.length := by omega
      obtain ⟨wq, rfl⟩ : ∃ wq : World, wq = wr := ⟨_, rfl⟩
      obtain ⟨l0, l1⟩ := HW.out.left_bd
      obtain ⟨L, hL⟩ : ∃ L : Nat, lft t s (wt zs) zs.length = L := ⟨(lft t s (wt zs) zs.length).toNat, by omega⟩
      have hL' : t - pre (quo t s (wt zs)) zs.length = L := hL
      have HL := Lib.hid hL
      have Ln : L ≤ zs.length := by omega
      have HRS : Hid (Ints wq wq.heap.size .u64 (.slice (some ⟨w1.heap.size + 1, 0, none⟩) zs.length zs.length) (rsL t s zs)) :=
        ints_of_row (rsL_len t s zs) (by omega) HS.out.rests (fun i hi => by unfold restRow; rw [if_pos hi, rsL_at t s zs hi]) _
      have HCall := Lib.hid (greatest_n HM.out (rsL t s zs) _ wq.heap.size wq (Nat.le_refl _) HRS.out (by rw [rsL_len]; exact hlen) zs.length (rsL_len t s zs))
      clear l0 l1 hL b0 b1
      go_wp2_with fail
      have hcc := HCall.out
      refine hcc.mono ?_
      clear hcc HCall
      rintro e w2 ⟨g, Q, rfl, hr1, hq1, hs1, hb1, hg1⟩
      have HPL : Hid (Places t s zs Q) := ⟨hq1, hs1⟩
      have hst : Hid (BState t s zs Q w1 g 0 w2) := bState_start HS.out hr1 hb1 hg1
      clear hr1 hq1 hs1 hb1 hg1 HS HRS
      go_wp2_with fail
      go_loopw [69] (fun x wr => ∃ k : Nat, k ≤ L ∧ x = .int .i64 k ∧ Hid (BState t s zs Q w1 g k wr)) (fun x _ => L - (intOf x).toNat)
      case atStart => exact ⟨0, Nat.zero_le _, rfl, hst.out⟩
      case round =>
        obtain ⟨k, hk, rfl, HS⟩ := hrel
        clear hL' hst
        by_cases hkl : k < L
        · have hpl : Q k < zs.length := place_lt HPL.out.re (by omega)
          have cp := HS.out.places.cell (i := k) (by omega)
          have ca := HS.out.parts.cell hpl
          have fa := HS.out.parts.frozen (Q k)
          have la := HS.out.parts.lt
          have q0 := HW.out.q0 hpl
          have q1 := HW.out.q1 hpl
          have hbn := bump_new HPL.out.re k
          unfold rowE at cp
          unfold bumpRow at ca
          rw [hbn, Int.add_zero] at ca
          have p0 : (0 : Int) ≤ (Q k : Nat) := by omega
          clear hbn
          generalize hp : Q k = p at *
          generalize hq : quo t s (wt zs) p = q at *
          have HP' := Lib.hid hp
          have HQ' := Lib.hid hq
          clear hp hq
          go_wp2_with fail
          go_roundw
          case rel => exact ⟨k + 1, hkl, by go_num, bState_step HS.out HP'.out HQ'.out⟩
          case measure => simp [intOf]; omega
        · obtain rfl : k = L := by omega
          go_wp2_with fail
          go_ret2
          exact ⟨Q, _, rfl, HPL.out, HB.out.size, bState_row HS.out HL.out, below_via HB.out HS.out.below⟩
theorem split_yes (hm : MergeLaw) (t s : Int) (zs : List Int) (v : Value) (w : World) (hv : Ints w w.heap.size .i64 v zs) (h : fitB t zs = true) (hp : psum zs = some s) (hs : s ≠ 0) :
    Calls Tryz.prog 81 #[.int .i64 t, v] w (SplitYes t s zs w) := by
  have hl : zs.length ≤ 9223372036854775807 := by
    obtain ⟨A, c, -, hl, -⟩ := hv
    exact hl
  refine (split_made hm t s zs v w hv h hp hs).mono ?_
  rintro e w' ⟨Q, g, rfl, hq, -, hr, hb⟩
  exact ⟨Q, _, rfl, hq, ints_of_row (by simp [outL]) hl hr (fun i _ => rfl) _, hb⟩
end Go.Proofs.YtkddiaiohnbjpaaGreatDoor.Share
