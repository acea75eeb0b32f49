/- Sets of days as stretches, in plain lists: how many days, how many stretches. Of no one law. -/
import Derived.Test.YtjcgclfcompioaaSpanMath2
namespace Go.Proofs.Ytjcgclfcompioaa.Span

/-- By the end: from any property of the empty set, and of a set with one stretch more behind it. -/
theorem norm_ends {M : List (Int × Int) → Prop} (h0 : M []) (h1 : ∀ zs p, normB (-1) zs = true → lastTo (-1) zs < p.1 → p.1 < p.2 → p.2 ≤ 87659 → M zs → M (zs ++ [p])) : ∀ (n : Nat) (zs : List (Int × Int)), zs.length = n → normB (-1) zs = true → M zs := by
  intro n
  induction n with
  | zero =>
    intro zs hl _
    have : zs = [] := List.eq_nil_of_length_eq_zero hl
    subst this; exact h0
  | succ n ih =>
    intro zs hl hn
    have hne : zs ≠ [] := fun h => by subst h; simp at hl
    have e := List.dropLast_concat_getLast hne
    rw [← e] at hn ⊢
    have hh := (normB_end _ _ _).1 hn
    exact h1 _ _ hh.1 hh.2.1 hh.2.2.1 hh.2.2.2 (ih _ (by rw [List.length_dropLast]; omega) hh.1)
/-- The days, counted one by one. -/
theorem days_count {zs : List (Int × Int)} (hn : normB (-1) zs = true) : ∀ n : Nat, lastTo (-1) zs ≤ (n : Int) → ((cntB (fun i => hasB zs (i : Int)) n : Nat) : Int) = daysL zs := by
  refine norm_ends (M := fun zs => ∀ n : Nat, lastTo (-1) zs ≤ (n : Int) → ((cntB (fun i => hasB zs (i : Int)) n : Nat) : Int) = daysL zs) ?_ ?_ zs.length zs rfl hn
  · intro n _
    have := cnt_more (P := fun i : Nat => hasB [] (i : Int)) (n := 0) n (fun i _ _ => rfl)
    rw [Nat.zero_add] at this
    rw [this]; rfl
  · intro zs p hz hl hp hp2 ih n hle
    rw [lastTo_end] at hle
    have hlo := last_ge hz
    obtain ⟨a, ha⟩ := Int.eq_ofNat_of_zero_le (show 0 ≤ p.1 by omega)
    obtain ⟨k, hk⟩ := Int.eq_ofNat_of_zero_le (show 0 ≤ p.2 - p.1 by omega)
    have e1 : cntB (fun i => hasB (zs ++ [p]) (i : Int)) a = cntB (fun i => hasB zs (i : Int)) a := cnt_congr a fun i hi => by
      rw [has_append, has_one, decide_eq_false (by omega), Bool.or_false]
    have e2 := cnt_all (P := fun i => hasB (zs ++ [p]) (i : Int)) (n := a) k fun i h1 h2 => by
      show hasB (zs ++ [p]) (i : Int) = true
      rw [has_append, has_one, decide_eq_true (by omega), Bool.or_true]
    have e3 := cnt_more (P := fun i => hasB (zs ++ [p]) (i : Int)) (n := a + k) (n - (a + k)) fun i h1 h2 => by
      show hasB (zs ++ [p]) (i : Int) = false
      rw [has_append, has_one, decide_eq_false (by omega), Bool.or_false]
      exact has_out hz (Or.inr (by omega))
    rw [show a + k + (n - (a + k)) = n by omega] at e3
    rw [e3, e2, e1, days_end]
    have := ih a (by omega)
    omega
theorem days_of {zs : List (Int × Int)} (hn : normB (-1) zs = true) : ((cntB (fun i => hasB zs (i : Int)) 87659 : Nat) : Int) = daysL zs := days_count hn 87659 (last_le hn (by omega))
/-- Where stretches begin: as many as there are. -/
def begB (zs : List (Int × Int)) (i : Nat) : Bool := hasB zs (i : Int) && !hasB zs ((i : Int) - 1)
theorem begins_count {zs : List (Int × Int)} (hn : normB (-1) zs = true) : ∀ n : Nat, lastTo (-1) zs ≤ (n : Int) → cntB (begB zs) n = zs.length := by
  refine norm_ends (M := fun zs => ∀ n : Nat, lastTo (-1) zs ≤ (n : Int) → cntB (begB zs) n = zs.length) ?_ ?_ zs.length zs rfl hn
  · intro n _
    have := cnt_more (P := begB []) (n := 0) n (fun i _ _ => rfl)
    rw [Nat.zero_add] at this
    rw [this]; rfl
  · intro zs p hz hl hp hp2 ih n hle
    rw [lastTo_end] at hle
    have hlo := last_ge hz
    obtain ⟨a, ha⟩ := Int.eq_ofNat_of_zero_le (show 0 ≤ p.1 by omega)
    have old : ∀ d : Int, d < p.1 → hasB (zs ++ [p]) d = hasB zs d := fun d hd => by rw [has_append, has_one, decide_eq_false (by omega), Bool.or_false]
    have new : ∀ d : Int, p.1 ≤ d → d < p.2 → hasB (zs ++ [p]) d = true := fun d h1 h2 => by rw [has_append, has_one, decide_eq_true (by omega), Bool.or_true]
    have past : ∀ d : Int, p.2 ≤ d → hasB (zs ++ [p]) d = false := fun d h1 => by
      rw [has_append, has_one, decide_eq_false (by omega), Bool.or_false]
      exact has_out hz (Or.inr (by omega))
    have e1 : cntB (begB (zs ++ [p])) a = cntB (begB zs) a := cnt_congr a fun i hi => by
      unfold begB
      rw [old _ (by omega), old _ (by omega)]
    have e2 := cnt_all (P := begB (zs ++ [p])) (n := a) 1 fun i h1 h2 => by
      unfold begB
      have : i = a := by omega
      subst this
      rw [new _ (by omega) (by omega), old _ (by omega), has_out hz (Or.inr (by omega))]; rfl
    have e3 := cnt_more (P := begB (zs ++ [p])) (n := a + 1) (n - (a + 1)) fun i h1 h2 => by
      unfold begB
      by_cases h : (i : Int) < p.2
      · rw [new ((i : Int) - 1) (by omega) (by omega)]; simp
      · rw [past _ (by omega)]; rfl
    rw [show a + 1 + (n - (a + 1)) = n by omega] at e3
    rw [e3, e2, e1, ih a (by omega), List.length_append]; rfl
theorem begins_of {zs : List (Int × Int)} (hn : normB (-1) zs = true) : cntB (begB zs) 87659 = zs.length := begins_count hn 87659 (last_le hn (by omega))
/-- The ends just behind stretches: as many as there are. -/
def endB (zs : List (Int × Int)) (i : Nat) : Bool := !hasB zs (i : Int) && hasB zs ((i : Int) - 1)
theorem endings_count {zs : List (Int × Int)} (hn : normB (-1) zs = true) : ∀ n : Nat, lastTo (-1) zs < (n : Int) → cntB (endB zs) n = zs.length := by
  refine norm_ends (M := fun zs => ∀ n : Nat, lastTo (-1) zs < (n : Int) → cntB (endB zs) n = zs.length) ?_ ?_ zs.length zs rfl hn
  · intro n _
    have := cnt_more (P := endB []) (n := 0) n (fun i _ _ => rfl)
    rw [Nat.zero_add] at this
    rw [this]; rfl
  · intro zs p hz hl hp hp2 ih n hle
    rw [lastTo_end] at hle
    have hlo := last_ge hz
    obtain ⟨a, ha⟩ := Int.eq_ofNat_of_zero_le (show 0 ≤ p.1 by omega)
    obtain ⟨k, hk⟩ := Int.eq_ofNat_of_zero_le (show 0 ≤ p.2 - p.1 - 1 by omega)
    have old : ∀ d : Int, d < p.1 → hasB (zs ++ [p]) d = hasB zs d := fun d hd => by rw [has_append, has_one, decide_eq_false (by omega), Bool.or_false]
    have new : ∀ d : Int, p.1 ≤ d → d < p.2 → hasB (zs ++ [p]) d = true := fun d h1 h2 => by rw [has_append, has_one, decide_eq_true (by omega), Bool.or_true]
    have past : ∀ d : Int, p.2 ≤ d → hasB (zs ++ [p]) d = false := fun d h1 => by
      rw [has_append, has_one, decide_eq_false (by omega), Bool.or_false]
      exact has_out hz (Or.inr (by omega))
    have e1 : cntB (endB (zs ++ [p])) a = cntB (endB zs) a := cnt_congr a fun i hi => by
      unfold endB
      rw [old _ (by omega), old _ (by omega)]
    have e2 := cnt_more (P := endB (zs ++ [p])) (n := a) (k + 1) fun i h1 h2 => by
      unfold endB
      rw [new _ (by omega) (by omega)]; rfl
    have e3 := cnt_all (P := endB (zs ++ [p])) (n := a + (k + 1)) 1 fun i h1 h2 => by
      unfold endB
      rw [past _ (by omega), new _ (by omega) (by omega)]; rfl
    have e4 := cnt_more (P := endB (zs ++ [p])) (n := a + (k + 1) + 1) (n - (a + (k + 1) + 1)) fun i h1 h2 => by
      unfold endB
      rw [past ((i : Int) - 1) (by omega)]; simp
    rw [show a + (k + 1) + 1 + (n - (a + (k + 1) + 1)) = n by omega] at e4
    have e5 : cntB (endB zs) a = zs.length := ih a (by omega)
    rw [e4, e3, e2, e1, e5, List.length_append]; rfl
theorem endings_of {zs : List (Int × Int)} (hn : normB (-1) zs = true) : cntB (endB zs) 87660 = zs.length := endings_count hn 87660 (by have := last_le hn (by omega); omega)
theorem cnt_mono {P : Nat → Bool} : ∀ {n m : Nat}, n ≤ m → cntB P n ≤ cntB P m
  | n, 0, h => by rw [show n = 0 by omega]; exact Nat.le_refl _
  | n, m + 1, h => by
    by_cases he : n = m + 1
    · rw [he]; exact Nat.le_refl _
    · have := cnt_mono (P := P) (show n ≤ m by omega)
      show _ ≤ cntB P m + _
      omega
section
variable {a b zs x y : List (Int × Int)}
/-- What comes of two sets has no more stretches than both together. -/
theorem either_few (ha : normB (-1) a = true) (hb : normB (-1) b = true) (h : IsJ orF a b zs) : zs.length ≤ a.length + b.length := by
  have := cnt_or (P := begB a) (Q := begB b) (R := begB zs) (fun i hi => by
    unfold begB at *
    rw [h.2, h.2] at hi
    unfold orF at hi
    revert hi
    cases hasB a (i : Int) <;> cases hasB b (i : Int) <;> cases hasB a ((i : Int) - 1) <;> cases hasB b ((i : Int) - 1) <;> simp) 87659
  rwa [begins_of h.1, begins_of ha, begins_of hb] at this
theorem both_few (ha : normB (-1) a = true) (hb : normB (-1) b = true) (h : IsJ andF a b zs) : zs.length ≤ a.length + b.length := by
  have := cnt_or (P := begB a) (Q := begB b) (R := begB zs) (fun i hi => by
    unfold begB at *
    rw [h.2, h.2] at hi
    unfold andF at hi
    revert hi
    cases hasB a (i : Int) <;> cases hasB b (i : Int) <;> cases hasB a ((i : Int) - 1) <;> cases hasB b ((i : Int) - 1) <;> simp) 87659
  rwa [begins_of h.1, begins_of ha, begins_of hb] at this
theorem less_few (ha : normB (-1) a = true) (hb : normB (-1) b = true) (h : IsJ lessF a b zs) : zs.length ≤ a.length + b.length := by
  have h1 := cnt_or (P := begB a) (Q := endB b) (R := begB zs) (fun i hi => by
    unfold begB endB at *
    rw [h.2, h.2] at hi
    unfold lessF at hi
    revert hi
    cases hasB a (i : Int) <;> cases hasB b (i : Int) <;> cases hasB a ((i : Int) - 1) <;> cases hasB b ((i : Int) - 1) <;> simp) 87659
  have h2 := cnt_mono (P := endB b) (show 87659 ≤ 87660 by omega)
  rw [endings_of hb] at h2
  rw [begins_of h.1, begins_of ha] at h1
  omega
/-- The days in both, and those in the one alone, are the one's. -/
theorem days_parts (ha : normB (-1) a = true) (hx : IsJ andF a b x) (hy : IsJ lessF a b y) : daysL x + daysL y = daysL a := by
  have := cnt_part (P := fun i : Nat => hasB a (i : Int)) (Q := fun i : Nat => hasB x (i : Int)) (R := fun i : Nat => hasB y (i : Int)) (fun i => by
    show (hasB a (i : Int) = (hasB x (i : Int) || hasB y (i : Int))) ∧ ¬ (hasB x (i : Int) = true ∧ hasB y (i : Int) = true)
    rw [hx.2, hy.2]
    unfold andF lessF
    cases hasB a (i : Int) <;> cases hasB b (i : Int) <;> simp) 87659
  have e1 := days_of ha
  have e2 := days_of hx.1
  have e3 := days_of hy.1
  omega
/-- Days that lie apart are added up. -/
theorem days_apart (ha : normB (-1) a = true) (hb : normB (-1) b = true) (h : IsJ orF a b zs) (hd : ∀ d, ¬ (hasB a d = true ∧ hasB b d = true)) : daysL zs = daysL a + daysL b := by
  have := cnt_part (P := fun i : Nat => hasB zs (i : Int)) (Q := fun i : Nat => hasB a (i : Int)) (R := fun i : Nat => hasB b (i : Int)) (fun i => ⟨h.2 _, hd _⟩) 87659
  have e1 := days_of ha
  have e2 := days_of hb
  have e3 := days_of h.1
  omega
end
end Go.Proofs.Ytjcgclfcompioaa.Span
