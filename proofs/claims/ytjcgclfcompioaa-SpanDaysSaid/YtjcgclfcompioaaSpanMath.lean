/- Sets of days as stretches, in plain lists: which are sets, which days they hold, that two sets of the same days are one. Of no one law. -/
namespace Go.Proofs.Ytjcgclfcompioaa.Span

/-- Is it a set all of whose days are behind lo? -/
def normB (lo : Int) : List (Int × Int) → Bool
  | [] => true
  | p :: r => decide (lo < p.1 ∧ p.1 < p.2 ∧ p.2 ≤ 87659) && normB p.2 r
/-- Is a day in it? -/
def hasB (zs : List (Int × Int)) (d : Int) : Bool := zs.any fun p => decide (p.1 ≤ d ∧ d < p.2)
/-- Where the last stretch ends. -/
def lastTo (lo : Int) : List (Int × Int) → Int
  | [] => lo
  | p :: r => lastTo p.2 r
def goodB (zs : List (Int × Int)) : Bool := normB (-1) zs && decide (zs.length ≤ 1000)

theorem normB_cons (lo : Int) (p : Int × Int) (r : List (Int × Int)) : normB lo (p :: r) = true ↔ (lo < p.1 ∧ p.1 < p.2 ∧ p.2 ≤ 87659) ∧ normB p.2 r = true := by
  show (decide (lo < p.1 ∧ p.1 < p.2 ∧ p.2 ≤ 87659) && normB p.2 r) = true ↔ _
  rw [Bool.and_eq_true, decide_eq_true_eq]
theorem normB_end (p : Int × Int) : ∀ (lo : Int) (zs : List (Int × Int)), normB lo (zs ++ [p]) = true ↔ normB lo zs = true ∧ (lastTo lo zs < p.1 ∧ p.1 < p.2 ∧ p.2 ≤ 87659)
  | lo, [] => by rw [List.nil_append, normB_cons]; simp [normB, lastTo]
  | lo, q :: r => by
    rw [List.cons_append, normB_cons, normB_cons, normB_end p q.2 r]
    exact and_assoc.symm
theorem lastTo_end (p : Int × Int) : ∀ (lo : Int) (zs : List (Int × Int)), lastTo lo (zs ++ [p]) = p.2
  | _, [] => rfl
  | _, q :: r => lastTo_end p q.2 r
theorem norm_less {lo lo' : Int} {zs : List (Int × Int)} (h : normB lo zs = true) (hl : lo' ≤ lo) : normB lo' zs = true := by
  cases zs with
  | nil => rfl
  | cons p r =>
    rw [normB_cons] at h ⊢
    exact ⟨⟨by omega, h.1.2⟩, h.2⟩
theorem has_nil (d : Int) : hasB [] d = false := rfl
theorem has_cons (p : Int × Int) (r : List (Int × Int)) (d : Int) : hasB (p :: r) d = (decide (p.1 ≤ d ∧ d < p.2) || hasB r d) := rfl
theorem has_append (a b : List (Int × Int)) (d : Int) : hasB (a ++ b) d = (hasB a d || hasB b d) := by unfold hasB; rw [List.any_append]
theorem has_one (p : Int × Int) (d : Int) : hasB [p] d = decide (p.1 ≤ d ∧ d < p.2) := by rw [has_cons, has_nil, Bool.or_false]
theorem last_ge : ∀ {lo : Int} {zs : List (Int × Int)}, normB lo zs = true → lo ≤ lastTo lo zs
  | lo, [], _ => Int.le_refl _
  | lo, p :: r, h => by
    rw [normB_cons] at h
    have := last_ge h.2
    show lo ≤ lastTo p.2 r
    omega
theorem last_le : ∀ {lo : Int} {zs : List (Int × Int)}, normB lo zs = true → lo ≤ 87659 → lastTo lo zs ≤ 87659
  | lo, [], _, hl => hl
  | lo, p :: r, h, _ => by
    rw [normB_cons] at h
    exact last_le (lo := p.2) h.2 h.1.2.2
theorem has_range : ∀ {lo : Int} {zs : List (Int × Int)} {d : Int}, normB lo zs = true → hasB zs d = true → lo < d ∧ d < lastTo lo zs
  | lo, [], d, _, h => by cases h
  | lo, p :: r, d, hn, h => by
    rw [normB_cons] at hn
    rw [has_cons, Bool.or_eq_true, decide_eq_true_eq] at h
    show lo < d ∧ d < lastTo p.2 r
    rcases h with h | h
    · have := last_ge hn.2
      omega
    · have := has_range hn.2 h
      omega
theorem has_out {lo : Int} {zs : List (Int × Int)} {d : Int} (hn : normB lo zs = true) (h : d ≤ lo ∨ lastTo lo zs ≤ d) : hasB zs d = false := by
  cases hh : hasB zs d with
  | false => rfl
  | true => have := has_range hn hh; omega
/-- Two sets of the same days are one. -/
theorem norm_same : ∀ {a b : List (Int × Int)} {lo : Int}, normB lo a = true → normB lo b = true → (∀ d, hasB a d = hasB b d) → a = b
  | [], [], _, _, _, _ => rfl
  | [], q :: t, lo, _, hb, h => by
    rw [normB_cons] at hb
    have := h q.1
    rw [has_nil, has_cons, decide_eq_true (by omega)] at this
    cases this
  | p :: r, [], lo, ha, _, h => by
    rw [normB_cons] at ha
    have := h p.1
    rw [has_nil, has_cons, decide_eq_true (by omega)] at this
    cases this
  | p :: r, q :: t, lo, ha, hb, h => by
    rw [normB_cons] at ha hb
    have h1 := h p.1
    have h2 := h q.1
    have e1 : p.1 = q.1 := by
      rw [has_cons, decide_eq_true (by omega), Bool.true_or, has_cons] at h1
      rw [has_cons, has_cons q, decide_eq_true (p := q.1 ≤ q.1 ∧ q.1 < q.2) (by omega), Bool.true_or] at h2
      have g1 : q.1 ≤ p.1 := by
        rcases Bool.or_eq_true _ _ |>.mp h1.symm with g | g
        · exact (of_decide_eq_true g).1
        · have := has_range hb.2 g; omega
      have g2 : p.1 ≤ q.1 := by
        rcases Bool.or_eq_true _ _ |>.mp h2 with g | g
        · exact (of_decide_eq_true g).1
        · have := has_range ha.2 g; omega
      omega
    have e2 : p.2 = q.2 := by
      have h3 := h p.2
      have h4 := h q.2
      rw [has_cons, has_cons q, has_out ha.2 (Or.inl (Int.le_refl _)), decide_eq_false (p := p.1 ≤ p.2 ∧ p.2 < p.2) (by omega)] at h3
      rw [has_cons, has_cons q, has_out hb.2 (Or.inl (Int.le_refl _)), decide_eq_false (p := q.1 ≤ q.2 ∧ q.2 < q.2) (by omega)] at h4
      have g1 := Bool.or_eq_false_iff.1 h3.symm
      have g2 := Bool.or_eq_false_iff.1 h4
      have k1 := of_decide_eq_false g1.1
      have k2 := of_decide_eq_false g2.1
      omega
    have e : p = q := Prod.ext e1 e2
    subst e
    refine congrArg (p :: ·) (norm_same (lo := p.2) ha.2 hb.2 fun d => ?_)
    by_cases hd : d ≤ p.2
    · rw [has_out ha.2 (Or.inl hd), has_out hb.2 (Or.inl hd)]
    · have := h d
      rw [has_cons, has_cons p t, decide_eq_false (by omega), Bool.false_or, Bool.false_or] at this
      exact this

/-! How many days, how many stretches: counted day by day. -/
def cntB (P : Nat → Bool) : Nat → Nat
  | 0 => 0
  | n + 1 => cntB P n + (if P n = true then 1 else 0)
theorem cnt_congr {P Q : Nat → Bool} : ∀ n, (∀ i, i < n → P i = Q i) → cntB P n = cntB Q n
  | 0, _ => rfl
  | n + 1, h => by
    unfold cntB
    rw [cnt_congr n (fun i hi => h i (by omega)), h n (by omega)]
theorem cnt_more {P : Nat → Bool} {n : Nat} : ∀ k, (∀ i, n ≤ i → i < n + k → P i = false) → cntB P (n + k) = cntB P n
  | 0, _ => rfl
  | k + 1, h => by
    show cntB P (n + k) + (if P (n + k) = true then 1 else 0) = _
    rw [cnt_more k (fun i h1 h2 => h i h1 (by omega)), h (n + k) (by omega) (by omega)]
    rfl
theorem cnt_all {P : Nat → Bool} {n : Nat} : ∀ k, (∀ i, n ≤ i → i < n + k → P i = true) → cntB P (n + k) = cntB P n + k
  | 0, _ => rfl
  | k + 1, h => by
    show cntB P (n + k) + (if P (n + k) = true then 1 else 0) = _
    rw [cnt_all k (fun i h1 h2 => h i h1 (by omega)), h (n + k) (by omega) (by omega)]
    simp only [if_true]; omega
theorem cnt_or {P Q R : Nat → Bool} (h : ∀ i, R i = true → P i = true ∨ Q i = true) : ∀ n, cntB R n ≤ cntB P n + cntB Q n
  | 0 => Nat.le_refl _
  | n + 1 => by
    have ih := cnt_or h n
    have := h n
    unfold cntB
    cases hr : R n <;> cases hp : P n <;> cases hq : Q n <;> simp_all <;> omega
theorem cnt_part {P Q R : Nat → Bool} (h : ∀ i, (P i = (Q i || R i)) ∧ ¬ (Q i = true ∧ R i = true)) : ∀ n, cntB P n = cntB Q n + cntB R n
  | 0 => rfl
  | n + 1 => by
    have ih := cnt_part h n
    have := h n
    unfold cntB
    cases hq : Q n <;> cases hr : R n <;> simp_all <;> omega
/-- The days of a set, by its stretches. -/
def daysL : List (Int × Int) → Int
  | [] => 0
  | p :: r => (p.2 - p.1) + daysL r
theorem days_end (p : Int × Int) : ∀ zs, daysL (zs ++ [p]) = daysL zs + (p.2 - p.1)
  | [] => by simp [daysL]
  | q :: r => by rw [List.cons_append]; show _ + daysL (r ++ [p]) = _ + daysL r + _; rw [days_end p r]; omega
end Go.Proofs.Ytjcgclfcompioaa.Span
