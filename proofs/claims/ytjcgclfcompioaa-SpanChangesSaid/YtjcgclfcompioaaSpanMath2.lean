/- Sets of days as stretches, in plain lists: the days of two sets, cut at all ends. Of no one law. -/
import Derived.Test.YtjcgclfcompioaaSpanMath
namespace Go.Proofs.Ytjcgclfcompioaa.Span

/-- The set of just the days that f tells of both. -/
def IsJ (f : Bool → Bool → Bool) (a b zs : List (Int × Int)) : Prop := normB (-1) zs = true ∧ ∀ d, hasB zs d = f (hasB a d) (hasB b d)
theorem isJ_same {f : Bool → Bool → Bool} {a b x y : List (Int × Int)} (h : IsJ f a b x) (k : IsJ f a b y) : x = y :=
  norm_same h.1 k.1 fun d => (h.2 d).trans (k.2 d).symm
def orF (x y : Bool) : Bool := x || y
def lessF (x y : Bool) : Bool := x && !y
def andF (x y : Bool) : Bool := x && y

theorem norm_mem : ∀ {lo : Int} {zs : List (Int × Int)}, normB lo zs = true → ∀ p ∈ zs, lo < p.1 ∧ p.1 < p.2 ∧ p.2 ≤ 87659
  | lo, q :: r, h, p, hp => by
    rw [normB_cons] at h
    rcases List.mem_cons.1 hp with rfl | hp
    · exact h.1
    · have := norm_mem h.2 p hp
      omega

/-! All ends, rising. -/
def Rise (c : List Int) : Prop := c.Pairwise (· < ·)
def Ends (l : List (Int × Int)) (c : List Int) : Prop := ∀ x, x ∈ c ↔ ∃ p ∈ l, x = p.1 ∨ x = p.2
theorem rise_at {c : List Int} (h : Rise c) {i j : Nat} (hij : i < j) (hj : j < c.length) : c.getD i 0 < c.getD j 0 := by
  rw [List.getD_eq_getElem?_getD, List.getD_eq_getElem?_getD, List.getElem?_eq_getElem hj, List.getElem?_eq_getElem (show i < c.length by omega)]
  exact List.pairwise_iff_getElem.1 h i j (by omega) hj hij
theorem getD_mem {c : List Int} {i : Nat} (h : i < c.length) : c.getD i 0 ∈ c := by
  rw [List.getD_eq_getElem?_getD, List.getElem?_eq_getElem h]
  exact List.getElem_mem h
theorem mem_getD {c : List Int} {x : Int} (h : x ∈ c) : ∃ i, i < c.length ∧ c.getD i 0 = x := by
  obtain ⟨i, hi, rfl⟩ := List.getElem_of_mem h
  exact ⟨i, hi, by rw [List.getD_eq_getElem?_getD, List.getElem?_eq_getElem hi]; rfl⟩
/-- Nothing lies between two neighbours. -/
theorem rise_gap {c : List Int} (h : Rise c) {i : Nat} (hi : i + 1 < c.length) {x : Int} (hx : x ∈ c) : x < c.getD (i + 1) 0 ↔ x ≤ c.getD i 0 := by
  obtain ⟨j, hj, rfl⟩ := mem_getD hx
  have h1 := rise_at h (i := i) (j := i + 1) (by omega) hi
  constructor
  · intro hlt
    refine Int.not_lt.1 fun hgt => ?_
    rcases Nat.lt_trichotomy j i with g | g | g
    · have := rise_at h g (by omega); omega
    · subst g; omega
    · by_cases he : j = i + 1
      · subst he; omega
      · have := rise_at h (i := i + 1) (j := j) (by omega) hj
        omega
  · intro hle
    omega
theorem rise_first {c : List Int} (h : Rise c) {x : Int} (hx : x ∈ c) : c.getD 0 0 ≤ x := by
  obtain ⟨j, hj, rfl⟩ := mem_getD hx
  by_cases h0 : j = 0
  · subst h0; omega
  · have := rise_at h (i := 0) (j := j) (by omega) hj; omega
theorem rise_last {c : List Int} (h : Rise c) {x : Int} (hx : x ∈ c) : x ≤ c.getD (c.length - 1) 0 := by
  obtain ⟨j, hj, rfl⟩ := mem_getD hx
  by_cases h0 : j = c.length - 1
  · subst h0; omega
  · have := rise_at h (i := j) (j := c.length - 1) (by omega) (by omega); omega
/-- A number put in its place. -/
theorem rise_put {c : List Int} {k : Nat} {e : Int} (h : Rise c) (hk : k ≤ c.length) (h1 : ∀ i, k ≤ i → i < c.length → e < c.getD i 0) (h2 : k = 0 ∨ c.getD (k - 1) 0 < e) :
    Rise (c.take k ++ [e] ++ c.drop k) := by
  have hp := h
  unfold Rise at h ⊢
  have ht : ∀ x ∈ c.take k, x < e := by
    intro x hx
    obtain ⟨i, hi, rfl⟩ := List.getElem_of_mem hx
    have hi' : i < k := by rw [List.length_take] at hi; omega
    rcases h2 with h2 | h2
    · omega
    · rw [List.getElem_take]
      have e1 : c.getD i 0 = c[i] := by rw [List.getD_eq_getElem?_getD, List.getElem?_eq_getElem (by omega)]; rfl
      rw [← e1]
      by_cases he : i = k - 1
      · subst he; exact h2
      · have := rise_at hp (i := i) (j := k - 1) (by omega) (by omega)
        omega
  have hd : ∀ x ∈ c.drop k, e < x := by
    intro x hx
    obtain ⟨i, hi, rfl⟩ := List.getElem_of_mem hx
    rw [List.length_drop] at hi
    rw [List.getElem_drop]
    have := h1 (k + i) (by omega) (by omega)
    rwa [List.getD_eq_getElem?_getD, List.getElem?_eq_getElem (by omega)] at this
  rw [List.pairwise_append, List.pairwise_append]
  refine ⟨⟨h.sublist (List.take_sublist _ _), List.pairwise_singleton _ _, fun x hx y hy => ?_⟩, h.sublist (List.drop_sublist _ _), fun x hx y hy => ?_⟩
  · rw [List.mem_singleton] at hy; subst hy; exact ht x hx
  · rcases List.mem_append.1 hx with hx | hx
    · have := ht x hx; have := hd y hy; omega
    · rw [List.mem_singleton] at hx; subst hx; exact hd y hy
theorem mem_put {c : List Int} {k : Nat} {e x : Int} : x ∈ c.take k ++ [e] ++ c.drop k ↔ x ∈ c ∨ x = e := by
  have h : x ∈ c ↔ x ∈ c.take k ∨ x ∈ c.drop k := by
    rw [← List.mem_append, List.take_append_drop]
  rw [List.mem_append, List.mem_append, List.mem_singleton, h]
  constructor
  · rintro ((h | h) | h)
    · exact Or.inl (Or.inl h)
    · exact Or.inr h
    · exact Or.inl (Or.inr h)
  · rintro ((h | h) | h)
    · exact Or.inl (Or.inl h)
    · exact Or.inr h
    · exact Or.inl (Or.inr h)

/-! The days of two sets, end by end. -/
section
variable {f : Bool → Bool → Bool} {a b out : List (Int × Int)} {c : List Int} {i : Nat}
theorem has_const {l : List (Int × Int)} (h : Rise c) (hl : ∀ p ∈ l, p.1 ∈ c ∧ p.2 ∈ c) (hi : i + 1 < c.length) {d : Int} (h1 : c.getD i 0 ≤ d) (h2 : d < c.getD (i + 1) 0) : hasB l d = hasB l (c.getD i 0) := by
  induction l with
  | nil => rfl
  | cons p r ih =>
    rw [has_cons, has_cons, ih (fun q hq => hl q (List.mem_cons_of_mem _ hq))]
    obtain ⟨k1, k2⟩ := hl p (List.mem_cons_self ..)
    have g1 := rise_gap h hi k1
    have g2 := rise_gap h hi k2
    congr 1
    exact decide_eq_decide.2 (by omega)
theorem has_ahead {l : List (Int × Int)} (h : Rise c) (hl : ∀ p ∈ l, p.1 ∈ c ∧ p.2 ∈ c) {d : Int} (hd : d < c.getD 0 0) : hasB l d = false := by
  induction l with
  | nil => rfl
  | cons p r ih =>
    rw [has_cons, ih (fun q hq => hl q (List.mem_cons_of_mem _ hq)), Bool.or_false]
    have := rise_first h (hl p (List.mem_cons_self ..)).1
    exact decide_eq_false (by omega)
theorem has_behind {l : List (Int × Int)} (h : Rise c) (hl : ∀ p ∈ l, p.1 ∈ c ∧ p.2 ∈ c) {d : Int} (hd : c.getD (c.length - 1) 0 ≤ d) : hasB l d = false := by
  induction l with
  | nil => rfl
  | cons p r ih =>
    rw [has_cons, ih (fun q hq => hl q (List.mem_cons_of_mem _ hq)), Bool.or_false]
    have := rise_last h (hl p (List.mem_cons_self ..)).2
    exact decide_eq_false (by omega)

/-- What has come together ahead of end i. -/
structure Joins (f : Bool → Bool → Bool) (a b : List (Int × Int)) (c : List Int) (i : Nat) (out : List (Int × Int)) : Prop where
  norm : normB (-1) out = true
  has : ∀ d, hasB out d = (decide (d < c.getD i 0) && f (hasB a d) (hasB b d))
  last : lastTo (-1) out ≤ c.getD i 0
structure Ended (a b : List (Int × Int)) (c : List Int) : Prop where
  rise : Rise c
  a : ∀ p ∈ a, p.1 ∈ c ∧ p.2 ∈ c
  b : ∀ p ∈ b, p.1 ∈ c ∧ p.2 ∈ c
  low : ∀ x ∈ c, 0 ≤ x
  high : ∀ x ∈ c, x ≤ 87659
theorem ended_of (ha : normB (-1) a = true) (hb : normB (-1) b = true) (hr : Rise c) (he : Ends (a ++ b) c) : Ended a b c := by
  have hm : ∀ x ∈ c, 0 ≤ x ∧ x ≤ 87659 := by
    intro x hx
    obtain ⟨p, hp, hx⟩ := (he x).1 hx
    have : (-1 : Int) < p.1 ∧ p.1 < p.2 ∧ p.2 ≤ 87659 := by
      rcases List.mem_append.1 hp with hp | hp
      · exact norm_mem ha p hp
      · exact norm_mem hb p hp
    omega
  exact ⟨hr, fun p hp => ⟨(he _).2 ⟨p, List.mem_append_left _ hp, Or.inl rfl⟩, (he _).2 ⟨p, List.mem_append_left _ hp, Or.inr rfl⟩⟩,
    fun p hp => ⟨(he _).2 ⟨p, List.mem_append_right _ hp, Or.inl rfl⟩, (he _).2 ⟨p, List.mem_append_right _ hp, Or.inr rfl⟩⟩, fun x hx => (hm x hx).1, fun x hx => (hm x hx).2⟩
theorem joins_start (hf : f false false = false) (h : Ended a b c) (hc : 0 < c.length) : Joins f a b c 0 [] := by
  refine ⟨rfl, fun d => ?_, ?_⟩
  · rw [has_nil]
    by_cases hd : d < c.getD 0 0
    · rw [has_ahead h.rise h.a hd, has_ahead h.rise h.b hd, hf, Bool.and_false]
    · rw [decide_eq_false hd, Bool.false_and]
  · have := h.low _ (getD_mem hc)
    show (-1 : Int) ≤ _
    omega
theorem joins_end (hf : f false false = false) (h : Ended a b c) (hi : i + 1 = c.length) (hj : Joins f a b c i out) : IsJ f a b out := by
  refine ⟨hj.norm, fun d => ?_⟩
  rw [hj.has d]
  by_cases hd : d < c.getD i 0
  · rw [decide_eq_true hd, Bool.true_and]
  · have e : c.getD (c.length - 1) 0 ≤ d := by rw [show c.length - 1 = i by omega]; omega
    rw [has_behind h.rise h.a e, has_behind h.rise h.b e, hf, Bool.and_false]
theorem joins_none (hf : f false false = false) (h : Ended a b c) (hc : c.length = 0) : IsJ f a b [] := by
  have hc : c = [] := List.eq_nil_of_length_eq_zero hc
  have ha : a = [] := by
    cases a with
    | nil => rfl
    | cons p r => have := (h.a p (List.mem_cons_self ..)).1; rw [hc] at this; cases this
  have hb : b = [] := by
    cases b with
    | nil => rfl
    | cons p r => have := (h.b p (List.mem_cons_self ..)).1; rw [hc] at this; cases this
  subst ha; subst hb
  exact ⟨rfl, fun d => by rw [has_nil, hf]⟩
theorem joins_at (h : Ended a b c) (hi : i + 1 < c.length) (d : Int) :
    (decide (d < c.getD (i + 1) 0) && f (hasB a d) (hasB b d)) = ((decide (d < c.getD i 0) && f (hasB a d) (hasB b d)) || (decide (c.getD i 0 ≤ d ∧ d < c.getD (i + 1) 0) && f (hasB a (c.getD i 0)) (hasB b (c.getD i 0)))) := by
  have h1 := rise_at h.rise (i := i) (j := i + 1) (by omega) hi
  by_cases hd : d < c.getD i 0
  · rw [decide_eq_true hd, decide_eq_true (p := d < c.getD (i + 1) 0) (by omega), decide_eq_false (p := c.getD i 0 ≤ d ∧ d < c.getD (i + 1) 0) (by omega)]; simp
  · by_cases hd2 : d < c.getD (i + 1) 0
    · rw [has_const h.rise h.a hi (by omega) hd2, has_const h.rise h.b hi (by omega) hd2, decide_eq_false hd, decide_eq_true hd2, decide_eq_true (p := c.getD i 0 ≤ d ∧ d < c.getD (i + 1) 0) (by omega)]; simp
    · rw [decide_eq_false hd, decide_eq_false hd2, decide_eq_false (p := c.getD i 0 ≤ d ∧ d < c.getD (i + 1) 0) (by omega)]; simp
theorem joins_skip (h : Ended a b c) (hi : i + 1 < c.length) (hj : Joins f a b c i out) (hf : f (hasB a (c.getD i 0)) (hasB b (c.getD i 0)) = false) : Joins f a b c (i + 1) out := by
  have h1 := rise_at h.rise (i := i) (j := i + 1) (by omega) hi
  refine ⟨hj.norm, fun d => ?_, by have := hj.last; omega⟩
  rw [joins_at h hi d, hf, Bool.and_false, Bool.or_false]
  exact hj.has d
theorem joins_more (h : Ended a b c) (hi : i + 1 < c.length) (hj : Joins f a b c i out) (hf : f (hasB a (c.getD i 0)) (hasB b (c.getD i 0)) = true) (hl : lastTo (-1) out ≠ c.getD i 0) :
    Joins f a b c (i + 1) (out ++ [(c.getD i 0, c.getD (i + 1) 0)]) := by
  have h1 := rise_at h.rise (i := i) (j := i + 1) (by omega) hi
  have h2 := h.high _ (getD_mem hi)
  have h3 := hj.last
  refine ⟨(normB_end _ _ _).2 ⟨hj.norm, by show lastTo (-1) out < c.getD i 0 ∧ c.getD i 0 < c.getD (i + 1) 0 ∧ c.getD (i + 1) 0 ≤ 87659; omega⟩, fun d => ?_, by rw [lastTo_end]; exact Int.le_refl _⟩
  rw [joins_at h hi d, hf, Bool.and_true, has_append, has_one, hj.has d]
theorem joins_grow {q : Int × Int} (h : Ended a b c) (hi : i + 1 < c.length) (hj : Joins f a b c i (out ++ [q])) (hf : f (hasB a (c.getD i 0)) (hasB b (c.getD i 0)) = true) (hl : q.2 = c.getD i 0) :
    Joins f a b c (i + 1) (out ++ [(q.1, c.getD (i + 1) 0)]) := by
  have h1 := rise_at h.rise (i := i) (j := i + 1) (by omega) hi
  have h2 := h.high _ (getD_mem hi)
  have hn := (normB_end _ _ _).1 hj.norm
  refine ⟨(normB_end _ _ _).2 ⟨hn.1, by show lastTo (-1) out < q.1 ∧ q.1 < c.getD (i + 1) 0 ∧ c.getD (i + 1) 0 ≤ 87659; omega⟩, fun d => ?_, by rw [lastTo_end]; exact Int.le_refl _⟩
  have hh := hj.has d
  rw [joins_at h hi d, hf, Bool.and_true, ← hh, has_append, has_append, has_one, has_one, Bool.or_assoc]
  congr 1
  by_cases k1 : q.1 ≤ d ∧ d < q.2
  · rw [decide_eq_true k1, decide_eq_true (p := q.1 ≤ d ∧ d < c.getD (i + 1) 0) (by omega)]; rfl
  · rw [decide_eq_false k1, Bool.false_or]
    exact decide_eq_decide.2 (by omega)
end
end Go.Proofs.Ytjcgclfcompioaa.Span
