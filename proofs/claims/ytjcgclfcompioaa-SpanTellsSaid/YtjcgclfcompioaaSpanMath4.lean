/- Sets of days as stretches, in plain lists: a set cut in three by a stretch; days more, days fewer; the days of two sets, one behind the other. Of no one law. -/
import Derived.Test.YtjcgclfcompioaaSpanMath3
namespace Go.Proofs.Ytjcgclfcompioaa.Span

theorem normB_append : ∀ (lo : Int) (a b : List (Int × Int)), normB lo (a ++ b) = true ↔ normB lo a = true ∧ normB (lastTo lo a) b = true
  | lo, [], b => by rw [List.nil_append]; exact ⟨fun h => ⟨rfl, h⟩, fun h => h.2⟩
  | lo, p :: r, b => by
    rw [List.cons_append, normB_cons, normB_cons, normB_append p.2 r b]
    exact and_assoc.symm
theorem lastTo_append : ∀ (lo : Int) (a b : List (Int × Int)), lastTo lo (a ++ b) = lastTo (lastTo lo a) b
  | _, [], _ => rfl
  | _, p :: _, b => lastTo_append p.2 _ b
theorem last_below {x : Int} : ∀ {lo : Int} {a : List (Int × Int)}, lo < x → (∀ p ∈ a, p.2 < x) → lastTo lo a < x
  | _, [], h, _ => h
  | _, p :: _, _, h => last_below (lo := p.2) (h p (List.mem_cons_self ..)) fun q hq => h q (List.mem_cons_of_mem _ hq)
theorem has_below {x d : Int} : ∀ {a : List (Int × Int)}, (∀ p ∈ a, p.2 < x) → x ≤ d → hasB a d = false
  | [], _, _ => rfl
  | p :: r, h, hd => by
    rw [has_cons, has_below (fun q hq => h q (List.mem_cons_of_mem _ hq)) hd, Bool.or_false]
    have := h p (List.mem_cons_self ..)
    exact decide_eq_false (by omega)
theorem has_above {x d : Int} : ∀ {a : List (Int × Int)}, (∀ p ∈ a, x < p.1) → d ≤ x → hasB a d = false
  | [], _, _ => rfl
  | p :: r, h, hd => by
    rw [has_cons, has_above (fun q hq => h q (List.mem_cons_of_mem _ hq)) hd, Bool.or_false]
    have := h p (List.mem_cons_self ..)
    exact decide_eq_false (by omega)
/-- A set behind a higher day. -/
theorem norm_above {lo lo' : Int} {a : List (Int × Int)} (h : normB lo a = true) (ha : ∀ p ∈ a, lo' < p.1) : normB lo' a = true := by
  cases a with
  | nil => rfl
  | cons p r =>
    rw [normB_cons] at h ⊢
    have := ha p (List.mem_cons_self ..)
    exact ⟨⟨by omega, h.1.2⟩, h.2⟩
/-- Stretches that meet [x, y) all, and it: one stretch. -/
theorem has_met {x y : Int} (hxy : x < y) : ∀ (m : List (Int × Int)) (p : Int × Int) (lo : Int), normB lo (p :: m) = true → (∀ q ∈ p :: m, x ≤ q.2 ∧ q.1 ≤ y) → ∀ d,
    (hasB (p :: m) d || decide (x ≤ d ∧ d < y)) = decide (min x p.1 ≤ d ∧ d < max y (lastTo lo (p :: m)))
  | [], p, lo, hn, h, d => by
    rw [normB_cons] at hn
    have hp := h p (List.mem_cons_self ..)
    rw [has_one]
    show _ = decide (min x p.1 ≤ d ∧ d < max y p.2)
    rw [← Bool.decide_or]
    exact decide_eq_decide.2 (by omega)
  | q :: m, p, lo, hn, h, d => by
    rw [normB_cons] at hn
    have ih := has_met hxy m q p.2 hn.2 (fun q' hq' => h q' (List.mem_cons_of_mem _ hq')) d
    have hp := h p (List.mem_cons_self ..)
    have hl := last_ge hn.2
    have hq := (normB_cons _ _ _).1 hn.2
    rw [has_cons, Bool.or_assoc, ih]
    show _ = decide (min x p.1 ≤ d ∧ d < max y (lastTo p.2 (q :: m)))
    generalize lastTo p.2 (q :: m) = e at *
    rw [← Bool.decide_or]
    exact decide_eq_decide.2 (by omega)
/-- What is left of stretches that meet [x, y) all, without it: what lies ahead of it, and behind. -/
theorem has_left {x y : Int} (hxy : x < y) : ∀ (m : List (Int × Int)) (p : Int × Int) (lo : Int), normB lo (p :: m) = true → (∀ q ∈ p :: m, x ≤ q.2 ∧ q.1 ≤ y) → ∀ d,
    (hasB (p :: m) d && !decide (x ≤ d ∧ d < y)) = (decide (p.1 ≤ d ∧ d < x) || decide (y ≤ d ∧ d < lastTo lo (p :: m)))
  | [], p, lo, hn, h, d => by
    rw [normB_cons] at hn
    have hp := h p (List.mem_cons_self ..)
    rw [has_one]
    show _ = (decide (p.1 ≤ d ∧ d < x) || decide (y ≤ d ∧ d < p.2))
    rw [← Bool.decide_or, ← decide_not, ← Bool.decide_and]
    exact decide_eq_decide.2 (by omega)
  | q :: m, p, lo, hn, h, d => by
    rw [normB_cons] at hn
    have ih := has_left hxy m q p.2 hn.2 (fun q' hq' => h q' (List.mem_cons_of_mem _ hq')) d
    have hp := h p (List.mem_cons_self ..)
    have hl := last_ge hn.2
    have hq := (normB_cons _ _ _).1 hn.2
    have hqy := h q (List.mem_cons_of_mem _ (List.mem_cons_self ..))
    have hl2 := last_ge hq.2
    rw [has_cons, Bool.and_or_distrib_right, ih]
    show _ = (decide (p.1 ≤ d ∧ d < x) || decide (y ≤ d ∧ d < lastTo p.2 (q :: m)))
    have e : lastTo p.2 (q :: m) = lastTo q.2 m := rfl
    rw [e] at *
    generalize lastTo q.2 m = e at *
    rw [← decide_not, ← Bool.decide_and, ← Bool.decide_or, ← Bool.decide_or, ← Bool.decide_or]
    exact decide_eq_decide.2 (by omega)

/-- The stretches of zs that lie ahead of [x, y), that meet it, that lie behind. -/
structure Met (zs : List (Int × Int)) (x y : Int) (L M R : List (Int × Int)) : Prop where
  all : zs = L ++ M ++ R
  left : ∀ p ∈ L, p.2 < x
  mid : ∀ p ∈ M, x ≤ p.2 ∧ p.1 ≤ y
  right : ∀ p ∈ R, y < p.1
section
variable {zs L M R : List (Int × Int)} {x y : Int}
theorem Met.norms (h : Met zs x y L M R) (hn : normB (-1) zs = true) : normB (-1) L = true ∧ normB (lastTo (-1) L) M = true ∧ normB (lastTo (lastTo (-1) L) M) R = true := by
  rw [h.all, normB_append, normB_append, lastTo_append] at hn
  exact ⟨hn.1.1, hn.1.2, hn.2⟩
theorem Met.has (h : Met zs x y L M R) (d : Int) : hasB zs d = (hasB L d || hasB M d || hasB R d) := by rw [h.all, has_append, has_append]
/-- Nothing meets it. -/
theorem add_none (h : Met zs x y L [] R) (hn : normB (-1) zs = true) (hk : 0 ≤ x ∧ x < y ∧ y ≤ 87659) : IsJ orF zs [(x, y)] (L ++ (x, y) :: R) := by
  obtain ⟨n1, -, n3⟩ := h.norms hn
  have hl := last_below (lo := -1) (x := x) (by omega) h.left
  refine ⟨?_, fun d => ?_⟩
  · rw [normB_append, normB_cons]
    exact ⟨n1, ⟨hl, hk.2.1, hk.2.2⟩, norm_above n3 h.right⟩
  · rw [has_append, has_cons, h.has, has_nil, has_one]
    show (hasB L d || (decide (x ≤ d ∧ d < y) || hasB R d)) = (hasB L d || false || hasB R d || decide (x ≤ d ∧ d < y))
    cases hasB L d <;> cases hasB R d <;> simp
theorem add_some {p : Int × Int} {m : List (Int × Int)} (h : Met zs x y L (p :: m) R) (hn : normB (-1) zs = true) (hk : 0 ≤ x ∧ x < y ∧ y ≤ 87659) :
    IsJ orF zs [(x, y)] (L ++ (min x p.1, max y (lastTo (lastTo (-1) L) (p :: m))) :: R) := by
  obtain ⟨n1, n2, n3⟩ := h.norms hn
  have hl := last_below (lo := -1) (x := x) (by omega) h.left
  have hm := has_met hk.2.1 m p _ n2 h.mid
  have h1 := (normB_cons _ _ _).1 n2
  have h2 := last_le n2 (by have := last_le n1 (by omega); omega)
  have h3 := last_ge h1.2
  have e : lastTo (lastTo (-1) L) (p :: m) = lastTo p.2 m := rfl
  refine ⟨?_, fun d => ?_⟩
  · rw [normB_append, normB_cons]
    refine ⟨n1, ⟨by show lastTo (-1) L < min x p.1; omega, by show min x p.1 < max y _; omega, by show max y _ ≤ 87659; omega⟩, ?_⟩
    refine norm_above n3 fun q hq => ?_
    show max y _ < q.1
    have g1 := h.right q hq
    have g2 := norm_mem n3 q hq
    omega
  · rw [has_append, has_cons, h.has]
    show (hasB L d || (decide (min x p.1 ≤ d ∧ d < max y _) || hasB R d)) = (hasB L d || hasB (p :: m) d || hasB R d || hasB [(x, y)] d)
    rw [← hm d, has_one]
    show _ = (hasB L d || hasB (p :: m) d || hasB R d || decide (x ≤ d ∧ d < y))
    cases hasB L d <;> cases hasB R d <;> cases hasB (p :: m) d <;> simp
theorem cut_none (h : Met zs x y L [] R) (hn : normB (-1) zs = true) : IsJ lessF zs [(x, y)] (L ++ R) := by
  obtain ⟨n1, -, n3⟩ := h.norms hn
  refine ⟨by rw [normB_append]; exact ⟨n1, n3⟩, fun d => ?_⟩
  rw [has_append, h.has, has_nil, has_one, Bool.or_false]
  show (hasB L d || hasB R d) = ((hasB L d || hasB R d) && !decide (x ≤ d ∧ d < y))
  by_cases hd : x ≤ d ∧ d < y
  · rw [has_below h.left hd.1, has_above h.right (by omega), decide_eq_true hd]; rfl
  · rw [decide_eq_false hd]; simp
/-- What Cut leaves of the stretches that meet it. -/
def leftL (x y a e : Int) : List (Int × Int) := (if a < x then [(a, x)] else []) ++ (if y < e then [(y, e)] else [])
theorem cut_some {p : Int × Int} {m : List (Int × Int)} (h : Met zs x y L (p :: m) R) (hn : normB (-1) zs = true) (hk : 0 ≤ x ∧ x < y ∧ y ≤ 87659) :
    IsJ lessF zs [(x, y)] (L ++ leftL x y p.1 (lastTo (lastTo (-1) L) (p :: m)) ++ R) := by
  obtain ⟨n1, n2, n3⟩ := h.norms hn
  have hm := has_left hk.2.1 m p _ n2 h.mid
  have hl := last_below (lo := -1) (x := x) (by omega) h.left
  have h1 := (normB_cons _ _ _).1 n2
  have h2 := last_le n2 (by have := last_le n1 (by omega); omega)
  have h3 := last_ge h1.2
  have e : lastTo (lastTo (-1) L) (p :: m) = lastTo p.2 m := rfl
  generalize lastTo (lastTo (-1) L) (p :: m) = E at *
  have hR : ∀ lo, lo ≤ y ∨ lo ≤ E → normB lo R = true := fun lo hlo => norm_above n3 fun q hq => by
    have g1 := h.right q hq
    have g2 := norm_mem n3 q hq
    omega
  refine ⟨?_, fun d => ?_⟩
  · rw [List.append_assoc, normB_append]
    refine ⟨n1, ?_⟩
    unfold leftL
    by_cases c1 : p.1 < x
    · by_cases c2 : y < E
      · rw [if_pos c1, if_pos c2]
        refine (normB_cons _ _ _).2 ⟨by show lastTo (-1) L < p.1 ∧ p.1 < x ∧ x ≤ 87659; omega, (normB_cons _ _ _).2 ⟨by show x < y ∧ y < E ∧ E ≤ 87659; omega, hR _ (Or.inr (Int.le_refl _))⟩⟩
      · rw [if_pos c1, if_neg c2]
        refine (normB_cons _ _ _).2 ⟨by show lastTo (-1) L < p.1 ∧ p.1 < x ∧ x ≤ 87659; omega, hR _ (Or.inl (by show x ≤ y; omega))⟩
    · by_cases c2 : y < E
      · rw [if_neg c1, if_pos c2]
        refine (normB_cons _ _ _).2 ⟨by show lastTo (-1) L < y ∧ y < E ∧ E ≤ 87659; omega, hR _ (Or.inr (Int.le_refl _))⟩
      · rw [if_neg c1, if_neg c2]
        exact hR _ (Or.inr (by omega))
  · rw [has_append, has_append, h.has, has_one]
    have hll : hasB (leftL x y p.1 E) d = (decide (p.1 ≤ d ∧ d < x) || decide (y ≤ d ∧ d < E)) := by
      unfold leftL
      rw [has_append]
      congr 1
      · by_cases c1 : p.1 < x
        · rw [if_pos c1, has_one]
        · rw [if_neg c1, has_nil, decide_eq_false (by omega)]
      · by_cases c1 : y < E
        · rw [if_pos c1, has_one]
        · rw [if_neg c1, has_nil, decide_eq_false (by omega)]
    rw [hll, ← hm d]
    show (hasB L d || (hasB (p :: m) d && !decide (x ≤ d ∧ d < y)) || hasB R d) = ((hasB L d || hasB (p :: m) d || hasB R d) && !decide (x ≤ d ∧ d < y))
    by_cases hd : x ≤ d ∧ d < y
    · rw [has_below h.left hd.1, has_above h.right (by omega), decide_eq_true hd]; simp
    · rw [decide_eq_false hd]; simp
theorem left_len (a e : Int) : (leftL x y a e).length ≤ 2 := by
  unfold leftL
  rw [List.length_append]
  split <;> split <;> simp
end

/-- Two sets gone through, one behind the other: what is done, and what is left of each. -/
structure Zip (a b a' b' out : List (Int × Int)) : Prop where
  norm : normB (-1) out = true
  has : ∀ d, (hasB out d || (hasB a' d && hasB b' d)) = (hasB a d && hasB b d)
  ahead : ∃ lo lo', normB lo a' = true ∧ normB lo' b' = true ∧ lastTo (-1) out ≤ max lo lo'
  few : out.length + a'.length + b'.length ≤ a.length + b.length
section
variable {a b a' b' out : List (Int × Int)} {p q : Int × Int}
theorem zip_start (ha : normB (-1) a = true) (hb : normB (-1) b = true) : Zip a b a b [] :=
  ⟨rfl, fun d => by rw [has_nil, Bool.false_or], ⟨-1, -1, ha, hb, Int.le_refl _⟩, by simp⟩
theorem zip_end (h : Zip a b a' b' out) (h0 : a' = [] ∨ b' = []) : IsJ andF a b out := by
  refine ⟨h.norm, fun d => ?_⟩
  have := h.has d
  rcases h0 with rfl | rfl
  · rw [has_nil, Bool.false_and, Bool.or_false] at this; exact this
  · rw [has_nil, Bool.and_false, Bool.or_false] at this; exact this
/-- What the two first have in common. -/
def cutL (p q : Int × Int) : List (Int × Int) := if max p.1 q.1 < min p.2 q.2 then [(max p.1 q.1, min p.2 q.2)] else []
theorem has_cut (p q : Int × Int) (d : Int) : hasB (cutL p q) d = (decide (p.1 ≤ d ∧ d < p.2) && decide (q.1 ≤ d ∧ d < q.2)) := by
  unfold cutL
  rw [← Bool.decide_and]
  by_cases h : max p.1 q.1 < min p.2 q.2
  · rw [if_pos h, has_one]
    exact decide_eq_decide.2 (by show max p.1 q.1 ≤ d ∧ d < min p.2 q.2 ↔ _; omega)
  · rw [if_neg h, has_nil]
    exact (decide_eq_false (by omega)).symm
theorem cut_norm {lo lo' : Int} (hp : lo < p.1 ∧ p.1 < p.2 ∧ p.2 ≤ 87659) (hq : lo' < q.1 ∧ q.1 < q.2 ∧ q.2 ≤ 87659) (hn : normB (-1) out = true) (hl : lastTo (-1) out ≤ max lo lo') :
    normB (-1) (out ++ cutL p q) = true ∧ lastTo (-1) (out ++ cutL p q) ≤ max (max lo lo') (min p.2 q.2) := by
  unfold cutL
  by_cases h : max p.1 q.1 < min p.2 q.2
  · rw [if_pos h, normB_end, lastTo_end]
    exact ⟨⟨hn, by show lastTo (-1) out < max p.1 q.1 ∧ max p.1 q.1 < min p.2 q.2 ∧ min p.2 q.2 ≤ 87659; omega⟩, by show min p.2 q.2 ≤ _; omega⟩
  · rw [if_neg h, List.append_nil]
    exact ⟨hn, by omega⟩
theorem cut_len (p q : Int × Int) : (cutL p q).length ≤ 1 := by
  unfold cutL
  split <;> simp
theorem zip_left (h : Zip a b (p :: a') (q :: b') out) (hc : p.2 < q.2) : Zip a b a' (q :: b') (out ++ cutL p q) := by
  obtain ⟨lo, lo', n1, n2, hl⟩ := h.ahead
  have m1 := (normB_cons _ _ _).1 n1
  have m2 := (normB_cons _ _ _).1 n2
  obtain ⟨c1, c2⟩ := cut_norm m1.1 m2.1 h.norm hl
  have hf := h.few
  have hlen := cut_len p q
  simp only [List.length_cons] at hf
  refine ⟨c1, fun d => ?_, ⟨p.2, lo', m1.2, n2, by omega⟩, by simp only [List.length_append, List.length_cons]; omega⟩
  rw [← h.has d, has_append, has_cut, has_cons p, has_cons q]
  by_cases hb : hasB b' d = true
  · have := has_range m2.2 hb
    rw [decide_eq_false (p := p.1 ≤ d ∧ d < p.2) (by omega)]
    simp
  · rw [Bool.not_eq_true] at hb
    rw [hb]
    cases hasB out d <;> cases hasB a' d <;> simp
theorem zip_right (h : Zip a b (p :: a') (q :: b') out) (hc : ¬ p.2 < q.2) : Zip a b (p :: a') b' (out ++ cutL p q) := by
  obtain ⟨lo, lo', n1, n2, hl⟩ := h.ahead
  have m1 := (normB_cons _ _ _).1 n1
  have m2 := (normB_cons _ _ _).1 n2
  obtain ⟨c1, c2⟩ := cut_norm m1.1 m2.1 h.norm hl
  have hf := h.few
  have hlen := cut_len p q
  simp only [List.length_cons] at hf
  refine ⟨c1, fun d => ?_, ⟨lo, q.2, n1, m2.2, by omega⟩, by simp only [List.length_append, List.length_cons]; omega⟩
  rw [← h.has d, has_append, has_cut, has_cons p, has_cons q]
  by_cases ha : hasB a' d = true
  · have := has_range m1.2 ha
    rw [decide_eq_false (p := q.1 ≤ d ∧ d < q.2) (by omega)]
    simp
  · rw [Bool.not_eq_true] at ha
    rw [ha]
    cases hasB out d <;> cases hasB b' d <;> simp
    all_goals omega
end
end Go.Proofs.Ytjcgclfcompioaa.Span
