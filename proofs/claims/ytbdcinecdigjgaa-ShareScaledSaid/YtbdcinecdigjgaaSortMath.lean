/- Plain mathematics of a stable sort by blocks, merged in place: places 0, 1, .. and what stands at each (by where it stood at first). Of no program. -/
namespace Go.Proofs.Ytbdcinecdigjgaa.Stable

section
variable {a b a' b' i j m n lo hi k : Nat} {P Q S : Nat → Nat} {R : Nat → Nat → Prop} {lt : Nat → Nat → Bool}

/-- Q is P, with what stands in [a, b) exchanged among itself. -/
def Re (a b : Nat) (P Q : Nat → Nat) : Prop := ∃ p : Nat → Nat, (∀ i j, p i = p j → i = j) ∧ (∀ i, i < a ∨ b ≤ i → p i = i) ∧ ∀ i, Q i = P (p i)
theorem Re.refl (a b : Nat) (P : Nat → Nat) : Re a b P P := ⟨fun i => i, fun _ _ h => h, fun _ _ => rfl, fun _ => rfl⟩
theorem Re.trans (h : Re a b P Q) (k : Re a b Q S) : Re a b P S := by
  obtain ⟨p, p1, p2, p3⟩ := h
  obtain ⟨q, q1, q2, q3⟩ := k
  exact ⟨fun i => p (q i), fun i j h => q1 _ _ (p1 _ _ h), fun i hi => by show p (q i) = i; rw [q2 i hi, p2 i hi], fun i => by rw [q3, p3]⟩
theorem Re.mono (h : Re a b P Q) (ha : a' ≤ a) (hb : b ≤ b') : Re a' b' P Q := by
  obtain ⟨p, p1, p2, p3⟩ := h
  exact ⟨p, p1, fun i hi => p2 i (by omega), p3⟩
theorem Re.out (h : Re a b P Q) (hi : i < a ∨ b ≤ i) : Q i = P i := by
  obtain ⟨p, p1, p2, p3⟩ := h
  rw [p3, p2 i hi]
theorem Re.inside (h : Re a b P Q) (h1 : a ≤ i) (h2 : i < b) : ∃ k, a ≤ k ∧ k < b ∧ Q i = P k := by
  obtain ⟨p, p1, p2, p3⟩ := h
  refine ⟨p i, ?_, ?_, p3 i⟩
  · rcases Nat.lt_or_ge (p i) a with hl | hl
    · have := p1 _ _ (p2 (p i) (Or.inl hl)); omega
    · exact hl
  · rcases Nat.lt_or_ge (p i) b with hl | hl
    · exact hl
    · have := p1 _ _ (p2 (p i) (Or.inr hl)); omega
theorem Re.inj (h : Re a b P Q) (hP : ∀ i j, P i = P j → i = j) : ∀ i j, Q i = Q j → i = j := by
  obtain ⟨p, p1, p2, p3⟩ := h
  intro i j e
  rw [p3, p3] at e
  exact p1 _ _ (hP _ _ e)

def swp (i j : Nat) (P : Nat → Nat) : Nat → Nat := fun k => if k = i then P j else if k = j then P i else P k
theorem Re.swap (P : Nat → Nat) (h1 : a ≤ i) (h2 : i < b) (h3 : a ≤ j) (h4 : j < b) : Re a b P (swp i j P) := by
  refine ⟨fun k => if k = i then j else if k = j then i else k, fun x y => ?_, fun x hx => ?_, fun x => ?_⟩
  · dsimp only
    split <;> split <;> intro h <;> (try split at h) <;> (try split at h) <;> omega
  · dsimp only
    rw [if_neg (by omega), if_neg (by omega)]
  · unfold swp
    dsimp only
    split
    · rfl
    · split <;> rfl

def Srt (R : Nat → Nat → Prop) (Q : Nat → Nat) (a b : Nat) : Prop := ∀ i j, a ≤ i → i < j → j < b → R (Q i) (Q j)
structure Ord (R : Nat → Nat → Prop) (lt : Nat → Nat → Bool) : Prop where
  trans : ∀ {i j k}, R i j → R j k → R i k
  yes : ∀ {i j}, i < j → lt j i = true → R j i
  no : ∀ {i j}, i < j → lt j i = false → R i j

/-! insertion -/
/-- The inner loop of an insertion: what is put in stands at j. -/
structure Ins (R : Nat → Nat → Prop) (a i j : Nat) (Q : Nat → Nat) : Prop where
  lo : a ≤ j
  hi : j ≤ i
  rest : ∀ u v, a ≤ u → u < v → v ≤ i → u ≠ j → v ≠ j → R (Q u) (Q v)
  above : ∀ v, j < v → v ≤ i → R (Q j) (Q v)
  early : ∀ u, a ≤ u → u < j → Q u < Q j
theorem ins_start (h : Srt R Q a i) (he : ∀ u, a ≤ u → u < i → Q u < Q i) (ha : a ≤ i) : Ins R a i i Q :=
  ⟨ha, Nat.le_refl _, fun u v h1 h2 h3 _ h5 => h u v h1 h2 (by omega), fun v h1 h2 => by omega, he⟩
theorem ins_step (o : Ord R lt) (h : Ins R a i j Q) (hj : a < j) (hl : lt (Q j) (Q (j - 1)) = true) : Ins R a i (j - 1) (swp j (j - 1) Q) := by
  obtain ⟨h1, h2, h3, h4, h5⟩ := h
  have hr := o.yes (h5 (j - 1) (by omega) (by omega)) hl
  have at1 : swp j (j - 1) Q (j - 1) = Q j := by unfold swp; rw [if_neg (by omega), if_pos rfl]
  have at0 : swp j (j - 1) Q j = Q (j - 1) := by unfold swp; rw [if_pos rfl]
  have other : ∀ u, u ≠ j → u ≠ j - 1 → swp j (j - 1) Q u = Q u := fun u x y => by unfold swp; rw [if_neg x, if_neg y]
  refine ⟨by omega, by omega, fun u v g1 g2 g3 g4 g5 => ?_, fun v g1 g2 => ?_, fun u g1 g2 => ?_⟩
  · by_cases e1 : u = j
    · subst e1
      rw [at0, other v (by omega) g5]
      exact h3 _ _ (by omega) (by omega) g3 (by omega) (by omega)
    · rw [other u e1 g4]
      by_cases e2 : v = j
      · subst e2
        rw [at0]
        exact h3 _ _ g1 (by omega) (by omega) (by omega) (by omega)
      · rw [other v e2 g5]
        exact h3 _ _ g1 g2 g3 e1 e2
  · rw [at1]
    by_cases e2 : v = j
    · subst e2
      rw [at0]; exact hr
    · rw [other v e2 (by omega)]
      exact h4 v (by omega) g2
  · rw [at1, other u (by omega) (by omega)]
    exact h5 u g1 (by omega)
theorem ins_done (o : Ord R lt) (h : Ins R a i j Q) (hl : j = a ∨ a < j ∧ lt (Q j) (Q (j - 1)) = false) : Srt R Q a (i + 1) := by
  obtain ⟨h1, h2, h3, h4, h5⟩ := h
  intro u v g1 g2 g3
  by_cases e1 : u = j
  · subst e1
    exact h4 v g2 (by omega)
  · by_cases e2 : v = j
    · subst e2
      rcases hl with hl | ⟨hl, hb⟩
      · omega
      · have hr := o.no (h5 (v - 1) (by omega) (by omega)) hb
        by_cases e3 : u = v - 1
        · subst e3; exact hr
        · exact o.trans (h3 u (v - 1) g1 (by omega) (by omega) (by omega) (by omega)) hr
    · exact h3 u v g1 g2 (by omega) e1 e2

/-! ranges exchanged, and turned -/
def swapR (a b n : Nat) (P : Nat → Nat) : Nat → Nat := fun k => if a ≤ k ∧ k < a + n then P (k + (b - a)) else if b ≤ k ∧ k < b + n then P (k - (b - a)) else P k
def rot (a m b : Nat) (P : Nat → Nat) : Nat → Nat := fun k => if a ≤ k ∧ k < a + (b - m) then P (k + (m - a)) else if a + (b - m) ≤ k ∧ k < b then P (k - (b - m)) else P k
theorem swapR_zero (a b : Nat) (P : Nat → Nat) : swapR a b 0 P = P := by
  funext k; unfold swapR; rw [if_neg (by omega), if_neg (by omega)]
theorem swapR_succ (P : Nat → Nat) (h : a + (n + 1) ≤ b) : swp (a + n) (b + n) (swapR a b n P) = swapR a b (n + 1) P := by
  funext k
  unfold swp swapR
  repeat' split
  all_goals first | omega | (congr 1; omega)
theorem rot_more (P : Nat → Nat) (h1 : lo + j < m) (h2 : 0 < j) : rot (lo + j) m (m + j) (swapR lo m j P) = rot lo m (m + j) P := by
  funext k
  unfold rot swapR
  repeat' split
  all_goals first | omega | (congr 1; omega)
theorem rot_less (P : Nat → Nat) (h1 : lo < m) (h2 : m - lo < j) : rot lo m (m + j - (m - lo)) (swapR lo (m + j - (m - lo)) (m - lo) P) = rot lo m (m + j) P := by
  funext k
  unfold rot swapR
  repeat' split
  all_goals first | omega | (congr 1; omega)
theorem rot_eq (P : Nat → Nat) (h1 : lo ≤ m) : swapR lo m (m - lo) P = rot lo m (m + (m - lo)) P := by
  funext k
  unfold rot swapR
  repeat' split
  all_goals first | omega | (congr 1; omega)
theorem Re.rot (P : Nat → Nat) (h1 : a ≤ m) (h2 : m ≤ b) : Re a b P (rot a m b P) := by
  refine ⟨Stable.rot a m b fun k => k, fun x y => ?_, fun x hx => ?_, fun x => ?_⟩
  · unfold Stable.rot
    dsimp only
    repeat' split
    all_goals (intro h; omega)
  · unfold Stable.rot
    dsimp only
    rw [if_neg (by omega), if_neg (by omega)]
  · unfold Stable.rot
    dsimp only
    repeat' split
    all_goals rfl
theorem rot_first (P : Nat → Nat) (a : Nat) : rot a (a + 1) (a + 1) P = P := by
  funext k; unfold rot
  repeat' split
  all_goals first | omega | (congr 1; omega) | rfl
theorem rot_on (P : Nat → Nat) (h : a ≤ k) : swp k (k + 1) (rot a (a + 1) (k + 1) P) = rot a (a + 1) (k + 2) P := by
  funext x
  unfold swp rot
  repeat' split
  all_goals first | omega | (congr 1; omega)
theorem rot_last (P : Nat → Nat) (m : Nat) : rot m m (m + 1) P = P := by
  funext k; unfold rot
  repeat' split
  all_goals first | omega | (congr 1; omega) | rfl
theorem rot_back (P : Nat → Nat) (h : k ≤ m) (h0 : 0 < k) : swp k (k - 1) (rot k m (m + 1) P) = rot (k - 1) m (m + 1) P := by
  funext x
  unfold swp rot
  repeat' split
  all_goals first | omega | (congr 1; omega)

/-! what a rotation holds -/
theorem rot_lo (P : Nat → Nat) (h : k < a) : rot a m b P k = P k := by unfold rot; rw [if_neg (by omega), if_neg (by omega)]
theorem rot_up (P : Nat → Nat) (h1 : a ≤ k) (h2 : k < a + (b - m)) : rot a m b P k = P (k + (m - a)) := by unfold rot; rw [if_pos ⟨h1, h2⟩]
theorem rot_down (P : Nat → Nat) (h1 : a + (b - m) ≤ k) (h2 : k < b) : rot a m b P k = P (k - (b - m)) := by unfold rot; rw [if_neg (by omega), if_pos ⟨h1, h2⟩]
theorem rot_hi (P : Nat → Nat) (h0 : a ≤ m) (h1 : m ≤ b) (h : b ≤ k) : rot a m b P k = P k := by unfold rot; rw [if_neg (by omega), if_neg (by omega)]

/-- One that stands at a goes behind those of [a + 1, i). -/
theorem one_first (hs : Srt R P (a + 1) b) (h1 : a + 1 ≤ i) (h2 : i ≤ b) (hl : ∀ k, a + 1 ≤ k → k < i → R (P k) (P a)) (hg : ∀ k, i ≤ k → k < b → R (P a) (P k)) : Srt R (rot a (a + 1) i P) a b := by
  intro u v g1 g2 g3
  by_cases e1 : v < i - 1
  · rw [rot_up P (by omega) (by omega), rot_up P (by omega) (by omega)]
    exact hs _ _ (by omega) (by omega) (by omega)
  · by_cases e2 : v = i - 1
    · rw [rot_up P (by omega) (by omega), rot_down P (k := v) (by omega) (by omega), show v - (i - (a + 1)) = a from by omega]
      exact hl _ (by omega) (by omega)
    · rw [rot_hi P (k := v) (by omega) (by omega) (by omega)]
      by_cases e3 : u < i - 1
      · rw [rot_up P (by omega) (by omega)]
        exact hs _ _ (by omega) (by omega) (by omega)
      · by_cases e4 : u = i - 1
        · rw [rot_down P (k := u) (by omega) (by omega), show u - (i - (a + 1)) = a from by omega]
          exact hg _ (by omega) (by omega)
        · rw [rot_hi P (k := u) (by omega) (by omega) (by omega)]
          exact hs _ _ (by omega) (by omega) (by omega)
/-- One that stands at m goes ahead of those of [i, m). -/
theorem one_last (hs : Srt R P a m) (h1 : a ≤ i) (h2 : i ≤ m) (hl : ∀ k, a ≤ k → k < i → R (P k) (P m)) (hg : ∀ k, i ≤ k → k < m → R (P m) (P k)) : Srt R (rot i m (m + 1) P) a (m + 1) := by
  intro u v g1 g2 g3
  by_cases e1 : v < i
  · rw [rot_lo P (by omega), rot_lo P (by omega)]
    exact hs _ _ g1 g2 (by omega)
  · by_cases e2 : v = i
    · rw [rot_lo P (by omega), rot_up P (k := v) (by omega) (by omega), show v + (m - i) = m from by omega]
      exact hl _ g1 (by omega)
    · rw [rot_down P (k := v) (by omega) (by omega)]
      by_cases e3 : u < i
      · rw [rot_lo P (by omega)]
        exact hs _ _ g1 (by omega) (by omega)
      · by_cases e4 : u = i
        · rw [rot_up P (k := u) (by omega) (by omega), show u + (m - i) = m from by omega]
          exact hg _ (by omega) (by omega)
        · rw [rot_down P (k := u) (by omega) (by omega)]
          exact hs _ _ (by omega) (by omega) (by omega)

/-! the merge -/
/-- What two sorted ranges that are to be merged are. -/
structure Pre (R : Nat → Nat → Prop) (P : Nat → Nat) (a m b : Nat) : Prop where
  left : Srt R P a m
  right : Srt R P m b
  early : ∀ i j, a ≤ i → i < m → m ≤ j → j < b → P i < P j
/-- The place s at which the two are parted, and how both parts stand then. -/
structure Cut (R : Nat → Nat → Prop) (P : Nat → Nat) (a m b mid s : Nat) : Prop where
  lo : a ≤ s
  hi : s ≤ m
  md : s ≤ mid
  e1 : m + mid - s ≤ b
  below : a < s → m + mid - s < b → R (P (s - 1)) (P (m + mid - s))
  above : s < m → s < mid → R (P (m + mid - s - 1)) (P s)
structure Parts (R : Nat → Nat → Prop) (Q : Nat → Nat) (a s mid e b : Nat) : Prop where
  one : Pre R Q a s mid
  two : Pre R Q mid e b
  across : ∀ i j, a ≤ i → i < mid → mid ≤ j → j < b → R (Q i) (Q j)
theorem parts (o : Ord R lt) {mid s : Nat} (h : Pre R P a m b) (c : Cut R P a m b mid s) (h2 : mid < b) (h3 : m < b) (h4 : a ≤ mid) : Parts R (rot s m (m + mid - s) P) a s mid (m + mid - s) b := by
  obtain ⟨l, r, e⟩ := h
  obtain ⟨c1, c2, c3, c4, c5, c6⟩ := c
  -- of the left range below s, from s on; of the right range below, from m + mid - s on
  have q1 : ∀ k, k < s → rot s m (m + mid - s) P k = P k := fun k hk => rot_lo P hk
  have q2 : ∀ k, s ≤ k → k < mid → rot s m (m + mid - s) P k = P (k + (m - s)) := fun k x y => rot_up P x (by omega)
  have q3 : ∀ k, mid ≤ k → k < m + mid - s → rot s m (m + mid - s) P k = P (k - (mid - s)) := fun k x y => by rw [rot_down P (by omega) y]; congr 1; omega
  have q4 : ∀ k, m + mid - s ≤ k → rot s m (m + mid - s) P k = P k := fun k x => rot_hi P c2 (by omega) x
  have low : ∀ i j, a ≤ i → i < s → m + mid - s ≤ j → j < b → R (P i) (P j) := by
    intro i j x1 x2 x3 x4
    have y : R (P (s - 1)) (P (m + mid - s)) := c5 (by omega) (by omega)
    have y1 : R (P i) (P (m + mid - s)) := by
      by_cases z : i = s - 1
      · rw [z]; exact y
      · exact o.trans (l i (s - 1) x1 (by omega) (by omega)) y
    by_cases z : j = m + mid - s
    · rw [z]; exact y1
    · exact o.trans y1 (r (m + mid - s) j (by omega) (by omega) x4)
  have high : ∀ i j, m ≤ i → i < m + mid - s → s ≤ j → j < m → R (P i) (P j) := by
    intro i j x1 x2 x3 x4
    have y : R (P (m + mid - s - 1)) (P s) := c6 (by omega) (by omega)
    have y1 : R (P i) (P s) := by
      by_cases z : i = m + mid - s - 1
      · rw [z]; exact y
      · exact o.trans (r i (m + mid - s - 1) x1 (by omega) (by omega)) y
    by_cases z : j = s
    · rw [z]; exact y1
    · exact o.trans y1 (l s j (by omega) (by omega) x4)
  refine ⟨⟨fun i j x1 x2 x3 => ?_, fun i j x1 x2 x3 => ?_, fun i j x1 x2 x3 x4 => ?_⟩, ⟨fun i j x1 x2 x3 => ?_, fun i j x1 x2 x3 => ?_, fun i j x1 x2 x3 x4 => ?_⟩, fun i j x1 x2 x3 x4 => ?_⟩
  · rw [q1 i (by omega), q1 j x3]; exact l i j x1 x2 (by omega)
  · rw [q2 i x1 (by omega), q2 j (by omega) x3]; exact r _ _ (by omega) (by omega) (by omega)
  · rw [q1 i x2, q2 j x3 x4]; exact e _ _ x1 (by omega) (by omega) (by omega)
  · rw [q3 i x1 (by omega), q3 j (by omega) x3]; exact l _ _ (by omega) (by omega) (by omega)
  · rw [q4 i x1, q4 j (by omega)]; exact r _ _ (by omega) (by omega) (by omega)
  · rw [q3 i x1 x2, q4 j x3]; exact e _ _ (by omega) (by omega) (by omega) x4
  · by_cases z1 : i < s
    · rw [q1 i z1]
      by_cases z2 : j < m + mid - s
      · rw [q3 j x3 z2]; exact l _ _ x1 (by omega) (by omega)
      · rw [q4 j (by omega)]; exact low _ _ x1 z1 (by omega) x4
    · rw [q2 i (by omega) x2]
      by_cases z2 : j < m + mid - s
      · rw [q3 j x3 z2]; exact high _ _ (by omega) (by omega) (by omega) (by omega)
      · rw [q4 j (by omega)]; exact r _ _ (by omega) (by omega) x4
/-- Both parts sorted: the whole is. -/
theorem joined {mid e s : Nat} {Q1 Q2 : Nat → Nat} (h : Parts R Q a s mid e b) (r1 : Re a mid Q Q1) (s1 : Srt R Q1 a mid) (r2 : Re mid b Q1 Q2) (s2 : Srt R Q2 mid b) (h1 : a ≤ mid) (h2 : mid ≤ b) : Srt R Q2 a b ∧ Re a b Q Q2 := by
  refine ⟨fun i j x1 x2 x3 => ?_, (r1.mono (Nat.le_refl _) h2).trans (r2.mono h1 (Nat.le_refl _))⟩
  by_cases z1 : j < mid
  · rw [r2.out (i := i) (by omega), r2.out (i := j) (by omega)]
    exact s1 i j x1 x2 z1
  · by_cases z2 : mid ≤ i
    · exact s2 i j z2 x2 x3
    · rw [r2.out (i := i) (by omega)]
      obtain ⟨k, k1, k2, k3⟩ := r1.inside x1 (by omega : i < mid)
      obtain ⟨l, l1, l2, l3⟩ := r2.inside (by omega : mid ≤ j) x3
      rw [k3, l3, r1.out (i := l) (by omega)]
      exact h.across k l k1 k2 l1 l2
theorem pre_one {e s mid : Nat} (h : Parts R Q a s mid e b) (h1 : s = a ∨ s = mid) : Srt R Q a mid := by
  rcases h1 with h1 | h1
  · rw [← h1]; exact h.one.right
  · rw [← h1]; have := h.one.left; rw [h1] at this ⊢; exact this
theorem pre_two {e s mid : Nat} (h : Parts R Q a s mid e b) (h1 : e = mid ∨ e = b) : Srt R Q mid b := by
  rcases h1 with h1 | h1
  · have := h.two.right; rw [h1] at this; exact this
  · have := h.two.left; rw [h1] at this; exact this
/-- What the sorting of the first part leaves of the second. -/
theorem Parts.two_kept {mid e s : Nat} {Q1 : Nat → Nat} (h : Parts R Q a s mid e b) (he : mid ≤ e) (r1 : Re a mid Q Q1) : Pre R Q1 mid e b :=
  ⟨fun i j x1 x2 x3 => by rw [r1.out (i := i) (by omega), r1.out (i := j) (by omega)]; exact h.two.left i j x1 x2 x3,
    fun i j x1 x2 x3 => by rw [r1.out (i := i) (by omega), r1.out (i := j) (by omega)]; exact h.two.right i j x1 x2 x3,
    fun i j x1 x2 x3 x4 => by rw [r1.out (i := i) (by omega), r1.out (i := j) (by omega)]; exact h.two.early i j x1 x2 x3 x4⟩

/-! the blocks -/
/-- n places in blocks: sorted within each, those of an earlier block earlier. -/
structure Inv (R : Nat → Nat → Prop) (n : Nat) (B : Nat → Prop) (Q : Nat → Nat) : Prop where
  far : ∀ i j β, i < β → β ≤ j → j < n → B β → Q i < Q j
  near : ∀ i j, i < j → j < n → (∀ β, i < β → β ≤ j → ¬ B β) → R (Q i) (Q j)
theorem Inv.merge {B B' : Nat → Prop} (h : Inv R n B Q) (r : Re a b Q S) (s : Srt R S a b) (ha : a = 0 ∨ B a) (hb : b = n ∨ B b) (hn : b ≤ n) (hB : ∀ β, 0 < β → β < n → (B' β ↔ B β ∧ ¬ (a < β ∧ β < b))) : Inv R n B' S := by
  have hA : 0 < a → B a := fun h => ha.resolve_left (by omega)
  have hE : b < n → B b := fun h => hb.resolve_left (by omega)
  refine ⟨fun i j β x1 x2 x3 x4 => ?_, fun i j x1 x2 x3 => ?_⟩
  · obtain ⟨y1, y2⟩ := (hB β (by omega) (by omega)).1 x4
    by_cases z1 : i < a ∨ b ≤ i
    · rw [r.out z1]
      by_cases z2 : j < a ∨ b ≤ j
      · rw [r.out z2]; exact h.far i j β x1 x2 x3 y1
      · obtain ⟨k, k1, k2, k3⟩ := r.inside (i := j) (by omega) (by omega)
        rw [k3]
        exact h.far i k a (by omega) k1 (by omega) (hA (by omega))
    · obtain ⟨k, k1, k2, k3⟩ := r.inside (i := i) (by omega) (by omega)
      rw [k3]
      have z2 : b ≤ j := by omega
      rw [r.out (i := j) (Or.inr z2)]
      exact h.far k j b k2 z2 x3 (hE (by omega))
  · by_cases z1 : a ≤ i ∧ j < b
    · exact s i j z1.1 x1 z1.2
    · by_cases z2 : i < a ∧ a ≤ j
      · exact absurd ((hB a (by omega) (by omega)).2 ⟨hA (by omega), by omega⟩) (x3 a z2.1 z2.2)
      · by_cases z3 : i < b ∧ b ≤ j
        · exact absurd ((hB b (by omega) (by omega)).2 ⟨hE (by omega), by omega⟩) (x3 b z3.1 z3.2)
        · rw [r.out (i := i) (by omega), r.out (i := j) (by omega)]
          exact h.near i j x1 x2 fun β y1 y2 y3 => x3 β y1 y2 ((hB β (by omega) (by omega)).2 ⟨y3, by omega⟩)
theorem Inv.same {B B' : Nat → Prop} (h : Inv R n B Q) (hB : ∀ β, 0 < β → β < n → (B' β ↔ B β)) : Inv R n B' Q :=
  ⟨fun i j β x1 x2 x3 x4 => h.far i j β x1 x2 x3 ((hB β (by omega) (by omega)).1 x4), fun i j x1 x2 x3 => h.near i j x1 x2 fun β y1 y2 y3 => x3 β y1 y2 ((hB β (by omega) (by omega)).2 y3)⟩
theorem Inv.start (n : Nat) : Inv R n (fun _ => True) (fun i => i) :=
  ⟨fun i j β x1 x2 _ _ => by show i < j; omega, fun i j x1 _ x3 => absurd trivial (x3 j x1 (Nat.le_refl _))⟩
theorem Inv.all {B : Nat → Prop} (h : Inv R n B Q) (hB : ∀ β, 0 < β → β < n → ¬ B β) : Srt R Q 0 n :=
  fun i j _ x2 x3 => h.near i j x2 x3 fun β y1 y2 => hB β (by omega) (by omega)
theorem Inv.pre {B : Nat → Prop} (h : Inv R n B Q) (hb : m ≤ b) (hn : b ≤ n) (hm : B m) (h1 : ∀ β, a < β → β < m → ¬ B β) (h2 : ∀ β, m < β → β < b → ¬ B β) : Pre R Q a m b :=
  ⟨fun i j x1 x2 x3 => h.near i j x2 (by omega) fun β y1 y2 => h1 β (by omega) (by omega),
    fun i j x1 x2 x3 => h.near i j x2 (by omega) fun β y1 y2 => h2 β (by omega) (by omega),
    fun i j x1 x2 x3 x4 => h.far i j m x2 x3 (by omega) hm⟩
/-- In the first loop: blocks of 20 up to a, from there on each alone. -/
def B20 (a β : Nat) : Prop := 20 ∣ β ∨ a ≤ β
/-- Merging blocks of s: twice as great ones up to a. -/
def BM (s a β : Nat) : Prop := β ≤ a ∧ 2 * s ∣ β ∨ a ≤ β ∧ s ∣ β
theorem b20_step {β : Nat} (h : 20 ∣ a) : B20 (a + 20) β ↔ B20 a β ∧ ¬ (a < β ∧ β < a + 20) := by unfold B20; omega
theorem b20_last {β : Nat} (h : 20 ∣ a) (hn : n < a + 20) (h0 : β < n) : 20 ∣ β ↔ B20 a β ∧ ¬ (a < β ∧ β < n) := by unfold B20; omega
theorem b20_early {u v : Nat} (h : Inv R n (B20 a) Q) (h1 : a ≤ u) (h2 : u < v) (h3 : v < n) : Q u < Q v := h.far u v v h2 (Nat.le_refl _) h3 (Or.inr (by omega))
theorem dvd_gap {d x y : Nat} (hx : d ∣ x) (hy : d ∣ y) (h1 : x < y) : x + d ≤ y := by
  have := Nat.le_of_dvd (by omega) (Nat.dvd_sub hy hx)
  omega
theorem bm_start {s β : Nat} : BM s 0 β ↔ s ∣ β := by
  unfold BM
  constructor
  · rintro (⟨h1, -⟩ | ⟨-, h⟩)
    · have : β = 0 := by omega
      subst this; exact Nat.dvd_zero _
    · exact h
  · exact fun h => Or.inr ⟨Nat.zero_le _, h⟩
theorem dvd_two {s x : Nat} (h : 2 * s ∣ x) : s ∣ x := Nat.dvd_trans ⟨2, Nat.mul_comm _ _⟩ h
theorem bm_at {s : Nat} (h : 2 * s ∣ a) : BM s a a := Or.inl ⟨Nat.le_refl _, h⟩
theorem bm_mid {s : Nat} (h : 2 * s ∣ a) : BM s a (a + s) := Or.inr ⟨by omega, (Nat.dvd_add_right (dvd_two h)).2 (Nat.dvd_refl _)⟩
theorem bm_end {s : Nat} (h : 2 * s ∣ a) : BM s a (a + 2 * s) := Or.inr ⟨by omega, (Nat.dvd_add_right (dvd_two h)).2 ⟨2, Nat.mul_comm _ _⟩⟩
theorem bm_none1 {s β : Nat} (h : 2 * s ∣ a) (h1 : a < β) (h2 : β < a + s) : ¬ BM s a β := by
  rintro (⟨x, -⟩ | ⟨-, y⟩)
  · omega
  · have := dvd_gap (dvd_two h) y h1; omega
theorem bm_none2 {s β : Nat} (h : 2 * s ∣ a) (h1 : a + s < β) (h2 : β < a + 2 * s) : ¬ BM s a β := by
  rintro (⟨x, -⟩ | ⟨-, y⟩)
  · omega
  · have := dvd_gap ((Nat.dvd_add_right (dvd_two h)).2 (Nat.dvd_refl s)) y h1; omega
theorem bm_step {s β : Nat} (h : 2 * s ∣ a) : BM s (a + 2 * s) β ↔ BM s a β ∧ ¬ (a < β ∧ β < a + 2 * s) := by
  constructor
  · rintro (⟨x, y⟩ | ⟨x, y⟩)
    · by_cases z : β ≤ a
      · exact ⟨Or.inl ⟨z, y⟩, by omega⟩
      · have := dvd_gap h y (by omega)
        exact ⟨Or.inr ⟨by omega, dvd_two y⟩, by omega⟩
    · exact ⟨Or.inr ⟨by omega, y⟩, by omega⟩
  · rintro ⟨⟨x, y⟩ | ⟨x, y⟩, z⟩
    · exact Or.inl ⟨by omega, y⟩
    · by_cases e : β = a
      · rw [e]; exact Or.inl ⟨by omega, h⟩
      · exact Or.inr ⟨by omega, y⟩
theorem bm_tail {s β : Nat} (h : 2 * s ∣ a) (hn : n < a + 2 * s) (h0 : β < n) : 2 * s ∣ β ↔ BM s a β ∧ ¬ (a < β ∧ β < n) := by
  constructor
  · intro y
    by_cases z : β ≤ a
    · exact ⟨Or.inl ⟨z, y⟩, by omega⟩
    · have := dvd_gap h y (by omega); omega
  · rintro ⟨⟨x, y⟩ | ⟨x, y⟩, z⟩
    · exact y
    · have : β = a := by omega
      rw [this]; exact h
theorem bm_none {s β : Nat} (h : 2 * s ∣ a) (hn : n ≤ a + s) (h0 : β < n) : 2 * s ∣ β ↔ BM s a β := by
  constructor
  · intro y
    by_cases z : β ≤ a
    · exact Or.inl ⟨z, y⟩
    · have := dvd_gap h y (by omega); omega
  · rintro (⟨x, y⟩ | ⟨x, y⟩)
    · exact y
    · by_cases z : a = β
      · rw [← z]; exact h
      · have := dvd_gap (dvd_two h) y (by omega); omega
end
end Go.Proofs.Ytbdcinecdigjgaa.Stable
