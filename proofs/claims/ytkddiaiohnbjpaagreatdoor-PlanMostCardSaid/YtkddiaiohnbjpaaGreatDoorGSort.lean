/- Plain mathematics of a stable sort by blocks, merged in place: places 0, 1, .. and what stands at each (by where it stood at first). Of no program. What slices' stable sort by a comparing function does to a slice of ints, at any length: swapRange, rotate. What slices' merge in place does to a slice of ints whose two parts are sorted: the three ways of symMerge. What slices.SortStableFunc does to a slice of ints, at any length, by any comparing function that tells an order. -/
import Derived.Test.YtkddiaiohnbjpaaGreatDoorGNum
import Derived.Deep.OwnRows
import Derived.Lib.Hide
import Derived.RegionTactic
import Derived.BigRegion
import Derived.Deep.QuietTactic
import Derived.BigQuiet
import Derived.IntWalk
import Derived.Handy
namespace Go.Proofs.YtkddiaiohnbjpaaGreatDoor.Stable

section
variable {a b a' b' i j m n lo hi k : Nat} {P Q S : Nat → Nat} {R : Nat → Nat → Prop} {lt : Nat → Nat → Bool}

/-- Q is P, with what stands in [a, b) exchanged among itself. -/
def Re (a b : Nat) (P Q : Nat → Nat) : Prop := ∃ p : Nat → Nat, (∀ i j, p i = p j → i = j) ∧ (∀ i, i < a ∨ b ≤ i → p i = i) ∧ ∀ i, Q i = P (p i)
theorem Re.refl (a b : Nat) (P : Nat → Nat) : Re a b P P := ⟨fun i => i, fun _ _ h => h, fun _ _ => rfl, fun _ => rfl⟩
theorem Re.trans (h : Re a b P Q) (k : Re a b Q S) : Re a b P S := by
  obtain ⟨p, p1, p2, p3⟩ := h
  obtain ⟨q, q1, q2, q3⟩ := k
  exact ⟨fun i => p (q i), fun i j h => q1 _ _ (p1 _ _ h), fun i hi => by show p (q i) = i; rw [q2 i hi, p2 i hi], fun i => by rw [q3, p3]⟩
theorem Re.mono (h : Re a b P Q) (ha : a' ≤ a) (hb : b ≤ b') : Re a' b' P Q := by
  obtain ⟨p, p1, p2, p3⟩ := h
  exact ⟨p, p1, fun i hi => p2 i (by omega), p3⟩
theorem Re.out (h : Re a b P Q) (hi : i < a ∨ b ≤ i) : Q i = P i := by
  obtain ⟨p, p1, p2, p3⟩ := h
  rw [p3, p2 i hi]
theorem Re.inside (h : Re a b P Q) (h1 : a ≤ i) (h2 : i < b) : ∃ k, a ≤ k ∧ k < b ∧ Q i = P k := by
  obtain ⟨p, p1, p2, p3⟩ := h
  refine ⟨p i, ?_, ?_, p3 i⟩
  · rcases Nat.lt_or_ge (p i) a with hl | hl
    · have := p1 _ _ (p2 (p i) (Or.inl hl)); omega
    · exact hl
  · rcases Nat.lt_or_ge (p i) b with hl | hl
    · exact hl
    · have := p1 _ _ (p2 (p i) (Or.inr hl)); omega
theorem Re.inj (h : Re a b P Q) (hP : ∀ i j, P i = P j → i = j) : ∀ i j, Q i = Q j → i = j := by
  obtain ⟨p, p1, p2, p3⟩ := h
  intro i j e
  rw [p3, p3] at e
  exact p1 _ _ (hP _ _ e)

def swp (i j : Nat) (P : Nat → Nat) : Nat → Nat := fun k => if k = i then P j else if k = j then P i else P k
theorem Re.swap (P : Nat → Nat) (h1 : a ≤ i) (h2 : i < b) (h3 : a ≤ j) (h4 : j < b) : Re a b P (swp i j P) := by
  refine ⟨fun k => if k = i then j else if k = j then i else k, fun x y => ?_, fun x hx => ?_, fun x => ?_⟩
  · dsimp only
    split <;> split <;> intro h <;> (try split at h) <;> (try split at h) <;> omega
  · dsimp only
    rw [if_neg (by omega), if_neg (by omega)]
  · unfold swp
    dsimp only
    split
    · rfl
    · split <;> rfl

def Srt (R : Nat → Nat → Prop) (Q : Nat → Nat) (a b : Nat) : Prop := ∀ i j, a ≤ i → i < j → j < b → R (Q i) (Q j)
structure Ord (R : Nat → Nat → Prop) (lt : Nat → Nat → Bool) : Prop where
  trans : ∀ {i j k}, R i j → R j k → R i k
  yes : ∀ {i j}, i < j → lt j i = true → R j i
  no : ∀ {i j}, i < j → lt j i = false → R i j

/-! insertion -/
/-- The inner loop of an insertion: what is put in stands at j. -/
structure Ins (R : Nat → Nat → Prop) (a i j : Nat) (Q : Nat → Nat) : Prop where
  lo : a ≤ j
  hi : j ≤ i
  rest : ∀ u v, a ≤ u → u < v → v ≤ i → u ≠ j → v ≠ j → R (Q u) (Q v)
  above : ∀ v, j < v → v ≤ i → R (Q j) (Q v)
  early : ∀ u, a ≤ u → u < j → Q u < Q j
theorem ins_start (h : Srt R Q a i) (he : ∀ u, a ≤ u → u < i → Q u < Q i) (ha : a ≤ i) : Ins R a i i Q :=
  ⟨ha, Nat.le_refl _, fun u v h1 h2 h3 _ h5 => h u v h1 h2 (by omega), fun v h1 h2 => by omega, he⟩
theorem ins_step (o : Ord R lt) (h : Ins R a i j Q) (hj : a < j) (hl : lt (Q j) (Q (j - 1)) = true) : Ins R a i (j - 1) (swp j (j - 1) Q) := by
  obtain ⟨h1, h2, h3, h4, h5⟩ := h
  have hr := o.yes (h5 (j - 1) (by omega) (by omega)) hl
  have at1 : swp j (j - 1) Q (j - 1) = Q j := by unfold swp; rw [if_neg (by omega), if_pos rfl]
  have at0 : swp j (j - 1) Q j = Q (j - 1) := by unfold swp; rw [if_pos rfl]
  have other : ∀ u, u ≠ j → u ≠ j - 1 → swp j (j - 1) Q u = Q u := fun u x y => by unfold swp; rw [if_neg x, if_neg y]
  refine ⟨by omega, by omega, fun u v g1 g2 g3 g4 g5 => ?_, fun v g1 g2 => ?_, fun u g1 g2 => ?_⟩
  · by_cases e1 : u = j
    · subst e1
      rw [at0, other v (by omega) g5]
      exact h3 _ _ (by omega) (by omega) g3 (by omega) (by omega)
    · rw [other u e1 g4]
      by_cases e2 : v = j
      · subst e2
        rw [at0]
        exact h3 _ _ g1 (by omega) (by omega) (by omega) (by omega)
      · rw [other v e2 g5]
        exact h3 _ _ g1 g2 g3 e1 e2
  · rw [at1]
    by_cases e2 : v = j
    · subst e2
      rw [at0]; exact hr
    · rw [other v e2 (by omega)]
      exact h4 v (by omega) g2
  · rw [at1, other u (by omega) (by omega)]
    exact h5 u g1 (by omega)
theorem ins_done (o : Ord R lt) (h : Ins R a i j Q) (hl : j = a ∨ a < j ∧ lt (Q j) (Q (j - 1)) = false) : Srt R Q a (i + 1) := by
  obtain ⟨h1, h2, h3, h4, h5⟩ := h
  intro u v g1 g2 g3
  by_cases e1 : u = j
  · subst e1
    exact h4 v g2 (by omega)
  · by_cases e2 : v = j
    · subst e2
      rcases hl with hl | ⟨hl, hb⟩
      · omega
      · have hr := o.no (h5 (v - 1) (by omega) (by omega)) hb
        by_cases e3 : u = v - 1
        · subst e3; exact hr
        · exact o.trans (h3 u (v - 1) g1 (by omega) (by omega) (by omega) (by omega)) hr
    · exact h3 u v g1 g2 (by omega) e1 e2

/-! ranges exchanged, and turned -/
def swapR (a b n : Nat) (P : Nat → Nat) : Nat → Nat := fun k => if a ≤ k ∧ k < a + n then P (k + (b - a)) else if b ≤ k ∧ k < b + n then P (k - (b - a)) else P k
def rot (a m b : Nat) (P : Nat → Nat) : Nat → Nat := fun k => if a ≤ k ∧ k < a + (b - m) then P (k + (m - a)) else if a + (b - m) ≤ k ∧ k < b then P (k - (b - m)) else P k
theorem swapR_zero (a b : Nat) (P : Nat → Nat) : swapR a b 0 P = P := by
  funext k; unfold swapR; rw [if_neg (by omega), if_neg (by omega)]
theorem swapR_succ (P : Nat → Nat) (h : a + (n + 1) ≤ b) : swp (a + n) (b + n) (swapR a b n P) = swapR a b (n + 1) P := by
  funext k
  unfold swp swapR
  repeat' split
  all_goals first | omega | (congr 1; omega)
theorem rot_more (P : Nat → Nat) (h1 : lo + j < m) (h2 : 0 < j) : rot (lo + j) m (m + j) (swapR lo m j P) = rot lo m (m + j) P := by
  funext k
  unfold rot swapR
  repeat' split
  all_goals first | omega | (congr 1; omega)
theorem rot_less (P : Nat → Nat) (h1 : lo < m) (h2 : m - lo < j) : rot lo m (m + j - (m - lo)) (swapR lo (m + j - (m - lo)) (m - lo) P) = rot lo m (m + j) P := by
  funext k
  unfold rot swapR
  repeat' split
  all_goals first | omega | (congr 1; omega)
theorem rot_eq (P : Nat → Nat) (h1 : lo ≤ m) : swapR lo m (m - lo) P = rot lo m (m + (m - lo)) P := by
  funext k
  unfold rot swapR
  repeat' split
  all_goals first | omega | (congr 1; omega)
theorem Re.rot (P : Nat → Nat) (h1 : a ≤ m) (h2 : m ≤ b) : Re a b P (rot a m b P) := by
  refine ⟨Stable.rot a m b fun k => k, fun x y => ?_, fun x hx => ?_, fun x => ?_⟩
  · unfold Stable.rot
    dsimp only
    repeat' split
    all_goals (intro h; omega)
  · unfold Stable.rot
    dsimp only
    rw [if_neg (by omega), if_neg (by omega)]
  · unfold Stable.rot
    dsimp only
    repeat' split
    all_goals rfl
theorem rot_first (P : Nat → Nat) (a : Nat) : rot a (a + 1) (a + 1) P = P := by
  funext k; unfold rot
  repeat' split
  all_goals first | omega | (congr 1; omega) | rfl
theorem rot_on (P : Nat → Nat) (h : a ≤ k) : swp k (k + 1) (rot a (a + 1) (k + 1) P) = rot a (a + 1) (k + 2) P := by
  funext x
  unfold swp rot
  repeat' split
  all_goals first | omega | (congr 1; omega)
theorem rot_last (P : Nat → Nat) (m : Nat) : rot m m (m + 1) P = P := by
  funext k; unfold rot
  repeat' split
  all_goals first | omega | (congr 1; omega) | rfl
theorem rot_back (P : Nat → Nat) (h : k ≤ m) (h0 : 0 < k) : swp k (k - 1) (rot k m (m + 1) P) = rot (k - 1) m (m + 1) P := by
  funext x
  unfold swp rot
  repeat' split
  all_goals first | omega | (congr 1; omega)

/-! what a rotation holds -/
theorem rot_lo (P : Nat → Nat) (h : k < a) : rot a m b P k = P k := by unfold rot; rw [if_neg (by omega), if_neg (by omega)]
theorem rot_up (P : Nat → Nat) (h1 : a ≤ k) (h2 : k < a + (b - m)) : rot a m b P k = P (k + (m - a)) := by unfold rot; rw [if_pos ⟨h1, h2⟩]
theorem rot_down (P : Nat → Nat) (h1 : a + (b - m) ≤ k) (h2 : k < b) : rot a m b P k = P (k - (b - m)) := by unfold rot; rw [if_neg (by omega), if_pos ⟨h1, h2⟩]
theorem rot_hi (P : Nat → Nat) (h0 : a ≤ m) (h1 : m ≤ b) (h : b ≤ k) : rot a m b P k = P k := by unfold rot; rw [if_neg (by omega), if_neg (by omega)]

/-- One that stands at a goes behind those of [a + 1, i). -/
theorem one_first (hs : Srt R P (a + 1) b) (h1 : a + 1 ≤ i) (h2 : i ≤ b) (hl : ∀ k, a + 1 ≤ k → k < i → R (P k) (P a)) (hg : ∀ k, i ≤ k → k < b → R (P a) (P k)) : Srt R (rot a (a + 1) i P) a b := by
  intro u v g1 g2 g3
  by_cases e1 : v < i - 1
  · rw [rot_up P (by omega) (by omega), rot_up P (by omega) (by omega)]
    exact hs _ _ (by omega) (by omega) (by omega)
  · by_cases e2 : v = i - 1
    · rw [rot_up P (by omega) (by omega), rot_down P (k := v) (by omega) (by omega), show v - (i - (a + 1)) = a from by omega]
      exact hl _ (by omega) (by omega)
    · rw [rot_hi P (k := v) (by omega) (by omega) (by omega)]
      by_cases e3 : u < i - 1
      · rw [rot_up P (by omega) (by omega)]
        exact hs _ _ (by omega) (by omega) (by omega)
      · by_cases e4 : u = i - 1
        · rw [rot_down P (k := u) (by omega) (by omega), show u - (i - (a + 1)) = a from by omega]
          exact hg _ (by omega) (by omega)
        · rw [rot_hi P (k := u) (by omega) (by omega) (by omega)]
          exact hs _ _ (by omega) (by omega) (by omega)
/-- One that stands at m goes ahead of those of [i, m). -/
theorem one_last (hs : Srt R P a m) (h1 : a ≤ i) (h2 : i ≤ m) (hl : ∀ k, a ≤ k → k < i → R (P k) (P m)) (hg : ∀ k, i ≤ k → k < m → R (P m) (P k)) : Srt R (rot i m (m + 1) P) a (m + 1) := by
  intro u v g1 g2 g3
  by_cases e1 : v < i
  · rw [rot_lo P (by omega), rot_lo P (by omega)]
    exact hs _ _ g1 g2 (by omega)
  · by_cases e2 : v = i
    · rw [rot_lo P (by omega), rot_up P (k := v) (by omega) (by omega), show v + (m - i) = m from by omega]
      exact hl _ g1 (by omega)
    · rw [rot_down P (k := v) (by omega) (by omega)]
      by_cases e3 : u < i
      · rw [rot_lo P (by omega)]
        exact hs _ _ g1 (by omega) (by omega)
      · by_cases e4 : u = i
        · rw [rot_up P (k := u) (by omega) (by omega), show u + (m - i) = m from by omega]
          exact hg _ (by omega) (by omega)
        · rw [rot_down P (k := u) (by omega) (by omega)]
          exact hs _ _ (by omega) (by omega) (by omega)

/-! the merge -/
/-- What two sorted ranges that are to be merged are. -/
structure Pre (R : Nat → Nat → Prop) (P : Nat → Nat) (a m b : Nat) : Prop where
  left : Srt R P a m
  right : Srt R P m b
  early : ∀ i j, a ≤ i → i < m → m ≤ j → j < b → P i < P j
/-- The place s at which the two are parted, and how both parts stand then. -/
structure Cut (R : Nat → Nat → Prop) (P : Nat → Nat) (a m b mid s : Nat) : Prop where
  lo : a ≤ s
  hi : s ≤ m
  md : s ≤ mid
  e1 : m + mid - s ≤ b
  below : a < s → m + mid - s < b → R (P (s - 1)) (P (m + mid - s))
  above : s < m → s < mid → R (P (m + mid - s - 1)) (P s)
structure Parts (R : Nat → Nat → Prop) (Q : Nat → Nat) (a s mid e b : Nat) : Prop where
  one : Pre R Q a s mid
  two : Pre R Q mid e b
  across : ∀ i j, a ≤ i → i < mid → mid ≤ j → j < b → R (Q i) (Q j)
theorem parts (o : Ord R lt) {mid s : Nat} (h : Pre R P a m b) (c : Cut R P a m b mid s) (h2 : mid < b) (h3 : m < b) (h4 : a ≤ mid) : Parts R (rot s m (m + mid - s) P) a s mid (m + mid - s) b := by
  obtain ⟨l, r, e⟩ := h
  obtain ⟨c1, c2, c3, c4, c5, c6⟩ := c
  -- of the left range below s, from s on; of the right range below, from m + mid - s on
  have q1 : ∀ k, k < s → rot s m (m + mid - s) P k = P k := fun k hk => rot_lo P hk
  have q2 : ∀ k, s ≤ k → k < mid → rot s m (m + mid - s) P k = P (k + (m - s)) := fun k x y => rot_up P x (by omega)
  have q3 : ∀ k, mid ≤ k → k < m + mid - s → rot s m (m + mid - s) P k = P (k - (mid - s)) := fun k x y => by rw [rot_down P (by omega) y]; congr 1; omega
  have q4 : ∀ k, m + mid - s ≤ k → rot s m (m + mid - s) P k = P k := fun k x => rot_hi P c2 (by omega) x
  have low : ∀ i j, a ≤ i → i < s → m + mid - s ≤ j → j < b → R (P i) (P j) := by
    intro i j x1 x2 x3 x4
    have y : R (P (s - 1)) (P (m + mid - s)) := c5 (by omega) (by omega)
    have y1 : R (P i) (P (m + mid - s)) := by
      by_cases z : i = s - 1
      · rw [z]; exact y
      · exact o.trans (l i (s - 1) x1 (by omega) (by omega)) y
    by_cases z : j = m + mid - s
    · rw [z]; exact y1
    · exact o.trans y1 (r (m + mid - s) j (by omega) (by omega) x4)
  have high : ∀ i j, m ≤ i → i < m + mid - s → s ≤ j → j < m → R (P i) (P j) := by
    intro i j x1 x2 x3 x4
    have y : R (P (m + mid - s - 1)) (P s) := c6 (by omega) (by omega)
    have y1 : R (P i) (P s) := by
      by_cases z : i = m + mid - s - 1
      · rw [z]; exact y
      · exact o.trans (r i (m + mid - s - 1) x1 (by omega) (by omega)) y
    by_cases z : j = s
    · rw [z]; exact y1
    · exact o.trans y1 (l s j (by omega) (by omega) x4)
  refine ⟨⟨fun i j x1 x2 x3 => ?_, fun i j x1 x2 x3 => ?_, fun i j x1 x2 x3 x4 => ?_⟩, ⟨fun i j x1 x2 x3 => ?_, fun i j x1 x2 x3 => ?_, fun i j x1 x2 x3 x4 => ?_⟩, fun i j x1 x2 x3 x4 => ?_⟩
  · rw [q1 i (by omega), q1 j x3]; exact l i j x1 x2 (by omega)
  · rw [q2 i x1 (by omega), q2 j (by omega) x3]; exact r _ _ (by omega) (by omega) (by omega)
  · rw [q1 i x2, q2 j x3 x4]; exact e _ _ x1 (by omega) (by omega) (by omega)
  · rw [q3 i x1 (by omega), q3 j (by omega) x3]; exact l _ _ (by omega) (by omega) (by omega)
  · rw [q4 i x1, q4 j (by omega)]; exact r _ _ (by omega) (by omega) (by omega)
  · rw [q3 i x1 x2, q4 j x3]; exact e _ _ (by omega) (by omega) (by omega) x4
  · by_cases z1 : i < s
    · rw [q1 i z1]
      by_cases z2 : j < m + mid - s
      · rw [q3 j x3 z2]; exact l _ _ x1 (by omega) (by omega)
      · rw [q4 j (by omega)]; exact low _ _ x1 z1 (by omega) x4
    · rw [q2 i (by omega) x2]
      by_cases z2 : j < m + mid - s
      · rw [q3 j x3 z2]; exact high _ _ (by omega) (by omega) (by omega) (by omega)
      · rw [q4 j (by omega)]; exact r _ _ (by omega) (by omega) x4
/-- Both parts sorted: the whole is. -/
theorem joined {mid e s : Nat} {Q1 Q2 : Nat → Nat} (h : Parts R Q a s mid e b) (r1 : Re a mid Q Q1) (s1 : Srt R Q1 a mid) (r2 : Re mid b Q1 Q2) (s2 : Srt R Q2 mid b) (h1 : a ≤ mid) (h2 : mid ≤ b) : Srt R Q2 a b ∧ Re a b Q Q2 := by
  refine ⟨fun i j x1 x2 x3 => ?_, (r1.mono (Nat.le_refl _) h2).trans (r2.mono h1 (Nat.le_refl _))⟩
  by_cases z1 : j < mid
  · rw [r2.out (i := i) (by omega), r2.out (i := j) (by omega)]
    exact s1 i j x1 x2 z1
  · by_cases z2 : mid ≤ i
    · exact s2 i j z2 x2 x3
    · rw [r2.out (i := i) (by omega)]
      obtain ⟨k, k1, k2, k3⟩ := r1.inside x1 (by omega : i < mid)
      obtain ⟨l, l1, l2, l3⟩ := r2.inside (by omega : mid ≤ j) x3
      rw [k3, l3, r1.out (i := l) (by omega)]
      exact h.across k l k1 k2 l1 l2
theorem pre_one {e s mid : Nat} (h : Parts R Q a s mid e b) (h1 : s = a ∨ s = mid) : Srt R Q a mid := by
  rcases h1 with h1 | h1
  · rw [← h1]; exact h.one.right
  · rw [← h1]; have := h.one.left; rw [h1] at this ⊢; exact this
theorem pre_two {e s mid : Nat} (h : Parts R Q a s mid e b) (h1 : e = mid ∨ e = b) : Srt R Q mid b := by
  rcases h1 with h1 | h1
  · have := h.two.right; rw [h1] at this; exact this
  · have := h.two.left; rw [h1] at this; exact this
/-- What the sorting of the first part leaves of the second. -/
theorem Parts.two_kept {mid e s : Nat} {Q1 : Nat → Nat} (h : Parts R Q a s mid e b) (he : mid ≤ e) (r1 : Re a mid Q Q1) : Pre R Q1 mid e b :=
  ⟨fun i j x1 x2 x3 => by rw [r1.out (i := i) (by omega), r1.out (i := j) (by omega)]; exact h.two.left i j x1 x2 x3,
    fun i j x1 x2 x3 => by rw [r1.out (i := i) (by omega), r1.out (i := j) (by omega)]; exact h.two.right i j x1 x2 x3,
    fun i j x1 x2 x3 x4 => by rw [r1.out (i := i) (by omega), r1.out (i := j) (by omega)]; exact h.two.early i j x1 x2 x3 x4⟩

/-! the blocks -/
/-- n places in blocks: sorted within each, those of an earlier block earlier. -/
structure Inv (R : Nat → Nat → Prop) (n : Nat) (B : Nat → Prop) (Q : Nat → Nat) : Prop where
  far : ∀ i j β, i < β → β ≤ j → j < n → B β → Q i < Q j
  near : ∀ i j, i < j → j < n → (∀ β, i < β → β ≤ j → ¬ B β) → R (Q i) (Q j)
theorem Inv.merge {B B' : Nat → Prop} (h : Inv R n B Q) (r : Re a b Q S) (s : Srt R S a b) (ha : a = 0 ∨ B a) (hb : b = n ∨ B b) (hn : b ≤ n) (hB : ∀ β, 0 < β → β < n → (B' β ↔ B β ∧ ¬ (a < β ∧ β < b))) : Inv R n B' S := by
  have hA : 0 < a → B a := fun h => ha.resolve_left (by omega)
  have hE : b < n → B b := fun h => hb.resolve_left (by omega)
  refine ⟨fun i j β x1 x2 x3 x4 => ?_, fun i j x1 x2 x3 => ?_⟩
  · obtain ⟨y1, y2⟩ := (hB β (by omega) (by omega)).1 x4
    by_cases z1 : i < a ∨ b ≤ i
    · rw [r.out z1]
      by_cases z2 : j < a ∨ b ≤ j
      · rw [r.out z2]; exact h.far i j β x1 x2 x3 y1
      · obtain ⟨k, k1, k2, k3⟩ := r.inside (i := j) (by omega) (by omega)
        rw [k3]
        exact h.far i k a (by omega) k1 (by omega) (hA (by omega))
    · obtain ⟨k, k1, k2, k3⟩ := r.inside (i := i) (by omega) (by omega)
      rw [k3]
      have z2 : b ≤ j := by omega
      rw [r.out (i := j) (Or.inr z2)]
      exact h.far k j b k2 z2 x3 (hE (by omega))
  · by_cases z1 : a ≤ i ∧ j < b
    · exact s i j z1.1 x1 z1.2
    · by_cases z2 : i < a ∧ a ≤ j
      · exact absurd ((hB a (by omega) (by omega)).2 ⟨hA (by omega), by omega⟩) (x3 a z2.1 z2.2)
      · by_cases z3 : i < b ∧ b ≤ j
        · exact absurd ((hB b (by omega) (by omega)).2 ⟨hE (by omega), by omega⟩) (x3 b z3.1 z3.2)
        · rw [r.out (i := i) (by omega), r.out (i := j) (by omega)]
          exact h.near i j x1 x2 fun β y1 y2 y3 => x3 β y1 y2 ((hB β (by omega) (by omega)).2 ⟨y3, by omega⟩)
theorem Inv.same {B B' : Nat → Prop} (h : Inv R n B Q) (hB : ∀ β, 0 < β → β < n → (B' β ↔ B β)) : Inv R n B' Q :=
  ⟨fun i j β x1 x2 x3 x4 => h.far i j β x1 x2 x3 ((hB β (by omega) (by omega)).1 x4), fun i j x1 x2 x3 => h.near i j x1 x2 fun β y1 y2 y3 => x3 β y1 y2 ((hB β (by omega) (by omega)).2 y3)⟩
theorem Inv.start (n : Nat) : Inv R n (fun _ => True) (fun i => i) :=
  ⟨fun i j β x1 x2 _ _ => by show i < j; omega, fun i j x1 _ x3 => absurd trivial (x3 j x1 (Nat.le_refl _))⟩
theorem Inv.all {B : Nat → Prop} (h : Inv R n B Q) (hB : ∀ β, 0 < β → β < n → ¬ B β) : Srt R Q 0 n :=
  fun i j _ x2 x3 => h.near i j x2 x3 fun β y1 y2 => hB β (by omega) (by omega)
theorem Inv.pre {B : Nat → Prop} (h : Inv R n B Q) (hb : m ≤ b) (hn : b ≤ n) (hm : B m) (h1 : ∀ β, a < β → β < m → ¬ B β) (h2 : ∀ β, m < β → β < b → ¬ B β) : Pre R Q a m b :=
  ⟨fun i j x1 x2 x3 => h.near i j x2 (by omega) fun β y1 y2 => h1 β (by omega) (by omega),
    fun i j x1 x2 x3 => h.near i j x2 (by omega) fun β y1 y2 => h2 β (by omega) (by omega),
    fun i j x1 x2 x3 x4 => h.far i j m x2 x3 (by omega) hm⟩
/-- In the first loop: blocks of 20 up to a, from there on each alone. -/
def B20 (a β : Nat) : Prop := 20 ∣ β ∨ a ≤ β
/-- Merging blocks of s: twice as great ones up to a. -/
def BM (s a β : Nat) : Prop := β ≤ a ∧ 2 * s ∣ β ∨ a ≤ β ∧ s ∣ β
theorem b20_step {β : Nat} (h : 20 ∣ a) : B20 (a + 20) β ↔ B20 a β ∧ ¬ (a < β ∧ β < a + 20) := by unfold B20; omega
theorem b20_last {β : Nat} (h : 20 ∣ a) (hn : n < a + 20) (h0 : β < n) : 20 ∣ β ↔ B20 a β ∧ ¬ (a < β ∧ β < n) := by unfold B20; omega
theorem b20_early {u v : Nat} (h : Inv R n (B20 a) Q) (h1 : a ≤ u) (h2 : u < v) (h3 : v < n) : Q u < Q v := h.far u v v h2 (Nat.le_refl _) h3 (Or.inr (by omega))
theorem dvd_gap {d x y : Nat} (hx : d ∣ x) (hy : d ∣ y) (h1 : x < y) : x + d ≤ y := by
  have := Nat.le_of_dvd (by omega) (Nat.dvd_sub hy hx)
  omega
theorem bm_start {s β : Nat} : BM s 0 β ↔ s ∣ β := by
  unfold BM
  constructor
  · rintro (⟨h1, -⟩ | ⟨-, h⟩)
    · have : β = 0 := by omega
      subst this; exact Nat.dvd_zero _
    · exact h
  · exact fun h => Or.inr ⟨Nat.zero_le _, h⟩
theorem dvd_two {s x : Nat} (h : 2 * s ∣ x) : s ∣ x := Nat.dvd_trans ⟨2, Nat.mul_comm _ _⟩ h
theorem bm_at {s : Nat} (h : 2 * s ∣ a) : BM s a a := Or.inl ⟨Nat.le_refl _, h⟩
theorem bm_mid {s : Nat} (h : 2 * s ∣ a) : BM s a (a + s) := Or.inr ⟨by omega, (Nat.dvd_add_right (dvd_two h)).2 (Nat.dvd_refl _)⟩
theorem bm_end {s : Nat} (h : 2 * s ∣ a) : BM s a (a + 2 * s) := Or.inr ⟨by omega, (Nat.dvd_add_right (dvd_two h)).2 ⟨2, Nat.mul_comm _ _⟩⟩
theorem bm_none1 {s β : Nat} (h : 2 * s ∣ a) (h1 : a < β) (h2 : β < a + s) : ¬ BM s a β := by
  rintro (⟨x, -⟩ | ⟨-, y⟩)
  · omega
  · have := dvd_gap (dvd_two h) y h1; omega
theorem bm_none2 {s β : Nat} (h : 2 * s ∣ a) (h1 : a + s < β) (h2 : β < a + 2 * s) : ¬ BM s a β := by
  rintro (⟨x, -⟩ | ⟨-, y⟩)
  · omega
  · have := dvd_gap ((Nat.dvd_add_right (dvd_two h)).2 (Nat.dvd_refl s)) y h1; omega
theorem bm_step {s β : Nat} (h : 2 * s ∣ a) : BM s (a + 2 * s) β ↔ BM s a β ∧ ¬ (a < β ∧ β < a + 2 * s) := by
  constructor
  · rintro (⟨x, y⟩ | ⟨x, y⟩)
    · by_cases z : β ≤ a
      · exact ⟨Or.inl ⟨z, y⟩, by omega⟩
      · have := dvd_gap h y (by omega)
        exact ⟨Or.inr ⟨by omega, dvd_two y⟩, by omega⟩
    · exact ⟨Or.inr ⟨by omega, y⟩, by omega⟩
  · rintro ⟨⟨x, y⟩ | ⟨x, y⟩, z⟩
    · exact Or.inl ⟨by omega, y⟩
    · by_cases e : β = a
      · rw [e]; exact Or.inl ⟨by omega, h⟩
      · exact Or.inr ⟨by omega, y⟩
theorem bm_tail {s β : Nat} (h : 2 * s ∣ a) (hn : n < a + 2 * s) (h0 : β < n) : 2 * s ∣ β ↔ BM s a β ∧ ¬ (a < β ∧ β < n) := by
  constructor
  · intro y
    by_cases z : β ≤ a
    · exact ⟨Or.inl ⟨z, y⟩, by omega⟩
    · have := dvd_gap h y (by omega); omega
  · rintro ⟨⟨x, y⟩ | ⟨x, y⟩, z⟩
    · exact y
    · have : β = a := by omega
      rw [this]; exact h
theorem bm_none {s β : Nat} (h : 2 * s ∣ a) (hn : n ≤ a + s) (h0 : β < n) : 2 * s ∣ β ↔ BM s a β := by
  constructor
  · intro y
    by_cases z : β ≤ a
    · exact Or.inl ⟨z, y⟩
    · have := dvd_gap h y (by omega); omega
  · rintro (⟨x, y⟩ | ⟨x, y⟩)
    · exact y
    · by_cases z : a = β
      · rw [← z]; exact h
      · have := dvd_gap (dvd_two h) y (by omega); omega
end
end Go.Proofs.YtkddiaiohnbjpaaGreatDoor.Stable
namespace Go.Proofs.YtkddiaiohnbjpaaGreatDoor.Stable
open Go.ChangeShapes Go.WideShapes Go.ChangeAt Go.RowKit Law

def rowE (E : Nat → Int) (P : Nat → Nat) (i : Nat) : Value := .int .i64 (E (P i))

theorem only_refl (w : World) (r : Option Nat) : w.grownBy w r := ⟨rfl, rfl, rfl, Nat.le_refl _, fun _ _ _ => rfl⟩
theorem only_trans {a b c : World} {r : Option Nat} (h : a.grownBy b r) (k : b.grownBy c r) : a.grownBy c r :=
  ⟨k.os.trans h.os, k.tape.trans h.tape, k.output.trans h.output, Nat.le_trans h.size k.size, fun i hi hr => (k.block i (Nat.lt_of_lt_of_le hi h.size) hr).trans (h.block i hi hr)⟩
theorem only_drewN {a w : World} {r : Option Nat} (h : a.grownBy w r) (n : Nat) : a.grownBy (w.drewN n) r := ⟨h.os, h.tape, h.output, h.size, h.block⟩
theorem only_drew {a w : World} {r : Option Nat} (h : a.grownBy w r) : a.grownBy w.drew r := ⟨h.os, h.tape, h.output, h.size, h.block⟩
theorem only_set {a w : World} {g : Nat} (h : a.grownBy w (some g)) (o : Nat) (u : Value) : a.grownBy (w.setCell ⟨g, o, none⟩ u) (some g) :=
  ⟨h.os, h.tape, h.output, by simpa [World.setCell] using h.size, fun i hi hne => (Below.heap_setCell w ⟨g, o, none⟩ u i (by rintro rfl; exact hne rfl)).trans (h.block i hi hne)⟩
/-- Two places exchanged. -/
theorem row_swap {w : World} {g n i j : Nat} {T : TypeId} {E : Nat → Int} {P : Nat → Nat} (h : w.rowIs g T n (rowE E P)) (hne : i ≠ j) :
    ((w.setCell ⟨g, i, none⟩ (.int .i64 (E (P j)))).setCell ⟨g, j, none⟩ (.int .i64 (E (P i)))).rowIs g T n (rowE E (swp i j P)) :=
  ((h.set i _).set j _).congr fun k _ => by
    unfold rowE swp
    by_cases e1 : k = j
    · subst e1
      rw [if_pos rfl, if_neg (fun e => hne e.symm), if_pos rfl]
    · rw [if_neg e1]
      by_cases e2 : k = i
      · subst e2
        rw [if_pos rfl, if_pos rfl]
      · rw [if_neg e2, if_neg e2, if_neg e1]

/-- The row is there, and nothing else has turned. -/
def Rowed (E : Nat → Int) (g n : Nat) (P : Nat → Nat) (w : World) (e : Ending) (w' : World) : Prop :=
  e = .returned (.tuple #[]) ∧ w'.rowIs g 3 n (rowE E P) ∧ w.grownBy w' (some g)

set_option maxHeartbeats 400000 in
theorem swapRange_any (E : Nat → Int) (g n : Nat) (P : Nat → Nat) (a b k : Nat) (cf : Value) (w : World) (hrow : w.rowIs g 3 n (rowE E P)) (h1 : a + k ≤ b) (h2 : b + k ≤ n) (hn : n ≤ 1152921504606846976) :
    Calls Tryz.prog 161 #[.slice (some ⟨g, 0, none⟩) n n, .int .i64 a, .int .i64 b, .int .i64 k, cf] w (Rowed E g n (swapR a b k P) w) := by
  have HW := Lib.hid hrow
  clear hrow
  go_enter Tryz.func161, Tryz.ntmps161
  go_wp2_with fail
  go_loopw [10] (fun t wr => ∃ i : Nat, i ≤ k ∧ t = .int .i64 i ∧ wr.rowIs g 3 n (rowE E (swapR a b i P)) ∧ w.grownBy wr (some g)) (fun t _ => k - (intOf t).toNat)
  case atStart => exact ⟨0, Nat.zero_le _, rfl, by rw [swapR_zero]; exact HW.out, only_refl _ _⟩
  case round =>
    obtain ⟨i, hi, rfl, hr, hg⟩ := hrel
    by_cases hlt : i < k
    · have HR := Lib.hid hr
      have HG := Lib.hid hg
      have ca := hr.cell (i := a + i) (by omega)
      have cb := hr.cell (i := b + i) (by omega)
      have fa := hr.frozen (a + i)
      have fb := hr.frozen (b + i)
      have lg := hr.lt
      have hs := row_swap (i := a + i) (j := b + i) hr (by omega)
      have HS := Lib.hid hs
      have HE := Lib.hid (swapR_succ (n := i) P (by omega : a + (i + 1) ≤ b))
      clear hr hg hs
      unfold rowE at ca cb
      generalize hx : E (swapR a b i P (a + i)) = x at *
      generalize hy : E (swapR a b i P (b + i)) = y at *
      clear hx hy
      go_wp2_with fail
      go_region
      go_wp2_with fail
      go_roundw
      case rel => exact ⟨i + 1, by omega, by go_num, by rw [← HE.out]; exact HS.out, only_drew (only_set (only_set HG.out _ _) _ _)⟩
      case measure => simp [intOf]; omega
    · obtain rfl : i = k := by omega
      have HR := Lib.hid hr
      have HG := Lib.hid hg
      clear hr hg
      go_wp2_with fail
      go_returns
      exact ⟨rfl, HR.out, HG.out⟩

theorem swapRange_int (E : Nat → Int) (g n : Nat) (P : Nat → Nat) (a b k : Nat) (x y z : Int) (cf : Value) (w : World) (hrow : w.rowIs g 3 n (rowE E P)) (h1 : a + k ≤ b) (h2 : b + k ≤ n) (hn : n ≤ 1152921504606846976) (hx : x = a) (hy : y = b) (hz : z = k) :
    Calls Tryz.prog 161 #[.slice (some ⟨g, 0, none⟩) n n, .int .i64 x, .int .i64 y, .int .i64 z, cf] w (Rowed E g n (swapR a b k P) w) := by
  subst hx hy hz
  exact swapRange_any E g n P a b k cf w hrow h1 h2 hn

set_option maxHeartbeats 400000 in
theorem rotate_any (E : Nat → Int) (g n : Nat) (P : Nat → Nat) (a m b : Nat) (cf : Value) (w : World) (hrow : w.rowIs g 3 n (rowE E P)) (h1 : a < m) (h2 : m < b) (h3 : b ≤ n) (hn : n ≤ 1152921504606846976) :
    Calls Tryz.prog 160 #[.slice (some ⟨g, 0, none⟩) n n, .int .i64 a, .int .i64 m, .int .i64 b, cf] w (Rowed E g n (rot a m b P) w) := by
  have HW := Lib.hid hrow
  clear hrow
  have ei : (m : Int) - a = ((m - a : Nat) : Int) := by omega
  have ej : (b : Int) - m = ((b - m : Nat) : Int) := by omega
  have HEI := Lib.hid ei
  have HEJ := Lib.hid ej
  clear ei ej
  go_enter Tryz.func160, Tryz.ntmps160
  go_wp2_with fail
  go_loopw [10, 11] (fun s t wr => ∃ (lo j : Nat) (Q : Nat → Nat), lo < m ∧ 0 < j ∧ m + j ≤ b ∧ a ≤ lo ∧ s = .int .i64 ((m : Int) - lo) ∧ t = .int .i64 j ∧ Hid (rot lo m (m + j) Q = rot a m b P) ∧ wr.rowIs g 3 n (rowE E Q) ∧ w.grownBy wr (some g)) (fun s t _ => ((intOf s) + (intOf t)).toNat)
  case atStart => exact ⟨a, b - m, P, h1, by omega, by omega, Nat.le_refl _, rfl, by rw [← HEJ.out], by rw [show m + (b - m) = b from by omega]; rfl, HW.out, only_refl _ _⟩
  case round =>
    obtain ⟨lo, j, Q, l1, l2, l3, l4, rfl, rfl, HQ, hr, hg⟩ := hrel
    have HR := Lib.hid hr
    have HG := Lib.hid hg
    clear hr hg
    by_cases h : m - lo = j
    · have HE := Lib.hid (rot_eq (lo := lo) (m := m) Q (by omega))
      rw [h] at HE
      have hb : ((m : Int) - lo == j) = true := by rw [beq_iff_eq]; omega
      have hb' : ((m : Int) - lo != j) = false := by simp only [bne, hb]; rfl
      have i1 : m ≤ lo + j := by omega
      have i2 : lo + j ≤ m := by omega
      clear h
      go_wp2_with fail
      refine (swapRange_int E g n Q lo m j _ _ _ _ _ HR.out (by omega) (by omega) hn (by omega) (by omega) (by omega)).mono ?_
      rintro e w1 ⟨rfl, hr1, hg1⟩
      have HR1 := Lib.hid hr1
      have HG1 := Lib.hid hg1
      clear hr1 hg1
      go_wp2_with fail
      go_returns
      exact ⟨rfl, by rw [← HQ.out, ← HE.out]; exact HR1.out, only_trans HG.out HG1.out⟩
    · have hb : ((m : Int) - lo == j) = false := by rw [beq_eq_false_iff_ne]; omega
      have hb' : ((m : Int) - lo != j) = true := by simp only [bne, hb]; rfl
      by_cases h5 : j < m - lo
      · have HE := Lib.hid (rot_more (lo := lo) (m := m) (j := j) Q (by omega) l2)
        have h6 : (j : Int) < (m : Int) - lo := by omega
        clear h h5
        go_wp2_with fail
        refine (swapRange_int E g n Q lo m j _ _ _ _ _ HR.out (by omega) (by omega) hn (by omega) (by omega) (by omega)).mono ?_
        rintro e w1 ⟨rfl, hr1, hg1⟩
        have HR1 := Lib.hid hr1
        have HG1 := Lib.hid hg1
        clear hr1 hg1
        go_wp2_with fail
        go_roundw
        case rel => exact ⟨lo + j, j, _, by omega, l2, l3, by omega, congrArg (Value.int IntKind.i64) (by omega), rfl, HE.out.trans HQ.out, HR1.out, only_trans HG.out HG1.out⟩
        case measure => simp [intOf]; omega
      · have HE := Lib.hid (rot_less (lo := lo) (m := m) (j := j) Q l1 (by omega))
        have h6 : ¬ (j : Int) < (m : Int) - lo := by omega
        have h7 : m - lo < j := by omega
        clear h h5
        go_wp2_with fail
        refine (swapRange_int E g n Q lo (m + j - (m - lo)) (m - lo) _ _ _ _ _ HR.out (by omega) (by omega) hn (by omega) (by omega) (by omega)).mono ?_
        rintro e w1 ⟨rfl, hr1, hg1⟩
        have HR1 := Lib.hid hr1
        have HG1 := Lib.hid hg1
        clear hr1 hg1
        go_wp2_with fail
        go_roundw
        case rel => exact ⟨lo, j - (m - lo), _, l1, by omega, by omega, l4, rfl, congrArg (Value.int IntKind.i64) (by omega), by rw [show m + (j - (m - lo)) = m + j - (m - lo) from by omega]; exact HE.out.trans HQ.out, HR1.out, only_trans HG.out HG1.out⟩
        case measure => simp [intOf]; omega

/-- A function value that compares two ints, wherever only the row has turned: negative just if the first is less. -/
structure Cmp (E : Nat → Int) (lt : Nat → Nat → Bool) (c : Nat → Nat → Int) (F : FuncId) (cap : Array Value) (g n : Nat) (W : World) : Prop where
  enters : ∀ (args : Array Value) (w : World), (callFunc F args).run Tryz.prog w = .ok (.enter F args) w
  sign : ∀ i j, decide (c i j < 0) = lt i j
  tells : ∀ w, W.grownBy w (some g) → ∀ i j, i < n → j < n → Calls Tryz.prog F (#[.int .i64 (E i), .int .i64 (E j)] ++ cap) w fun e w' => e = .returned (.int .i64 (c i j)) ∧ ∃ k, w' = w.drewN k

theorem Re.bound {n : Nat} {Q : Nat → Nat} (h : Re 0 n (fun i => i) Q) {i : Nat} (hi : i < n) : Q i < n := by
  obtain ⟨k, -, k2, k3⟩ := h.inside (Nat.zero_le i) hi
  rw [k3]; exact k2

set_option maxHeartbeats 400000 in
theorem insertion_any (E : Nat → Int) (lt : Nat → Nat → Bool) (c : Nat → Nat → Int) (R : Nat → Nat → Prop) (o : Ord R lt) (F : FuncId) (cap : Array Value) (g n : Nat) (W : World) (hc : Cmp E lt c F cap g n W) (P : Nat → Nat) (a b : Nat) (w : World)
    (hW : W.grownBy w (some g)) (hrow : w.rowIs g 3 n (rowE E P)) (hP : Re 0 n (fun i => i) P) (he : ∀ u v, a ≤ u → u < v → v < b → P u < P v) (ha : a ≤ b) (hb : b ≤ n) (hn : n ≤ 1152921504606846976) :
    Calls Tryz.prog 157 #[.slice (some ⟨g, 0, none⟩) n n, .int .i64 a, .int .i64 b, .func (.func F) #[] cap] w
      fun e w' => ∃ Q, Rowed E g n Q w e w' ∧ Re a b P Q ∧ Srt R Q a b := by
  have HW := Lib.hid hrow
  have HC := Lib.hid hc
  have HWW := Lib.hid hW
  have HE := Lib.hid he
  have HP := Lib.hid hP
  clear hrow hc hW he hP
  go_enter Tryz.func157, Tryz.ntmps157
  go_wp2_with fail
  go_loopw [8] (fun t wr => ∃ (i : Nat) (Q : Nat → Nat), a < i ∧ (i ≤ b ∨ i = a + 1) ∧ t = .int .i64 i ∧ Hid (Re a i P Q) ∧ Hid (Srt R Q a i) ∧ Hid (wr.rowIs g 3 n (rowE E Q)) ∧ Hid (w.grownBy wr (some g))) (fun t _ => b + 1 - (intOf t).toNat)
  case atStart => exact ⟨a + 1, P, by omega, by omega, by go_num, Re.refl _ _ _, fun i j x y z => by omega, HW.out, only_refl _ _⟩
  case round =>
    obtain ⟨i, Q, i1, i2, rfl, HR, HS, HRow, HG⟩ := hrel
    by_cases hlt : i < b
    · obtain ⟨wo, rfl⟩ : ∃ wo : World, wo = wr := ⟨_, rfl⟩
      have HEi : Hid (∀ u, a ≤ u → u < i → Q u < Q i) := fun u h1 h2 => by
        obtain ⟨k, k1, k2, k3⟩ := HR.out.inside h1 h2
        rw [k3, HR.out.out (i := i) (by omega)]
        exact HE.out k i k1 k2 hlt
      go_wp2_with fail
      go_loopw [9] (fun t wr => ∃ (j : Nat) (S : Nat → Nat), a ≤ j ∧ j ≤ i ∧ t = .int .i64 j ∧ Hid (Ins R a i j S) ∧ Hid (Re a (i + 1) P S) ∧ Hid (wr.rowIs g 3 n (rowE E S)) ∧ Hid (w.grownBy wr (some g))) (fun t _ => (intOf t).toNat)
      case atStart => exact ⟨i, Q, by omega, Nat.le_refl _, rfl, ins_start HS.out HEi.out (by omega), HR.out.mono (Nat.le_refl _) (by omega), HRow.out, HG.out⟩
      case round =>
        obtain ⟨j, S, j1, j2, rfl, HI, HRS, HRow', HG'⟩ := hrel
        have fin : ∀ (T : Prop), (j = a ∨ a < j ∧ lt (S j) (S (j - 1)) = false) → (Srt R S a (i + 1) → T) → T := fun T h k => k (ins_done o HI.out h)
        have HF := Lib.hid fin
        clear fin
        by_cases hja : j = a
        · have HS' := HF.out (Hid (Srt R S a (i + 1))) (Or.inl hja) id
          have hd : decide (a < j) = false := decide_eq_false (by omega)
          clear hja HF
          go_wp2_with fail
          go_quiet (fail)
          go_wp2_with fail
          go_roundw
          case rel => exact ⟨i + 1, S, by omega, by omega, by go_num, HRS, HS', HRow', only_drewN HG'.out _⟩
          case measure => simp [intOf]; omega
        · obtain ⟨k, rfl⟩ : ∃ k, j = k + 1 := ⟨j - 1, by omega⟩
          have hd : decide ((a : Int) < k + 1) = true := decide_eq_true (by omega)
          have hPS : Re 0 n (fun i => i) S := HP.out.trans (HRS.out.mono (Nat.zero_le _) (by omega))
          have ca := HRow'.out.cell (i := k + 1) (by omega)
          have cb := HRow'.out.cell (i := k) (by omega)
          have fa := HRow'.out.frozen (k + 1)
          have fb := HRow'.out.frozen k
          have lg := HRow'.out.lt
          have HSW := Lib.hid (row_swap (i := k + 1) (j := k) HRow'.out (by omega))
          have HCall := fun m => HC.out.tells (wr.drewN m) (only_drewN (only_trans HWW.out HG'.out) m) (S (k + 1)) (S k) (hPS.bound (by omega)) (hPS.bound (by omega))
          have hsgn := HC.out.sign (S (k + 1)) (S k)
          have w1 : IntKind.i64.wrap ((k : Int) + 1 - 1) = k := by rw [IntWalk.i64_in _ (by omega)]; omega
          have w2 : IntKind.i64.wrap (k : Int) = k := IntWalk.i64_in _ (by omega)
          have p0 : (0 : Int) ≤ (k : Int) + 1 := by omega
          have p1 : ((k : Int) + 1).toNat = k + 1 := by omega
          have p2 : (k : Int) + 1 < n := by omega
          have p3 : (0 : Int) ≤ (k : Int) := by omega
          have p4 : (k : Int) < n := by omega
          unfold rowE at ca cb
          have HT := Lib.hid HCall
          have hF := HC.out.enters
          have hl : lt (S (k + 1)) (S k) = false ∨ lt (S (k + 1)) (S k) = true := by cases lt (S (k + 1)) (S k) <;> simp
          clear hPS HCall
          generalize E (S (k + 1)) = x at *
          generalize E (S k) = y at *
          generalize c (S (k + 1)) (S k) = z at *
          rcases hl with hl | hl
          · have HS' := HF.out (Hid (Srt R S a (i + 1))) (Or.inr ⟨by omega, hl⟩) id
            rw [hl] at hsgn
            clear HF hl
            go_wp2_with fail
            go_quiet ((exact Calls.quiet_of (HT.out _)))
            go_wp2_with fail
            go_roundw
            case rel => exact ⟨i + 1, S, by omega, by omega, by go_num, HRS, HS', HRow', only_drewN HG'.out _⟩
            case measure => simp [intOf]; omega
          · have HI' : Hid (Ins R a i k (swp (k + 1) k S)) := ins_step o HI.out (by omega) hl
            rw [hl] at hsgn
            clear HF hl
            go_wp2_with fail
            go_quiet ((exact Calls.quiet_of (HT.out _)))
            go_wp2_with fail
            go_region
            go_wp2_with fail
            go_roundw
            case rel => exact ⟨k, swp (k + 1) k S, by omega, by omega, by go_num, HI', HRS.out.trans (Re.swap S (by omega) (by omega) (by omega) (by omega)), HSW.out, only_set (only_set (only_drewN HG'.out _) _ _) _ _⟩
            case measure => simp [intOf]
    · have HS' : Hid (Srt R Q a b) := by
        rcases Nat.lt_or_ge b i with h | h
        · exact fun u v h1 h2 h3 => HS.out u v h1 h2 (by omega)
        · obtain rfl : i = b := by omega
          exact HS.out
      have HR' : Hid (Re a b P Q) := by
        rcases Nat.lt_or_ge b i with h | h
        · obtain ⟨p, p1, p2, p3⟩ := HR.out
          refine ⟨p, p1, fun x hx => ?_, p3⟩
          by_cases z : x < a ∨ i ≤ x
          · exact p2 x z
          · obtain rfl : x = a := by omega
            have e : p x = x := by
              rcases Nat.lt_trichotomy (p x) x with z1 | z1 | z1
              · have := p1 _ _ (p2 (p x) (Or.inl z1)); omega
              · exact z1
              · have := p1 _ _ (p2 (p x) (Or.inr (by omega))); omega
            exact e
        · obtain rfl : i = b := by omega
          exact HR.out
      go_wp2_with fail
      go_returns
      exact ⟨Q, ⟨rfl, HRow.out, HG.out⟩, HR'.out, HS'.out⟩
end Go.Proofs.YtkddiaiohnbjpaaGreatDoor.Stable
namespace Go.Proofs.YtkddiaiohnbjpaaGreatDoor.Stable
open Go.ChangeShapes Go.WideShapes Go.ChangeAt Go.RowKit Law

/-- Merged: a row anew, sorted from a to b, nothing else turned. -/
def Merged (E : Nat → Int) (R : Nat → Nat → Prop) (g n : Nat) (P : Nat → Nat) (a b : Nat) (w : World) (e : Ending) (w' : World) : Prop := ∃ Q, Rowed E g n Q w e w' ∧ Re a b P Q ∧ Srt R Q a b

/-- What symMerge does, wherever its range is below d. -/
def MergeTo (E : Nat → Int) (R : Nat → Nat → Prop) (F : FuncId) (cap : Array Value) (g n : Nat) (W : World) (d : Nat) : Prop :=
  ∀ (a m b : Nat) (P : Nat → Nat) (w : World) (x y z : Int), b - a < d → W.grownBy w (some g) → w.rowIs g 3 n (rowE E P) → Re 0 n (fun i => i) P → Pre R P a m b → a < m → m < b → b ≤ n → x = a → y = m → z = b →
    Calls Tryz.prog 158 #[.slice (some ⟨g, 0, none⟩) n n, .int .i64 x, .int .i64 y, .int .i64 z, .func (.func F) #[] cap] w (Merged E R g n P a b w)

section
variable (E : Nat → Int) (lt : Nat → Nat → Bool) (c : Nat → Nat → Int) (R : Nat → Nat → Prop) (o : Ord R lt) (F : FuncId) (cap : Array Value) (g n : Nat) (W : World) (hc : Cmp E lt c F cap g n W) (P : Nat → Nat) (a m b : Nat) (w : World)
    (hW : W.grownBy w (some g)) (hrow : w.rowIs g 3 n (rowE E P)) (hP : Re 0 n (fun i => i) P) (hpre : Pre R P a m b) (ha : a < m) (hm : m < b) (hb : b ≤ n) (hn : n ≤ 1152921504606846976)
include o hc hW hrow hP hpre ha hm hb hn

set_option maxRecDepth 100000 in
set_option maxHeartbeats 1000000 in
theorem merge_first (h1 : m = a + 1) :
    Calls Tryz.prog 158 #[.slice (some ⟨g, 0, none⟩) n n, .int .i64 a, .int .i64 m, .int .i64 b, .func (.func F) #[] cap] w (Merged E R g n P a b w) := by
  have HW := Lib.hid hrow
  have HC := Lib.hid hc
  have HWW := Lib.hid hW
  have HP := Lib.hid hP
  have HPre := Lib.hid hpre
  clear hrow hc hW hP hpre
  subst h1
  have t1 : (((a : Int) + 1) - a == 1) = true := by rw [beq_iff_eq]; omega
  go_enter Tryz.func158, Tryz.ntmps158
  go_wp2_with fail
  clear t1
  go_loopw [10, 11] (fun s t wr => ∃ (i j : Nat), a + 1 ≤ i ∧ i ≤ j ∧ j ≤ b ∧ s = .int .i64 i ∧ t = .int .i64 j ∧ Hid (∀ x, a + 1 ≤ x → x < i → R (P x) (P a)) ∧ Hid (∀ x, j ≤ x → x < b → R (P a) (P x)) ∧ Hid (wr.rowIs g 3 n (rowE E P)) ∧ Hid (w.grownBy wr (some g))) (fun s t _ => (intOf t - intOf s).toNat)
  case atStart => exact ⟨a + 1, b, Nat.le_refl _, by omega, Nat.le_refl _, by go_num, rfl, fun x h1 h2 => by omega, fun x h1 h2 => by omega, HW.out, only_refl _ _⟩
  case round =>
    obtain ⟨i, j, i1, i2, i3, rfl, rfl, HL, HG, HRow, HO⟩ := hrel
    by_cases hlt : i < j
    · obtain ⟨h, hh⟩ : ∃ h : Nat, ((i : Int) + j) / 2 = h := ⟨(i + j) / 2, by omega⟩
      have h1 : i ≤ h := by omega
      have h2 : h < j := by omega
      have ca := HRow.out.cell (i := h) (by omega)
      have cb := HRow.out.cell (i := a) (by omega)
      have HCall := fun m => HC.out.tells (wr.drewN m) (only_drewN (only_trans HWW.out HO.out) m) (P h) (P a) (HP.out.bound (by omega)) (HP.out.bound (by omega))
      have hsgn := HC.out.sign (P h) (P a)
      have p3 : (0 : Int) ≤ (h : Int) := by omega
      have p4 : (h : Int) < n := by omega
      have p5 : (0 : Int) ≤ (a : Int) := by omega
      have p6 : (a : Int) < n := by omega
      unfold rowE at ca cb
      have HT := Lib.hid HCall
      have hF := HC.out.enters
      have hl : lt (P h) (P a) = false ∨ lt (P h) (P a) = true := by cases lt (P h) (P a) <;> simp
      clear HCall
      generalize E (P h) = x at *
      generalize E (P a) = y at *
      generalize c (P h) (P a) = z at *
      rcases hl with hl | hl
      · have HG' : Hid (∀ x, h ≤ x → x < b → R (P a) (P x)) := fun x h3 h4 => by
          have hr := o.no (HPre.out.early a h (by omega) (by omega) (by omega) (by omega)) hl
          by_cases e : x = h
          · rw [e]; exact hr
          · exact o.trans hr (HPre.out.right h x (by omega) (by omega) h4)
        rw [hl] at hsgn
        clear hl
        go_wp2_with fail
        go_quiet ((exact Calls.quiet_of (HT.out _)))
        go_wp2_with fail
        go_roundw
        case rel => exact ⟨i, h, i1, h1, by omega, rfl, rfl, HL, HG', HRow.out, only_drewN HO.out _⟩
        case measure => simp [intOf]; omega
      · have HL' : Hid (∀ x, a + 1 ≤ x → x < h + 1 → R (P x) (P a)) := fun x h3 h4 => by
          have hr := o.yes (HPre.out.early a h (by omega) (by omega) (by omega) (by omega)) hl
          by_cases e : x = h
          · rw [e]; exact hr
          · exact o.trans (HPre.out.right x h (by omega) (by omega) (by omega)) hr
        rw [hl] at hsgn
        clear hl
        go_wp2_with fail
        go_quiet ((exact Calls.quiet_of (HT.out _)))
        go_wp2_with fail
        go_roundw
        case rel => exact ⟨h + 1, j, by omega, by omega, i3, by go_num, rfl, HL', HG, HRow.out, only_drewN HO.out _⟩
        case measure => simp [intOf]; omega
    · obtain rfl : i = j := by omega
      obtain ⟨wo, rfl⟩ : ∃ wo : World, wo = wr := ⟨_, rfl⟩
      have HS := Lib.hid (one_first (i := i) HPre.out.right i1 i3 HL.out HG.out)
      go_wp2_with fail
      go_loopw [13] (fun t wr => ∃ k : Nat, a ≤ k ∧ k + 1 ≤ i ∧ t = .int .i64 k ∧ Hid (wr.rowIs g 3 n (rowE E (rot a (a + 1) (k + 1) P))) ∧ Hid (w.grownBy wr (some g))) (fun t _ => i - (intOf t).toNat)
      case atStart => exact ⟨a, Nat.le_refl _, i1, rfl, by show World.rowIs _ _ _ _ _; rw [rot_first]; exact HRow.out, HO.out⟩
      case round =>
        obtain ⟨k, k1, k2, rfl, HRow', HO'⟩ := hrel
        by_cases hk : k + 1 < i
        · have ca := HRow'.out.cell (i := k) (by omega)
          have cb := HRow'.out.cell (i := k + 1) (by omega)
          have fa := HRow'.out.frozen k
          have fb := HRow'.out.frozen (k + 1)
          have lg := HRow'.out.lt
          have HSW := Lib.hid (row_swap (i := k) (j := k + 1) HRow'.out (by omega))
          have HE := Lib.hid (rot_on P k1)
          have hd : (k : Int) < (i : Int) - 1 := by omega
          unfold rowE at ca cb
          generalize E (rot a (a + 1) (k + 1) P k) = x at *
          generalize E (rot a (a + 1) (k + 1) P (k + 1)) = y at *
          go_wp2_with fail
          go_region
          go_wp2_with fail
          go_roundw
          case rel => exact ⟨k + 1, by omega, by omega, by go_num, by show World.rowIs _ _ _ _ _; rw [← HE.out]; exact HSW.out, only_drew (only_set (only_set HO'.out _ _) _ _)⟩
          case measure => simp [intOf]; omega
        · obtain rfl : i = k + 1 := by omega
          have hd : ¬ (k : Int) < ((k + 1 : Nat) : Int) - 1 := by omega
          go_wp2_with fail
          refine bodyPost_ret (results_none rfl _ _ _) rfl ?_
          exact ⟨_, ⟨rfl, HRow'.out, HO'.out⟩, Re.mono (Re.rot P (by omega) (by omega)) (Nat.le_refl _) i3, HS.out⟩

set_option maxRecDepth 100000 in
set_option maxHeartbeats 1000000 in
theorem merge_last (h1 : m ≠ a + 1) (h2 : b = m + 1) :
    Calls Tryz.prog 158 #[.slice (some ⟨g, 0, none⟩) n n, .int .i64 a, .int .i64 m, .int .i64 b, .func (.func F) #[] cap] w (Merged E R g n P a b w) := by
  have HW := Lib.hid hrow
  have HC := Lib.hid hc
  have HWW := Lib.hid hW
  have HP := Lib.hid hP
  have HPre := Lib.hid hpre
  clear hrow hc hW hP hpre
  subst h2
  have t1 : ((m : Int) - a == 1) = false := by rw [beq_eq_false_iff_ne]; omega
  have t2 : (((m : Int) + 1) - m == 1) = true := by rw [beq_iff_eq]; omega
  go_enter Tryz.func158, Tryz.ntmps158
  go_wp2_with fail
  clear t1 t2
  go_loopw [14, 15] (fun s t wr => ∃ (i j : Nat), a ≤ i ∧ i ≤ j ∧ j ≤ m ∧ s = .int .i64 i ∧ t = .int .i64 j ∧ Hid (∀ x, a ≤ x → x < i → R (P x) (P m)) ∧ Hid (∀ x, j ≤ x → x < m → R (P m) (P x)) ∧ Hid (wr.rowIs g 3 n (rowE E P)) ∧ Hid (w.grownBy wr (some g))) (fun s t _ => (intOf t - intOf s).toNat)
  case atStart => exact ⟨a, m, Nat.le_refl _, by omega, Nat.le_refl _, rfl, rfl, fun x h1 h2 => by omega, fun x h1 h2 => by omega, HW.out, only_refl _ _⟩
  case round =>
    obtain ⟨i, j, i1, i2, i3, rfl, rfl, HL, HG, HRow, HO⟩ := hrel
    by_cases hlt : i < j
    · obtain ⟨h, hh⟩ : ∃ h : Nat, ((i : Int) + j) / 2 = h := ⟨(i + j) / 2, by omega⟩
      have h3 : i ≤ h := by omega
      have h4 : h < j := by omega
      have ca := HRow.out.cell (i := m) (by omega)
      have cb := HRow.out.cell (i := h) (by omega)
      have HCall := fun k => HC.out.tells (wr.drewN k) (only_drewN (only_trans HWW.out HO.out) k) (P m) (P h) (HP.out.bound (by omega)) (HP.out.bound (by omega))
      have hsgn := HC.out.sign (P m) (P h)
      have p3 : (0 : Int) ≤ (h : Int) := by omega
      have p4 : (h : Int) < n := by omega
      have p5 : (0 : Int) ≤ (m : Int) := by omega
      have p6 : (m : Int) < n := by omega
      unfold rowE at ca cb
      have HT := Lib.hid HCall
      have hF := HC.out.enters
      have hl : lt (P m) (P h) = false ∨ lt (P m) (P h) = true := by cases lt (P m) (P h) <;> simp
      clear HCall
      generalize E (P h) = x at *
      generalize E (P m) = y at *
      generalize c (P m) (P h) = z at *
      rcases hl with hl | hl
      · have HL' : Hid (∀ x, a ≤ x → x < h + 1 → R (P x) (P m)) := fun x h5 h6 => by
          have hr := o.no (HPre.out.early h m (by omega) (by omega) (by omega) (by omega)) hl
          by_cases e : x = h
          · rw [e]; exact hr
          · exact o.trans (HPre.out.left x h (by omega) (by omega) (by omega)) hr
        rw [hl] at hsgn
        clear hl
        go_wp2_with fail
        go_quiet ((exact Calls.quiet_of (HT.out _)))
        go_wp2_with fail
        go_roundw
        case rel => exact ⟨h + 1, j, by omega, by omega, i3, by go_num, rfl, HL', HG, HRow.out, only_drewN HO.out _⟩
        case measure => simp [intOf]; omega
      · have HG' : Hid (∀ x, h ≤ x → x < m → R (P m) (P x)) := fun x h5 h6 => by
          have hr := o.yes (HPre.out.early h m (by omega) (by omega) (by omega) (by omega)) hl
          by_cases e : x = h
          · rw [e]; exact hr
          · exact o.trans hr (HPre.out.left h x (by omega) (by omega) h6)
        rw [hl] at hsgn
        clear hl
        go_wp2_with fail
        go_quiet ((exact Calls.quiet_of (HT.out _)))
        go_wp2_with fail
        go_roundw
        case rel => exact ⟨i, h, i1, h3, by omega, rfl, rfl, HL, HG', HRow.out, only_drewN HO.out _⟩
        case measure => simp [intOf]; omega
    · obtain rfl : i = j := by omega
      obtain ⟨wo, rfl⟩ : ∃ wo : World, wo = wr := ⟨_, rfl⟩
      have HS := Lib.hid (one_last (i := i) HPre.out.left i1 i3 HL.out HG.out)
      go_wp2_with fail
      go_loopw [17] (fun t wr => ∃ k : Nat, i ≤ k ∧ k ≤ m ∧ t = .int .i64 k ∧ Hid (wr.rowIs g 3 n (rowE E (rot k m (m + 1) P))) ∧ Hid (w.grownBy wr (some g))) (fun t _ => (intOf t).toNat)
      case atStart => exact ⟨m, i3, Nat.le_refl _, rfl, by show World.rowIs _ _ _ _ _; rw [rot_last]; exact HRow.out, HO.out⟩
      case round =>
        obtain ⟨k, k1, k2, rfl, HRow', HO'⟩ := hrel
        by_cases hk : i < k
        · obtain ⟨k, rfl⟩ : ∃ l, k = l + 1 := ⟨k - 1, by omega⟩
          have ca := HRow'.out.cell (i := k + 1) (by omega)
          have cb := HRow'.out.cell (i := k) (by omega)
          have fa := HRow'.out.frozen (k + 1)
          have fb := HRow'.out.frozen k
          have lg := HRow'.out.lt
          have HSW := Lib.hid (row_swap (i := k + 1) (j := k) HRow'.out (by omega))
          have HE : Hid (swp (k + 1) k (rot (k + 1) m (m + 1) P) = rot k m (m + 1) P) := rot_back P k2 (by omega)
          have w1 : IntKind.i64.wrap ((k : Int) + 1 - 1) = k := by rw [IntWalk.i64_in _ (by omega)]; omega
          have w2 : IntKind.i64.wrap (k : Int) = k := IntWalk.i64_in _ (by omega)
          have p0 : (0 : Int) ≤ (k : Int) + 1 := by omega
          have p1 : ((k : Int) + 1).toNat = k + 1 := by omega
          have p2 : (k : Int) + 1 < n := by omega
          have p3 : (0 : Int) ≤ (k : Int) := by omega
          have p4 : (k : Int) < n := by omega
          have hd : (i : Int) < (k : Int) + 1 := by omega
          unfold rowE at ca cb
          generalize E (rot (k + 1) m (m + 1) P k) = x at *
          generalize E (rot (k + 1) m (m + 1) P (k + 1)) = y at *
          go_wp2_with fail
          go_region
          go_wp2_with fail
          go_roundw
          case rel => exact ⟨k, by omega, by omega, by go_num, by show World.rowIs _ _ _ _ _; rw [← HE.out]; exact HSW.out, only_drew (only_set (only_set HO'.out _ _) _ _)⟩
          case measure => simp [intOf]
        · obtain rfl : i = k := by omega
          go_wp2_with fail
          refine bodyPost_ret (results_none rfl _ _ _) rfl ?_
          exact ⟨_, ⟨rfl, HRow'.out, HO'.out⟩, Re.mono (Re.rot P (by omega) (by omega)) i1 (Nat.le_refl _), HS.out⟩
end
end Go.Proofs.YtkddiaiohnbjpaaGreatDoor.Stable
namespace Go.Proofs.YtkddiaiohnbjpaaGreatDoor.Stable
open Go.ChangeShapes Go.WideShapes Go.ChangeAt Go.RowKit Law

theorem insertion_int (E : Nat → Int) (lt : Nat → Nat → Bool) (c : Nat → Nat → Int) (R : Nat → Nat → Prop) (o : Ord R lt) (F : FuncId) (cap : Array Value) (g n : Nat) (W : World) (hc : Cmp E lt c F cap g n W) (P : Nat → Nat) (a b : Nat) (w : World) (x y : Int)
    (hW : W.grownBy w (some g)) (hrow : w.rowIs g 3 n (rowE E P)) (hP : Re 0 n (fun i => i) P) (he : ∀ u v, a ≤ u → u < v → v < b → P u < P v) (ha : a ≤ b) (hb : b ≤ n) (hn : n ≤ 1152921504606846976) (hx : x = a) (hy : y = b) :
    Calls Tryz.prog 157 #[.slice (some ⟨g, 0, none⟩) n n, .int .i64 x, .int .i64 y, .func (.func F) #[] cap] w (Merged E R g n P a b w) := by
  subst hx hy
  exact insertion_any E lt c R o F cap g n W hc P a b w hW hrow hP he ha hb hn

set_option maxRecDepth 100000 in
set_option maxHeartbeats 1600000 in
theorem stable_any (E : Nat → Int) (lt : Nat → Nat → Bool) (c : Nat → Nat → Int) (R : Nat → Nat → Prop) (o : Ord R lt) (F : FuncId) (cap : Array Value) (g n : Nat) (w : World) (hc : Cmp E lt c F cap g n w) (hm : ∀ d, MergeTo E R F cap g n w d) (hn : n ≤ 1152921504606846976)
    (hrow : w.rowIs g 3 n (rowE E fun i => i)) :
    Calls Tryz.prog 153 #[.slice (some ⟨g, 0, none⟩) n n, .int .i64 n, .func (.func F) #[] cap] w (Merged E R g n (fun i => i) 0 n w) := by
  have HC := Lib.hid hc
  have HM := Lib.hid hm
  have HW := Lib.hid hrow
  clear hc hm hrow
  go_enter Tryz.func153, Tryz.ntmps153
  go_wp2_with fail
  go_loopw [7, 8] (fun s t wr => ∃ (a : Nat) (Q : Nat → Nat), a ≤ n ∧ Hid (20 ∣ a) ∧ s = .int .i64 a ∧ t = .int .i64 ((a : Int) + 20) ∧ Hid (Inv R n (B20 a) Q) ∧ Hid (Re 0 n (fun i => i) Q) ∧ Hid (wr.rowIs g 3 n (rowE E Q)) ∧ Hid (w.grownBy wr (some g))) (fun s _ _ => n - (intOf s).toNat)
  case atStart => exact ⟨0, fun i => i, Nat.zero_le _, Nat.dvd_zero 20, rfl, rfl, (Inv.start (R := R) n).same fun β _ _ => by unfold B20; simp, Re.refl _ _ _, HW.out, only_refl _ _⟩
  case round =>
    obtain ⟨a, Q, a1, HD, rfl, rfl, HI, HQ, HRow, HO⟩ := hrel
    by_cases hlt : a + 20 ≤ n
    · have hd : (a : Int) + 20 ≤ n := by omega
      have he : ∀ u v, a ≤ u → u < v → v < a + 20 → Q u < Q v := fun u v x1 x2 x3 => b20_early HI.out x1 x2 (by omega)
      have HE := Lib.hid he
      clear he
      go_wp2_with fail
      refine (insertion_int E lt c R o F cap g n w HC.out Q a (a + 20) _ _ _ HO.out HRow.out HQ.out HE.out (by omega) hlt hn (by omega) (by omega)).mono ?_
      rintro e w1 ⟨Q1, ⟨rfl, hr1, hg1⟩, hq1, hs1⟩
      have HR1 := Lib.hid hr1
      have HG1 := Lib.hid (only_trans HO.out hg1)
      have HQ1 := Lib.hid (HQ.out.trans (hq1.mono (Nat.zero_le _) hlt))
      have HI1 := Lib.hid (HI.out.merge (B' := B20 (a + 20)) hq1 hs1 (Or.inr (Or.inl HD.out)) (Or.inr (Or.inr (by omega))) hlt fun β _ _ => b20_step HD.out)
      clear hr1 hg1 hq1 hs1
      go_wp2_with fail
      go_roundw
      case rel => exact ⟨a + 20, Q1, hlt, by have := HD.out; show 20 ∣ a + 20; omega, congrArg (Value.int IntKind.i64) (by omega), congrArg (Value.int IntKind.i64) (by omega), HI1, HQ1, HR1, HG1⟩
      case measure => simp [intOf]; omega
    · have hd : ¬ (a : Int) + 20 ≤ n := by omega
      have he : ∀ u v, a ≤ u → u < v → v < n → Q u < Q v := fun u v x1 x2 x3 => b20_early HI.out x1 x2 (by omega)
      have HE := Lib.hid he
      clear he
      obtain ⟨wo, rfl⟩ : ∃ wo : World, wo = wr := ⟨_, rfl⟩
      go_wp2_with fail
      refine (insertion_int E lt c R o F cap g n w HC.out Q a n _ _ _ HO.out HRow.out HQ.out HE.out a1 (Nat.le_refl _) hn rfl rfl).mono ?_
      rintro e w1 ⟨Q1, ⟨rfl, hr1, hg1⟩, hq1, hs1⟩
      have HR1 := Lib.hid hr1
      have HG1 := Lib.hid (only_trans HO.out hg1)
      have HQ1 := Lib.hid (HQ.out.trans (hq1.mono (Nat.zero_le _) (Nat.le_refl _)))
      have HI1 := Lib.hid (HI.out.merge (B' := fun β => 20 ∣ β) hq1 hs1 (Or.inr (Or.inl HD.out)) (Or.inl rfl) (Nat.le_refl _) fun β _ y => b20_last HD.out (by omega) y)
      clear hr1 hg1 hq1 hs1 HRow HO HI HQ HE
      go_wp2_with fail
      go_loopw [6] (fun t wr => ∃ (s : Nat) (Q : Nat → Nat), 20 ≤ s ∧ (s ≤ 20 ∨ s < 2 * n) ∧ t = .int .i64 s ∧ Hid (Inv R n (fun β => s ∣ β) Q) ∧ Hid (Re 0 n (fun i => i) Q) ∧ Hid (wr.rowIs g 3 n (rowE E Q)) ∧ Hid (w.grownBy wr (some g))) (fun t _ => n - (intOf t).toNat)
      case atStart => exact ⟨20, Q1, Nat.le_refl _, Or.inl (Nat.le_refl _), rfl, HI1.out, HQ1.out, HR1.out, HG1.out⟩
      case round =>
        obtain ⟨s, Q2, s1, s2, rfl, HI2, HQ2, HR2, HG2⟩ := hrel
        clear HR1 HG1 HQ1 HI1
        by_cases hs : s < n
        · obtain ⟨w2, rfl⟩ : ∃ w2 : World, w2 = wr := ⟨_, rfl⟩
          go_wp2_with fail
          go_loopw [7, 8] (fun x y wr => ∃ (a : Nat) (Q : Nat → Nat), a ≤ n ∧ Hid (2 * s ∣ a) ∧ x = .int .i64 a ∧ y = .int .i64 ((a : Int) + 2 * s) ∧ Hid (Inv R n (BM s a) Q) ∧ Hid (Re 0 n (fun i => i) Q) ∧ Hid (wr.rowIs g 3 n (rowE E Q)) ∧ Hid (w.grownBy wr (some g))) (fun x _ _ => n - (intOf x).toNat)
          case atStart => exact ⟨0, Q2, Nat.zero_le _, Nat.dvd_zero _, rfl, congrArg (Value.int IntKind.i64) (by omega), HI2.out.same fun β _ _ => bm_start, HQ2.out, HR2.out, HG2.out⟩
          case round =>
            obtain ⟨a, Q, a1, HD, rfl, rfl, HI, HQ, HRow, HO⟩ := hrel
            clear HR2 HG2 HQ2 HI2
            by_cases hlt : a + 2 * s ≤ n
            · have hd : (a : Int) + 2 * s ≤ n := by omega
              have HPre := Lib.hid (HI.out.pre (a := a) (m := a + s) (b := a + 2 * s) (by omega) hlt (bm_mid HD.out) (fun β x1 x2 => bm_none1 HD.out x1 x2) (fun β x1 x2 => bm_none2 HD.out x1 x2))
              have HC1 := Lib.hid (fun x y z hx hy hz => HM.out (2 * s + 1) a (a + s) (a + 2 * s) Q wr x y z (by omega) HO.out HRow.out HQ.out HPre.out (by omega) (by omega) hlt hx hy hz)
              go_wp2_with fail
              have hcc := HC1.out _ ((a : Int) + s) ((a : Int) + 2 * s) rfl (by omega) (by omega)
              refine hcc.mono ?_
              clear hcc
              rintro e w1 ⟨Q1, ⟨rfl, hr1, hg1⟩, hq1, hs1⟩
              have HR1 := Lib.hid hr1
              have HG1 := Lib.hid (only_trans HO.out hg1)
              have HQ1 := Lib.hid (HQ.out.trans (hq1.mono (Nat.zero_le _) hlt))
              have HI1 := Lib.hid (HI.out.merge (B' := BM s (a + 2 * s)) hq1 hs1 (Or.inr (bm_at HD.out)) (Or.inr (bm_end HD.out)) hlt fun β _ _ => bm_step HD.out)
              have HD1 : Hid (2 * s ∣ a + 2 * s) := (Nat.dvd_add_right HD.out).2 (Nat.dvd_refl _)
              clear hr1 hg1 hq1 hs1
              go_wp2_with fail
              go_roundw
              case rel => exact ⟨a + 2 * s, Q1, hlt, HD1, congrArg (Value.int IntKind.i64) (by omega), congrArg (Value.int IntKind.i64) (by omega), HI1, HQ1, HR1, HG1⟩
              case measure => simp [intOf]; omega
            · have hd : ¬ (a : Int) + 2 * s ≤ n := by omega
              obtain ⟨w3, rfl⟩ : ∃ w3 : World, w3 = wr := ⟨_, rfl⟩
              by_cases ht : a + s < n
              · have hd2 : (a : Int) + s < n := by omega
                have HPre := Lib.hid (HI.out.pre (a := a) (m := a + s) (b := n) (by omega) (Nat.le_refl _) (bm_mid HD.out) (fun β x1 x2 => bm_none1 HD.out x1 x2) (fun β x1 x2 => bm_none2 HD.out x1 (by omega)))
                have HC1 := Lib.hid (fun x y z hx hy hz => HM.out (2 * s + 1) a (a + s) n Q w3 x y z (by omega) HO.out HRow.out HQ.out HPre.out (by omega) ht (Nat.le_refl _) hx hy hz)
                go_wp2_with fail
                have hcc := HC1.out _ ((a : Int) + s) _ rfl (by omega) rfl
                refine hcc.mono ?_
                clear hcc
                rintro e w1 ⟨Q1, ⟨rfl, hr1, hg1⟩, hq1, hs1⟩
                have HR1 := Lib.hid hr1
                have HG1 := Lib.hid (only_trans HO.out hg1)
                have HQ1 := Lib.hid (HQ.out.trans (hq1.mono (Nat.zero_le _) (Nat.le_refl _)))
                have HI1 := Lib.hid (HI.out.merge (B' := fun β => 2 * s ∣ β) hq1 hs1 (Or.inr (bm_at HD.out)) (Or.inl rfl) (Nat.le_refl _) fun β _ y => bm_tail HD.out (by omega) y)
                clear hr1 hg1 hq1 hs1
                go_wp2_with fail
                go_roundw
                case rel => exact ⟨2 * s, Q1, by omega, by omega, congrArg (Value.int IntKind.i64) (by omega), HI1, HQ1, HR1, HG1⟩
                case measure => simp [intOf]; omega
              · have hd2 : ¬ (a : Int) + s < n := by omega
                have HI1 := Lib.hid (HI.out.same (B' := fun β => 2 * s ∣ β) fun β _ y => bm_none HD.out (by omega) y)
                go_wp2_with fail
                go_roundw
                case rel => exact ⟨2 * s, Q, by omega, by omega, congrArg (Value.int IntKind.i64) (by omega), HI1, HQ, HRow, HO⟩
                case measure => simp [intOf]; omega
        · have HS := Lib.hid (HI2.out.all fun β x1 x2 x3 => by have := Nat.le_of_dvd x1 x3; omega)
          go_wp2_with fail
          refine bodyPost_end (results_none rfl _ _ _) rfl ?_
          exact ⟨Q2, ⟨rfl, HR2.out, HG2.out⟩, HQ2.out, HS.out⟩

/-- The stable sort: the row sorted, nothing else turned. -/
theorem sort_any (E : Nat → Int) (lt : Nat → Nat → Bool) (c : Nat → Nat → Int) (R : Nat → Nat → Prop) (o : Ord R lt) (F : FuncId) (cap : Array Value) (g n : Nat) (w : World) (hc : Cmp E lt c F cap g n w) (hm : ∀ d, MergeTo E R F cap g n w d) (hn : n ≤ 1152921504606846976)
    (hrow : w.rowIs g 3 n (rowE E fun i => i)) :
    Calls Tryz.prog 140 #[.slice (some ⟨g, 0, none⟩) n n, .func (.func F) #[] cap] w (Merged E R g n (fun i => i) 0 n w) := by
  have H := Lib.hid (stable_any E lt c R o F cap g n w hc hm hn hrow)
  clear hc hm hrow
  go_enter Tryz.func140, Tryz.ntmps140
  go_wp2_with fail
  have hcc := H.out
  refine hcc.mono ?_
  clear hcc H
  rintro e w1 ⟨Q1, ⟨rfl, hr1, hg1⟩, hq1, hs1⟩
  have HR1 := Lib.hid hr1
  have HG1 := Lib.hid hg1
  have HQ1 := Lib.hid hq1
  have HS1 := Lib.hid hs1
  clear hr1 hg1 hq1 hs1
  go_wp2_with fail
  refine bodyPost_end (results_none rfl _ _ _) rfl ?_
  exact ⟨Q1, ⟨rfl, HR1.out, HG1.out⟩, HQ1.out, HS1.out⟩
end Go.Proofs.YtkddiaiohnbjpaaGreatDoor.Stable
