/- Of layer 19, plain: what is credited is what is less left; in two parts it is the same; bills with one more; no condition. -/
import Derived.Test.YtjjbdemhccpllaaDoorBillMath
namespace Go.Proofs.YtjjbdemhccpllaaDoor.Bill
open Plan Date Cal Money

/-- What is left of all of them. -/
def lsum : List Bl → Int
  | [] => 0
  | b :: r => b.left + lsum r
def Lefts (M : List Bl) : Prop := ∀ b ∈ M, 0 ≤ b.left
theorem Lefts.head {b : Bl} {r : List Bl} (h : Lefts (b :: r)) : 0 ≤ b.left := h b List.mem_cons_self
theorem Lefts.tail {b : Bl} {r : List Bl} (h : Lefts (b :: r)) : Lefts r := fun x hx => h x (List.mem_cons_of_mem _ hx)
theorem lsum_pos : ∀ {M : List Bl}, Lefts M → 0 ≤ lsum M
  | [], _ => by unfold lsum; omega
  | b :: r, h => by
    have h1 := h.head
    have h2 := lsum_pos h.tail
    unfold lsum
    omega
theorem cov_left (b : Bl) (a d : Int) : (covB b a d).left = b.left - min b.left a := rfl
theorem cr_in (d : Int) : ∀ {M : List Bl} {a : Int}, Lefts M → 0 ≤ a → 0 ≤ (crB d M a).2 ∧ (crB d M a).2 ≤ a
  | [], a, _, h => ⟨h, Int.le_refl _⟩
  | b :: r, a, hM, h => by
    have hb := hM.head
    by_cases h0 : b.left = 0
    · rw [cr_skip h0]
      exact cr_in d hM.tail h
    · rw [cr_take h0]
      have := cr_in d (a := a - min b.left a) hM.tail (by omega)
      show 0 ≤ (crB d r (a - min b.left a)).2 ∧ (crB d r (a - min b.left a)).2 ≤ a
      omega
theorem cr_sum (d : Int) : ∀ (M : List Bl) (a : Int), lsum M - lsum (crB d M a).1 = a - (crB d M a).2
  | [], a => by show lsum [] - lsum [] = a - a; omega
  | b :: r, a => by
    by_cases h0 : b.left = 0
    · rw [cr_skip h0]
      have ih := cr_sum d r a
      show (b.left + lsum r) - (b.left + lsum (crB d r a).1) = a - (crB d r a).2
      omega
    · rw [cr_take h0]
      have ih := cr_sum d r (a - min b.left a)
      show (b.left + lsum r) - ((b.left - min b.left a) + lsum (crB d r (a - min b.left a)).1) = a - (crB d r (a - min b.left a)).2
      omega
theorem cr_first (d : Int) : ∀ (M : List Bl) (a : Int) (n : Nat), (crB d M a).1.take n = (crB d (M.take n) a).1
  | [], a, n => by simp [crB]
  | b :: r, a, 0 => by simp [crB]
  | b :: r, a, n + 1 => by
    rw [List.take_succ_cons]
    by_cases h0 : b.left = 0
    · rw [cr_skip h0, cr_skip h0, List.take_succ_cons, cr_first d r a n]
    · rw [cr_take h0, cr_take h0, List.take_succ_cons, cr_first d r _ n]
theorem lefts_take {M : List Bl} (h : Lefts M) (n : Nat) : Lefts (M.take n) := fun b hb => h b (List.mem_of_mem_take hb)
/-- What the first n bills have less left. -/
def lessN (M A : List Bl) (n : Nat) : Int := lsum (M.take n) - lsum (A.take n)
theorem less_in (d : Int) {M : List Bl} {a : Int} (h : Lefts M) (ha : 0 ≤ a) (n : Nat) : 0 ≤ lessN M (crB d M a).1 n ∧ lessN M (crB d M a).1 n ≤ a := by
  unfold lessN
  rw [cr_first, cr_sum]
  have := cr_in d (lefts_take h n) ha
  omega
theorem less_all (d : Int) (M : List Bl) (a : Int) : lessN M (crB d M a).1 M.length + (crB d M a).2 = a := by
  unfold lessN
  rw [List.take_length, show (crB d M a).1.take M.length = (crB d M a).1 by rw [← cr_len d M a, List.take_length], cr_sum]
  omega
theorem lsum_snoc : ∀ (M : List Bl) (x : Bl), lsum (M ++ [x]) = lsum M + x.left
  | [], x => by show x.left + lsum [] = lsum [] + x.left; omega
  | b :: r, x => by
    have ih := lsum_snoc r x
    show b.left + lsum (r ++ [x]) = b.left + lsum r + x.left
    omega
theorem less_step {M A : List Bl} {j : Nat} {x y : Bl} (hx : M[j]? = some x) (hy : A[j]? = some y) : lessN M A (j + 1) = lessN M A j + (x.left - y.left) := by
  unfold lessN
  rw [List.take_add_one, hx, List.take_add_one, hy]
  show lsum (M.take j ++ [x]) - lsum (A.take j ++ [y]) = _
  rw [lsum_snoc, lsum_snoc]
  omega
theorem cr_le (d : Int) : ∀ {M : List Bl} {a : Int}, Lefts M → 0 ≤ a → ∀ (j : Nat) (x y : Bl), M[j]? = some x → (crB d M a).1[j]? = some y → 0 ≤ y.left ∧ y.left ≤ x.left
  | [], a, _, _, j, x, y, h, _ => by simp at h
  | b :: r, a, hM, ha, j, x, y, hx, hy => by
    have hb := hM.head
    by_cases h0 : b.left = 0
    · rw [cr_skip h0] at hy
      cases j with
      | zero =>
        obtain rfl : b = x := by simpa using hx
        obtain rfl : b = y := by simpa using hy
        omega
      | succ j => exact cr_le d hM.tail ha j x y (by simpa using hx) (by simpa using hy)
    · rw [cr_take h0] at hy
      cases j with
      | zero =>
        obtain rfl : b = x := by simpa using hx
        obtain rfl : covB b a d = y := by simpa using hy
        rw [cov_left]
        omega
      | succ j => exact cr_le d (a := a - min b.left a) hM.tail (by omega) j x y (by simpa using hx) (by simpa using hy)
theorem cr_over (d : Int) : ∀ {M : List Bl} {a : Int}, Lefts M → 0 ≤ a → 0 < (crB d M a).2 → ∀ y ∈ (crB d M a).1, y.left = 0
  | [], a, _, _, _, y, hy => by cases hy
  | b :: r, a, hM, ha, hk, y, hy => by
    have hb := hM.head
    by_cases h0 : b.left = 0
    · rw [cr_skip h0] at hy hk
      rcases List.mem_cons.1 hy with rfl | hy
      · exact h0
      · exact cr_over d hM.tail ha hk y hy
    · rw [cr_take h0] at hy hk
      have hk' : 0 < (crB d r (a - min b.left a)).2 := hk
      have := cr_in d (a := a - min b.left a) hM.tail (by omega)
      rcases List.mem_cons.1 hy with rfl | hy
      · rw [cov_left]
        omega
      · exact cr_over d hM.tail (by omega) hk' y hy
/-- Behind one with something left, nothing is covered. -/
theorem cr_behind (d : Int) : ∀ {M : List Bl} {a : Int}, Lefts M → 0 ≤ a → ∀ (j : Nat) (x y z : Bl), (crB d M a).1[j]? = some z → 0 < z.left → M[j + 1]? = some x → (crB d M a).1[j + 1]? = some y → y.left = x.left
  | [], a, _, _, j, x, y, z, _, _, h, _ => by simp at h
  | b :: r, a, hM, ha, j, x, y, z, hz, h0z, hx, hy => by
    have hb := hM.head
    by_cases h0 : b.left = 0
    · rw [cr_skip h0] at hy hz
      cases j with
      | zero =>
        obtain rfl : b = z := by simpa using hz
        omega
      | succ j => exact cr_behind d hM.tail ha j x y z (by simpa using hz) h0z (by simpa using hx) (by simpa using hy)
    · rw [cr_take h0] at hy hz
      cases j with
      | zero =>
        obtain rfl : covB b a d = z := by simpa using hz
        rw [cov_left] at h0z
        have e : a - min b.left a = 0 := by omega
        rw [e, cr_zero d hM.tail] at hy
        have hx' : r[0]? = some x := by simpa using hx
        have hy' : r[0]? = some y := by simpa using hy
        rw [hx'] at hy'
        rw [Option.some.inj hy']
      | succ j => exact cr_behind d (a := a - min b.left a) hM.tail (by omega) j x y z (by simpa using hz) h0z (by simpa using hx) (by simpa using hy)
theorem cr_lefts (d : Int) {M : List Bl} {a : Int} (h : Lefts M) (ha : 0 ≤ a) : Lefts (crB d M a).1 := fun y hy => by
  obtain ⟨j, hj, rfl⟩ := List.getElem_of_mem hy
  have hj' : j < M.length := by rw [← cr_len d M a]; exact hj
  exact (cr_le d h ha j _ _ (List.getElem?_eq_getElem hj') (List.getElem?_eq_getElem hj)).1
/-- In two parts it is the same. -/
theorem cr_two (d : Int) : ∀ {M : List Bl} {a c : Int}, Lefts M → 0 ≤ a → 0 ≤ c → (crB d (crB d M a).1 c).1 = (crB d M (a + c)).1 ∧ (crB d M a).2 + (crB d (crB d M a).1 c).2 = (crB d M (a + c)).2
  | [], a, c, _, _, _ => ⟨rfl, rfl⟩
  | b :: r, a, c, hM, ha, hc => by
    have hb := hM.head
    by_cases h0 : b.left = 0
    · have ih := cr_two d (M := r) hM.tail ha hc
      have e1 : crB d (b :: r) a = (b :: (crB d r a).1, (crB d r a).2) := cr_skip h0
      have e2 : crB d (b :: r) (a + c) = (b :: (crB d r (a + c)).1, (crB d r (a + c)).2) := cr_skip h0
      have e3 : crB d (b :: (crB d r a).1) c = (b :: (crB d (crB d r a).1 c).1, (crB d (crB d r a).1 c).2) := cr_skip h0
      rw [e1, e2]
      show (crB d (b :: (crB d r a).1) c).1 = _ ∧ (crB d r a).2 + (crB d (b :: (crB d r a).1) c).2 = _
      rw [e3, ih.1]
      exact ⟨rfl, ih.2⟩
    · rw [cr_take h0, cr_take (a := a + c) h0]
      show (crB d (covB b a d :: (crB d r (a - min b.left a)).1) c).1 = _ ∧ (crB d r (a - min b.left a)).2 + (crB d (covB b a d :: (crB d r (a - min b.left a)).1) c).2 = _
      by_cases hl : b.left ≤ a
      · have e1 : (covB b a d).left = 0 := by rw [cov_left]; omega
        have e2 : covB b a d = covB b (a + c) d := by
          unfold covB
          rw [show min b.left a = b.left by omega, show min b.left (a + c) = b.left by omega]
        have e3 : a + c - min b.left (a + c) = (a - min b.left a) + c := by omega
        have ih := cr_two d (M := r) (a := a - min b.left a) hM.tail (by omega) hc
        rw [cr_skip e1, e3, e2]
        exact ⟨by rw [ih.1], ih.2⟩
      · have e0 : a - min b.left a = 0 := by omega
        have e1 : (covB b a d).left = b.left - a := by rw [cov_left]; omega
        rw [e0, cr_zero d hM.tail]
        rw [cr_take (by rw [e1]; omega)]
        have e2 : covB (covB b a d) c d = covB b (a + c) d := by
          unfold covB
          have q1 : min b.left a = a := by omega
          rw [q1]
          have q2 : ¬ b.left - a = 0 := by omega
          rw [if_neg q2]
          show ({ b with left := b.left - a - min (b.left - a) c, covered := if b.left - a - min (b.left - a) c = 0 then d else b.covered } : Bl) = _
          rw [show b.left - a - min (b.left - a) c = b.left - min b.left (a + c) by omega]
        rw [e2, e1, show c - min (b.left - a) c = a + c - min b.left (a + c) by omega]
        exact ⟨rfl, Int.zero_add _⟩
theorem cov_ok {b : Bl} {a d : Int} (h : okB b = true) (ha : 0 ≤ a) (hd : dayB d = true) (h0 : b.left ≠ 0) : okB (covB b a d) = true := by
  have k := ok_iff.1 h
  have h1 := k.l0
  have h2 := k.l1
  refine ok_iff.2 ⟨k.m0, k.m1, k.money, by rw [cov_left]; omega, by rw [cov_left]; show b.left - min b.left a ≤ b.amount; omega, ?_⟩
  by_cases hz : b.left - min b.left a = 0
  · refine Or.inl ⟨hz, ?_⟩
    show dayB (if b.left - min b.left a = 0 then d else b.covered) = true
    rw [if_pos hz]
    exact hd
  · refine Or.inr ⟨by rw [cov_left]; omega, ?_⟩
    show (if b.left - min b.left a = 0 then d else b.covered) = -1
    rw [if_neg hz]
    rcases k.cov with ⟨h, -⟩ | ⟨-, h⟩
    · exact absurd h h0
    · exact h
theorem cr_good {d : Int} (hd : dayB d = true) : ∀ {M : List Bl} {n a : Int}, goodF n M = true → 0 ≤ a → goodF n (crB d M a).1 = true
  | [], _, _, _, _ => rfl
  | b :: r, n, a, h, ha => by
    have h' := h
    unfold goodF at h'
    simp only [Bool.and_eq_true, decide_eq_true_eq] at h'
    obtain ⟨⟨h1, h2⟩, h3⟩ := h'
    have hb := (ok_iff.1 h2).l0
    by_cases h0 : b.left = 0
    · rw [cr_skip h0]
      show goodF n (b :: (crB d r a).1) = true
      rw [good_step h1 h2]
      exact cr_good hd h3 ha
    · rw [cr_take h0]
      show goodF n (covB b a d :: (crB d r (a - min b.left a)).1) = true
      rw [good_step (b := covB b a d) h1 (cov_ok h2 ha hd h0)]
      exact cr_good hd h3 (by omega)
theorem lefts_of {M : List Bl} (h : goodM M = true) : Lefts M := fun b hb => (good_left h b hb).1
/-! One bill more. -/
def nextM (M : List Bl) : Int := match M.getLast? with
  | none => 0
  | some x => x.month + 1
theorem good_next : ∀ {M : List Bl} {n : Int} {x : Bl}, goodF n M = true → okB x = true → n ≤ x.month → (∀ y, M.getLast? = some y → y.month < x.month) → goodF n (M ++ [x]) = true ∧ (0 ≤ n → ∀ y ∈ M, y.month < x.month)
  | [], n, x, _, hx, hn, _ => ⟨by rw [List.nil_append, good_step hn hx]; rfl, fun _ y hy => by cases hy⟩
  | b :: r, n, x, h, hx, hn, hl => by
    have h' := h
    unfold goodF at h'
    simp only [Bool.and_eq_true, decide_eq_true_eq] at h'
    obtain ⟨⟨h1, h2⟩, h3⟩ := h'
    have hb := (ok_iff.1 h2).m0
    have hbx : b.month < x.month := by
      cases hr : r.getLast? with
      | none =>
        have : r = [] := by simpa using hr
        subst this
        exact hl b rfl
      | some y =>
        have hy : y.month < x.month := hl y (by rw [List.getLast?_cons, hr]; rfl)
        have hmem : y ∈ r := List.mem_of_getLast? hr
        have : b.month + 1 ≤ y.month := good_from h3 y hmem
        omega
    have ih := good_next (M := r) (n := b.month + 1) h3 hx (by omega) (fun y hy => hl y (by rw [List.getLast?_cons, hy]; rfl))
    refine ⟨by rw [List.cons_append, good_step h1 h2]; exact ih.1, fun _ y hy => ?_⟩
    rcases List.mem_cons.1 hy with rfl | hy
    · exact hbx
    · exact ih.2 (by omega) y hy
where
  good_from : ∀ {M : List Bl} {n : Int}, goodF n M = true → ∀ y ∈ M, n ≤ y.month
    | [], _, _, y, hy => by cases hy
    | b :: r, n, h, y, hy => by
      have h' := h
      unfold goodF at h'
      simp only [Bool.and_eq_true, decide_eq_true_eq] at h'
      obtain ⟨⟨h1, h2⟩, h3⟩ := h'
      rcases List.mem_cons.1 hy with rfl | hy
      · exact h1
      · have := good_from h3 y hy
        omega
theorem new_ok {m a how ahead : Int} {ids : List Int} (hm : 0 ≤ m ∧ m ≤ 2879) (ha : moneyB a = true) (hh : 0 ≤ ahead) : okB (newB m a how ids ahead) = true := by
  have h0 := (money_iff.1 ha).1
  have hf : dayB (firV m) = true := by
    unfold dayB firV
    rw [if_pos hm]
    have := st_in (m := m.toNat) (by omega)
    exact decide_eq_true ⟨by omega, by omega⟩
  refine ok_iff.2 ⟨hm.1, hm.2, ha, ?_, ?_, ?_⟩
  · show 0 ≤ a - min a ahead
    omega
  · show a - min a ahead ≤ a
    omega
  · show (a - min a ahead = 0 ∧ dayB (if a - min a ahead = 0 then firV m else -1) = true) ∨ (0 < a - min a ahead ∧ (if a - min a ahead = 0 then firV m else -1) = -1)
    by_cases hz : a - min a ahead = 0
    · rw [if_pos hz]
      exact Or.inl ⟨hz, hf⟩
    · rw [if_neg hz]
      exact Or.inr ⟨by omega, rfl⟩
end Go.Proofs.YtjjbdemhccpllaaDoor.Bill
