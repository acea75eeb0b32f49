/- Of layer 14: what is owed behind each call (plain). -/
import Derived.Test.YtkegmgjagcefhaaLoanMath2
namespace Go.Proofs.Ytkegmgjagcefhaa.Loan
open Go.ChangeShapes Go.WideShapes Go.ChangeAt Go.RowKit Accr Box

theorem owes_is {l : Ln} (hg : goodL l = true) (h : sumL l ≤ 10000000000000) : owesR l = (sumL l, 0) := by
  unfold owesR
  simp [hg, h]
theorem owes_no {l : Ln} (hg : goodL l = true) (h : ¬ sumL l ≤ 10000000000000) : owesR l = (0, 14) := by
  unfold owesR
  simp [hg, h]
/-- Either it is told what is owed, or an error. -/
theorem owes_two (l : Ln) : (owesR l).2 ≠ 0 ∨ (goodL l = true ∧ sumL l ≤ 10000000000000 ∧ owesR l = (sumL l, 0)) := by
  unfold owesR
  split
  · rename_i hg
    split
    · rename_i h
      exact Or.inr ⟨hg, h, rfl⟩
    · exact Or.inl (by decide)
  · exact Or.inl (by decide)
theorem whole_nn {m : Int} (h : 0 ≤ m) : wholeI m = m / 1000000 := by
  unfold wholeI
  rw [if_neg (by omega)]
theorem sum_nn {l : Ln} (G : Good l) : 0 ≤ sumL l := by
  have := G.prin0
  have := G.fees0
  have := (cents_le G).1
  unfold sumL
  omega
theorem open_closed {l : Ln} (h : openB l = true) : l.closed = 0 := by unfold openB at h; simpa using h
/-- Capitalized. -/
theorem cap_ways {l : Ln} (hg : goodL l = true) (hs : sumL l ≤ 10000000000000) :
    (capR l).2 ≠ 0 ∨ ((capR l).2 = 0 ∧ owesR (capR l).1 = (sumL l, 0) ∧ goodL (capR l).1 = true ∧ (capR l).1.intr < 1000000) := by
  have G := goodL_iff.1 hg
  obtain ⟨q0, q1, q2⟩ := cents_le G
  unfold capR
  cases ho : openB l with
  | false => exact Or.inl (by simp [hg])
  | true =>
    have hc := open_closed ho
    by_cases hl : l.prin + centsL l ≤ 10000000000000
    · have hi : l.intr - centsL l * 1000000 = l.intr % 1000000 := by
        have h := whole_nn G.intr0
        unfold centsL
        rw [h]
        have := G.intr0
        omega
      have hm := Int.emod_lt_of_pos l.intr (show (0 : Int) < 1000000 by decide)
      have hm0 := Int.emod_nonneg l.intr (show (1000000 : Int) ≠ 0 by decide)
      have g2 : goodL (capL l) = true := goodL_iff.2 { G with
        prin0 := by have := G.prin0; show 0 ≤ l.prin + centsL l; omega
        prin1 := hl
        intr0 := by show 0 ≤ l.intr - centsL l * 1000000; omega
        intr1 := by show l.intr - centsL l * 1000000 ≤ _; omega
        empty := Or.inl hc }
      have hz : centsL (capL l) = 0 := by
        show wholeI (l.intr - centsL l * 1000000) = 0
        rw [hi, whole_nn hm0]
        omega
      have h2 : sumL (capL l) = sumL l := by
        unfold sumL
        rw [hz]
        show l.prin + centsL l + l.fees + 0 = _
        omega
      have h3 : owesR (capL l) = (sumL l, 0) := by rw [owes_is g2 (by omega), h2]
      refine Or.inr ?_
      simp only [hg, if_true, capO, if_pos hl]
      exact ⟨trivial, h3, g2, by show l.intr - centsL l * 1000000 < _; omega⟩
    · exact Or.inl (by simp [hg, capO, hl])
theorem more_ways {l : Ln} {a : Int} (fee : Bool) (hg : goodL l = true) (c : Ln) (hc : c = if fee then { l with fees := l.fees + a } else { l with prin := l.prin + a })
    (ha : amountB a = true) (ho : openB l = true) (hl : (if fee then l.fees else l.prin) + a ≤ 10000000000000) :
    goodL c = true ∧ (owesR c = (sumL l + a, 0) ∨ owesR c = (0, 14)) := by
  have G := goodL_iff.1 hg
  obtain ⟨a0, a1⟩ := wB_iff.1 (show wB a 1 1000000000 = true from ha)
  have hcl := open_closed ho
  have f0 := G.fees0
  have p0 := G.prin0
  have g2 : goodL c = true := by
    subst hc
    cases fee with
    | true => exact goodL_iff.2 { G with fees0 := by show 0 ≤ l.fees + a; omega, fees1 := hl, empty := Or.inl hcl }
    | false => exact goodL_iff.2 { G with prin0 := by show 0 ≤ l.prin + a; omega, prin1 := hl, empty := Or.inl hcl }
  have h2 : sumL c = sumL l + a := by
    subst hc
    cases fee with
    | true => show l.prin + (l.fees + a) + centsL l = l.prin + l.fees + centsL l + a; omega
    | false => show l.prin + a + l.fees + centsL l = l.prin + l.fees + centsL l + a; omega
  refine ⟨g2, ?_⟩
  by_cases h : sumL c ≤ 10000000000000
  · left; rw [owes_is g2 h, h2]
  · right; exact owes_no g2 h
theorem fee_ways {l : Ln} {a : Int} (hg : goodL l = true) :
    (feeR l a).2 ≠ 0 ∨ ((feeR l a).2 = 0 ∧ (1 ≤ a ∧ a ≤ 1000000000) ∧ goodL (feeR l a).1 = true ∧ (owesR (feeR l a).1 = (sumL l + a, 0) ∨ owesR (feeR l a).1 = (0, 14))) := by
  unfold feeR
  cases ha : amountB a with
  | false => exact Or.inl (by simp)
  | true =>
    cases ho : openB l with
    | false => exact Or.inl (by simp [hg])
    | true =>
      by_cases hl : l.fees + a ≤ 10000000000000
      · have h := more_ways true hg _ rfl ha ho hl
        refine Or.inr ?_
        simp only [hg, Bool.and_self, if_true, if_pos hl]
        exact ⟨trivial, wB_iff.1 (show wB a 1 1000000000 = true from ha), h.1, h.2⟩
      · exact Or.inl (by simp [hg, hl])
theorem draw_ways {l : Ln} {a : Int} (hg : goodL l = true) :
    (drawR l a).2 ≠ 0 ∨ ((drawR l a).2 = 0 ∧ (1 ≤ a ∧ a ≤ 1000000000) ∧ goodL (drawR l a).1 = true ∧ (owesR (drawR l a).1 = (sumL l + a, 0) ∨ owesR (drawR l a).1 = (0, 14))) := by
  unfold drawR
  cases ha : amountB a with
  | false => exact Or.inl (by simp)
  | true =>
    cases ho : openB l with
    | false => exact Or.inl (by simp [hg])
    | true =>
      by_cases hl : l.prin + a ≤ 10000000000000
      · have h := more_ways false hg _ rfl ha ho hl
        refine Or.inr ?_
        simp only [hg, Bool.and_self, if_true, if_pos hl]
        exact ⟨trivial, wB_iff.1 (show wB a 1 1000000000 = true from ha), h.1, h.2⟩
      · exact Or.inl (by simp [hg, hl])
/-- Paid. -/
theorem pay_ways {l : Ln} {f i p : Int} (hg : goodL l = true) (hs : sumL l ≤ 10000000000000) :
    (payR l f i p).2 ≠ 0 ∨ ((payR l f i p).2 = 0 ∧ (0 ≤ f ∧ 0 ≤ i ∧ 0 ≤ p ∧ 0 ≤ sumL l - f - i - p) ∧ owesR (payR l f i p).1 = (sumL l - f - i - p, 0) ∧ goodL (payR l f i p).1 = true ∧ (sumL l - f - i - p = 0 ↔ (payR l f i p).1.closed = 1)) := by
  have G := goodL_iff.1 hg
  obtain ⟨q0, q1, q2⟩ := cents_le G
  unfold payR
  cases hn : notB f i p with
  | false => exact Or.inl (by simp)
  | true =>
    cases ho : openB l with
    | false => exact Or.inl (by simp [hg])
    | true =>
      cases hh : hasB l f i p with
      | false => exact Or.inl (by simp [hg])
      | true =>
        have hcl := open_closed ho
        obtain ⟨⟨f0, i0⟩, p0⟩ : (0 ≤ f ∧ 0 ≤ i) ∧ 0 ≤ p := by unfold notB at hn; simpa using hn
        obtain ⟨⟨f1, i1⟩, p1⟩ : (f ≤ l.fees ∧ i ≤ centsL l) ∧ p ≤ l.prin := by unfold hasB at hh; simpa using hh
        have e0 := G.fees0
        have e1 := G.fees1
        have e2 := G.prin0
        have e3 := G.prin1
        have e4 := G.intr0
        have e5 := G.intr1
        have hw := whole_nn G.intr0
        have hc2 : centsL (lessL l f i p) = centsL l - i := by
          show wholeI (l.intr - i * 1000000) = wholeI l.intr - i
          have : 0 ≤ l.intr - i * 1000000 := by omega
          rw [whole_nn this, hw]
          omega
        have g2 : goodL (lessL l f i p) = true := goodL_iff.2 { G with
          prin0 := by show 0 ≤ l.prin - p; omega
          prin1 := by show l.prin - p ≤ _; omega
          fees0 := by show 0 ≤ l.fees - f; omega
          fees1 := by show l.fees - f ≤ _; omega
          intr0 := by show 0 ≤ l.intr - i * 1000000; omega
          intr1 := by show l.intr - i * 1000000 ≤ _; omega
          empty := Or.inl hcl }
        have h2 : sumL (lessL l f i p) = sumL l - f - i - p := by
          unfold sumL
          rw [hc2]
          show l.prin - p + (l.fees - f) + (centsL l - i) = _
          omega
        have h3 : 0 ≤ sumL l - f - i - p := by unfold sumL; omega
        refine Or.inr ?_
        simp only [hg, Bool.and_self, if_true]
        refine ⟨trivial, ⟨f0, i0, p0, h3⟩, ?_⟩
        unfold payO
        cases hp : paidB (lessL l f i p) with
        | true =>
          obtain ⟨⟨z1, z2⟩, z3⟩ : (l.fees - f = 0 ∧ centsL (lessL l f i p) = 0) ∧ l.prin - p = 0 := by unfold paidB at hp; simpa [lessL] using hp
          have h4 : sumL l - f - i - p = 0 := by unfold sumL; omega
          have G2 := goodL_iff.1 g2
          have g3 : goodL (shutL (lessL l f i p) 1) = true := goodL_iff.2 { G2 with
            prin0 := Int.le_refl _
            prin1 := by show (0 : Int) ≤ _; omega
            fees0 := Int.le_refl _
            fees1 := by show (0 : Int) ≤ _; omega
            intr0 := Int.le_refl _
            intr1 := by show (0 : Int) ≤ _; omega
            closed0 := by show (0 : Int) ≤ 1; omega
            closed1 := by show (1 : Int) ≤ 4; omega
            empty := Or.inr ⟨rfl, rfl, rfl⟩ }
          have h5 : sumL (shutL (lessL l f i p) 1) = 0 := rfl
          simp only [if_true]
          refine ⟨?_, g3, ?_⟩
          · rw [owes_is g3 (by rw [h5]; omega), h5, h4]
          · exact ⟨fun _ => rfl, fun _ => h4⟩
        | false =>
          have hq : ¬ ((l.fees - f = 0 ∧ centsL (lessL l f i p) = 0) ∧ l.prin - p = 0) := by unfold paidB at hp; simpa [lessL] using hp
          simp only [Bool.false_eq_true, if_false]
          refine ⟨?_, g2, ?_⟩
          · rw [owes_is g2 (by rw [h2]; omega), h2]
          · constructor
            · intro h
              exfalso
              apply hq
              unfold sumL at h
              omega
            · intro h
              exfalso
              have : l.closed = 1 := h
              omega
theorem turn_ways {l : Ln} {s : Int} (hg : goodL l = true) (hs : sumL l ≤ 10000000000000) :
    (turnR l s 5).2 ≠ 0 ∨ ((turnR l s 5).2 = 0 ∧ owesR (turnR l s 5).1 = (sumL l, 0) ∧ goodL (turnR l s 5).1 = true ∧ (turnR l s 5).1.status = s) := by
  have G := goodL_iff.1 hg
  have hd : dayB 5 = true := rfl
  unfold turnR
  cases ho : openB l with
  | false => exact Or.inl (by simp [hg, hd])
  | true =>
    have hcl := open_closed ho
    cases hm : mayB l s with
    | false => exact Or.inl (by simp [hg, hd])
    | true =>
      have hr : 1 ≤ s ∧ s ≤ 5 := by
        unfold mayB at hm
        simp only [Bool.and_eq_true] at hm
        exact wB_iff.1 hm.1.1
      simp only [hg, hd, Bool.and_self, if_true]
      unfold turnO
      by_cases h5 : s = 5
      · by_cases hl : l.prin + centsL l ≤ 10000000000000
        · rcases cap_ways hg hs with h | ⟨-, h1, h2, -⟩
          · exact absurd (show (capR l).2 = 0 by unfold capR capO; simp [hg, ho, hl]) h
          · have hcap : (capR l).1 = capL l := by unfold capR capO; simp [hg, ho, hl]
            rw [hcap] at h1 h2
            have G2 := goodL_iff.1 h2
            have g3 : goodL ({ capL l with entered := 5, status := s } : Ln) = true := goodL_iff.2 { G2 with
              entered0 := by show (-1 : Int) ≤ 5; omega
              entered1 := by show (5 : Int) ≤ 87658; omega
              status0 := hr.1
              status1 := hr.2
              empty := Or.inl hcl }
            have h4 : sumL ({ capL l with entered := 5, status := s } : Ln) = sumL (capL l) := rfl
            have h6 : sumL (capL l) = sumL l ∧ sumL (capL l) ≤ 10000000000000 := by
              by_cases h : sumL (capL l) ≤ 10000000000000
              · rw [owes_is h2 h] at h1
                exact ⟨(Prod.mk.inj h1).1, h⟩
              · rw [owes_no h2 h] at h1
                exact absurd (Prod.mk.inj h1).2 (by decide)
            rw [if_pos h5, if_pos hl]
            exact Or.inr ⟨rfl, by show owesR ({ capL l with entered := 5, status := s } : Ln) = _; rw [owes_is g3 (by rw [h4]; exact h6.2), h4, h6.1], g3, rfl⟩
        · rw [if_pos h5, if_neg hl]
          exact Or.inl (by decide)
      · have g3 : goodL ({ l with status := s } : Ln) = true := goodL_iff.2 { G with status0 := hr.1, status1 := hr.2, empty := Or.inl hcl }
        rw [if_neg h5]
        exact Or.inr ⟨rfl, by show owesR ({ l with status := s } : Ln) = _; rw [owes_is g3 hs]; rfl, g3, rfl⟩
theorem close_ways {l : Ln} {how : Int} (hg : goodL l = true) (hs : sumL l ≤ 10000000000000) (h0 : 1 ≤ how) (h4 : how ≤ 4) :
    (l.closed ≠ 0 ∧ (closeR l how).2.2 = 61 ∧ sumL l = 0) ∨
    (l.closed = 0 ∧ (closeR l how).2.2 = 0 ∧ (closeR l how).2.1 = sumL l ∧ owesR (closeR l how).1 = (0, 0) ∧ goodL (closeR l how).1 = true ∧ (closeR l how).1.closed = how) := by
  have G := goodL_iff.1 hg
  have hw : wB how 1 4 = true := wB_iff.2 ⟨h0, h4⟩
  unfold closeR
  cases ho : openB l with
  | false =>
    have hc : l.closed ≠ 0 := by
      intro h
      rw [show openB l = true by unfold openB; rw [h]; rfl] at ho
      cases ho
    left
    refine ⟨hc, by simp [hg, hw], ?_⟩
    rcases G.empty with h | ⟨z1, z2, z3⟩
    · exact absurd h hc
    · unfold sumL centsL
      rw [z1, z2, z3]
      rfl
  | true =>
    right
    have g3 : goodL (shutL l how) = true := goodL_iff.2 { G with
      prin0 := Int.le_refl _
      prin1 := by show (0 : Int) ≤ _; omega
      fees0 := Int.le_refl _
      fees1 := by show (0 : Int) ≤ _; omega
      intr0 := Int.le_refl _
      intr1 := by show (0 : Int) ≤ _; omega
      closed0 := by show (0 : Int) ≤ how; omega
      closed1 := h4
      empty := Or.inr ⟨rfl, rfl, rfl⟩ }
    have h5 : sumL (shutL l how) = 0 := rfl
    simp only [hg, hw, Bool.and_self, if_true, if_pos hs]
    exact ⟨open_closed ho, trivial, trivial, by rw [owes_is g3 (by rw [h5]; omega), h5], g3, rfl⟩
end Go.Proofs.Ytkegmgjagcefhaa.Loan
