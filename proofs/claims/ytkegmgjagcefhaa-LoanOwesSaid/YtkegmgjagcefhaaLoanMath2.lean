/- Of layer 14: days and days more; what is owed (plain). -/
import Derived.Test.YtkegmgjagcefhaaLoanPlain
namespace Go.Proofs.Ytkegmgjagcefhaa.Loan
open Go.ChangeShapes Go.WideShapes Go.ChangeAt Go.RowKit Accr Box

theorem acc_sub {l : Ln} {d : Int} (hg : goodL l = true) (hd : dayB d = true) (ho : openB l = true) (hs : sparedB l = true) :
    (l.subs + dayI l.prin l.ppm * d ≤ 1000000000000000000 → accR l d = ({ l with subs := l.subs + dayI l.prin l.ppm * d }, 0)) ∧ (¬ l.subs + dayI l.prin l.ppm * d ≤ 1000000000000000000 → accR l d = (ln0, 14)) := by
  have G := goodL_iff.1 hg
  have D := wB_iff.1 (show wB d 0 87658 = true from hd)
  have O : okD l.prin l.ppm = true := okD_iff.2 ⟨G.prin0, G.prin1, G.ppm0, G.ppm1⟩
  have hk : okA l.subs l.prin l.ppm d = true := okA_iff.2 ⟨G.subs0, G.subs1, O, D.1, D.2⟩
  constructor
  · intro h
    obtain ⟨h1, h2⟩ := aV_yes hk h
    unfold accR accO
    simp [hg, hd, ho, hs, h1, h2]
  · intro h
    obtain ⟨h1, h2⟩ := aV_over hk h
    unfold accR accO
    simp [hg, hd, ho, hs, h2]
theorem acc_int {l : Ln} {d : Int} (hg : goodL l = true) (hd : dayB d = true) (ho : openB l = true) (hs : sparedB l = false) :
    (l.intr + dayI l.prin l.ppm * d ≤ 1000000000000000000 → accR l d = ({ l with intr := l.intr + dayI l.prin l.ppm * d }, 0)) ∧ (¬ l.intr + dayI l.prin l.ppm * d ≤ 1000000000000000000 → accR l d = (ln0, 14)) := by
  have G := goodL_iff.1 hg
  have D := wB_iff.1 (show wB d 0 87658 = true from hd)
  have O : okD l.prin l.ppm = true := okD_iff.2 ⟨G.prin0, G.prin1, G.ppm0, G.ppm1⟩
  have hk : okA l.intr l.prin l.ppm d = true := okA_iff.2 ⟨G.intr0, G.intr1, O, D.1, D.2⟩
  constructor
  · intro h
    obtain ⟨h1, h2⟩ := aV_yes hk h
    unfold accR accO
    simp [hg, hd, ho, hs, h1, h2]
  · intro h
    obtain ⟨h1, h2⟩ := aV_over hk h
    unfold accR accO
    simp [hg, hd, ho, hs, h2]
theorem acc_shut {l : Ln} {d : Int} (hg : goodL l = true) (hd : dayB d = true) (ho : openB l = false) : accR l d = (l, 0) := by
  unfold accR
  simp [hg, hd, ho]
theorem acc_bad {l : Ln} {d : Int} (hg : goodL l = false) : accR l d = (ln0, 1) := by
  unfold accR
  simp [hg]
theorem dayI_nn {l : Ln} (hg : goodL l = true) : 0 ≤ dayI l.prin l.ppm := by
  have G := goodL_iff.1 hg
  exact (dayI_le (okD_iff.2 ⟨G.prin0, G.prin1, G.ppm0, G.ppm1⟩)).1
/-- The ways of days and days more. -/
theorem days_ways {l : Ln} {x y : Int} (x0 : 0 ≤ x) (x1 : x ≤ 65535) (y0 : 0 ≤ y) (y1 : y ≤ 19999) :
    (∃ e, e ≠ 0 ∧ (accR l (x + y)).2 = e ∧ (accR l x).2 = e) ∨ ((accR l x).2 = 0 ∧ (accR l (x + y)).2 = 14) ∨
    ((accR l x).2 = 0 ∧ (accR l (x + y)).2 = 0 ∧ accR (accR l x).1 y = accR l (x + y) ∧ (accR l (x + y)).1.prin = l.prin ∧ l.intr ≤ (accR l (x + y)).1.intr ∧ l.subs ≤ (accR l (x + y)).1.subs ∧ (l.closed ≠ 0 → (accR l (x + y)).1 = l)) := by
  cases hg : goodL l with
  | false => exact Or.inl ⟨1, by decide, by rw [acc_bad hg], by rw [acc_bad hg]⟩
  | true =>
    have dx : dayB x = true := wB_iff.2 ⟨x0, by omega⟩
    have dy : dayB y = true := wB_iff.2 ⟨y0, by omega⟩
    have dz : dayB (x + y) = true := wB_iff.2 ⟨by omega, by omega⟩
    have hc : openB l = true → l.closed = 0 := fun h => by unfold openB at h; simpa using h
    cases ho : openB l with
    | false =>
      rw [acc_shut hg dx ho, acc_shut hg dz ho]
      exact Or.inr (Or.inr ⟨rfl, rfl, acc_shut hg dy ho, rfl, Int.le_refl _, Int.le_refl _, fun _ => rfl⟩)
    | true =>
      have hd := dayI_nn hg
      have m1 := Int.mul_nonneg hd x0
      have m2 := Int.mul_nonneg hd y0
      have m3 : dayI l.prin l.ppm * (x + y) = dayI l.prin l.ppm * x + dayI l.prin l.ppm * y := Int.mul_add _ _ _
      have G := goodL_iff.1 hg
      cases hs : sparedB l with
      | true =>
        obtain ⟨p1, p2⟩ := acc_sub hg dx ho hs
        obtain ⟨q1, q2⟩ := acc_sub hg dz ho hs
        by_cases h1 : l.subs + dayI l.prin l.ppm * x ≤ 1000000000000000000
        · by_cases h2 : l.subs + dayI l.prin l.ppm * (x + y) ≤ 1000000000000000000
          · rw [p1 h1, q1 h2]
            refine Or.inr (Or.inr ⟨rfl, rfl, ?_, rfl, ?_, ?_, fun h => absurd (hc ho) h⟩)
            · have hg2 : goodL ({ l with subs := l.subs + dayI l.prin l.ppm * x } : Ln) = true := goodL_iff.2 { G with subs0 := by have := G.subs0; show 0 ≤ l.subs + dayI l.prin l.ppm * x; omega, subs1 := h1, empty := Or.inl (hc ho) }
              have h3 := (acc_sub (l := ({ l with subs := l.subs + dayI l.prin l.ppm * x } : Ln)) hg2 dy ho hs).1 (by show l.subs + dayI l.prin l.ppm * x + dayI l.prin l.ppm * y ≤ 1000000000000000000; omega)
              rw [h3]
              show (({ l with subs := l.subs + dayI l.prin l.ppm * x + dayI l.prin l.ppm * y } : Ln), (0 : Int)) = _
              rw [m3, Int.add_assoc]
            · show l.intr ≤ l.intr
              omega
            · show l.subs ≤ l.subs + dayI l.prin l.ppm * (x + y)
              omega
          · rw [p1 h1, q2 h2]
            exact Or.inr (Or.inl ⟨rfl, rfl⟩)
        · rw [p2 h1, q2 (by omega)]
          exact Or.inl ⟨14, by decide, rfl, rfl⟩
      | false =>
        obtain ⟨p1, p2⟩ := acc_int hg dx ho hs
        obtain ⟨q1, q2⟩ := acc_int hg dz ho hs
        by_cases h1 : l.intr + dayI l.prin l.ppm * x ≤ 1000000000000000000
        · by_cases h2 : l.intr + dayI l.prin l.ppm * (x + y) ≤ 1000000000000000000
          · rw [p1 h1, q1 h2]
            refine Or.inr (Or.inr ⟨rfl, rfl, ?_, rfl, ?_, ?_, fun h => absurd (hc ho) h⟩)
            · have hg2 : goodL ({ l with intr := l.intr + dayI l.prin l.ppm * x } : Ln) = true := goodL_iff.2 { G with intr0 := by have := G.intr0; show 0 ≤ l.intr + dayI l.prin l.ppm * x; omega, intr1 := h1, empty := Or.inl (hc ho) }
              have h3 := (acc_int (l := ({ l with intr := l.intr + dayI l.prin l.ppm * x } : Ln)) hg2 dy ho hs).1 (by show l.intr + dayI l.prin l.ppm * x + dayI l.prin l.ppm * y ≤ 1000000000000000000; omega)
              rw [h3]
              show (({ l with intr := l.intr + dayI l.prin l.ppm * x + dayI l.prin l.ppm * y } : Ln), (0 : Int)) = _
              rw [m3, Int.add_assoc]
            · show l.intr ≤ l.intr + dayI l.prin l.ppm * (x + y)
              omega
            · show l.subs ≤ l.subs
              omega
          · rw [p1 h1, q2 h2]
            exact Or.inr (Or.inl ⟨rfl, rfl⟩)
        · rw [p2 h1, q2 (by omega)]
          exact Or.inl ⟨14, by decide, rfl, rfl⟩
end Go.Proofs.Ytkegmgjagcefhaa.Loan
