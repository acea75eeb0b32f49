/- Of layer 14: what follows of a good loan. -/
import Derived.Test.YtkegmgjagcefhaaLoanMath
namespace Go.Proofs.Ytkegmgjagcefhaa.Loan
open Go.ChangeShapes Go.WideShapes Go.ChangeAt Go.RowKit Accr Box

theorem cents_le {l : Ln} (h : Good l) : 0 ≤ centsL l ∧ centsL l ≤ 1000000000000 ∧ centsL l * 1000000 ≤ l.intr := by
  have h0 := h.intr0
  have h1 := h.intr1
  unfold centsL wholeI
  rw [if_neg (by omega)]
  omega
theorem aE_two {h p r n : Int} (hk : okA h p r n = true) : aE h p r n = 0 ∨ aE h p r n = 14 := by
  by_cases hs : h + dayI p r * n ≤ 1000000000000000000
  · exact Or.inl (aV_yes hk hs).2
  · exact Or.inr (aV_over hk hs).2
theorem aE_good {l : Ln} {d : Int} (hg : (goodL l && dayB d) = true) : (aE l.subs l.prin l.ppm d = 0 ∨ aE l.subs l.prin l.ppm d = 14) ∧ (aE l.intr l.prin l.ppm d = 0 ∨ aE l.intr l.prin l.ppm d = 14) := by
  obtain ⟨h1, h2⟩ := Bool.and_eq_true_iff.1 hg
  have G := goodL_iff.1 h1
  have D := wB_iff.1 (show wB d 0 87658 = true from h2)
  have O : okD l.prin l.ppm = true := okD_iff.2 ⟨G.prin0, G.prin1, G.ppm0, G.ppm1⟩
  exact ⟨aE_two (okA_iff.2 ⟨G.subs0, G.subs1, O, D.1, D.2⟩), aE_two (okA_iff.2 ⟨G.intr0, G.intr1, O, D.1, D.2⟩)⟩
end Go.Proofs.Ytkegmgjagcefhaa.Loan
