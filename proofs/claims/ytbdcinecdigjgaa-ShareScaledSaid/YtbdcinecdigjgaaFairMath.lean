/- What follows of parts shared out by weights: who weighs more gets no less. -/
import Derived.Test.YtbdcinecdigjgaaRefSplit2
import Derived.Test.YtbdcinecdigjgaaRnd
namespace Go.Proofs.Ytbdcinecdigjgaa.Share
open Go.ChangeShapes Go.WideShapes Go.ChangeAt Go.RowKit Bits Money Slice Stable

section
variable {t s : Int} {zs : List Int} {Q : Nat → Nat}
theorem Places.desc (h : Places t s zs Q) : ∀ i j, i < j → j < zs.length → rst t s (wt zs) (Q j) ≤ rst t s (wt zs) (Q i) := by
  intro i j hij hj
  have ho := h.srt i j (Nat.zero_le _) hij hj
  unfold ordR at ho
  have p1 := rsL_at t s zs (i := Q i) (place_lt h.re (by omega))
  have p2 := rsL_at t s zs (i := Q j) (place_lt h.re hj)
  rw [p1, p2] at ho
  omega
/-- What one gets. -/
structure One (t s : Int) (zs : List Int) (Q : Nat → Nat) (i : Nat) (d u a : Int) : Prop where
  down : mdV t (wt zs i) s 0 = d ∧ mdE t (wt zs i) s 0 = 0
  up : mdV t (wt zs i) s 1 = u ∧ mdE t (wt zs i) s 1 = 0
  lo : d ≤ a
  hi : a ≤ u
  none : wt zs i = 0 → a = 0
  a0 : 0 ≤ a
  a1 : a ≤ t
theorem md_ok {a b c how : Int} (a0 : 0 ≤ a) (b0 : 0 ≤ b) (c0 : 0 < c) (h0 : 0 ≤ how) (h1 : how ≤ 2) (h : rnd a b c how ≤ 10000000000000) : mdV a b c how = rnd a b c how ∧ mdE a b c how = 0 :=
  md_in (by unfold mdBad; omega) (by omega)
theorem one_of (hw : Weights t s (wt zs) zs.length) (t1 : t ≤ 10000000000000) (h : Places t s zs Q) {i : Nat} (hi : i < zs.length) :
    One t s zs Q i (quo t s (wt zs) i) (quo t s (wt zs) i + if 0 < rst t s (wt zs) i then 1 else 0) (outS t s (wt zs) zs.length Q i) := by
  have q0 := hw.q0 hi
  have q1 := hw.q1 hi
  have r0 := hw.r0 i
  have e := quo_rst t s (wt zs) i
  have hb := bump_bd Q (lft t s (wt zs) zs.length).toNat i
  have hlt : 0 < rst t s (wt zs) i → quo t s (wt zs) i + 1 ≤ t := fun h0 => by
    have h1 : t * wt zs i ≤ t * s := Int.mul_le_mul_of_nonneg_left (hw.le hi) hw.t0
    have h2 : quo t s (wt zs) i * s < t * s := by omega
    have := Int.lt_of_mul_lt_mul_right h2 (Int.le_of_lt hw.s0)
    omega
  have hz : rst t s (wt zs) i = 0 → bump Q (lft t s (wt zs) zs.length).toNat i = 0 := fun h0 => hw.none h.re h.desc h0
  have hd : rnd t (wt zs i) s 0 = quo t s (wt zs) i := rnd_down _ _ _
  have hu : rnd t (wt zs i) s 1 = quo t s (wt zs) i + if 0 < rst t s (wt zs) i then 1 else 0 := rnd_up _ _ _
  have w0 := hw.w0 i hi
  have hup : quo t s (wt zs) i + (if 0 < rst t s (wt zs) i then 1 else 0) ≤ t := by
    split
    · exact hlt ‹_›
    · omega
  have hb2 : bump Q (lft t s (wt zs) zs.length).toNat i ≤ if 0 < rst t s (wt zs) i then 1 else 0 := by
    split
    · exact hb.2
    · rw [hz (by omega)]; exact Int.le_refl _
  refine ⟨?_, ?_, by unfold outS; omega, by unfold outS; omega, fun hw0 => ?_, by unfold outS; omega, by unfold outS; omega⟩
  · rw [← hd]; exact md_ok hw.t0 w0 hw.s0 (by omega) (by omega) (by rw [hd]; omega)
  · rw [← hu]; exact md_ok hw.t0 w0 hw.s0 (by omega) (by omega) (by rw [hu]; omega)
  · have hq : quo t s (wt zs) i = 0 := by unfold quo; rw [hw0]; simp
    have hr : rst t s (wt zs) i = 0 := by unfold rst; rw [hw0]; simp
    unfold outS
    rw [hq, hz hr]; rfl
/-- Who weighs no more gets no more, or comes first. -/
theorem pair_of (hw : Weights t s (wt zs) zs.length) (h : Places t s zs Q) {a b : Nat} (ha : a < zs.length) (hb : b < zs.length) (hab : wt zs a < wt zs b ∨ wt zs a = wt zs b ∧ b < a) :
    outS t s (wt zs) zs.length Q a ≤ outS t s (wt zs) zs.length Q b := by
  have hle : wt zs a ≤ wt zs b := by omega
  have hm : t * wt zs a ≤ t * wt zs b := Int.mul_le_mul_of_nonneg_left hle hw.t0
  have ba := bump_bd Q (lft t s (wt zs) zs.length).toNat a
  have bb := bump_bd Q (lft t s (wt zs) zs.length).toNat b
  have hq : quo t s (wt zs) a ≤ quo t s (wt zs) b := Int.ediv_le_ediv hw.s0 hm
  have ea := quo_rst t s (wt zs) a
  have eb := quo_rst t s (wt zs) b
  have hord : rst t s (wt zs) a < rst t s (wt zs) b ∨ (rst t s (wt zs) a = rst t s (wt zs) b ∧ b < a) → bump Q (lft t s (wt zs) zs.length).toNat a ≤ bump Q (lft t s (wt zs) zs.length).toNat b := fun hr => by
    refine bump_ahead h.re h.srt (ordR_asymm _) hb ?_
    unfold ordR
    rw [rsL_at t s zs ha, rsL_at t s zs hb]
    omega
  unfold outS
  by_cases e : quo t s (wt zs) a = quo t s (wt zs) b
  · rw [e] at ea ⊢
    rcases hab with hlt | ⟨heq, hidx⟩
    · by_cases e2 : rst t s (wt zs) a = rst t s (wt zs) b
      · have hmul : t * wt zs a = t * wt zs b := by omega
        have ht : t = 0 := by
          by_cases h1 : 0 < t
          · have := Int.eq_of_mul_eq_mul_left (by omega) hmul
            omega
          · have := hw.t0; omega
        have za : rst t s (wt zs) a = 0 := by unfold rst; rw [ht]; simp
        have zb : rst t s (wt zs) b = 0 := by rw [← e2]; exact za
        rw [hw.none h.re h.desc za, hw.none h.re h.desc zb]
        exact Int.le_refl _
      · have := hord (Or.inl (by omega)); omega
    · have hmul : t * wt zs a = t * wt zs b := by rw [heq]
      have := hord (Or.inr ⟨by omega, hidx⟩)
      omega
  · omega
end
end Go.Proofs.Ytbdcinecdigjgaa.Share
