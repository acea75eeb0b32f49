/- Weights that are all so many times as great share out the same; a weight of 0 more changes nothing for the others. -/
import Derived.Test.YtbdcinecdigjgaaFairMath
namespace Go.Proofs.Ytbdcinecdigjgaa.Share
open Go.ChangeShapes Go.WideShapes Go.ChangeAt Go.RowKit Bits Money Slice Stable

theorem pre_scale (f : Nat → Int) (m : Int) (n : Nat) : pre (fun i => f i * m) n = pre f n * m := by
  induction n with
  | zero => simp [pre_zero]
  | succ n ih => rw [pre_succ, pre_succ, ih, Int.add_mul]
theorem div_scale (x s m : Int) (hm : 0 < m) : x * m / (s * m) = x / s := Int.mul_ediv_mul_of_pos_left x s hm
theorem mod_scale (x s m : Int) (hm : 0 < m) : x * m % (s * m) = x % s * m := by
  rw [Int.mul_comm x m, Int.mul_comm s m, Int.mul_emod_mul_of_pos _ _ hm, Int.mul_comm]

section
variable {t s m : Int} {zs ys : List Int} {Q Q' : Nat → Nat}
theorem out_congr {n : Nat} {f g : Nat → Int} {s' : Int} (hq : ∀ i, i < n → quo t s f i = quo t s' g i) (hQ : ∀ i, i < n → Q i = Q' i) (hl : lft t s f n = lft t s' g n) (hb : 0 ≤ lft t s f n ∧ lft t s f n ≤ n) {i : Nat} (hi : i < n) :
    outS t s f n Q i = outS t s' g n Q' i := by
  unfold outS
  rw [hq i hi, ← hl, bump_congr fun j hj => hQ j (by omega)]
theorem scaled_same (hm : 0 < m) (hl : ys.length = zs.length) (hy : ∀ i, i < zs.length → wt ys i = wt zs i * m) (hw : Weights t s (wt zs) zs.length) (h : Places t s zs Q) (h' : Places t (s * m) ys Q') : outL t (s * m) ys Q' = outL t s zs Q := by
  have hq : ∀ i, i < zs.length → quo t s (wt zs) i = quo t (s * m) (wt ys) i := fun i hi => by
    unfold quo
    rw [hy i hi, ← Int.mul_assoc, div_scale _ _ _ hm]
  have hr : ∀ i, i < zs.length → rst t (s * m) (wt ys) i = rst t s (wt zs) i * m := fun i hi => by
    unfold rst
    rw [hy i hi, ← Int.mul_assoc, mod_scale _ _ _ hm]
  have hQ : ∀ i, i < zs.length → Q i = Q' i := by
    refine sorted_one h.re (by rw [← hl]; exact h'.re) h.srt (by rw [← hl]; exact h'.srt) fun i j hi hj h1 h2 => ?_
    unfold ordR at h1 h2
    have a1 := rsL_at t s zs hi
    have a2 := rsL_at t s zs hj
    have a3 := rsL_at t (s * m) ys (i := i) (by omega)
    have a4 := rsL_at t (s * m) ys (i := j) (by omega)
    rw [a1, a2] at h1
    rw [a3, a4, hr i hi, hr j hj] at h2
    have c1 : rst t s (wt zs) i * m < rst t s (wt zs) j * m → rst t s (wt zs) i < rst t s (wt zs) j := fun h => Int.lt_of_mul_lt_mul_right h (Int.le_of_lt hm)
    have c2 : rst t s (wt zs) j * m = rst t s (wt zs) i * m → rst t s (wt zs) j = rst t s (wt zs) i := fun h => Int.eq_of_mul_eq_mul_right (by omega) h
    rcases h2 with h2 | ⟨h2, h3⟩
    · have := c1 h2; omega
    · have := c2 h2; omega
  have hlf : lft t s (wt zs) zs.length = lft t (s * m) (wt ys) zs.length := by
    unfold lft
    rw [pre_congr hq]
  unfold outL
  rw [hl]
  refine List.map_congr_left fun i hi => ?_
  exact (out_congr hq hQ hlf hw.left_bd (List.mem_range.1 hi)).symm
theorem more_same (hl : ys.length = zs.length + 1) (hy : ∀ i, i < zs.length → wt ys i = wt zs i) (h0 : wt ys zs.length = 0) (hw : Weights t s (wt zs) zs.length) (h : Places t s zs Q) (h' : Places t s ys Q') : outL t s ys Q' = outL t s zs Q ++ [0] := by
  have hq : ∀ i, i < zs.length → quo t s (wt zs) i = quo t s (wt ys) i := fun i hi => by unfold quo; rw [hy i hi]
  have hr : ∀ i, i < zs.length → rst t s (wt ys) i = rst t s (wt zs) i := fun i hi => by unfold rst; rw [hy i hi]
  have r0 : rst t s (wt ys) zs.length = 0 := by unfold rst; rw [h0]; simp
  have q0 : quo t s (wt ys) zs.length = 0 := by unfold quo; rw [h0]; simp
  have re' := h'.re
  have srt' := h'.srt
  rw [hl] at re' srt'
  have hlast : Q' zs.length = zs.length := by
    obtain ⟨k, hk, ek⟩ := place_onto re' (j := zs.length) (by omega)
    by_cases e : k = zs.length
    · rw [e] at ek; exact ek
    · exfalso
      have ho := srt' k zs.length (Nat.zero_le _) (by omega) (by omega)
      rw [ek] at ho
      have hlt : Q' zs.length < zs.length := by
        have := place_lt re' (i := zs.length) (by omega)
        by_cases z : Q' zs.length = zs.length
        · rw [← ek] at z
          have := place_inj re' _ _ z
          rw [ek] at this
          omega
        · omega
      unfold ordR at ho
      have a1 := rsL_at t s ys (i := zs.length) (by omega)
      have a2 := rsL_at t s ys (i := Q' zs.length) (by omega)
      rw [a1, a2, r0] at ho
      have := hw.r0 (Q' zs.length)
      rw [← hr _ hlt] at this
      omega
  have re'' : Re 0 zs.length (fun i => i) Q' := by
    obtain ⟨p, p1, p2, p3⟩ := re'
    refine ⟨p, p1, fun i hi => ?_, p3⟩
    by_cases e : i = zs.length
    · rw [e]; have := p3 zs.length; rw [hlast] at this; exact this.symm
    · exact p2 i (by omega)
  have hQ : ∀ i, i < zs.length → Q i = Q' i := by
    refine sorted_one h.re re'' h.srt (fun i j x1 x2 x3 => srt' i j x1 x2 (by omega)) fun i j hi hj h1 h2 => ?_
    unfold ordR at h1 h2
    have a1 := rsL_at t s zs hi
    have a2 := rsL_at t s zs hj
    have a3 := rsL_at t s ys (i := i) (by omega)
    have a4 := rsL_at t s ys (i := j) (by omega)
    rw [a1, a2] at h1
    rw [a3, a4, hr i hi, hr j hj] at h2
    omega
  have hlf : lft t s (wt ys) (zs.length + 1) = lft t s (wt zs) zs.length := by
    unfold lft
    rw [pre_succ, q0, pre_congr hq]; omega
  have hlb := hw.left_bd
  have ob : ∀ i, i < zs.length → outS t s (wt ys) (zs.length + 1) Q' i = outS t s (wt zs) zs.length Q i := fun i hi => by
    unfold outS
    rw [hlf, hq i hi, bump_congr fun j hj => hQ j (by omega)]
  have ol : outS t s (wt ys) (zs.length + 1) Q' zs.length = 0 := by
    unfold outS
    rw [hlf, q0]
    have hb : bump Q' (lft t s (wt zs) zs.length).toNat zs.length = 0 := by
      have := bump_at re' (lft t s (wt zs) zs.length).toNat zs.length
      rw [hlast, if_neg (by omega)] at this
      exact this
    rw [hb]; rfl
  unfold outL
  rw [hl, List.range_succ, List.map_append]
  congr 1
  · exact List.map_congr_left fun i hi => ob i (List.mem_range.1 hi)
  · simp [ol]
end
end Go.Proofs.Ytbdcinecdigjgaa.Share
