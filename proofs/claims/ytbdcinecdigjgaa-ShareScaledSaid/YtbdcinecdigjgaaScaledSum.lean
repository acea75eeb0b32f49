/- Small weights can be shared out by, just where one of them is above 0. -/
import Derived.Test.YtbdcinecdigjgaaScaledMath
namespace Go.Proofs.Ytbdcinecdigjgaa.Share
open Go.ChangeShapes Go.WideShapes Go.ChangeAt Go.RowKit Bits Money Slice Stable

theorem pre_max {f : Nat → Int} {n : Nat} {M : Int} (h : ∀ i, i < n → f i ≤ M) : pre f n ≤ n * M := by
  rw [← pre_const M n]; exact pre_le h
structure Small (zs : List Int) : Prop where
  len : zs.length ≤ 1000
  bd : ∀ i, i < zs.length → 0 ≤ wt zs i ∧ wt zs i ≤ 1000000000
theorem small_psum {zs : List Int} (h : Small zs) : ∀ j, j ≤ zs.length → psum (zs.take j) = some (pre (wt zs) j)
  | 0, _ => rfl
  | j + 1, hj => by
    rw [psum_step (by omega) (small_psum h j (by omega)), pre_succ]
    obtain ⟨b0, b1⟩ := h.bd j (by omega)
    have p0 := pre_nonneg (f := wt zs) (n := j) fun i hi => (h.bd i (by omega)).1
    have p1 := pre_max (f := wt zs) (n := j) (M := 1000000000) fun i hi => (h.bd i (by omega)).2
    have hl := h.len
    have e : zs.getD j 0 = wt zs j := rfl
    rw [e]
    exact plusO_some ⟨(goodB_iff _).2 ⟨by omega, by omega⟩, (goodB_iff _).2 ⟨by omega, by omega⟩, (goodB_iff _).2 ⟨by omega, by omega⟩⟩
theorem small_all {zs : List Int} (h : Small zs) : psum zs = some (pre (wt zs) zs.length) := by
  have := small_psum h zs.length (Nat.le_refl _)
  rwa [List.take_length] at this
theorem small_fit {t : Int} {zs : List Int} (h : Small zs) (t0 : 0 ≤ t) (t1 : t ≤ 10000000000000) : fitB t zs = true :=
  (fitB_iff t zs).2 ⟨h.len, (okB_iff t).2 ⟨t0, t1⟩, (allB_to zs).2 fun i hi => (okB_iff _).2 (by have := h.bd i hi; exact ⟨this.1, by have := this.2; unfold wt at this; omega⟩)⟩
theorem small_some {zs : List Int} (h : Small zs) (hs : (List.range zs.length).any (fun i => decide (0 < wt zs i)) = true) : 0 < pre (wt zs) zs.length := by
  obtain ⟨i, hi, hp⟩ := List.any_eq_true.1 hs
  have hi' := List.mem_range.1 hi
  have hp' : 0 < wt zs i := by simpa using hp
  have m := pre_mono (f := wt zs) (j := i + 1) (fun i hi => (h.bd i hi).1) (by omega)
  rw [pre_succ] at m
  have p0 := pre_nonneg (f := wt zs) (n := i) fun k hk => (h.bd k (by omega)).1
  omega
theorem small_none {zs : List Int} (h : Small zs) (hs : (List.range zs.length).any (fun i => decide (0 < wt zs i)) = false) : pre (wt zs) zs.length = 0 := by
  have hz : ∀ i, i < zs.length → wt zs i = 0 := fun i hi => by
    have b := h.bd i hi
    by_cases e : 0 < wt zs i
    · exfalso
      have : (List.range zs.length).any (fun i => decide (0 < wt zs i)) = true := List.any_eq_true.2 ⟨i, List.mem_range.2 hi, by simpa using e⟩
      rw [hs] at this; cases this
    · omega
  have := pre_congr (f := wt zs) (g := fun _ => 0) hz
  rw [this, pre_const]; omega
theorem small_split {t : Int} {zs : List Int} (h : Small zs) (t0 : 0 ≤ t) (t1 : t ≤ 10000000000000) : splitS t zs = if pre (wt zs) zs.length = 0 then none else some (pre (wt zs) zs.length) := by
  unfold splitS
  rw [small_all h]
  by_cases e : pre (wt zs) zs.length = 0
  · rw [if_pos e, if_neg]
    rintro ⟨-, h2⟩
    exact h2 (by rw [e])
  · rw [if_neg e, if_pos ⟨small_fit h t0 t1, by intro h2; injection h2 with h2; exact e h2⟩]
/-- The weights times m, and with one of 0 behind. -/
def scaleL (zs : List Int) (m : Int) : List Int := (List.range zs.length).map fun i => zs.getD i 0 * m
theorem scaleL_len (zs : List Int) (m : Int) : (scaleL zs m).length = zs.length := by simp [scaleL]
theorem scaleL_at {zs : List Int} {m : Int} {i : Nat} (hi : i < zs.length) : wt (scaleL zs m) i = wt zs i * m := by simp [scaleL, wt, List.getD_eq_getElem?_getD, hi]
theorem more_at {zs : List Int} {i : Nat} (hi : i < zs.length) : wt (zs ++ [0]) i = wt zs i := by simp [wt, List.getD_eq_getElem?_getD, List.getElem?_append_left hi]
theorem more_last (zs : List Int) : wt (zs ++ [0]) zs.length = 0 := by simp [wt, List.getD_eq_getElem?_getD]
theorem scale_small {zs : List Int} {m : Int} (hl : zs.length ≤ 100) (h : ∀ i, i < zs.length → 0 ≤ zs.getD i 0 ∧ zs.getD i 0 ≤ 65535) (m0 : 1 ≤ m) (m1 : m ≤ 256) : Small zs ∧ Small (scaleL zs m) ∧ Small (zs ++ [0]) := by
  refine ⟨⟨by omega, fun i hi => by have := h i hi; exact ⟨this.1, by show zs.getD i 0 ≤ _; omega⟩⟩, ⟨by rw [scaleL_len]; omega, fun i hi => ?_⟩, ⟨by simp; omega, fun i hi => ?_⟩⟩
  · rw [scaleL_len] at hi
    rw [scaleL_at hi]
    obtain ⟨a, b⟩ := h i hi
    have c : wt zs i * m ≤ 65535 * 256 := Int.mul_le_mul b m1 (by omega) (by omega)
    exact ⟨Int.mul_nonneg a (by omega), by omega⟩
  · by_cases e : i < zs.length
    · rw [more_at e]; have := h i e; exact ⟨this.1, by show zs.getD i 0 ≤ _; omega⟩
    · have : i = zs.length := by simp at hi; omega
      rw [this, more_last]; omega
theorem pre_scaled (zs : List Int) (m : Int) : pre (wt (scaleL zs m)) (scaleL zs m).length = pre (wt zs) zs.length * m := by
  rw [scaleL_len, ← pre_scale]
  exact pre_congr fun i hi => scaleL_at hi
theorem pre_more (zs : List Int) : pre (wt (zs ++ [0])) (zs ++ [0]).length = pre (wt zs) zs.length := by
  rw [List.length_append]
  show pre _ (zs.length + 1) = _
  rw [pre_succ, more_last, pre_congr (g := wt zs) fun i hi => more_at hi]; omega
end Go.Proofs.Ytbdcinecdigjgaa.Share
