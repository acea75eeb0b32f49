/- What the document's own Split tells, at any total and any weights. -/
import Derived.Test.YtbdcinecdigjgaaSplit
import Derived.Test.YtbdcinecdigjgaaRefFill
namespace Go.Proofs.Ytbdcinecdigjgaa.Share
open Go.ChangeShapes Go.WideShapes Go.ChangeAt Go.RowKit Bits Money Slice Law Stable

/-- By what sum is shared out, if it can be. -/
def splitS (t : Int) (zs : List Int) : Option Int := if fitB t zs = true ∧ psum zs ≠ some 0 then psum zs else none
theorem splitS_some {t s : Int} {zs : List Int} (h : splitS t zs = some s) : fitB t zs = true ∧ psum zs = some s ∧ s ≠ 0 := by
  unfold splitS at h
  by_cases hc : fitB t zs = true ∧ psum zs ≠ some 0
  · rw [if_pos hc] at h
    exact ⟨hc.1, h, fun e => hc.2 (by rw [h, e])⟩
  · rw [if_neg hc] at h; cases h
theorem splitS_none {t : Int} {zs : List Int} (h : splitS t zs = none) : fitB t zs = false ∨ (fitB t zs = true ∧ psum zs = none) ∨ (fitB t zs = true ∧ psum zs = some 0) := by
  unfold splitS at h
  cases hf : fitB t zs with
  | false => exact Or.inl rfl
  | true =>
    rw [hf] at h
    by_cases hp : psum zs = some 0
    · exact Or.inr (Or.inr ⟨rfl, hp⟩)
    · rw [if_pos ⟨rfl, hp⟩] at h
      exact Or.inr (Or.inl ⟨rfl, h⟩)
theorem split_not (t : Int) (zs : List Int) (v : Value) (w : World) (hv : Ints w w.heap.size .i64 v zs) (h : splitS t zs = none) :
    Calls Try.prog 9 #[.int .i64 t, v] w (SplitNot w) := by
  rcases splitS_none h with h | ⟨h, hp⟩ | ⟨h, hp⟩
  · exact split_unfit t zs v _ w hv h
  · exact split_none t zs v w hv h hp
  · exact split_zero t zs v w hv h hp

/-- The sum so far, while it can be. -/
def SumTo (zs : List Int) (j : Nat) (x : Int) : Prop := OkTo zs j ∧ psum (zs.take j) = some x ∧ 0 ≤ x ∧ x ≤ 10000000000000
theorem sumTo_zero (zs : List Int) : SumTo zs 0 0 := ⟨okTo_zero zs, rfl, by omega, by omega⟩
theorem sumTo_succ {zs : List Int} {j : Nat} {x z : Int} (hj : j < zs.length) (h : SumTo zs j x) (hz : zs.getD j 0 = z) (h1 : okB z = true) (h2 : okB (x + z) = true) : SumTo zs (j + 1) (x + z) := by
  subst hz
  obtain ⟨a, b, c, d⟩ := h
  obtain ⟨e, f⟩ := (okB_iff _).1 h1
  obtain ⟨g, i⟩ := (okB_iff _).1 h2
  exact ⟨okTo_succ a h1, by rw [psum_step hj b]; exact plusO_some ⟨(goodB_iff _).2 ⟨by omega, by omega⟩, (goodB_iff _).2 ⟨by omega, by omega⟩, (goodB_iff _).2 ⟨by omega, by omega⟩⟩, g, i⟩
theorem sumTo_bad {t : Int} {zs : List Int} {j : Nat} (hj : j < zs.length) (h : okB (zs.getD j 0) = false) : splitS t zs = none := by
  unfold splitS
  rw [if_neg]
  rintro ⟨h1, -⟩
  obtain ⟨-, -, h3⟩ := (fitB_iff _ _).1 h1
  rw [(allB_to zs).1 h3 j hj] at h; cases h
theorem sumTo_over {t : Int} {zs : List Int} {j : Nat} {x z : Int} (hj : j < zs.length) (hs : SumTo zs j x) (hz : zs.getD j 0 = z) (h1 : okB z = true) (h : okB (x + z) = false) : splitS t zs = none := by
  subst hz
  obtain ⟨a, b, c, d⟩ := hs
  obtain ⟨e, f⟩ := (okB_iff _).1 h1
  have hp : psum zs = none := by
    refine psum_none (j := j + 1) ?_
    rw [psum_step hj b]
    refine plusO_none fun hg => ?_
    have := (goodB_iff _).1 hg.2.2
    unfold okB at h
    have := of_decide_eq_false h
    omega
  unfold splitS
  by_cases hc : fitB t zs = true ∧ psum zs ≠ some 0
  · rw [if_pos hc, hp]
  · rw [if_neg hc]
theorem sumTo_end {t : Int} {zs : List Int} {x : Int} (ht : okB t = true) (hl : zs.length ≤ 1000) (hs : SumTo zs zs.length x) : fitB t zs = true ∧ psum zs = some x := by
  obtain ⟨a, b, -, -⟩ := hs
  rw [List.take_length] at b
  exact ⟨(fitB_iff _ _).2 ⟨hl, ht, (allB_to zs).2 a⟩, b⟩

def RSplitNot (w : World) (e : Ending) (w' : World) : Prop := e = .returned (.tuple #[.slice none 0 0, .int .i64 1]) ∧ w = w'

set_option maxRecDepth 100000 in
set_option maxHeartbeats 1000000 in
theorem rsplit_not (t : Int) (zs : List Int) (v : Value) (B : Nat) (w : World) (hv : Ints w B .i64 v zs) (h : splitS t zs = none) :
    Calls Try.prog 10 #[.int .i64 t, v] w (RSplitNot w) := by
  obtain ⟨A, c, rfl, hl, hn, hc⟩ := hv
  have HC := Lib.hid hc
  have HS := Lib.hid h
  clear hn hc h
  cases ht : okB t with
  | false =>
    have HT := Lib.hid ht
    clear ht
    go_enter Try.func10, Try.ntmps10
    go_wp2_with fail
    refine (rgood_any _ _).mono ?_
    rw [HT.out]
    rintro e w' ⟨rfl, rfl⟩
    go_wp2_with fail
    go_ret2
    exact ⟨rfl, rfl⟩
  | true =>
    have HT := Lib.hid ht
    clear ht
    by_cases h1 : zs.length < 1
    · go_enter Try.func10, Try.ntmps10
      go_wp2_with fail
      refine (rgood_any _ _).mono ?_
      rw [HT.out]
      rintro e w' ⟨rfl, rfl⟩
      have h2 : (zs.length : Int) < 1 := by omega
      go_wp2_with fail
      go_ret2
      exact ⟨rfl, rfl⟩
    · by_cases h3 : 1000 < zs.length
      · go_enter Try.func10, Try.ntmps10
        go_wp2_with fail
        refine (rgood_any _ _).mono ?_
        rw [HT.out]
        rintro e w' ⟨rfl, rfl⟩
        have h4 : ¬ (zs.length : Int) < 1 := by omega
        have h5 : (1000 : Int) < zs.length := by omega
        go_wp2_with fail
        go_ret2
        exact ⟨rfl, rfl⟩
      · go_enter Try.func10, Try.ntmps10
        go_wp2_with fail
        refine (rgood_any _ _).mono ?_
        rw [HT.out]
        rintro e w' ⟨rfl, rfl⟩
        have h4 : ¬ (zs.length : Int) < 1 := by omega
        have h5 : ¬ (1000 : Int) < zs.length := by omega
        go_wp2_with fail
        clear h4 h5
        go_loop [6, 7] (fun x y => ∃ (j : Nat) (a : Int), j ≤ zs.length ∧ y = .int .i64 j ∧ x = .int .i64 a ∧ Hid (SumTo zs j a) ∧ 0 ≤ a ∧ a ≤ 10000000000000) (fun _ y => zs.length - (intOf y).toNat)
        case atStart => exact ⟨0, 0, Nat.zero_le _, rfl, rfl, sumTo_zero zs, by omega, by omega⟩
        case round =>
          obtain ⟨j, a, hj, rfl, rfl, HA, a0, a1⟩ := hrel
          by_cases hlt : j < zs.length
          · obtain ⟨b, off, rfl, hb, hcell⟩ := HC.out (by omega)
            have hx := hcell j hlt
            have HB := fun h => Lib.hid (sumTo_succ hlt HA.out rfl h)
            clear hcell
            generalize hz : zs.getD j 0 = z at *
            have HZ := Lib.hid hz
            clear hz
            cases ho : okB z with
            | false =>
              have HO := Lib.hid ho
              clear HB ho
              go_wp2_with fail
              refine (rgood_any _ _).mono ?_
              rw [HO.out]
              rintro e w' ⟨rfl, rfl⟩
              go_wp2_with fail
              go_ret2
              exact ⟨rfl, rfl⟩
            | true =>
              have HB' := HB ho
              obtain ⟨z0, z1⟩ := (okB_iff z).1 ho
              have HO := Lib.hid ho
              clear HB ho
              cases hs : okB (a + z) with
              | false =>
                have HSum := Lib.hid hs
                clear HB' hs
                go_wp2_with fail
                refine (rgood_any _ _).mono ?_
                rw [HO.out]
                rintro e w' ⟨rfl, rfl⟩
                go_wp2_with fail
                refine (rgood_any _ _).mono ?_
                rw [HSum.out]
                rintro e w' ⟨rfl, rfl⟩
                go_wp2_with fail
                go_ret2
                exact ⟨rfl, rfl⟩
              | true =>
                have HA' := Lib.hid (HB'.out hs)
                obtain ⟨s0, s1⟩ := (okB_iff _).1 hs
                have HSum := Lib.hid hs
                clear HB' hs
                go_wp2_with fail
                refine (rgood_any _ _).mono ?_
                rw [HO.out]
                rintro e w' ⟨rfl, rfl⟩
                go_wp2_with fail
                refine (rgood_any _ _).mono ?_
                rw [HSum.out]
                rintro e w' ⟨rfl, rfl⟩
                go_wp2_with fail
                go_round
                case rel => exact ⟨j + 1, a + z, hlt, by go_num, rfl, HA'.out, s0, s1⟩
                case measure => simp [intOf]; omega
          · obtain rfl : j = zs.length := by omega
            obtain ⟨e1, e2⟩ := sumTo_end HT.out (by omega) HA.out
            have a2 : a = 0 := by
              have hn := HS.out
              unfold splitS at hn
              by_cases hc : fitB t zs = true ∧ psum zs ≠ some 0
              · rw [if_pos hc, e2] at hn; cases hn
              · by_cases z : a = 0
                · exact z
                · exact absurd ⟨e1, by rw [e2]; intro h; injection h with h; exact z h⟩ hc
            subst a2
            clear e1 e2
            go_wp2_with fail
            go_ret2
            exact ⟨rfl, rfl⟩
end Go.Proofs.Ytbdcinecdigjgaa.Share
