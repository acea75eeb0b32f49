/- Of layer 18: is a state too large to be gone through?. -/
import Derived.Test.YtkddiaiohnbjpaaGreatDoorOpenState
namespace Go.Proofs.YtkddiaiohnbjpaaGreatDoor.Plan
open Go.ChangeShapes Go.WideShapes Go.ChangeAt Go.RowKit Loan Box Rws Slice

/-- What Large tells. -/
def largeB (L : List Ln) (M : List Bl) : Bool := decide (100 < L.length) || decide (400 < M.length) || M.any (fun b => decide (100 < b.ids.length))
theorem large_1 {L : List Ln} {M : List Bl} (h : 100 < L.length) : largeB L M = true := by simp [largeB, h]
theorem large_2 {L : List Ln} {M : List Bl} (h : 400 < M.length) : largeB L M = true := by simp [largeB, h]
theorem large_3 {L : List Ln} {M : List Bl} {b : Bl} (hb : b ∈ M) (h : 100 < b.ids.length) : largeB L M = true := by
  unfold largeB
  rw [Bool.or_eq_true]
  exact Or.inr (List.any_eq_true.2 ⟨b, hb, decide_eq_true h⟩)
theorem large_no {L : List Ln} {M : List Bl} (h : largeB L M = false) : L.length ≤ 100 ∧ M.length ≤ 400 ∧ ∀ b ∈ M, b.ids.length ≤ 100 := by
  refine ⟨?_, ?_, fun b hb => ?_⟩
  · rcases Nat.lt_or_ge 100 L.length with k | k
    · rw [large_1 k] at h; cases h
    · exact k
  · rcases Nat.lt_or_ge 400 M.length with k | k
    · rw [large_2 k] at h; cases h
    · exact k
  · rcases Nat.lt_or_ge 100 b.ids.length with k | k
    · rw [large_3 hb k] at h; cases h
    · exact k
theorem large_0 {L : List Ln} {M : List Bl} (h1 : ¬ 100 < L.length) (h2 : ¬ 400 < M.length) (h3 : ∀ b ∈ M, b.ids.length ≤ 100) : largeB L M = false := by
  cases h : largeB L M with
  | false => rfl
  | true =>
    unfold largeB at h
    rw [Bool.or_eq_true, Bool.or_eq_true, decide_eq_true_iff, decide_eq_true_iff] at h
    rcases h with (h | h) | h
    · exact absurd h h1
    · exact absurd h h2
    · obtain ⟨b, hb, hl⟩ := List.any_eq_true.1 h
      have := h3 b hb
      have := of_decide_eq_true hl
      omega
set_option maxRecDepth 20000 in
set_option maxHeartbeats 1000000 in
theorem c_large (s : Sc) (lv bv : Value) (L : List Ln) (M : List Bl) (B : Nat) (w : World) (hB : B ≤ w.heap.size) (hv : Lns w B lv L) (hm : Bls w B bv M) :
    Calls Tryz.prog 11 #[.agg (s.cells lv bv)] w fun e w' => e = .returned (.bool (largeB L M)) ∧ Below w.heap.size w w' := by
  obtain ⟨A, k, rfl⟩ := hv.shape
  obtain ⟨A2, k2, rfl⟩ := hm.1.shape
  have HM : Hid (Rws Bl.cells 6 w B (.slice A2 M.length k2) M) := hm.1
  have HI := Lib.hid hm.2
  have HB := Lib.hid hB
  have lL := hv.len
  have lM := hm.1.len
  obtain ⟨g, wb, e1, e2, hB1, hb⟩ := boxd_new w (s.cells (.slice A L.length k) (.slice A2 M.length k2)) 38
  have c1 : wb.cell? ⟨g, 1, none⟩ = some (.slice A L.length k) := hB1.cell
  have c6 : wb.cell? ⟨g, 6, none⟩ = some (.slice A2 M.length k2) := hB1.cell
  have HW := Lib.hid hb
  have HLI : Hid (B ≤ wb.heap.size) := Nat.le_trans hB hb.size
  have HMB : Hid (Rws Bl.cells 6 wb B (.slice A2 M.length k2) M) := HM.out.below (hb.mono hB)
  clear hv hm hB hB1 hb
  generalize s.cells (.slice A L.length k) (.slice A2 M.length k2) = C at *
  go_enter Tryz.func11, Tryz.ntmps11
  go_upto_region 1 with fail
  rw [← e2, ← e1]
  clear e1 e2
  by_cases h1 : 100 < L.length
  · have t1 : decide ((100 : Int) < L.length) = true := decide_eq_true (by omega)
    have HQ := Lib.hid (large_1 (M := M) h1)
    clear h1
    go_wp2_with fail
    go_ret
    exact ⟨by rw [HQ.out]; rfl, HW.out⟩
  · have t1 : decide ((100 : Int) < L.length) = false := decide_eq_false (by omega)
    by_cases h2 : 400 < M.length
    · have t2 : decide ((400 : Int) < M.length) = true := decide_eq_true (by omega)
      have HQ := Lib.hid (large_2 (L := L) h2)
      clear h1 h2
      go_wp2_with fail
      go_ret
      exact ⟨by rw [HQ.out]; rfl, HW.out⟩
    · have t2 : decide ((400 : Int) < M.length) = false := decide_eq_false (by omega)
      go_wp2_with fail
      clear t1 t2
      go_loop [3] (fun t => ∃ j : Nat, j ≤ M.length ∧ t = .int .i64 j ∧ Hid (∀ i, i < j → ∀ y, M[i]? = some y → y.ids.length ≤ 100)) (fun t => M.length - (intOf t).toNat)
      case atStart => exact ⟨0, Nat.zero_le _, rfl, fun i hi => absurd hi (Nat.not_lt_zero _)⟩
      case round =>
        obtain ⟨j, hj, rfl, HJ⟩ := hrel
        by_cases hlt : j < M.length
        · obtain ⟨b, off, k', e0, hb, -⟩ := HMB.out.open (by omega)
          injection e0 with e0 _ e2
          subst e0 e2
          obtain ⟨x, hx⟩ : ∃ x, M[j]? = some x := ⟨_, List.getElem?_eq_getElem hlt⟩
          have cx : wb.cell? ⟨b, off + j * 6 + 5, none⟩ = some x.v := HMB.out.at_ hx 5 x.v rfl
          obtain ⟨Ax, cc, hxv, -⟩ := HI.out x (List.mem_of_getElem? hx)
          rw [hxv] at cx
          by_cases h3 : 100 < x.ids.length
          · have t3 : decide ((100 : Int) < x.ids.length) = true := decide_eq_true (by omega)
            have HQ := Lib.hid (large_3 (L := L) (List.mem_of_getElem? hx) h3)
            clear hx hxv h3
            generalize x.ids.length = n at *
            go_wp2_with fail
            go_ret
            exact ⟨by rw [HQ.out]; rfl, HW.out⟩
          · have t3 : decide ((100 : Int) < x.ids.length) = false := decide_eq_false (by omega)
            have HN : Hid (∀ i, i < j + 1 → ∀ y, M[i]? = some y → y.ids.length ≤ 100) := fun i hi y hy => by
              by_cases hij : i = j
              · subst hij
                rw [hx] at hy
                injection hy with hy
                subst hy
                omega
              · exact HJ.out i (by omega) y hy
            clear hx hxv h3
            generalize x.ids.length = n at *
            go_wp2_with fail
            go_round
            case rel => exact ⟨j + 1, by omega, rfl, HN.out⟩
            case measure => simp [intOf]; omega
        · obtain rfl : j = M.length := by omega
          go_wp2_with fail
          go_ret
          refine ⟨by rw [large_0 h1 h2 (fun b hbm => by
            obtain ⟨i, hi, rfl⟩ := List.getElem_of_mem hbm
            exact HJ.out i hi _ (List.getElem?_eq_getElem hi))]; rfl, HW.out⟩
end Go.Proofs.YtkddiaiohnbjpaaGreatDoor.Plan
