/- Of no one law: are bills too many to be gone through, in a state without loans? Bills that came in by value. -/
import Derived.Test.YtjjbdemhccpllaaDoorBills
namespace Go.Proofs.YtjjbdemhccpllaaDoor.Plan
open Go.ChangeShapes Go.WideShapes Go.ChangeAt Go.RowKit Loan Money Box Rws Slice

/-- What Large tells of bills alone. -/
def manyB (M : List Bl) : Bool := decide (400 < M.length) || M.any (fun b => decide (100 < b.ids.length))
theorem many_2 {M : List Bl} (h : 400 < M.length) : manyB M = true := by simp [manyB, h]
theorem many_3 {M : List Bl} {b : Bl} (hb : b ∈ M) (h : 100 < b.ids.length) : manyB M = true := by
  unfold manyB
  rw [Bool.or_eq_true]
  exact Or.inr (List.any_eq_true.2 ⟨b, hb, decide_eq_true h⟩)
theorem many_no {M : List Bl} (h : manyB M = false) : M.length ≤ 400 ∧ ∀ b ∈ M, b.ids.length ≤ 100 := by
  refine ⟨?_, fun b hb => ?_⟩
  · rcases Nat.lt_or_ge 400 M.length with k | k
    · rw [many_2 k] at h; cases h
    · exact k
  · rcases Nat.lt_or_ge 100 b.ids.length with k | k
    · rw [many_3 hb k] at h; cases h
    · exact k
theorem many_0 {M : List Bl} (h2 : ¬ 400 < M.length) (h3 : ∀ b ∈ M, b.ids.length ≤ 100) : manyB M = false := by
  cases h : manyB M with
  | false => rfl
  | true =>
    unfold manyB at h
    rw [Bool.or_eq_true, decide_eq_true_iff] at h
    rcases h with h | h
    · exact absurd h h2
    · obtain ⟨b, hb, hl⟩ := List.any_eq_true.1 h
      have := h3 b hb
      have := of_decide_eq_true hl
      omega
set_option maxRecDepth 20000 in
set_option maxHeartbeats 1000000 in
theorem c_many (C : Array Value) (k : Nat) (bv : Value) (M : List Bl) (B : Nat) (w : World) (hB : B ≤ w.heap.size) (h1 : C[1]? = some (.slice none 0 k)) (h6 : C[6]? = some bv) (hm : Bls w B bv M) :
    Calls Tryd.prog 27 #[.agg C] w fun e w' => e = .returned (.bool (manyB M)) ∧ Below w.heap.size w w' := by
  obtain ⟨A2, k2, rfl⟩ := hm.1.shape
  have HM : Hid (Rws Bl.cells 6 w B (.slice A2 M.length k2) M) := hm.1
  have HI := Lib.hid hm.2
  have lM := hm.1.len
  obtain ⟨g, wb, e1, e2, hB1, hb⟩ := boxd_new w C 63
  have c1 : wb.cell? ⟨g, 1, none⟩ = some (.slice none 0 k) := hB1.cell.trans h1
  have c6 : wb.cell? ⟨g, 6, none⟩ = some (.slice A2 M.length k2) := hB1.cell.trans h6
  have HW := Lib.hid hb
  have HMB : Hid (Rws Bl.cells 6 wb B (.slice A2 M.length k2) M) := HM.out.below (hb.mono hB)
  clear hm hB hB1 hb h1 h6
  go_enter Tryd.func27, Tryd.ntmps27
  go_upto_region 1 with fail
  rw [← e2, ← e1]
  clear e1 e2
  by_cases h2 : 400 < M.length
  · have t2 : decide ((400 : Int) < M.length) = true := decide_eq_true (by omega)
    have HQ := Lib.hid (many_2 h2)
    clear h2
    go_wp2_with fail
    go_ret
    exact ⟨by rw [HQ.out]; rfl, HW.out⟩
  · have t2 : decide ((400 : Int) < M.length) = false := decide_eq_false (by omega)
    go_wp2_with fail
    clear t2
    go_loop [3] (fun t => ∃ j : Nat, j ≤ M.length ∧ t = .int .i64 j ∧ Hid (∀ i, i < j → ∀ y, M[i]? = some y → y.ids.length ≤ 100)) (fun t => M.length - (intOf t).toNat)
    case atStart => exact ⟨0, Nat.zero_le _, rfl, fun i hi => absurd hi (Nat.not_lt_zero _)⟩
    case round =>
      obtain ⟨j, hj, rfl, HJ⟩ := hrel
      by_cases hlt : j < M.length
      · obtain ⟨b, off, k', e0, hb, -⟩ := HMB.out.open (by omega)
        injection e0 with e0 el e2
        clear el
        subst e0 e2
        obtain ⟨x, hx⟩ : ∃ x, M[j]? = some x := ⟨_, List.getElem?_eq_getElem hlt⟩
        have cx : wb.cell? ⟨b, off + j * 6 + 5, none⟩ = some x.v := HMB.out.at_ hx 5 x.v rfl
        obtain ⟨Ax, cc, hxv, -⟩ := HI.out x (List.mem_of_getElem? hx)
        rw [hxv] at cx
        by_cases h3 : 100 < x.ids.length
        · have t3 : decide ((100 : Int) < x.ids.length) = true := decide_eq_true (by omega)
          have HQ := Lib.hid (many_3 (List.mem_of_getElem? hx) h3)
          clear hx hxv h3
          generalize x.ids.length = n at *
          go_wp2_with fail
          go_ret
          exact ⟨by rw [HQ.out]; rfl, HW.out⟩
        · have t3 : decide ((100 : Int) < x.ids.length) = false := decide_eq_false (by omega)
          have HN : Hid (∀ i, i < j + 1 → ∀ y, M[i]? = some y → y.ids.length ≤ 100) := fun i hi y hy => by
            by_cases hij : i = j
            · subst hij
              rw [hx] at hy
              injection hy with hy
              subst hy
              omega
            · exact HJ.out i (by omega) y hy
          clear hx hxv h3
          generalize x.ids.length = n at *
          go_wp2_with fail
          go_round
          case rel => exact ⟨j + 1, by omega, rfl, HN.out⟩
          case measure => simp [intOf]; omega
      · obtain rfl : j = M.length := by omega
        go_wp2_with fail
        go_ret
        refine ⟨by rw [many_0 h2 (fun b hbm => by
          obtain ⟨i, hi, rfl⟩ := List.getElem_of_mem hbm
          exact HJ.out i hi _ (List.getElem?_eq_getElem hi))]; rfl, HW.out⟩
section
variable {H : Type} {enc : TypeId × Value → H} {w : World}
theorem open_bills {r : Reach} {b0 : Nat} {v : Value} {d : DataW H} {ps : List MemPlace} (hval : Value.okWide Tryd.prog w r b0 22 v) (hd : DataW.Trod enc Tryd.prog w 0 (fun _ => true) true 22 v d ps) : ∃ M : List Bl, Bls w w.heap.size v M := by
  obtain ⟨a0, len0, cap0, rfl⟩ := okWide_slice Tryd.underlying22 hval
  obtain ⟨fuel, hf⟩ := hd
  obtain ⟨M, hM, hI⟩ := open_rws (f := Bl.cells) (R := fun b => Ints w w.heap.size .i64 b.v b.ids) bl0 Tryd.underlying22 bl_many (by decide) (fun n cs y h => bl_cells h) bl_len hf
  exact ⟨M, hM, hI⟩
end
end Go.Proofs.YtjjbdemhccpllaaDoor.Plan
