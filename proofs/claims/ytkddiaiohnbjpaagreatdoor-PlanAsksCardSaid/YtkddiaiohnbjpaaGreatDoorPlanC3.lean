/- Of layer 18: the numbers and the principals of loans, the greatest of some numbers. -/
import Derived.Test.YtkddiaiohnbjpaaGreatDoorPlanC2
namespace Go.Proofs.YtkddiaiohnbjpaaGreatDoor.Plan
open Go.ChangeShapes Go.WideShapes Go.ChangeAt Go.RowKit Loan Money Box Rws Slice

theorem i64_zero : (Tryz.prog.info? 2).map (fun i => (i.zero, i.size, i.bytes)) = some (some (.int .i64 0), 1, 8) := by kernel_rfl
theorem int_zero : (Tryz.prog.info? 3).map (fun i => (i.zero, i.size, i.bytes)) = some (some (.int .i64 0), 1, 8) := by kernel_rfl
theorem owned_end {f : Ln → Int} {L : List Ln} {B g N : Nat} {w : World} {T : TypeId} (hN : N = L.length) (hg : B ≤ g) (h : w.rowIs g T N (upTo f L N)) : Owned B w T (.slice (some ⟨g, 0, none⟩) N N) (L.map f) := by
  subst hN
  refine ⟨g, by simp, hg, ?_⟩
  rw [List.length_map]
  exact h.congr fun i hi => upTo_end hi

set_option maxRecDepth 20000 in
theorem c_ids (L : List Ln) (v : Value) (B : Nat) (w : World) (hB : B ≤ w.heap.size) (hv : Lns w B v L) (hN : L.length ≤ 1000) :
    Calls Tryz.prog 41 #[v] w fun e w' => ∃ u, e = .returned u ∧ Owned w.heap.size w' 3 u (L.map fun l => l.id) ∧ Below w.heap.size w w' := by
  obtain ⟨A, k, rfl⟩ := hv.shape
  have HV : Hid (Lns w B (.slice A L.length k) L) := hv
  have HB := Lib.hid hB
  have hmk := fun W : World => run_make_row' (P := Tryz.prog) 41 3 (.int .i64 0) 8 Tryz.underlying41 int_zero rfl .i64 .i64 L.length (by omega) (by omega) W
  clear hv hB
  go_enter Tryz.func41, Tryz.ntmps41
  go_wp2_with fail
  go_loopw [10] (fun t wr => ∃ j : Nat, j ≤ L.length ∧ t = .int .i64 j ∧ Hid (wr.rowIs w.heap.size 3 L.length (upTo (fun l => l.id) L j) ∧ Below w.heap.size w wr)) (fun t _ => L.length - (intOf t).toNat)
  case atStart => exact ⟨0, Nat.zero_le _, rfl, (World.rowIs_made w (.int .i64 0) L.length 3).congr fun i _ => by unfold upTo; rw [if_neg (Nat.not_lt_zero _)], (Below.refl _ _).alloc (Nat.le_refl _) _⟩
  case round =>
    obtain ⟨j, hj, rfl, HX⟩ := hrel
    rename_i wr
    clear hmk
    by_cases hlt : j < L.length
    · obtain ⟨b, off, k', e0, hb, -⟩ := HV.out.open (by omega)
      injection e0 with e0 _ e2
      subst e0 e2
      obtain ⟨x, hx⟩ : ∃ x, L[j]? = some x := ⟨_, List.getElem?_eq_getElem hlt⟩
      have hm := range_keep (HV.out.at_ hx) (HX.out.2.mono HB.out) hb
      have c0 := hm 0 (.int .i64 x.id) rfl
      have HU := Lib.hid (upTo_step (f := fun l => l.id) hx)
      have hp := HX.out.1.cell hlt
      have hf := HX.out.1.frozen j
      rw [Nat.add_zero] at c0
      clear hm hx
      generalize x.id = y at *
      go_wp2_with fail
      go_roundw
      case rel => exact ⟨j + 1, by omega, rfl, (HX.out.1.set j _).congr fun i _ => (HU.out i).symm, HX.out.2.setCell (Nat.le_refl _) _⟩
      case measure => simp [intOf]; omega
    · obtain rfl : j = L.length := by omega
      go_wp2_with fail
      go_ret
      exact ⟨_, rfl, owned_end rfl (Nat.le_refl _) HX.out.1, HX.out.2⟩
set_option maxRecDepth 20000 in
theorem c_prins (L : List Ln) (v : Value) (B : Nat) (w : World) (hB : B ≤ w.heap.size) (hv : Lns w B v L) (hN : L.length ≤ 1000) :
    Calls Tryz.prog 79 #[v] w fun e w' => ∃ u, e = .returned u ∧ Owned w.heap.size w' 2 u (L.map fun l => l.prin) ∧ Below w.heap.size w w' := by
  obtain ⟨A, k, rfl⟩ := hv.shape
  have HV : Hid (Lns w B (.slice A L.length k) L) := hv
  have HB := Lib.hid hB
  have hmk := fun W : World => run_make_row' (P := Tryz.prog) 32 2 (.int .i64 0) 8 Tryz.underlying32 i64_zero rfl .i64 .i64 L.length (by omega) (by omega) W
  clear hv hB
  go_enter Tryz.func79, Tryz.ntmps79
  go_wp2_with fail
  go_loopw [10] (fun t wr => ∃ j : Nat, j ≤ L.length ∧ t = .int .i64 j ∧ Hid (wr.rowIs w.heap.size 2 L.length (upTo (fun l => l.prin) L j) ∧ Below w.heap.size w wr)) (fun t _ => L.length - (intOf t).toNat)
  case atStart => exact ⟨0, Nat.zero_le _, rfl, (World.rowIs_made w (.int .i64 0) L.length 2).congr fun i _ => by unfold upTo; rw [if_neg (Nat.not_lt_zero _)], (Below.refl _ _).alloc (Nat.le_refl _) _⟩
  case round =>
    obtain ⟨j, hj, rfl, HX⟩ := hrel
    rename_i wr
    clear hmk
    by_cases hlt : j < L.length
    · obtain ⟨b, off, k', e0, hb, -⟩ := HV.out.open (by omega)
      injection e0 with e0 _ e2
      subst e0 e2
      obtain ⟨x, hx⟩ : ∃ x, L[j]? = some x := ⟨_, List.getElem?_eq_getElem hlt⟩
      have hm := range_keep (HV.out.at_ hx) (HX.out.2.mono HB.out) hb
      have c0 := hm 1 (.int .i64 x.prin) rfl
      have HU := Lib.hid (upTo_step (f := fun l => l.prin) hx)
      have hp := HX.out.1.cell hlt
      have hf := HX.out.1.frozen j
      clear hm hx
      generalize x.prin = y at *
      go_wp2_with fail
      go_roundw
      case rel => exact ⟨j + 1, by omega, rfl, (HX.out.1.set j _).congr fun i _ => (HU.out i).symm, HX.out.2.setCell (Nat.le_refl _) _⟩
      case measure => simp [intOf]; omega
    · obtain rfl : j = L.length := by omega
      go_wp2_with fail
      go_ret
      exact ⟨_, rfl, owned_end rfl (Nat.le_refl _) HX.out.1, HX.out.2⟩
/-- The greatest of the first j numbers. -/
def maxTo (zs : List Int) : Nat → Int
  | 0 => zs.getD 0 0
  | j + 1 => if maxTo zs j < zs.getD j 0 then zs.getD j 0 else maxTo zs j
theorem maxTo_zero {zs : List Int} (h : ∀ z ∈ zs, 0 ≤ z) (h0 : 0 < zs.length) : (maxTo zs zs.length == 0) = zs.all (fun x => x == 0) := by
  have key : ∀ j, j ≤ zs.length → 0 < j → 0 ≤ maxTo zs j ∧ (maxTo zs j = 0 ↔ ∀ i, i < j → zs.getD i 0 = 0) := by
    intro j
    have hz : ∀ i, i < zs.length → 0 ≤ zs.getD i 0 := fun i hi => by
      rw [List.getD_eq_getElem?_getD, List.getElem?_eq_getElem hi]
      exact h _ (List.getElem_mem hi)
    induction j with
    | zero => intro _ h; omega
    | succ j ih =>
      intro hj _
      have z0 := hz j (by omega)
      rcases Nat.eq_zero_or_pos j with hj0 | hj0
      · subst hj0
        have e : maxTo zs 1 = zs.getD 0 0 := by unfold maxTo; unfold maxTo; split <;> rfl
        rw [e]
        refine ⟨z0, fun h i hi => ?_, fun h => h 0 (by omega)⟩
        obtain rfl : i = 0 := by omega
        exact h
      · obtain ⟨i0, i1⟩ := ih (by omega) hj0
        unfold maxTo
        split
        · refine ⟨z0, fun h => by omega, fun h => h j (by omega)⟩
        · refine ⟨i0, fun h i hi => ?_, fun h => i1.2 fun i hi => h i (by omega)⟩
          by_cases hij : i = j
          · subst hij; omega
          · exact i1.1 h i (by omega)
  obtain ⟨-, k⟩ := key zs.length (Nat.le_refl _) h0
  rw [Bool.eq_iff_iff, beq_iff_eq, k, List.all_eq_true]
  constructor
  · intro hh x hx
    obtain ⟨i, hi, rfl⟩ := List.getElem_of_mem hx
    have := hh i hi
    rw [List.getD_eq_getElem?_getD, List.getElem?_eq_getElem hi] at this
    exact beq_iff_eq.2 this
  · intro hh i hi
    rw [List.getD_eq_getElem?_getD, List.getElem?_eq_getElem hi]
    exact beq_iff_eq.1 (hh _ (List.getElem_mem hi))
theorem maxTo_one (zs : List Int) : maxTo zs 1 = zs.getD 0 0 := by unfold maxTo; unfold maxTo; split <;> rfl
set_option maxRecDepth 20000 in
theorem c_max (zs : List Int) (v : Value) (B : Nat) (w : World) (hv : Ints w B .i64 v zs) (h0 : 0 < zs.length) :
    Calls Tryz.prog 80 #[v] w fun e w' => e = .returned (.int .i64 (maxTo zs zs.length)) ∧ ∃ n, w' = w.drewN n := by
  obtain ⟨A, c, rfl, hl, hn, hc⟩ := hv
  obtain ⟨b, off, rfl, hb, hcell⟩ := hc h0
  have HC := Lib.hid hcell
  have c0 := hcell 0 h0
  rw [Nat.add_zero] at c0
  have m1 := maxTo_one zs
  have HM := Lib.hid m1
  have t0 : decide ((zs.length : Int) < 1) = false := decide_eq_false (by omega)
  generalize zs.getD 0 0 = z0 at *
  clear hn hc hcell m1
  go_enter Tryz.func80, Tryz.ntmps80
  go_wp2_with fail
  clear c0 t0
  go_loopw [3, 4] (fun s t wr => ∃ (j : Nat) (m : Int), j ≤ zs.length ∧ 1 ≤ j ∧ t = .int .i64 j ∧ s = .int .i64 m ∧ Hid (m = maxTo zs j) ∧ Hid (∃ n, wr = w.drewN n)) (fun _ t _ => zs.length - (intOf t).toNat)
  case atStart => exact ⟨1, z0, by omega, by omega, rfl, rfl, HM.out.symm, 0, rfl⟩
  case round =>
    obtain ⟨j, m, hj, hj1, rfl, rfl, HX, HW⟩ := hrel
    rename_i wr
    by_cases hlt : j < zs.length
    · have c1 : wr.cell? ⟨b, off + j, none⟩ = some (.int .i64 (zs.getD j 0)) := by
        obtain ⟨n, hw⟩ := HW.out
        rw [hw]; exact HC.out j hlt
      have HE : Hid ((if m < zs.getD j 0 then zs.getD j 0 else m) = maxTo zs (j + 1)) := show _ = _ by rw [HX.out]; rfl
      generalize zs.getD j 0 = z at *
      obtain ⟨q, hq⟩ : ∃ q, (if m < z then z else m) = q := ⟨_, rfl⟩
      rw [hq] at HE
      go_wp2_with fail
      go_roundw
      case rel => exact ⟨j + 1, q, by omega, by omega, rfl, rfl, HE, HW⟩
      case measure => simp [intOf]; omega
    · obtain rfl : j = zs.length := by omega
      go_wp2_with fail
      go_ret
      exact ⟨by rw [HX.out]; rfl, HW.out⟩
end Go.Proofs.YtkddiaiohnbjpaaGreatDoor.Plan
