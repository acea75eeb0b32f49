/- Of layer 18: what Asks tells, loan by loan; what follows of it (plain). -/
import Derived.Test.YtkddiaiohnbjpaaGreatDoorPlanC9
namespace Go.Proofs.YtkddiaiohnbjpaaGreatDoor.Plan
open Loan Money

theorem filt_yes {L : List Ln} {j : Nat} {x : Ln} (hx : L[j]? = some x) (hp : partB x = true) : (L.take (j + 1)).filter partB = (L.take j).filter partB ++ [x] := by
  rw [List.take_add_one, hx, List.filter_append]
  simp [hp]
theorem filt_no {L : List Ln} {j : Nat} {x : Ln} (hx : L[j]? = some x) (hp : partB x = false) : (L.take (j + 1)).filter partB = (L.take j).filter partB := by
  rw [List.take_add_one, hx, List.filter_append]
  simp [hp]
/-- Where the next one that takes part stands among these. -/
theorem filt_at {L : List Ln} {j : Nat} {x : Ln} (hx : L[j]? = some x) (hp : partB x = true) : (L.filter partB)[((L.take j).filter partB).length]? = some x := by
  have e : L.filter partB = (L.take (j + 1)).filter partB ++ (L.drop (j + 1)).filter partB := by rw [← List.filter_append, List.take_append_drop]
  rw [e, filt_yes hx hp, List.append_assoc, List.getElem?_append_right (Nat.le_refl _), Nat.sub_self]
  rfl
/-- A plan that asks loan by loan tells what Of tells of each. -/
theorem plan_each {zs : List Int} {how day fam inc : Int} {L : List Ln} {Q : Nat → Nat} {ids : List Int} (h4 : how ≠ 4) (hd : Date.dayB day = true) (h0 : 0 < L.length) (hL : ∀ l ∈ L, goodL l = true ∧ partB l = true) :
    finR ids (capR (planR zs how day fam inc L Q) L) = (if errs (ofR how day) L = 0 then (ids, L.map (fun l => (ofR how day l).1), 0) else ([], [], errs (ofR how day) L)) := by
  have hb : ¬ (1 ≤ how ∧ how ≤ 3) → errs (ofR how day) L = 1 := fun hn => by
    cases L with
    | nil => simp at h0
    | cons a r =>
      have e : (ofR how day a).2 = 1 := by unfold ofR; rw [if_neg (fun k => hn k.2.1)]
      unfold errs
      rw [if_neg (by rw [e]; decide), e]
  by_cases h : 1 ≤ how ∧ how ≤ 3
  · have ep : planR zs how day fam inc L Q = eachR (askR how day) L := by
      unfold planR
      repeat' split
      all_goals first | rfl | omega
    rw [ep]
    rcases of_each h hd hL with ⟨e1, e2⟩ | ⟨e1, e2⟩
    · rw [if_pos e1, e2, fin_yes rfl]
    · rw [if_neg e1, e2, fin_no e1]
  · have ep : planR zs how day fam inc L Q = ([], 1) := by
      unfold planR
      repeat' split
      all_goals first | rfl | omega
    have e1 := hb h
    rw [ep, e1]
    unfold capR
    rw [if_neg (by decide), fin_no (by decide), if_neg (by decide)]
end Go.Proofs.YtkddiaiohnbjpaaGreatDoor.Plan
