/- Of layer 18: what Asks tells has a shape (plain). -/
import Derived.Test.YtkddiaiohnbjpaaGreatDoorPlanC9
namespace Go.Proofs.YtkddiaiohnbjpaaGreatDoor.Plan
open Loan Money

theorem cap_no {r : List Int × Int} {L : List Ln} (h : (capR r L).2 ≠ 0) : (capR r L).1 = [] := by
  unfold capR at h ⊢
  by_cases h1 : r.2 = 0
  · rw [if_pos h1] at h ⊢
    by_cases h2 : errs owesR L = 0
    · rw [if_pos h2] at h
      exact absurd rfl h
    · rw [if_neg h2]
  · rw [if_neg h1]
theorem cap_yes {r : List Int × Int} {L : List Ln} (h : (capR r L).2 = 0) : r.2 = 0 ∧ errs owesR L = 0 ∧ (capR r L).1 = lessV r.1 L := by
  unfold capR at h ⊢
  by_cases h1 : r.2 = 0
  · rw [if_pos h1] at h ⊢
    by_cases h2 : errs owesR L = 0
    · rw [if_pos h2]
      exact ⟨h1, h2, rfl⟩
    · rw [if_neg h2] at h
      exact absurd h h2
  · rw [if_neg h1] at h
    exact absurd h h1
/-- Where Asks tells an error, it tells nothing else. -/
theorem asks_no {zs : List Int} {s : Sc} {day : Int} {L : List Ln} {Q : Nat → Nat} (h : (asksR zs s day L Q).2.2 ≠ 0) : (asksR zs s day L Q).1 = [] ∧ (asksR zs s day L Q).2.1 = [] := by
  unfold asksR at h ⊢
  by_cases h1 : Income.tabB zs = true ∧ Date.dayB day = true ∧ L.all goodL = true
  · rw [if_pos h1] at h ⊢
    by_cases h2 : (L.filter partB).length = 0
    · rw [if_pos h2] at h
      exact absurd rfl h
    · rw [if_neg h2] at h ⊢
      unfold asksC at h ⊢
      by_cases h3 : (capR (planR zs (holdsI s.plan s.since day) day s.fam s.inc (L.filter partB) Q) (L.filter partB)).2 = 0
      · rw [if_pos h3] at h
        exact absurd rfl h
      · rw [if_neg h3]
        exact ⟨rfl, rfl⟩
  · rw [if_neg h1]
    exact ⟨rfl, rfl⟩
/-- Where it tells none: the ids of those that take part, and of each what the plan tells, but no more than it owes. -/
theorem asks_yes {zs : List Int} {s : Sc} {day : Int} {L : List Ln} {Q : Nat → Nat} (h : (asksR zs s day L Q).2.2 = 0) :
    Income.tabB zs = true ∧ Date.dayB day = true ∧ L.all goodL = true ∧ (asksR zs s day L Q).1 = (L.filter partB).map (fun l => l.id) ∧
      ∃ A : List Int, (asksR zs s day L Q).2.1 = lessV A (L.filter partB) ∧ (∀ x ∈ L.filter partB, (owesR x).2 = 0) ∨ (asksR zs s day L Q).2.1 = [] ∧ L.filter partB = [] := by
  by_cases h1 : Income.tabB zs = true ∧ Date.dayB day = true ∧ L.all goodL = true
  · refine ⟨h1.1, h1.2.1, h1.2.2, ?_⟩
    unfold asksR at h ⊢
    rw [if_pos h1] at h ⊢
    by_cases h2 : (L.filter partB).length = 0
    · rw [if_pos h2]
      have e := List.length_eq_zero_iff.1 h2
      rw [e]
      exact ⟨rfl, [], Or.inr ⟨rfl, rfl⟩⟩
    · rw [if_neg h2] at h ⊢
      unfold asksC at h ⊢
      by_cases h3 : (capR (planR zs (holdsI s.plan s.since day) day s.fam s.inc (L.filter partB) Q) (L.filter partB)).2 = 0
      · rw [if_pos h3]
        obtain ⟨-, k2, k3⟩ := cap_yes h3
        exact ⟨rfl, _, Or.inl ⟨k3, errs_zero k2⟩⟩
      · rw [if_neg h3] at h
        exact absurd h h3
  · unfold asksR at h
    rw [if_neg h1] at h
    exact absurd h (by decide)
/-- What is asked by income: no less than nothing of each, and no more than the income asks of all. -/
theorem inc_asks {zs : List Int} {fam inc : Int} {L : List Ln} {Q : Nat → Nat} (hq : Fits zs fam inc L Q) (he : (incR zs fam inc L Q).2 = 0) (ht : 0 ≤ Income.aV zs fam inc) :
    Income.aE zs fam inc = 0 ∧ (incR zs fam inc L Q).1.length = L.length ∧ (∀ k, k < L.length → 0 ≤ (incR zs fam inc L Q).1.getD k 0) ∧ Share.pre (fun k => (incR zs fam inc L Q).1.getD k 0) L.length ≤ Income.aV zs fam inc := by
  unfold incR at he ⊢
  by_cases h1 : Income.aE zs fam inc = 0
  · refine ⟨h1, ?_⟩
    rw [if_pos h1] at he ⊢
    by_cases h2 : (prins L).all (fun x => x == 0) = true
    · rw [if_pos h2]
      have hz : ∀ k, k < L.length → (List.replicate L.length (0 : Int)).getD k 0 = 0 := fun k hk => by simp [List.getD_eq_getElem?_getD, hk]
      refine ⟨by simp, fun k hk => by rw [hz k hk]; exact Int.le_refl _, ?_⟩
      have e := Share.pre_congr (g := fun _ => (0 : Int)) hz
      rw [e, Share.pre_const]
      simpa using ht
    · rw [if_neg h2] at he ⊢
      have h2' : (prins L).all (fun x => x == 0) = false := by simpa using h2
      cases h3 : Share.splitS (Income.aV zs fam inc) (prins L) with
      | none => rw [h3] at he; exact absurd (show (1 : Int) = 0 from he) (by decide)
      | some sm =>
        obtain ⟨k1, k2, k3⟩ := Share.splitS_some h3
        have hw := (Share.weights_of k1 k2 k3).1
        have hpl := hq h1 h2' sm h3
        have hn : (prins L).length = L.length := by simp [prins]
        have hat : ∀ k, k < L.length → (Share.outL (Income.aV zs fam inc) sm (prins L) Q).getD k 0 = Share.outS (Income.aV zs fam inc) sm (Share.wt (prins L)) (prins L).length Q k := fun k hk => Share.outL_at _ _ _ _ (by rw [hn]; exact hk)
        refine ⟨by simp [Share.outL, hn], fun k hk => ?_, ?_⟩
        · show 0 ≤ (Share.outL (Income.aV zs fam inc) sm (prins L) Q).getD k 0
          rw [hat k hk]
          have g1 := hw.q0 (i := k) (by rw [hn]; exact hk)
          have g2 := (Share.bump_bd Q (Share.lft (Income.aV zs fam inc) sm (Share.wt (prins L)) (prins L).length).toNat k).1
          unfold Share.outS
          omega
        · show Share.pre (fun k => (Share.outL (Income.aV zs fam inc) sm (prins L) Q).getD k 0) L.length ≤ _
          rw [Share.pre_congr hat, ← hn, hw.total hpl.1]
          exact Int.le_refl _
  · rw [if_neg h1] at he
    exact absurd he h1
/-- What a good loan owes. -/
theorem owes_in {l : Ln} (hg : goodL l = true) : 0 ≤ (owesR l).1 ∧ (owesR l).1 ≤ 10000000000000 := by
  have G := goodL_iff.1 hg
  have h1 := G.prin0
  have h2 := G.fees0
  have h3 := (cents_le G).1
  unfold owesR
  rw [if_pos hg]
  unfold sumL
  split
  · refine ⟨?_, ?_⟩ <;> dsimp only <;> omega
  · exact ⟨by decide, by decide⟩
/-- What a plan asks of one good loan is never below 0. -/
theorem ask_ge {how day : Int} {l : Ln} (hg : goodL l = true) : 0 ≤ (askR how day l).1 := by
  have G := goodL_iff.1 hg
  unfold askR
  split
  · exact G.level0
  · split
    · exact G.far0
    · show 0 ≤ Step.oV l.level (Due.whoV l.entered day)
      have m0 := (who_in l.entered day).1
      have hs := Step.sh_range ((Due.whoV l.entered day).tdiv 24) (Int.tdiv_nonneg m0 (by decide))
      have h1 := G.level0
      have h2 := G.level1
      have h := (Step.o_good (l := l.level) (m := Due.whoV l.entered day) (by unfold Step.bad; omega)).1
      rw [h]
      generalize Step.shI ((Due.whoV l.entered day).tdiv 24) = s at *
      by_cases g : 10000000000000 < rnd l.level s 100 1
      · rw [(md_out (by unfold mdBad; omega) g).1]; exact Int.le_refl _
      · rw [(md_in (by unfold mdBad; omega) g).1]
        exact Int.le_trans (Int.ediv_nonneg (Int.mul_nonneg h1 (by omega)) (by decide)) (rnd_ge _ _ _ _)
theorem less_in {a b : Int} (ha : 0 ≤ a) (hb : 0 ≤ b) : 0 ≤ lessI a b ∧ lessI a b ≤ a ∧ lessI a b ≤ b := by
  unfold lessI
  split <;> omega
/-- What a plan asks of some good loans. -/
theorem plan_asks {zs : List Int} {how day fam inc : Int} {L : List Ln} {Q : Nat → Nat} (hg : ∀ l ∈ L, goodL l = true) (hq : how = 4 → Fits zs fam inc L Q) (ht : 0 ≤ Income.aV zs fam inc) (he : (planR zs how day fam inc L Q).2 = 0) :
    (∀ k, k < L.length → 0 ≤ (planR zs how day fam inc L Q).1.getD k 0) ∧ (how = 4 → Income.aE zs fam inc = 0 ∧ Share.pre (fun k => (planR zs how day fam inc L Q).1.getD k 0) L.length ≤ Income.aV zs fam inc) := by
  by_cases h4 : how = 4
  · have e : planR zs how day fam inc L Q = incR zs fam inc L Q := by unfold planR; rw [if_pos h4]
    rw [e] at he ⊢
    obtain ⟨k1, -, k3, k4⟩ := inc_asks (hq h4) he ht
    exact ⟨k3, fun _ => ⟨k1, k4⟩⟩
  · refine ⟨?_, fun h => absurd h h4⟩
    unfold planR at he ⊢
    rw [if_neg h4] at he ⊢
    by_cases h3 : 1 ≤ how ∧ how ≤ 3
    · rw [if_pos h3] at he ⊢
      unfold eachR at he ⊢
      by_cases h5 : errs (askR how day) L = 0
      · rw [if_pos h5]
        intro k hk
        have e : (L.map fun l => (askR how day l).1).getD k 0 = (askR how day (L[k])).1 := by simp [List.getD_eq_getElem?_getD, hk]
        show 0 ≤ (L.map fun l => (askR how day l).1).getD k 0
        rw [e]
        exact ask_ge (hg _ (List.getElem_mem hk))
      · rw [if_neg h5] at he
        exact absurd he h5
    · rw [if_neg h3] at he
      exact absurd (show (1 : Int) = 0 from he) (by decide)
/-- What Asks asks, where it tells no error: what PlanMost reads of it. -/
theorem asks_most {zs : List Int} {s : Sc} {day : Int} {L : List Ln} {Q : Nat → Nat} (hq : FitsA zs s day L Q) (ht : 0 ≤ Income.aV zs s.fam s.inc) (h : (asksR zs s day L Q).2.2 = 0) :
    (asksR zs s day L Q).1 = (L.filter partB).map (fun l => l.id) ∧ (asksR zs s day L Q).2.1.length = (L.filter partB).length ∧
      (∀ k x, (L.filter partB)[k]? = some x → (owesR x).2 = 0 ∧ 0 ≤ (asksR zs s day L Q).2.1.getD k 0 ∧ (asksR zs s day L Q).2.1.getD k 0 ≤ (owesR x).1) ∧
      (holdsI s.plan s.since day = 4 → L.filter partB ≠ [] → Income.aE zs s.fam s.inc = 0 ∧ Share.pre (fun k => (asksR zs s day L Q).2.1.getD k 0) (L.filter partB).length ≤ Income.aV zs s.fam s.inc) := by
  have hc : Income.tabB zs = true ∧ Date.dayB day = true ∧ L.all goodL = true := by
    by_cases h1 : Income.tabB zs = true ∧ Date.dayB day = true ∧ L.all goodL = true
    · exact h1
    · unfold asksR at h
      rw [if_neg h1] at h
      exact absurd h (by decide)
  have hF := hq hc
  have hgp : ∀ l ∈ L.filter partB, goodL l = true := fun l hl => (part_of hc.2.2 l hl).1
  unfold asksR at h ⊢
  rw [if_pos hc] at h ⊢
  generalize L.filter partB = P at *
  by_cases h2 : P.length = 0
  · rw [if_pos h2]
    obtain rfl := List.length_eq_zero_iff.1 h2
    exact ⟨rfl, rfl, fun k x hk => by simp at hk, fun _ hn => absurd rfl hn⟩
  · rw [if_neg h2] at h ⊢
    unfold asksC at h ⊢
    by_cases h3 : (capR (planR zs (holdsI s.plan s.since day) day s.fam s.inc P Q) P).2 = 0
    · rw [if_pos h3]
      obtain ⟨k1, k2, k3⟩ := cap_yes h3
      obtain ⟨p1, p2⟩ := plan_asks (how := holdsI s.plan s.since day) (day := day) hgp hF ht k1
      dsimp only
      rw [k3]
      have hx : ∀ k x, P[k]? = some x → 0 ≤ (lessV (planR zs (holdsI s.plan s.since day) day s.fam s.inc P Q).1 P).getD k 0 ∧ (lessV (planR zs (holdsI s.plan s.since day) day s.fam s.inc P Q).1 P).getD k 0 ≤ (planR zs (holdsI s.plan s.since day) day s.fam s.inc P Q).1.getD k 0 ∧ (lessV (planR zs (holdsI s.plan s.since day) day s.fam s.inc P Q).1 P).getD k 0 ≤ (owesR x).1 := fun k x hk => by
        rw [lessV_at hk]
        have hk' := (List.getElem?_eq_some_iff.1 hk).1
        exact less_in (p1 k hk') (owes_in (hgp x (List.mem_of_getElem? hk))).1
      refine ⟨rfl, lessV_len _ _, fun k x hk => ⟨errs_zero k2 x (List.mem_of_getElem? hk), (hx k x hk).1, (hx k x hk).2.2⟩, fun h4 _ => ?_⟩
      obtain ⟨q1, q2⟩ := p2 h4
      exact ⟨q1, Int.le_trans (Share.pre_le fun k hk => (hx k _ (List.getElem?_eq_getElem hk)).2.1) q2⟩
    · rw [if_neg h3] at h
      exact absurd h h3
end Go.Proofs.YtkddiaiohnbjpaaGreatDoor.Plan
