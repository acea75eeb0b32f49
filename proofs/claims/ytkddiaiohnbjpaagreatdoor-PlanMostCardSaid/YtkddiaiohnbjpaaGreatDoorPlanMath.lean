/- Of layer 18: which plan holds, who takes part, what is asked, in plain words; no condition. -/
import Derived.Test.YtkddiaiohnbjpaaGreatDoorGCal
import Derived.Test.YtkddiaiohnbjpaaGreatDoorGDue
import Derived.Test.YtkddiaiohnbjpaaGreatDoorGLo
import Derived.Test.YtkddiaiohnbjpaaGreatDoorGLev
import Derived.Test.YtkddiaiohnbjpaaGreatDoorGStep
import Derived.Test.YtkddiaiohnbjpaaGreatDoorGInc
import Derived.Test.YtkddiaiohnbjpaaGreatDoorGRSplit
namespace Go.Proofs.YtkddiaiohnbjpaaGreatDoor.Plan
open Go.ChangeShapes Go.WideShapes Go.ChangeAt Go.RowKit Loan Money

/-- Which plan holds. -/
def holdsI (p since day : Int) : Int := if p = 0 then 1 else if p = 4 then (if Date.addE since 12 = 0 ∧ day < Date.addV since 12 then 4 else 1) else p
def partB (l : Ln) : Bool := l.closed == 0 && l.status == 5
def countsB (h : Int) : Bool := h == 1 || h == 4
/-- What Set tells. -/
def setR (l : Ln) : Ln × Int :=
  if goodL l = true then
    if l.closed = 0 then
      if Level.oE l.prin l.ppm 120 = 0 then
        if Level.oE l.prin l.ppm 300 = 0 then ({ l with level := Level.oV l.prin l.ppm 120, far := Level.oV l.prin l.ppm 300 }, 0) else (ln0, Level.oE l.prin l.ppm 300)
      else (ln0, Level.oE l.prin l.ppm 120)
    else (ln0, 61)
  else (ln0, 1)
/-- What a plan asks of a loan, whatever it owes. -/
def askR (how day : Int) (l : Ln) : Int × Int :=
  if how = 1 then (l.level, 0) else if how = 2 then (l.far, 0) else (Step.oV l.level (Due.whoV l.entered day), Step.oE l.level (Due.whoV l.entered day))
def ofO (how day : Int) (l : Ln) : Int × Int :=
  if (askR how day l).2 = 0 then (if (owesR l).2 = 0 then ((if (owesR l).1 < (askR how day l).1 then (owesR l).1 else (askR how day l).1), 0) else (0, (owesR l).2)) else (0, (askR how day l).2)
/-- What Of tells. -/
def ofR (how day : Int) (l : Ln) : Int × Int :=
  if goodL l = true ∧ (1 ≤ how ∧ how ≤ 3) ∧ Date.dayB day = true then (if partB l = true then ofO how day l else (0, 0)) else (0, 1)
/-- The first error of some loans. -/
def errs (g : Ln → Int × Int) : List Ln → Int
  | [] => 0
  | l :: r => if (g l).2 = 0 then errs g r else (g l).2
theorem errs_none {g : Ln → Int × Int} : ∀ {L : List Ln}, (∀ l ∈ L, (g l).2 = 0) → errs g L = 0
  | [], _ => rfl
  | l :: r, h => by
    unfold errs
    rw [if_pos (h l (by simp))]
    exact errs_none fun x hx => h x (by simp [hx])
theorem errs_zero {g : Ln → Int × Int} : ∀ {L : List Ln}, errs g L = 0 → ∀ l ∈ L, (g l).2 = 0
  | [], _, l, hl => by cases hl
  | a :: r, h, l, hl => by
    unfold errs at h
    by_cases ha : (g a).2 = 0
    · rw [if_pos ha] at h
      rcases List.mem_cons.1 hl with rfl | hl
      · exact ha
      · exact errs_zero h l hl
    · rw [if_neg ha] at h
      exact absurd h ha
theorem errs_at {g : Ln → Int × Int} : ∀ {L : List Ln} {j : Nat} {x : Ln}, L[j]? = some x → (∀ i, i < j → ∀ y, L[i]? = some y → (g y).2 = 0) → (g x).2 ≠ 0 → errs g L = (g x).2
  | [], j, x, h, _, _ => by simp at h
  | a :: r, 0, x, h, _, hx => by
    have e : a = x := by simpa using h
    subst e
    unfold errs
    rw [if_neg hx]
  | a :: r, j + 1, x, h, hb, hx => by
    unfold errs
    rw [if_pos (hb 0 (by omega) a rfl)]
    exact errs_at (by simpa using h) (fun i hi y hy => hb (i + 1) (by omega) y (by simpa using hy)) hx
theorem errs_all {g : Ln → Int × Int} {L : List Ln} (h : ∀ i, i < L.length → ∀ y, L[i]? = some y → (g y).2 = 0) : errs g L = 0 :=
  errs_none fun l hl => by
    obtain ⟨i, hi, rfl⟩ := List.getElem_of_mem hl
    exact h i hi _ (List.getElem?_eq_getElem hi)
theorem errs_same {g : Ln → Int × Int} {c : Int} : ∀ {L : List Ln}, (∀ l ∈ L, (g l).2 = 0 ∨ (g l).2 = c) → errs g L = 0 ∨ errs g L = c
  | [], _ => Or.inl rfl
  | a :: r, h => by
    unfold errs
    by_cases ha : (g a).2 = 0
    · rw [if_pos ha]
      exact errs_same fun l hl => h l (by simp [hl])
    · rw [if_neg ha]
      exact Or.inr ((h a (by simp)).resolve_left ha)
/-- The less of what is asked and what is owed. -/
def lessI (a b : Int) : Int := if b < a then b else a
/-- What is asked of each, but of none more than it owes. -/
def lessV (A : List Int) (L : List Ln) : List Int := (List.range L.length).map fun i => lessI (A.getD i 0) (owesR (L.getD i ln0)).1
/-- What capped tells of what a plan tells. -/
def capR (r : List Int × Int) (L : List Ln) : List Int × Int := if r.2 = 0 then (if errs owesR L = 0 then (lessV r.1 L, 0) else ([], errs owesR L)) else ([], r.2)
/-- What a plan tells that asks loan by loan. -/
def eachR (g : Ln → Int × Int) (L : List Ln) : List Int × Int := if errs g L = 0 then (L.map fun l => (g l).1, 0) else ([], errs g L)
theorem lessV_at {A : List Int} {L : List Ln} {i : Nat} {l : Ln} (h : L[i]? = some l) : (lessV A L).getD i 0 = lessI (A.getD i 0) (owesR l).1 := by
  obtain ⟨hi, rfl⟩ := List.getElem?_eq_some_iff.1 h
  unfold lessV
  simp [List.getD_eq_getElem?_getD, hi]
theorem lessV_len (A : List Int) (L : List Ln) : (lessV A L).length = L.length := by simp [lessV]
theorem owes_err {l : Ln} (h : goodL l = true) : (owesR l).2 = 0 ∨ (owesR l).2 = 14 := by
  unfold owesR
  rw [if_pos h]
  split <;> simp
theorem who_in (a b : Int) : 0 ≤ Due.whoV a b ∧ Due.whoV a b ≤ 2879 := by
  cases hb : Due.whoB a b with
  | false => rw [Due.who_no hb]; omega
  | true =>
    unfold Due.whoB at hb
    simp only [Bool.and_eq_true, Date.dayB, decide_eq_true_iff] at hb
    obtain ⟨x, hx⟩ : ∃ x : Nat, a = x := ⟨a.toNat, by omega⟩
    obtain ⟨y, hy⟩ : ∃ y : Nat, b = y := ⟨b.toNat, by omega⟩
    subst hx hy
    have := Due.who_is (x := x) (y := y) (by omega) (by omega)
    omega
theorem step_err {l m : Int} (h0 : 0 ≤ l) (h1 : l ≤ 10000000000000) (m0 : 0 ≤ m) : Step.oE l m = 0 ∨ Step.oE l m = 14 := by
  have hs := Step.sh_range (m.tdiv 24) (Int.tdiv_nonneg m0 (by decide))
  have h := (Step.o_good (l := l) (m := m) (by unfold Step.bad; omega)).2
  rw [h]
  generalize Step.shI (m.tdiv 24) = s at *
  by_cases g : 10000000000000 < rnd l s 100 1
  · exact Or.inr (md_out (by unfold mdBad; omega) g).2
  · exact Or.inl (md_in (by unfold mdBad; omega) g).2
theorem ask_err {how day : Int} {l : Ln} (h : goodL l = true) : (askR how day l).2 = 0 ∨ (askR how day l).2 = 14 := by
  have G := goodL_iff.1 h
  unfold askR
  split
  · exact Or.inl rfl
  · split
    · exact Or.inl rfl
    · exact step_err G.level0 G.level1 (who_in _ _).1
/-- An asking of loans that take part, loan by loan, each at most what it owes: the error is one, and so is what is asked. -/
theorem of_each {how day : Int} {L : List Ln} (hh : 1 ≤ how ∧ how ≤ 3) (hd : Date.dayB day = true) (hL : ∀ l ∈ L, goodL l = true ∧ partB l = true) :
    (errs (ofR how day) L = 0 ∧ capR (eachR (askR how day) L) L = (L.map fun l => (ofR how day l).1, 0)) ∨ (errs (ofR how day) L ≠ 0 ∧ capR (eachR (askR how day) L) L = ([], errs (ofR how day) L)) := by
  have ho : ∀ l ∈ L, ofR how day l = ofO how day l := fun l hl => by
    unfold ofR
    rw [if_pos ⟨(hL l hl).1, hh, hd⟩, if_pos (hL l hl).2]
  have e1 := errs_same (g := askR how day) (c := 14) (L := L) fun l hl => ask_err (hL l hl).1
  have e2 := errs_same (g := owesR) (c := 14) (L := L) fun l hl => owes_err (hL l hl).1
  have e3 := errs_same (g := ofR how day) (c := 14) (L := L) fun l hl => by
    rw [ho l hl]
    unfold ofO
    rcases ask_err (how := how) (day := day) (hL l hl).1 with h | h <;> rcases owes_err (hL l hl).1 with k | k <;> simp [h, k]
  by_cases h1 : errs (askR how day) L = 0
  · by_cases h2 : errs owesR L = 0
    · have z : errs (ofR how day) L = 0 := errs_none fun l hl => by
        rw [ho l hl]
        unfold ofO
        rw [if_pos (errs_zero h1 l hl), if_pos (errs_zero h2 l hl)]
      refine Or.inl ⟨z, ?_⟩
      unfold capR eachR
      rw [if_pos h1, if_pos rfl, if_pos h2]
      refine Prod.ext ?_ rfl
      refine List.ext_getElem (by simp [lessV]) fun i p1 p2 => ?_
      have hi : i < L.length := by simpa using p2
      have hm : L[i] ∈ L := List.getElem_mem hi
      simp only [lessV, List.getElem_map, List.getElem_range, lessI]
      rw [ho _ hm]
      unfold ofO
      rw [if_pos (errs_zero h1 _ hm), if_pos (errs_zero h2 _ hm)]
      simp [List.getD_eq_getElem?_getD, hi]
    · refine Or.inr ⟨fun z => h2 (errs_none fun l hl => ?_), ?_⟩
      · have := errs_zero z l hl
        rw [ho l hl] at this
        unfold ofO at this
        rw [if_pos (errs_zero h1 l hl)] at this
        by_cases k : (owesR l).2 = 0
        · exact k
        · rw [if_neg k] at this
          exact this
      · unfold capR eachR
        rw [if_pos h1, if_pos rfl, if_neg h2]
        have z : errs (ofR how day) L ≠ 0 := fun z => h2 (errs_none fun l hl => by
          have := errs_zero z l hl
          rw [ho l hl] at this
          unfold ofO at this
          rw [if_pos (errs_zero h1 l hl)] at this
          by_cases k : (owesR l).2 = 0
          · exact k
          · rw [if_neg k] at this
            exact this)
        rw [e2.resolve_left h2, e3.resolve_left z]
  · have z : errs (ofR how day) L ≠ 0 := fun z => h1 (errs_none fun l hl => by
      have := errs_zero z l hl
      rw [ho l hl] at this
      unfold ofO at this
      by_cases k : (askR how day l).2 = 0
      · exact k
      · rw [if_neg k] at this
        exact this)
    refine Or.inr ⟨z, ?_⟩
    unfold capR eachR
    rw [if_neg h1, if_neg h1, e1.resolve_left h1, e3.resolve_left z]
/-- By income: what is shared out by the principals. -/
def prins (L : List Ln) : List Int := L.map fun l => l.prin
noncomputable def incR (zs : List Int) (fam inc : Int) (L : List Ln) (Q : Nat → Nat) : List Int × Int :=
  if Income.aE zs fam inc = 0 then
    if (prins L).all (fun x => x == 0) = true then (List.replicate L.length 0, 0)
    else match Share.splitS (Income.aV zs fam inc) (prins L) with
      | some s => (Share.outL (Income.aV zs fam inc) s (prins L) Q, 0)
      | none => ([], 1)
  else ([], Income.aE zs fam inc)
/-- What the plan that holds tells of loans, whatever they owe. -/
noncomputable def planR (zs : List Int) (how day fam inc : Int) (L : List Ln) (Q : Nat → Nat) : List Int × Int :=
  if how = 4 then incR zs fam inc L Q else if 1 ≤ how ∧ how ≤ 3 then eachR (askR how day) L else ([], 1)
/-- Do the places fit, where something is shared out? -/
def Fits (zs : List Int) (fam inc : Int) (L : List Ln) (Q : Nat → Nat) : Prop :=
  Income.aE zs fam inc = 0 → (prins L).all (fun x => x == 0) = false → ∀ s, Share.splitS (Income.aV zs fam inc) (prins L) = some s → Share.Places (Income.aV zs fam inc) s (prins L) Q
/-- What the calls read of a state. -/
structure Sc where
  day : Int
  plan : Int
  since : Int
  inc : Int
  fam : Int
  ahead : Int
  p0 : Int
  p1 : Int
  p2 : Int
  p3 : Int
  written : Int
/-- Its cells: its loans and its bills are slices. -/
def Sc.cells (s : Sc) (lv bv : Value) : Array Value := #[.int .i64 s.day, lv, .int .i64 s.plan, .int .i64 s.since, .int .i64 s.inc, .int .i64 s.fam, bv, .int .i64 s.ahead, .int .i64 s.p0, .int .i64 s.p1, .int .i64 s.p2, .int .i64 s.p3, .int .i64 s.written]
noncomputable def asksC (zs : List Int) (s : Sc) (day : Int) (L : List Ln) (Q : Nat → Nat) : List Int × List Int × Int :=
  if (capR (planR zs (holdsI s.plan s.since day) day s.fam s.inc L Q) L).2 = 0 then (L.map (fun l => l.id), (capR (planR zs (holdsI s.plan s.since day) day s.fam s.inc L Q) L).1, 0)
  else ([], [], (capR (planR zs (holdsI s.plan s.since day) day s.fam s.inc L Q) L).2)
/-- What Asks tells: the ids, what is asked, the error. -/
noncomputable def asksR (zs : List Int) (s : Sc) (day : Int) (L : List Ln) (Q : Nat → Nat) : List Int × List Int × Int :=
  if Income.tabB zs = true ∧ Date.dayB day = true ∧ L.all goodL = true then
    if (L.filter partB).length = 0 then ([], [], 0) else asksC zs s day (L.filter partB) Q
  else ([], [], 1)
theorem part_of {L : List Ln} (h : L.all goodL = true) : ∀ l ∈ L.filter partB, goodL l = true ∧ partB l = true := fun l hl => by
  obtain ⟨h1, h2⟩ := List.mem_filter.1 hl
  exact ⟨List.all_eq_true.1 h l h1, h2⟩
end Go.Proofs.YtkddiaiohnbjpaaGreatDoor.Plan
