/- Plain numbers of layer 17: what a good table is, a family's number, its line, what is free, what is asked; and what follows. -/
import Derived.Test.YtldcocckfemgbaaRnd
namespace Go.Proofs.Ytldcocckfemgbaa.Income
open Go.ChangeShapes Go.WideShapes Go.ChangeAt Go.RowKit Bits Money

/-- None is below the one ahead. -/
def Rises (zs : List Int) : Prop := ∀ j : Nat, j + 1 < zs.length → zs.getD j 0 ≤ zs.getD (j + 1) 0
def Within (zs : List Int) : Prop := ∀ j : Nat, j < zs.length → 0 ≤ zs.getD j 0 ∧ zs.getD j 0 ≤ 1000000000
def Tab (zs : List Int) : Prop := 1 ≤ zs.length ∧ zs.length ≤ 30 ∧ Within zs ∧ Rises zs
open Classical in
noncomputable def risB (zs : List Int) : Bool := decide (Rises zs)
open Classical in
noncomputable def tabB (zs : List Int) : Bool := decide (Tab zs)
theorem risB_yes {zs : List Int} (h : Rises zs) : risB zs = true := by unfold risB; exact @decide_eq_true _ (Classical.propDecidable _) h
theorem risB_no {zs : List Int} (h : ¬ Rises zs) : risB zs = false := by unfold risB; exact @decide_eq_false _ (Classical.propDecidable _) h
theorem tabB_yes {zs : List Int} (h : Tab zs) : tabB zs = true := by unfold tabB; exact @decide_eq_true _ (Classical.propDecidable _) h
theorem tabB_no {zs : List Int} (h : ¬ Tab zs) : tabB zs = false := by unfold tabB; exact @decide_eq_false _ (Classical.propDecidable _) h
theorem tabB_iff {zs : List Int} : tabB zs = true ↔ Tab zs := by unfold tabB; exact @decide_eq_true_iff _ (Classical.propDecidable _)
theorem rises_far {zs : List Int} (h : Rises zs) (i : Nat) : ∀ k : Nat, i + k < zs.length → zs.getD i 0 ≤ zs.getD (i + k) 0
  | 0, _ => Int.le_refl _
  | k + 1, hk => Int.le_trans (rises_far h i k (by omega)) (h (i + k) (by omega))
theorem rises_le {zs : List Int} (h : Rises zs) {i j : Nat} (hij : i ≤ j) (hj : j < zs.length) : zs.getD i 0 ≤ zs.getD j 0 := by
  have := rises_far h i (j - i) (by omega)
  rw [show i + (j - i) = j from by omega] at this
  exact this
theorem tab_ends {zs : List Int} (h1 : 1 ≤ zs.length) (h2 : zs.length ≤ 30) (h3 : Rises zs) (h4 : 0 ≤ zs.getD 0 0) (h5 : zs.getD (zs.length - 1) 0 ≤ 1000000000) : Tab zs :=
  ⟨h1, h2, fun j hj => ⟨Int.le_trans h4 (rises_le h3 (Nat.zero_le j) hj), Int.le_trans (rises_le h3 (show j ≤ zs.length - 1 by omega) (by omega)) h5⟩, h3⟩

/-- The place of a family's number. -/
def plc (n : Nat) (f : Int) : Nat := (if f < n then f else n).toNat - 1
def num (zs : List Int) (f : Int) : Int := zs.getD (plc zs.length f) 0
def line (zs : List Int) (f : Int) : Int := rnd (num zs f) 3 2 1
def free (zs : List Int) (f n : Int) : Int := if n - line zs f < 0 then 0 else n - line zs f
def ask (zs : List Int) (f n : Int) : Int := rnd (free zs f n) 1 120 2
def okL (zs : List Int) (f : Int) : Prop := Tab zs ∧ 1 ≤ f ∧ f ≤ 30
def okF (zs : List Int) (f n : Int) : Prop := okL zs f ∧ 0 ≤ n ∧ n ≤ 1000000000
open Classical in
noncomputable def lV (zs : List Int) (f : Int) : Int := if okL zs f then line zs f else 0
open Classical in
noncomputable def lE (zs : List Int) (f : Int) : Int := if okL zs f then 0 else 1
open Classical in
noncomputable def fV (zs : List Int) (f n : Int) : Int := if okF zs f n then free zs f n else 0
open Classical in
noncomputable def fE (zs : List Int) (f n : Int) : Int := if okF zs f n then 0 else 1
open Classical in
noncomputable def aV (zs : List Int) (f n : Int) : Int := if okF zs f n then ask zs f n else 0
open Classical in
noncomputable def aE (zs : List Int) (f n : Int) : Int := if okF zs f n then 0 else 1
theorem l_yes {zs : List Int} {f : Int} (h : okL zs f) : lV zs f = line zs f ∧ lE zs f = 0 := by unfold lV lE; rw [if_pos h, if_pos h]; exact ⟨rfl, rfl⟩
theorem l_no {zs : List Int} {f : Int} (h : ¬ okL zs f) : lV zs f = 0 ∧ lE zs f = 1 := by unfold lV lE; rw [if_neg h, if_neg h]; exact ⟨rfl, rfl⟩
theorem f_yes {zs : List Int} {f n : Int} (h : okF zs f n) : fV zs f n = free zs f n ∧ fE zs f n = 0 := by unfold fV fE; rw [if_pos h, if_pos h]; exact ⟨rfl, rfl⟩
theorem f_no {zs : List Int} {f n : Int} (h : ¬ okF zs f n) : fV zs f n = 0 ∧ fE zs f n = 1 := by unfold fV fE; rw [if_neg h, if_neg h]; exact ⟨rfl, rfl⟩
theorem a_yes {zs : List Int} {f n : Int} (h : okF zs f n) : aV zs f n = ask zs f n ∧ aE zs f n = 0 := by unfold aV aE; rw [if_pos h, if_pos h]; exact ⟨rfl, rfl⟩
theorem a_no {zs : List Int} {f n : Int} (h : ¬ okF zs f n) : aV zs f n = 0 ∧ aE zs f n = 1 := by unfold aV aE; rw [if_neg h, if_neg h]; exact ⟨rfl, rfl⟩

theorem plc_in {n : Nat} {f : Int} (h : 1 ≤ n) (f1 : 1 ≤ f) : plc n f < n := by unfold plc; split <;> omega
theorem plc_more {n : Nat} {f g : Int} (h : f ≤ g) : plc n f ≤ plc n g := by unfold plc; split <;> split <;> omega
theorem num_in {zs : List Int} {f : Int} (h : Tab zs) (f1 : 1 ≤ f) : 0 ≤ num zs f ∧ num zs f ≤ 1000000000 := h.2.2.1 _ (plc_in h.1 f1)
theorem num_more {zs : List Int} {f g : Int} (h : Tab zs) (f1 : 1 ≤ f) (hg : f ≤ g) : num zs f ≤ num zs g := rises_le h.2.2.2 (plc_more hg) (plc_in h.1 (by omega))
theorem line_in {zs : List Int} {f : Int} (h : Tab zs) (f1 : 1 ≤ f) : 0 ≤ line zs f ∧ line zs f ≤ 1500000001 := by
  obtain ⟨a, b⟩ := num_in h f1
  have h1 := rnd_ge (num zs f) 3 2 1
  have h2 := rnd_le (num zs f) 3 2 1
  unfold line
  omega
theorem line_more {zs : List Int} {f g : Int} (h : Tab zs) (f1 : 1 ≤ f) (hg : f ≤ g) : line zs f ≤ line zs g := by
  have := num_more h f1 hg
  exact rnd_more (by omega) (by omega)
theorem free_in {zs : List Int} {f n : Int} (h : Tab zs) (f1 : 1 ≤ f) (n1 : 0 ≤ n) (n2 : n ≤ 1000000000) : 0 ≤ free zs f n ∧ free zs f n ≤ 1000000000 := by
  obtain ⟨a, b⟩ := line_in h f1
  unfold free; split <;> omega
theorem free_more {zs : List Int} {f m n : Int} (h : m ≤ n) : free zs f m ≤ free zs f n := by unfold free; split <;> split <;> omega
theorem free_less {zs : List Int} {f g n : Int} (h : Tab zs) (f1 : 1 ≤ f) (hg : f ≤ g) : free zs g n ≤ free zs f n := by
  have := line_more h f1 hg
  unfold free; split <;> split <;> omega
theorem ask_more {zs : List Int} {f m n : Int} (h : m ≤ n) : ask zs f m ≤ ask zs f n := by
  have := free_more (zs := zs) (f := f) h
  exact rnd_more (by omega) (by omega)
theorem ask_less {zs : List Int} {f g n : Int} (h : Tab zs) (f1 : 1 ≤ f) (hg : f ≤ g) : ask zs g n ≤ ask zs f n := by
  have := free_less (n := n) h f1 hg
  exact rnd_more (by omega) (by omega)
theorem ask_none {zs : List Int} {f n : Int} (h : n ≤ line zs f) : ask zs f n = 0 := by
  have e : free zs f n = 0 := by unfold free; split <;> omega
  unfold ask
  rw [e]
  decide +kernel
theorem ask_tenth {zs : List Int} {f n : Int} : 120 * ask zs f n ≤ free zs f n + 60 ∧ free zs f n ≤ 120 * ask zs f n + 60 := by
  unfold ask
  generalize free zs f n = a
  rcases rnd_cases a 1 120 2 with ⟨h, e⟩ | ⟨h, e⟩
  · rw [rises_iff] at h; rw [e]; omega
  · rw [← Bool.not_eq_true, rises_iff] at h; rw [e]; omega
theorem ask_in {zs : List Int} {f n : Int} (h : Tab zs) (f1 : 1 ≤ f) (n1 : 0 ≤ n) (n2 : n ≤ 1000000000) : 0 ≤ ask zs f n ∧ ask zs f n ≤ 8333334 := by
  obtain ⟨a, b⟩ := free_in h f1 n1 n2
  have := ask_tenth (zs := zs) (f := f) (n := n)
  omega
end Go.Proofs.Ytldcocckfemgbaa.Income
