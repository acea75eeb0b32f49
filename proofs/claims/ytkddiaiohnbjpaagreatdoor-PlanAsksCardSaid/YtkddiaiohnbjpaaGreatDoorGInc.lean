/- Plain numbers of layer 17: what a good table is, a family's number, its line, what is free, what is asked; and what follows. The program's own income: whether a table is good, the line, what is free, what is asked. The document's own answers of layer 17: Good, Line, Free, Ask. -/
import Derived.Test.YtkddiaiohnbjpaaGreatDoorGNum
import Derived.Test.YtkddiaiohnbjpaaGreatDoorGA
import Derived.Deep.QuietTactic
import Derived.BigQuiet
namespace Go.Proofs.YtkddiaiohnbjpaaGreatDoor.Income
open Go.ChangeShapes Go.WideShapes Go.ChangeAt Go.RowKit Bits Money

/-- None is below the one ahead. -/
def Rises (zs : List Int) : Prop := ∀ j : Nat, j + 1 < zs.length → zs.getD j 0 ≤ zs.getD (j + 1) 0
def Within (zs : List Int) : Prop := ∀ j : Nat, j < zs.length → 0 ≤ zs.getD j 0 ∧ zs.getD j 0 ≤ 1000000000
def Tab (zs : List Int) : Prop := 1 ≤ zs.length ∧ zs.length ≤ 30 ∧ Within zs ∧ Rises zs
open Classical in
noncomputable def risB (zs : List Int) : Bool := decide (Rises zs)
open Classical in
noncomputable def tabB (zs : List Int) : Bool := decide (Tab zs)
theorem risB_yes {zs : List Int} (h : Rises zs) : risB zs = true := by unfold risB; exact @decide_eq_true _ (Classical.propDecidable _) h
theorem risB_no {zs : List Int} (h : ¬ Rises zs) : risB zs = false := by unfold risB; exact @decide_eq_false _ (Classical.propDecidable _) h
theorem tabB_yes {zs : List Int} (h : Tab zs) : tabB zs = true := by unfold tabB; exact @decide_eq_true _ (Classical.propDecidable _) h
theorem tabB_no {zs : List Int} (h : ¬ Tab zs) : tabB zs = false := by unfold tabB; exact @decide_eq_false _ (Classical.propDecidable _) h
theorem tabB_iff {zs : List Int} : tabB zs = true ↔ Tab zs := by unfold tabB; exact @decide_eq_true_iff _ (Classical.propDecidable _)
theorem rises_far {zs : List Int} (h : Rises zs) (i : Nat) : ∀ k : Nat, i + k < zs.length → zs.getD i 0 ≤ zs.getD (i + k) 0
  | 0, _ => Int.le_refl _
  | k + 1, hk => Int.le_trans (rises_far h i k (by omega)) (h (i + k) (by omega))
theorem rises_le {zs : List Int} (h : Rises zs) {i j : Nat} (hij : i ≤ j) (hj : j < zs.length) : zs.getD i 0 ≤ zs.getD j 0 := by
  have := rises_far h i (j - i) (by omega)
  rw [show i + (j - i) = j from by omega] at this
  exact this
theorem tab_ends {zs : List Int} (h1 : 1 ≤ zs.length) (h2 : zs.length ≤ 30) (h3 : Rises zs) (h4 : 0 ≤ zs.getD 0 0) (h5 : zs.getD (zs.length - 1) 0 ≤ 1000000000) : Tab zs :=
  ⟨h1, h2, fun j hj => ⟨Int.le_trans h4 (rises_le h3 (Nat.zero_le j) hj), Int.le_trans (rises_le h3 (show j ≤ zs.length - 1 by omega) (by omega)) h5⟩, h3⟩

/-- The place of a family's number. -/
def plc (n : Nat) (f : Int) : Nat := (if f < n then f else n).toNat - 1
def num (zs : List Int) (f : Int) : Int := zs.getD (plc zs.length f) 0
def line (zs : List Int) (f : Int) : Int := rnd (num zs f) 3 2 1
def free (zs : List Int) (f n : Int) : Int := if n - line zs f < 0 then 0 else n - line zs f
def ask (zs : List Int) (f n : Int) : Int := rnd (free zs f n) 1 120 2
def okL (zs : List Int) (f : Int) : Prop := Tab zs ∧ 1 ≤ f ∧ f ≤ 30
def okF (zs : List Int) (f n : Int) : Prop := okL zs f ∧ 0 ≤ n ∧ n ≤ 1000000000
open Classical in
noncomputable def lV (zs : List Int) (f : Int) : Int := if okL zs f then line zs f else 0
open Classical in
noncomputable def lE (zs : List Int) (f : Int) : Int := if okL zs f then 0 else 1
open Classical in
noncomputable def fV (zs : List Int) (f n : Int) : Int := if okF zs f n then free zs f n else 0
open Classical in
noncomputable def fE (zs : List Int) (f n : Int) : Int := if okF zs f n then 0 else 1
open Classical in
noncomputable def aV (zs : List Int) (f n : Int) : Int := if okF zs f n then ask zs f n else 0
open Classical in
noncomputable def aE (zs : List Int) (f n : Int) : Int := if okF zs f n then 0 else 1
theorem l_yes {zs : List Int} {f : Int} (h : okL zs f) : lV zs f = line zs f ∧ lE zs f = 0 := by unfold lV lE; rw [if_pos h, if_pos h]; exact ⟨rfl, rfl⟩
theorem l_no {zs : List Int} {f : Int} (h : ¬ okL zs f) : lV zs f = 0 ∧ lE zs f = 1 := by unfold lV lE; rw [if_neg h, if_neg h]; exact ⟨rfl, rfl⟩
theorem f_yes {zs : List Int} {f n : Int} (h : okF zs f n) : fV zs f n = free zs f n ∧ fE zs f n = 0 := by unfold fV fE; rw [if_pos h, if_pos h]; exact ⟨rfl, rfl⟩
theorem f_no {zs : List Int} {f n : Int} (h : ¬ okF zs f n) : fV zs f n = 0 ∧ fE zs f n = 1 := by unfold fV fE; rw [if_neg h, if_neg h]; exact ⟨rfl, rfl⟩
theorem a_yes {zs : List Int} {f n : Int} (h : okF zs f n) : aV zs f n = ask zs f n ∧ aE zs f n = 0 := by unfold aV aE; rw [if_pos h, if_pos h]; exact ⟨rfl, rfl⟩
theorem a_no {zs : List Int} {f n : Int} (h : ¬ okF zs f n) : aV zs f n = 0 ∧ aE zs f n = 1 := by unfold aV aE; rw [if_neg h, if_neg h]; exact ⟨rfl, rfl⟩

theorem plc_in {n : Nat} {f : Int} (h : 1 ≤ n) (f1 : 1 ≤ f) : plc n f < n := by unfold plc; split <;> omega
theorem plc_more {n : Nat} {f g : Int} (h : f ≤ g) : plc n f ≤ plc n g := by unfold plc; split <;> split <;> omega
theorem num_in {zs : List Int} {f : Int} (h : Tab zs) (f1 : 1 ≤ f) : 0 ≤ num zs f ∧ num zs f ≤ 1000000000 := h.2.2.1 _ (plc_in h.1 f1)
theorem num_more {zs : List Int} {f g : Int} (h : Tab zs) (f1 : 1 ≤ f) (hg : f ≤ g) : num zs f ≤ num zs g := rises_le h.2.2.2 (plc_more hg) (plc_in h.1 (by omega))
theorem line_in {zs : List Int} {f : Int} (h : Tab zs) (f1 : 1 ≤ f) : 0 ≤ line zs f ∧ line zs f ≤ 1500000001 := by
  obtain ⟨a, b⟩ := num_in h f1
  have h1 := rnd_ge (num zs f) 3 2 1
  have h2 := rnd_le (num zs f) 3 2 1
  unfold line
  omega
theorem line_more {zs : List Int} {f g : Int} (h : Tab zs) (f1 : 1 ≤ f) (hg : f ≤ g) : line zs f ≤ line zs g := by
  have := num_more h f1 hg
  exact rnd_more (by omega) (by omega)
theorem free_in {zs : List Int} {f n : Int} (h : Tab zs) (f1 : 1 ≤ f) (n1 : 0 ≤ n) (n2 : n ≤ 1000000000) : 0 ≤ free zs f n ∧ free zs f n ≤ 1000000000 := by
  obtain ⟨a, b⟩ := line_in h f1
  unfold free; split <;> omega
theorem free_more {zs : List Int} {f m n : Int} (h : m ≤ n) : free zs f m ≤ free zs f n := by unfold free; split <;> split <;> omega
theorem free_less {zs : List Int} {f g n : Int} (h : Tab zs) (f1 : 1 ≤ f) (hg : f ≤ g) : free zs g n ≤ free zs f n := by
  have := line_more h f1 hg
  unfold free; split <;> split <;> omega
theorem ask_more {zs : List Int} {f m n : Int} (h : m ≤ n) : ask zs f m ≤ ask zs f n := by
  have := free_more (zs := zs) (f := f) h
  exact rnd_more (by omega) (by omega)
theorem ask_less {zs : List Int} {f g n : Int} (h : Tab zs) (f1 : 1 ≤ f) (hg : f ≤ g) : ask zs g n ≤ ask zs f n := by
  have := free_less (n := n) h f1 hg
  exact rnd_more (by omega) (by omega)
theorem ask_none {zs : List Int} {f n : Int} (h : n ≤ line zs f) : ask zs f n = 0 := by
  have e : free zs f n = 0 := by unfold free; split <;> omega
  unfold ask
  rw [e]
  decide +kernel
theorem ask_tenth {zs : List Int} {f n : Int} : 120 * ask zs f n ≤ free zs f n + 60 ∧ free zs f n ≤ 120 * ask zs f n + 60 := by
  unfold ask
  generalize free zs f n = a
  rcases rnd_cases a 1 120 2 with ⟨h, e⟩ | ⟨h, e⟩
  · rw [rises_iff] at h; rw [e]; omega
  · rw [← Bool.not_eq_true, rises_iff] at h; rw [e]; omega
theorem ask_in {zs : List Int} {f n : Int} (h : Tab zs) (f1 : 1 ≤ f) (n1 : 0 ≤ n) (n2 : n ≤ 1000000000) : 0 ≤ ask zs f n ∧ ask zs f n ≤ 8333334 := by
  obtain ⟨a, b⟩ := free_in h f1 n1 n2
  have := ask_tenth (zs := zs) (f := f) (n := n)
  omega
end Go.Proofs.YtkddiaiohnbjpaaGreatDoor.Income
namespace Go.Proofs.YtkddiaiohnbjpaaGreatDoor.Income
open Go.ChangeShapes Go.WideShapes Go.ChangeAt Go.RowKit Bits Money Slice

theorem quiet_left {P : Program} {f : FuncId} {args : Array Value} {w : World} {n : Nat} {v : Value} (h : Calls P f args (w.drewN n) fun e w' => e = .returned v ∧ w.drewN n = w') :
    Calls P f args (w.drewN n) fun e w'' => e = .returned v ∧ ∃ m, w'' = w.drewN m := h.mono fun _ _ ⟨he, hm⟩ => ⟨he, n, hm.symm⟩
theorem drew_more {w wr : World} (h : ∃ n, wr = w.drewN n) (k : Nat) : ∃ m, wr.drewN k = w.drewN m := by
  obtain ⟨n, rfl⟩ := h
  exact ⟨n + k, by simp⟩
theorem nan_any (x : Int) (w : World) : Calls Tryz.prog 135 #[.int .i64 x] w fun e w' => e = .returned (.bool false) ∧ w = w' := by
  have t : (x == x) = true := by simp
  go_enter Tryz.func135, Tryz.ntmps135
  go_wp2_with fail
  go_ret
  exact ⟨rfl, rfl⟩
theorem less_any (x y : Int) (w : World) : Calls Tryz.prog 107 #[.int .i64 x, .int .i64 y] w fun e w' => e = .returned (.bool (decide (x < y))) ∧ w = w' := by
  have K := Lib.hid (fun W => nan_any x W)
  go_enter Tryz.func107, Tryz.ntmps107
  go_wp2_with fail
  refine (K.out _).mono ?_
  rintro e w1 ⟨rfl, rfl⟩
  go_wp2_with fail
  go_ret
  exact ⟨rfl, rfl⟩

set_option maxHeartbeats 400000 in
theorem sorted_any (zs : List Int) (v : Value) (B : Nat) (w : World) (hv : Ints w B .i64 v zs) :
    Calls Tryz.prog 70 #[v] w fun e w' => e = .returned (.bool (risB zs)) ∧ ∃ n, w' = w.drewN n := by
  obtain ⟨A, c, rfl, hl, -, hcell⟩ := hv
  have HC := Lib.hid hcell
  have HE : Hid ((∀ j : Nat, 0 ≤ j → j + 1 < zs.length → zs.getD j 0 ≤ zs.getD (j + 1) 0) → risB zs = true) := fun h => risB_yes fun j hj => h j (Nat.zero_le j) hj
  have HF : Hid (∀ j : Nat, j + 1 < zs.length → zs.getD (j + 1) 0 < zs.getD j 0 → risB zs = false) := fun j hj h => risB_no fun g => by have := g j hj; omega
  clear hcell
  have hw : wrap64 ((zs.length : Int) - 1) = (zs.length : Int) - 1 := by unfold wrap64; omega
  generalize hR : risB zs = R at *
  clear hR
  go_enter Tryz.func70, Tryz.ntmps70
  go_wp2_with fail
  go_loopw [3] (fun t wr => ∃ i : Int, -1 ≤ i ∧ i ≤ (zs.length : Int) - 1 ∧ t = .int .i64 i ∧ Hid (∀ j : Nat, i ≤ j → j + 1 < zs.length → zs.getD j 0 ≤ zs.getD (j + 1) 0) ∧ ∃ n, wr = w.drewN n) (fun t _ => (intOf t).toNat)
  case atStart => exact ⟨(zs.length : Int) - 1, by omega, by omega, rfl, fun j h1 h2 => by omega, 0, rfl⟩
  case round =>
    obtain ⟨i, hi, hj, rfl, HP, hwr⟩ := hrel
    have HW := Lib.hid hwr
    clear hwr
    by_cases hlt : 0 < i
    · obtain ⟨k, rfl⟩ : ∃ k : Nat, i = (k : Int) + 1 := ⟨(i - 1).toNat, by omega⟩
      obtain ⟨b, off, rfl, hb, hcell⟩ := HC.out (by omega)
      have hx : wr.cell? ⟨b, off + (k + 1), none⟩ = some (.int .i64 (zs.getD (k + 1) 0)) := by obtain ⟨n, e⟩ := HW.out; rw [e]; exact hcell (k + 1) (by omega)
      have hy : wr.cell? ⟨b, off + k, none⟩ = some (.int .i64 (zs.getD k 0)) := by obtain ⟨n, e⟩ := HW.out; rw [e]; exact hcell k (by omega)
      clear hcell
      have HG := Lib.hid (HF.out k (by omega))
      have hq : wrap64 ((k : Int) + 1 - 1) = k := by unfold wrap64; omega
      have hq2 : IntKind.i64.wrap (k : Int) = k := IntWalk.i64_in _ (by omega)
      have hn1 : ((k : Int) + 1).toNat = k + 1 := by omega
      have hp0 : (0 : Int) ≤ (k : Int) + 1 := by omega
      have hp1 : (k : Int) + 1 < zs.length := by omega
      have hp2 : (k : Int) < zs.length := by omega
      have hp3 : (0 : Int) ≤ (k : Int) := by omega
      have HS : Hid (¬ zs.getD (k + 1) 0 < zs.getD k 0 → ∀ j : Nat, (k : Int) ≤ j → j + 1 < zs.length → zs.getD j 0 ≤ zs.getD (j + 1) 0) := fun hh j h1 h2 => by
        by_cases e : j = k
        · subst e; omega
        · exact HP.out j (by omega) h2
      have HI := Lib.hid hi
      have HJ := Lib.hid hj
      clear HP hi hj
      generalize zs.getD (k + 1) 0 = x at *
      generalize zs.getD k 0 = y at *
      by_cases hxy : x < y
      · have HR := Lib.hid (HG.out hxy)
        have K := Lib.hid (fun W => (by have t := less_any x y W; rw [decide_eq_true hxy] at t; exact t : Calls Tryz.prog 107 #[.int .i64 x, .int .i64 y] W fun e w' => e = .returned (.bool true) ∧ W = w'))
        clear hxy
        go_wp2_with fail
        go_quiet ((exact quiet_left (K.out _)))
        go_wp2_with fail
        go_ret
        exact ⟨by rw [HR.out]; rfl, drew_more HW.out _⟩
      · have HQ := Lib.hid (HS.out hxy)
        have K := Lib.hid (fun W => (by have t := less_any x y W; rw [decide_eq_false hxy] at t; exact t : Calls Tryz.prog 107 #[.int .i64 x, .int .i64 y] W fun e w' => e = .returned (.bool false) ∧ W = w'))
        clear hxy
        go_wp2_with fail
        go_quiet ((exact quiet_left (K.out _)))
        go_wp2_with fail
        go_roundw
        case rel => exact ⟨k, by omega, by omega, rfl, HQ.out, drew_more HW.out _⟩
        case measure => simp [intOf]
    · have HR := Lib.hid (HE.out fun j h1 h2 => HP.out j (by omega) h2)
      go_wp2_with fail
      go_ret
      exact ⟨by rw [HR.out]; rfl, HW.out⟩

theorem sorted_is (zs : List Int) (v : Value) (B : Nat) (b : Bool) (w : World) (hv : Ints w B .i64 v zs) (h : risB zs = b) :
    Calls Tryz.prog 70 #[v] w fun e w' => e = .returned (.bool b) ∧ ∃ n, w' = w.drewN n := by
  rw [← h]; exact sorted_any zs v B w hv
set_option maxHeartbeats 400000 in
theorem good_any (zs : List Int) (v : Value) (B : Nat) (w : World) (hv : Ints w B .i64 v zs) :
    Calls Tryz.prog 32 #[v] w fun e w' => e = .returned (.bool (tabB zs)) ∧ ∃ n, w' = w.drewN n := by
  obtain ⟨A, c, rfl, hl, hn, hcell⟩ := hv
  have HV : Hid (Ints w B .i64 (.slice A zs.length c) zs) := ⟨A, c, rfl, hl, hn, hcell⟩
  clear hn
  by_cases h0 : zs.length = 0
  · have HR : Hid (tabB zs = false) := tabB_no fun h => by have := h.1; omega
    generalize hR : tabB zs = R at *
    clear hR hcell HV
    generalize zs.length = N at *
    subst h0
    go_enter Tryz.func32, Tryz.ntmps32
    go_wp2_with fail
    go_ret
    exact ⟨by rw [HR.out]; rfl, 0, rfl⟩
  obtain ⟨b, off, rfl, hb, hc⟩ := hcell (by omega)
  have hx := hc 0 (by omega)
  rw [Nat.add_zero] at hx
  have hy := hc (zs.length - 1) (by omega)
  clear hcell hc
  obtain ⟨R, hR⟩ : ∃ R, tabB zs = R := ⟨_, rfl⟩
  obtain ⟨k, hk⟩ : ∃ k : Nat, zs.length = k + 1 := ⟨zs.length - 1, by omega⟩
  have HS : Hid (∀ (g : Bool) (W : World), Ints W B .i64 (.slice (some ⟨b, off, none⟩) (k + 1) c) zs → risB zs = g → Calls Tryz.prog 70 #[.slice (some ⟨b, off, none⟩) (k + 1) c] W fun e w' => e = .returned (.bool g) ∧ ∃ n, w' = W.drewN n) := fun g W h => sorted_is zs _ B g W h
  have H1 : Hid (30 < k + 1 → R = false) := fun h => hR ▸ tabB_no fun g => by have := g.2.1; omega
  have H2 : Hid (¬ Rises zs → R = false) := fun h => hR ▸ tabB_no fun g => h g.2.2.2
  have H3 : Hid (zs.getD 0 0 < 0 → R = false) := fun h => hR ▸ tabB_no fun g => by have := (g.2.2.1 0 (by omega)).1; omega
  have H4 : Hid (1000000000 < zs.getD k 0 → R = false) := fun h => hR ▸ tabB_no fun g => by have := (g.2.2.1 k (by omega)).2; omega
  have H5 : Hid (k + 1 ≤ 30 → Rises zs → 0 ≤ zs.getD 0 0 → zs.getD k 0 ≤ 1000000000 → R = true) := fun a1 a2 a3 a4 => hR ▸ tabB_yes (tab_ends (by omega) (by omega) a2 a3 (by rw [show zs.length - 1 = k from by omega]; exact a4))
  rw [hR]
  rw [hk] at hy HV
  rw [show k + 1 - 1 = k from by omega] at hy
  simp only [hk]
  rw [hk] at hl
  clear hR h0 hk
  have hq : wrap64 ((k : Int) + 1 - 1) = k := by unfold wrap64; omega
  have hq2 : IntKind.i64.wrap (k : Int) = k := IntWalk.i64_in _ (by omega)
  have t0 : (((k : Int) + 1) == 0) = false := by rw [beq_eq_false_iff_ne]; omega
  have p3 : (0 : Int) ≤ (k : Int) := by omega
  have p4 : (k : Int) < (k : Int) + 1 := by omega
  have p5 : (0 : Int) < (k : Int) + 1 := by omega
  by_cases h1 : 30 < k + 1
  · have HR := Lib.hid (H1.out h1)
    have t1 : decide ((30 : Int) < (k : Int) + 1) = true := decide_eq_true (by omega)
    clear h1 HS hx hy HV H1 H2 H3 H4 H5
    go_enter Tryz.func32, Tryz.ntmps32
    go_wp2_with fail
    go_ret
    exact ⟨by rw [HR.out]; rfl, 0, rfl⟩
  have t1 : decide ((30 : Int) < (k : Int) + 1) = false := decide_eq_false (by omega)
  by_cases h2 : Rises zs
  · have K := Lib.hid (fun (_ : Unit) => HS.out true w HV.out (risB_yes h2))
    clear HS H1 H2
    by_cases h3 : zs.getD 0 0 < 0
    · have HR := Lib.hid (H3.out h3)
      have t2 : decide (0 ≤ zs.getD 0 0) = false := decide_eq_false (by omega)
      generalize zs.getD 0 0 = x at *
      generalize zs.getD k 0 = y at *
      clear h1 h2 h3 H3 H4 H5
      go_enter Tryz.func32, Tryz.ntmps32
      go_wp2_with fail
      refine (K.out ()).mono ?_
      rintro e w1 ⟨rfl, n, rfl⟩
      go_wp2_with fail
      go_ret
      exact ⟨by rw [HR.out]; rfl, n, rfl⟩
    by_cases h4 : 1000000000 < zs.getD k 0
    · have HR := Lib.hid (H4.out h4)
      have t2 : decide (0 ≤ zs.getD 0 0) = true := decide_eq_true (by omega)
      have t3 : decide (zs.getD k 0 ≤ 1000000000) = false := decide_eq_false (by omega)
      generalize zs.getD 0 0 = x at *
      generalize zs.getD k 0 = y at *
      clear h1 h2 h3 h4 H3 H4 H5
      go_enter Tryz.func32, Tryz.ntmps32
      go_wp2_with fail
      refine (K.out ()).mono ?_
      rintro e w1 ⟨rfl, n, rfl⟩
      go_wp2_with fail
      go_ret
      exact ⟨by rw [HR.out]; rfl, n, rfl⟩
    have HR := Lib.hid (H5.out (by omega) h2 (by omega) (by omega))
    have t2 : decide (0 ≤ zs.getD 0 0) = true := decide_eq_true (by omega)
    have t3 : decide (zs.getD k 0 ≤ 1000000000) = true := decide_eq_true (by omega)
    generalize zs.getD 0 0 = x at *
    generalize zs.getD k 0 = y at *
    clear h1 h2 h3 h4 H3 H4 H5
    go_enter Tryz.func32, Tryz.ntmps32
    go_wp2_with fail
    refine (K.out ()).mono ?_
    rintro e w1 ⟨rfl, n, rfl⟩
    go_wp2_with fail
    go_ret
    exact ⟨by rw [HR.out]; rfl, n, rfl⟩
  · have K := Lib.hid (fun (_ : Unit) => HS.out false w HV.out (risB_no h2))
    have HR := Lib.hid (H2.out h2)
    clear HS h1 h2 H1 H2 H3 H4 H5 hx hy HV
    go_enter Tryz.func32, Tryz.ntmps32
    go_wp2_with fail
    refine (K.out ()).mono ?_
    rintro e w1 ⟨rfl, n, rfl⟩
    go_wp2_with fail
    go_ret
    exact ⟨by rw [HR.out]; rfl, n, rfl⟩

/-- Two numbers' least, in the walk's spelling, and what it is as a place. -/
theorem plc_pick {N : Nat} {f : Int} (h : 1 ≤ N) (hN : N ≤ 30) (f1 : 1 ≤ f) :
    (if (N : Int) < f then (N : Int) else f) = (plc N f : Int) + 1 ∧ plc N f < N := by
  unfold plc
  constructor
  · split <;> split <;> omega
  · split <;> omega
set_option maxHeartbeats 400000 in
theorem number_any (zs : List Int) (f : Int) (v : Value) (B : Nat) (w : World) (hv : Ints w B .i64 v zs) (h : Tab zs) (f1 : 1 ≤ f) :
    Calls Tryz.prog 151 #[.int .i64 f, v] w fun e w' => e = .returned (.int .i64 (num zs f)) ∧ w = w' := by
  obtain ⟨A, c, rfl, hl, hn, hcell⟩ := hv
  obtain ⟨b, off, rfl, hb, hc⟩ := hcell h.1
  obtain ⟨e1, e2⟩ := plc_pick h.1 h.2.1 f1
  have hx := hc _ e2
  unfold num
  clear hcell hc
  generalize zs.getD (plc zs.length f) 0 = x at *
  generalize plc zs.length f = k at *
  have h30 := h.2.1
  clear h hn hb
  generalize zs.length = N at *
  have hq : wrap64 ((k : Int) + 1 - 1) = k := by unfold wrap64; omega
  have hq2 : IntKind.i64.wrap (k : Int) = k := IntWalk.i64_in _ (by omega)
  have p3 : (0 : Int) ≤ (k : Int) := by omega
  have p4 : (k : Int) < N := by omega
  clear h30 hl f1
  go_enter Tryz.func151, Tryz.ntmps151
  go_wp2_with fail
  go_ret
  exact ⟨rfl, rfl⟩

theorem line_md {zs : List Int} {f : Int} (h : Tab zs) (f1 : 1 ≤ f) (w : World) :
    Calls Tryz.prog 103 #[.int .i64 (num zs f), .int .i64 3, .int .i64 2, .int .i64 1] w fun e w' => e = .returned (.tuple #[.int .i64 (line zs f), .int .i64 0]) ∧ ∃ n, w' = w.drewN n := by
  obtain ⟨a, b⟩ := num_in h f1
  exact md_small (num zs f) 3 2 1 w a (by omega) (by omega) (by omega) (by omega) (by omega) (by omega) (by omega) (by omega)
theorem ask_md {zs : List Int} {f n : Int} (h : Tab zs) (f1 : 1 ≤ f) (n1 : 0 ≤ n) (n2 : n ≤ 1000000000) (w : World) :
    Calls Tryz.prog 103 #[.int .i64 (free zs f n), .int .i64 1, .int .i64 120, .int .i64 2] w fun e w' => e = .returned (.tuple #[.int .i64 (ask zs f n), .int .i64 0]) ∧ ∃ n, w' = w.drewN n := by
  obtain ⟨a, b⟩ := free_in h f1 n1 n2
  exact md_small (free zs f n) 1 120 2 w a (by omega) (by omega) (by omega) (by omega) (by omega) (by omega) (by omega) (by omega)
theorem good_is (zs : List Int) (v : Value) (B : Nat) (b : Bool) (w : World) (hv : Ints w B .i64 v zs) (h : tabB zs = b) :
    Calls Tryz.prog 32 #[v] w fun e w' => e = .returned (.bool b) ∧ ∃ n, w' = w.drewN n := by
  rw [← h]; exact good_any zs v B w hv
set_option maxHeartbeats 400000 in
theorem line_any (zs : List Int) (f : Int) (v : Value) (B : Nat) (w : World) (hv : Ints w B .i64 v zs) :
    Calls Tryz.prog 136 #[v, .int .i64 f] w fun e w' => e = .returned (.tuple #[.int .i64 (lV zs f), .int .i64 (lE zs f)]) ∧ ∃ n, w' = w.drewN n := by
  have HV := Lib.hid hv
  obtain ⟨A, c, rfl, -, -, -⟩ := hv
  by_cases h : Tab zs
  · have K1 := Lib.hid (fun W g => good_is zs (.slice A zs.length c) B true W g (tabB_yes h))
    by_cases h1 : f < 1
    · obtain ⟨e1, e2⟩ := l_no (zs := zs) (f := f) fun g => by have := g.2.1; omega
      rw [e1, e2]
      clear e1 e2 h
      go_enter Tryz.func136, Tryz.ntmps136
      go_wp2_with fail
      refine (K1.out _ HV.out).mono ?_
      rintro e w1 ⟨rfl, n, rfl⟩
      go_wp2_with fail
      go_ret2
      exact ⟨rfl, n, rfl⟩
    by_cases h2 : 30 < f
    · obtain ⟨e1, e2⟩ := l_no (zs := zs) (f := f) fun g => by have := g.2.2; omega
      rw [e1, e2]
      clear e1 e2 h
      go_enter Tryz.func136, Tryz.ntmps136
      go_wp2_with fail
      refine (K1.out _ HV.out).mono ?_
      rintro e w1 ⟨rfl, n, rfl⟩
      go_wp2_with fail
      go_ret2
      exact ⟨rfl, n, rfl⟩
    obtain ⟨e1, e2⟩ := l_yes (zs := zs) (f := f) ⟨h, by omega, by omega⟩
    rw [e1, e2]
    have K2 := Lib.hid (fun W g => number_any zs f (.slice A zs.length c) B W g h (by omega))
    have K3 := Lib.hid (fun W => line_md (f := f) h (by omega) W)
    generalize line zs f = l at *
    generalize num zs f = x at *
    clear e1 e2 h
    go_enter Tryz.func136, Tryz.ntmps136
    go_wp2_with fail
    refine (K1.out _ HV.out).mono ?_
    rintro e w1 ⟨rfl, n, rfl⟩
    go_wp2_with fail
    refine (K2.out _ (HV.out.drewN n)).mono ?_
    rintro e w1 ⟨rfl, rfl⟩
    go_wp2_with fail
    refine (K3.out _).mono ?_
    rintro e w1 ⟨rfl, m, rfl⟩
    go_wp2_with fail
    go_ret2
    exact ⟨rfl, _, rfl⟩
  · obtain ⟨e1, e2⟩ := l_no (zs := zs) (f := f) fun g => h g.1
    rw [e1, e2]
    have K1 := Lib.hid (fun W g => good_is zs (.slice A zs.length c) B false W g (tabB_no h))
    clear e1 e2 h
    go_enter Tryz.func136, Tryz.ntmps136
    go_wp2_with fail
    refine (K1.out _ HV.out).mono ?_
    rintro e w1 ⟨rfl, n, rfl⟩
    go_wp2_with fail
    go_ret2
    exact ⟨rfl, n, rfl⟩
theorem line_is (zs : List Int) (f l x : Int) (v : Value) (B : Nat) (w : World) (hv : Ints w B .i64 v zs) (h1 : lV zs f = l) (h2 : lE zs f = x) :
    Calls Tryz.prog 136 #[v, .int .i64 f] w fun e w' => e = .returned (.tuple #[.int .i64 l, .int .i64 x]) ∧ ∃ n, w' = w.drewN n := by
  rw [← h1, ← h2]; exact line_any zs f v B w hv
set_option maxHeartbeats 400000 in
theorem free_any (zs : List Int) (f n : Int) (v : Value) (B : Nat) (w : World) (hv : Ints w B .i64 v zs) :
    Calls Tryz.prog 111 #[v, .int .i64 f, .int .i64 n] w fun e w' => e = .returned (.tuple #[.int .i64 (fV zs f n), .int .i64 (fE zs f n)]) ∧ ∃ n, w' = w.drewN n := by
  have HV := Lib.hid hv
  obtain ⟨A, c, rfl, -, -, -⟩ := hv
  by_cases h1 : n < 0
  · obtain ⟨e1, e2⟩ := f_no (zs := zs) (f := f) (n := n) fun g => by have := g.2.1; omega
    rw [e1, e2]
    clear e1 e2
    go_enter Tryz.func111, Tryz.ntmps111
    go_wp2_with fail
    go_ret2
    exact ⟨rfl, 0, rfl⟩
  by_cases h2 : 1000000000 < n
  · obtain ⟨e1, e2⟩ := f_no (zs := zs) (f := f) (n := n) fun g => by have := g.2.2; omega
    rw [e1, e2]
    clear e1 e2
    go_enter Tryz.func111, Tryz.ntmps111
    go_wp2_with fail
    go_ret2
    exact ⟨rfl, 0, rfl⟩
  by_cases h : okL zs f
  · obtain ⟨e1, e2⟩ := f_yes (zs := zs) (f := f) (n := n) ⟨h, by omega, by omega⟩
    obtain ⟨e3, e4⟩ := l_yes h
    rw [e1, e2]
    have K1 := Lib.hid (fun W g => line_is zs f (line zs f) 0 (.slice A zs.length c) B W g e3 e4)
    obtain ⟨b1, b2⟩ := line_in h.1 h.2.1
    unfold free
    clear e1 e2 e3 e4 h
    generalize line zs f = l at *
    obtain ⟨y, ey⟩ : ∃ y, n - l = y := ⟨_, rfl⟩
    have hw : wrap64 (n - l) = y := by unfold wrap64; omega
    rw [ey]
    clear b1 b2 ey
    by_cases hy : y < 0
    · rw [if_pos hy]
      go_enter Tryz.func111, Tryz.ntmps111
      go_wp2_with fail
      refine (K1.out _ HV.out).mono ?_
      rintro e w1 ⟨rfl, m, rfl⟩
      go_wp2_with fail
      go_ret2
      exact ⟨rfl, m, rfl⟩
    · rw [if_neg hy]
      go_enter Tryz.func111, Tryz.ntmps111
      go_wp2_with fail
      refine (K1.out _ HV.out).mono ?_
      rintro e w1 ⟨rfl, m, rfl⟩
      go_wp2_with fail
      go_ret2
      exact ⟨rfl, m, rfl⟩
  · obtain ⟨e1, e2⟩ := f_no (zs := zs) (f := f) (n := n) fun g => h g.1
    obtain ⟨e3, e4⟩ := l_no h
    rw [e1, e2]
    have K1 := Lib.hid (fun W g => line_is zs f 0 1 (.slice A zs.length c) B W g e3 e4)
    clear e1 e2 e3 e4 h
    go_enter Tryz.func111, Tryz.ntmps111
    go_wp2_with fail
    refine (K1.out _ HV.out).mono ?_
    rintro e w1 ⟨rfl, m, rfl⟩
    go_wp2_with fail
    go_ret2
    exact ⟨rfl, m, rfl⟩
theorem free_is (zs : List Int) (f n l x : Int) (v : Value) (B : Nat) (w : World) (hv : Ints w B .i64 v zs) (h1 : fV zs f n = l) (h2 : fE zs f n = x) :
    Calls Tryz.prog 111 #[v, .int .i64 f, .int .i64 n] w fun e w' => e = .returned (.tuple #[.int .i64 l, .int .i64 x]) ∧ ∃ n, w' = w.drewN n := by
  rw [← h1, ← h2]; exact free_any zs f n v B w hv
set_option maxHeartbeats 400000 in
theorem ask_any (zs : List Int) (f n : Int) (v : Value) (B : Nat) (w : World) (hv : Ints w B .i64 v zs) :
    Calls Tryz.prog 78 #[v, .int .i64 f, .int .i64 n] w fun e w' => e = .returned (.tuple #[.int .i64 (aV zs f n), .int .i64 (aE zs f n)]) ∧ ∃ n, w' = w.drewN n := by
  have HV := Lib.hid hv
  obtain ⟨A, c, rfl, -, -, -⟩ := hv
  by_cases h : okF zs f n
  · obtain ⟨e1, e2⟩ := a_yes h
    obtain ⟨e3, e4⟩ := f_yes h
    rw [e1, e2]
    have K1 := Lib.hid (fun W g => free_is zs f n (free zs f n) 0 (.slice A zs.length c) B W g e3 e4)
    have K2 := Lib.hid (fun W => ask_md (f := f) (n := n) h.1.1 h.1.2.1 h.2.1 h.2.2 W)
    clear e1 e2 e3 e4 h
    generalize ask zs f n = a at *
    generalize free zs f n = y at *
    go_enter Tryz.func78, Tryz.ntmps78
    go_wp2_with fail
    refine (K1.out _ HV.out).mono ?_
    rintro e w1 ⟨rfl, m, rfl⟩
    go_wp2_with fail
    refine (K2.out _).mono ?_
    rintro e w1 ⟨rfl, k, rfl⟩
    go_wp2_with fail
    go_ret2
    exact ⟨rfl, _, rfl⟩
  · obtain ⟨e1, e2⟩ := a_no h
    obtain ⟨e3, e4⟩ := f_no h
    rw [e1, e2]
    have K1 := Lib.hid (fun W g => free_is zs f n 0 1 (.slice A zs.length c) B W g e3 e4)
    clear e1 e2 e3 e4 h
    go_enter Tryz.func78, Tryz.ntmps78
    go_wp2_with fail
    refine (K1.out _ HV.out).mono ?_
    rintro e w1 ⟨rfl, m, rfl⟩
    go_wp2_with fail
    go_ret2
    exact ⟨rfl, m, rfl⟩
theorem ask_is (zs : List Int) (f n l x : Int) (v : Value) (B : Nat) (w : World) (hv : Ints w B .i64 v zs) (h1 : aV zs f n = l) (h2 : aE zs f n = x) :
    Calls Tryz.prog 78 #[v, .int .i64 f, .int .i64 n] w fun e w' => e = .returned (.tuple #[.int .i64 l, .int .i64 x]) ∧ ∃ n, w' = w.drewN n := by
  rw [← h1, ← h2]; exact ask_any zs f n v B w hv
end Go.Proofs.YtkddiaiohnbjpaaGreatDoor.Income
namespace Go.Proofs.YtkddiaiohnbjpaaGreatDoor.RIncome
open Go.ChangeShapes Go.WideShapes Go.ChangeAt Go.RowKit Bits Money Slice Income Law

/-- What the first numbers of a table are so far. -/
def Upto (zs : List Int) (j : Nat) : Prop := ∀ i : Nat, i < j → (0 ≤ zs.getD i 0 ∧ zs.getD i 0 ≤ 1000000000) ∧ ∀ k : Nat, i = k + 1 → zs.getD k 0 ≤ zs.getD i 0
theorem upto_zero (zs : List Int) : Upto zs 0 := fun i h => absurd h (Nat.not_lt_zero i)
theorem upto_more {zs : List Int} {j : Nat} (h : Upto zs j) (h1 : 0 ≤ zs.getD j 0) (h2 : zs.getD j 0 ≤ 1000000000) (h3 : ∀ k : Nat, j = k + 1 → zs.getD k 0 ≤ zs.getD j 0) : Upto zs (j + 1) := fun i hi => by
  by_cases e : i = j
  · subst e; exact ⟨⟨h1, h2⟩, h3⟩
  · exact h i (by omega)
theorem upto_tab {zs : List Int} (h : Upto zs zs.length) (h1 : 1 ≤ zs.length) (h2 : zs.length ≤ 30) : Tab zs :=
  ⟨h1, h2, fun j hj => (h j hj).1, fun j hj => (h (j + 1) hj).2 j rfl⟩

set_option maxHeartbeats 1000000 in
theorem r_good (zs : List Int) (v : Value) (B : Nat) (w : World) (hv : Ints w B .i64 v zs) :
    Calls Tryz.prog 42 #[v] w fun e w' => e = .returned (.bool (tabB zs)) ∧ ∃ n, w' = w.drewN n := by
  obtain ⟨A, c, rfl, hl, -, hcell⟩ := hv
  have HC := Lib.hid hcell
  have H1 : Hid (∀ j : Nat, j < zs.length → zs.getD j 0 < 0 → tabB zs = false) := fun j hj h => tabB_no fun g => by have := (g.2.2.1 j hj).1; omega
  have H2 : Hid (∀ j : Nat, j < zs.length → 1000000000 < zs.getD j 0 → tabB zs = false) := fun j hj h => tabB_no fun g => by have := (g.2.2.1 j hj).2; omega
  have H3 : Hid (∀ k : Nat, k + 1 < zs.length → zs.getD (k + 1) 0 < zs.getD k 0 → tabB zs = false) := fun k hk h => tabB_no fun g => by have := g.2.2.2 k hk; omega
  have H4 : Hid (zs.length < 1 → tabB zs = false) := fun h => tabB_no fun g => by have := g.1; omega
  have H5 : Hid (30 < zs.length → tabB zs = false) := fun h => tabB_no fun g => by have := g.2.1; omega
  have H6 : Hid (Upto zs zs.length → 1 ≤ zs.length → zs.length ≤ 30 → tabB zs = true) := fun a b c => tabB_yes (upto_tab a b c)
  clear hcell
  generalize tabB zs = R at *
  go_enter Tryz.func42, Tryz.ntmps42
  go_wp2_with fail
  go_loopw [3] (fun t wr => ∃ j : Nat, j ≤ zs.length ∧ t = .int .i64 j ∧ Hid (Upto zs j) ∧ ∃ n, wr = w.drewN n) (fun t _ => zs.length - (intOf t).toNat)
  case atStart => exact ⟨0, Nat.zero_le _, rfl, upto_zero zs, 0, rfl⟩
  case round =>
    obtain ⟨j, hj, rfl, HP, hwr⟩ := hrel
    have HW := Lib.hid hwr
    clear hwr
    by_cases hlt : j < zs.length
    · obtain ⟨b, off, rfl, hb, hcell⟩ := HC.out (by omega)
      have hx : wr.cell? ⟨b, off + j, none⟩ = some (.int .i64 (zs.getD j 0)) := by obtain ⟨n, e⟩ := HW.out; rw [e]; exact hcell j hlt
      have p0 : (0 : Int) ≤ (j : Int) := by omega
      by_cases h1 : zs.getD j 0 < 0
      · have HR := Lib.hid (H1.out j hlt h1)
        have t1 : decide (zs.getD j 0 < 0) = true := decide_eq_true h1
        clear hcell h1 H1 H2 H3 H4 H5 H6 HP HC
        generalize zs.getD j 0 = x at *
        go_wp2_with fail
        go_quiet (fail)
        go_wp2_with fail
        go_ret
        exact ⟨by rw [HR.out]; rfl, drew_more HW.out _⟩
      have t1 : decide (zs.getD j 0 < 0) = false := decide_eq_false h1
      by_cases h2 : 1000000000 < zs.getD j 0
      · have HR := Lib.hid (H2.out j hlt h2)
        have t2 : decide (1000000000 < zs.getD j 0) = true := decide_eq_true h2
        clear hcell h1 h2 H1 H2 H3 H4 H5 H6 HP HC
        generalize zs.getD j 0 = x at *
        go_wp2_with fail
        go_quiet (fail)
        go_wp2_with fail
        go_ret
        exact ⟨by rw [HR.out]; rfl, drew_more HW.out _⟩
      have t2 : decide (1000000000 < zs.getD j 0) = false := decide_eq_false h2
      by_cases h0 : j = 0
      · subst h0
        rw [Nat.add_zero] at hx
        have HQ : Hid (Upto zs (0 + 1)) := upto_more HP.out (by omega) (by omega) (fun k h => by omega)
        clear hcell h1 h2 H1 H2 H3 H4 H5 H6 HP HC p0
        generalize zs.getD 0 0 = x at *
        go_wp2_with fail
        go_quiet (fail)
        go_wp2_with fail
        go_roundw
        case rel => exact ⟨0 + 1, by omega, by go_num, HQ.out, drew_more HW.out _⟩
        case measure => simp [intOf]; omega
      obtain ⟨k, rfl⟩ : ∃ k : Nat, j = k + 1 := ⟨j - 1, by omega⟩
      have hy : wr.cell? ⟨b, off + k, none⟩ = some (.int .i64 (zs.getD k 0)) := by obtain ⟨n, e⟩ := HW.out; rw [e]; exact hcell k (by omega)
      have hq : wrap64 ((k : Int) + 1 - 1) = k := by unfold wrap64; omega
      have hq2 : IntKind.i64.wrap (k : Int) = k := IntWalk.i64_in _ (by omega)
      have hn1 : ((k : Int) + 1).toNat = k + 1 := by omega
      have p1 : (0 : Int) ≤ (k : Int) + 1 := by omega
      have p2 : (k : Int) + 1 < zs.length := by omega
      have p3 : (0 : Int) ≤ (k : Int) := by omega
      have p4 : (k : Int) < zs.length := by omega
      have p5 : decide ((0 : Int) < (k : Int) + 1) = true := decide_eq_true (by omega)
      by_cases h3 : zs.getD (k + 1) 0 < zs.getD k 0
      · have HR := Lib.hid (H3.out k hlt h3)
        have t3 : decide (zs.getD (k + 1) 0 < zs.getD k 0) = true := decide_eq_true h3
        clear hcell h1 h2 h3 H1 H2 H3 H4 H5 H6 HP HC p0 h0
        generalize zs.getD (k + 1) 0 = x at *
        generalize zs.getD k 0 = y at *
        go_wp2_with fail
        go_quiet (fail)
        go_wp2_with fail
        go_ret
        exact ⟨by rw [HR.out]; rfl, drew_more HW.out _⟩
      · have t3 : decide (zs.getD (k + 1) 0 < zs.getD k 0) = false := decide_eq_false h3
        have HQ : Hid (Upto zs (k + 1 + 1)) := upto_more HP.out (by omega) (by omega) (fun i h => by obtain rfl : i = k := by omega
                                                                                                     omega)
        clear hcell h1 h2 h3 H1 H2 H3 H4 H5 H6 HP HC p0 h0
        generalize zs.getD (k + 1) 0 = x at *
        generalize zs.getD k 0 = y at *
        go_wp2_with fail
        go_quiet (fail)
        go_wp2_with fail
        go_roundw
        case rel => exact ⟨k + 1 + 1, by omega, by go_num, HQ.out, drew_more HW.out _⟩
        case measure => simp [intOf]; omega
    · obtain rfl : j = zs.length := by omega
      by_cases h1 : zs.length < 1
      · have HR := Lib.hid (H4.out h1)
        have t1 : decide ((1 : Int) ≤ (zs.length : Int)) = false := decide_eq_false (by omega)
        clear H1 H2 H3 H4 H5 H6 HP HC h1
        go_wp2_with fail
        go_ret
        exact ⟨by rw [HR.out]; rfl, HW.out⟩
      have t1 : decide ((1 : Int) ≤ (zs.length : Int)) = true := decide_eq_true (by omega)
      by_cases h2 : 30 < zs.length
      · have HR := Lib.hid (H5.out h2)
        have t2 : decide ((zs.length : Int) ≤ 30) = false := decide_eq_false (by omega)
        clear H1 H2 H3 H4 H5 H6 HP HC
        go_wp2_with fail
        go_ret
        exact ⟨by rw [HR.out]; rfl, HW.out⟩
      have HR := Lib.hid (H6.out HP.out (by omega) (by omega))
      have t2 : decide ((zs.length : Int) ≤ 30) = true := decide_eq_true (by omega)
      clear H1 H2 H3 H4 H5 H6 HP HC
      go_wp2_with fail
      go_ret
      exact ⟨by rw [HR.out]; rfl, HW.out⟩

theorem rmd_small (a b c how : Int) (w : World) (a0 : 0 ≤ a) (a1 : a ≤ 9223372036854775807) (b0 : 0 ≤ b) (b1 : b ≤ 9223372036854775807) (c0 : 0 < c) (c1 : c ≤ 9223372036854775807) (m0 : 0 ≤ how) (m1 : how ≤ 2) (p1 : a * b ≤ 9000000000000) :
    Calls Tryz.prog 53 #[.int .i64 a, .int .i64 b, .int .i64 c, .int .i64 how] w fun e w' => e = .returned (.tuple #[.int .i64 (rnd a b c how), .int .i64 0]) ∧ Below w.heap.size w w' := by
  have h := md_in (a := a) (b := b) (c := c) (how := how) (by unfold mdBad; omega) (by have := (rnd_small (how := how) (Int.mul_nonneg a0 b0) p1 c0).2; omega)
  rw [← h.1, ← h.2]
  exact Ref.muldiv_any a b c how w a1 b1 c1
theorem line_md {zs : List Int} {f : Int} (h : Tab zs) (f1 : 1 ≤ f) (w : World) :
    Calls Tryz.prog 53 #[.int .i64 (num zs f), .int .i64 3, .int .i64 2, .int .i64 1] w fun e w' => e = .returned (.tuple #[.int .i64 (line zs f), .int .i64 0]) ∧ Below w.heap.size w w' := by
  obtain ⟨a, b⟩ := num_in h f1
  exact rmd_small (num zs f) 3 2 1 w a (by omega) (by omega) (by omega) (by omega) (by omega) (by omega) (by omega) (by omega)
theorem ask_md {zs : List Int} {f n : Int} (h : Tab zs) (f1 : 1 ≤ f) (n1 : 0 ≤ n) (n2 : n ≤ 1000000000) (w : World) :
    Calls Tryz.prog 53 #[.int .i64 (free zs f n), .int .i64 1, .int .i64 120, .int .i64 2] w fun e w' => e = .returned (.tuple #[.int .i64 (Income.ask zs f n), .int .i64 0]) ∧ Below w.heap.size w w' := by
  obtain ⟨a, b⟩ := free_in h f1 n1 n2
  exact rmd_small (free zs f n) 1 120 2 w a (by omega) (by omega) (by omega) (by omega) (by omega) (by omega) (by omega) (by omega)
theorem good_is (zs : List Int) (v : Value) (B : Nat) (b : Bool) (w : World) (hv : Ints w B .i64 v zs) (h : tabB zs = b) :
    Calls Tryz.prog 42 #[v] w fun e w' => e = .returned (.bool b) ∧ ∃ n, w' = w.drewN n := by
  rw [← h]; exact r_good zs v B w hv
set_option maxHeartbeats 400000 in
theorem r_line (zs : List Int) (f : Int) (v : Value) (B : Nat) (w : World) (hv : Ints w B .i64 v zs) :
    Calls Tryz.prog 91 #[v, .int .i64 f] w fun e w' => e = .returned (.tuple #[.int .i64 (lV zs f), .int .i64 (lE zs f)]) ∧ Below w.heap.size w w' := by
  have HV := Lib.hid hv
  obtain ⟨A, c, rfl, -, -, hcell⟩ := hv
  have HC := Lib.hid hcell
  clear hcell
  by_cases h : Tab zs
  · have K1 := Lib.hid (fun W g => good_is zs (.slice A zs.length c) B true W g (tabB_yes h))
    by_cases h1 : f < 1
    · obtain ⟨e1, e2⟩ := l_no (zs := zs) (f := f) fun g => by have := g.2.1; omega
      rw [e1, e2]
      clear e1 e2 h
      go_enter Tryz.func91, Tryz.ntmps91
      go_wp2_with fail
      refine (K1.out _ HV.out).mono ?_
      rintro e w1 ⟨rfl, n, rfl⟩
      go_wp2_with fail
      go_ret2
      exact ⟨rfl, below_drewN (Below.refl _ _) n⟩
    by_cases h2 : 30 < f
    · obtain ⟨e1, e2⟩ := l_no (zs := zs) (f := f) fun g => by have := g.2.2; omega
      rw [e1, e2]
      clear e1 e2 h
      go_enter Tryz.func91, Tryz.ntmps91
      go_wp2_with fail
      refine (K1.out _ HV.out).mono ?_
      rintro e w1 ⟨rfl, n, rfl⟩
      go_wp2_with fail
      go_ret2
      exact ⟨rfl, below_drewN (Below.refl _ _) n⟩
    obtain ⟨e1, e2⟩ := l_yes (zs := zs) (f := f) ⟨h, by omega, by omega⟩
    rw [e1, e2]
    have K3 := Lib.hid (fun W => line_md (f := f) h (by omega) W)
    obtain ⟨b, off, rfl, hb, hc⟩ := HC.out h.1
    obtain ⟨e3, e4⟩ := plc_pick h.1 h.2.1 (show 1 ≤ f by omega)
    have hx := hc _ e4
    generalize line zs f = l at *
    unfold num at K3
    have h30 := h.2.1
    clear e1 e2 h hc HC
    generalize zs.getD (plc zs.length f) 0 = x at *
    generalize plc zs.length f = k at *
    have hq : wrap64 ((k : Int) + 1 - 1) = k := by unfold wrap64; omega
    have hq2 : IntKind.i64.wrap (k : Int) = k := IntWalk.i64_in _ (by omega)
    have p3 : (0 : Int) ≤ (k : Int) := by omega
    have p4 : (k : Int) < zs.length := by omega
    clear h30
    go_enter Tryz.func91, Tryz.ntmps91
    go_wp2_with fail
    refine (K1.out _ HV.out).mono ?_
    rintro e w1 ⟨rfl, n, rfl⟩
    go_wp2_with fail
    refine (K3.out _).mono ?_
    rintro e w1 ⟨rfl, hb1⟩
    go_wp2_with fail
    go_ret2
    exact ⟨rfl, below_via (below_drewN (Below.refl _ _) n) hb1⟩
  · obtain ⟨e1, e2⟩ := l_no (zs := zs) (f := f) fun g => h g.1
    rw [e1, e2]
    have K1 := Lib.hid (fun W g => good_is zs (.slice A zs.length c) B false W g (tabB_no h))
    clear e1 e2 h HC
    go_enter Tryz.func91, Tryz.ntmps91
    go_wp2_with fail
    refine (K1.out _ HV.out).mono ?_
    rintro e w1 ⟨rfl, n, rfl⟩
    go_wp2_with fail
    go_ret2
    exact ⟨rfl, below_drewN (Below.refl _ _) n⟩
theorem line_is (zs : List Int) (f l x : Int) (v : Value) (B : Nat) (w : World) (hv : Ints w B .i64 v zs) (h1 : lV zs f = l) (h2 : lE zs f = x) :
    Calls Tryz.prog 91 #[v, .int .i64 f] w fun e w' => e = .returned (.tuple #[.int .i64 l, .int .i64 x]) ∧ Below w.heap.size w w' := by
  rw [← h1, ← h2]; exact r_line zs f v B w hv
set_option maxHeartbeats 400000 in
theorem r_free (zs : List Int) (f n : Int) (v : Value) (B : Nat) (w : World) (hv : Ints w B .i64 v zs) :
    Calls Tryz.prog 52 #[v, .int .i64 f, .int .i64 n] w fun e w' => e = .returned (.tuple #[.int .i64 (fV zs f n), .int .i64 (fE zs f n)]) ∧ Below w.heap.size w w' := by
  have HV := Lib.hid hv
  obtain ⟨A, c, rfl, -, -, -⟩ := hv
  by_cases h : okL zs f
  · obtain ⟨e3, e4⟩ := l_yes h
    have K1 := Lib.hid (fun W g => line_is zs f (line zs f) 0 (.slice A zs.length c) B W g e3 e4)
    by_cases h1 : n < 0
    · obtain ⟨e1, e2⟩ := f_no (zs := zs) (f := f) (n := n) fun g => by have := g.2.1; omega
      rw [e1, e2]
      clear e1 e2 e3 e4 h
      generalize line zs f = l at *
      go_enter Tryz.func52, Tryz.ntmps52
      go_wp2_with fail
      refine (K1.out _ HV.out).mono ?_
      rintro e w1 ⟨rfl, hb⟩
      go_wp2_with fail
      go_ret2
      exact ⟨rfl, hb⟩
    by_cases h2 : 1000000000 < n
    · obtain ⟨e1, e2⟩ := f_no (zs := zs) (f := f) (n := n) fun g => by have := g.2.2; omega
      rw [e1, e2]
      clear e1 e2 e3 e4 h
      generalize line zs f = l at *
      go_enter Tryz.func52, Tryz.ntmps52
      go_wp2_with fail
      refine (K1.out _ HV.out).mono ?_
      rintro e w1 ⟨rfl, hb⟩
      go_wp2_with fail
      go_ret2
      exact ⟨rfl, hb⟩
    obtain ⟨e1, e2⟩ := f_yes (zs := zs) (f := f) (n := n) ⟨h, by omega, by omega⟩
    rw [e1, e2]
    obtain ⟨b1, b2⟩ := line_in h.1 h.2.1
    unfold free
    clear e1 e2 e3 e4 h
    generalize line zs f = l at *
    obtain ⟨y, ey⟩ : ∃ y, n - l = y := ⟨_, rfl⟩
    have hw : wrap64 (n - l) = y := by unfold wrap64; omega
    rw [ey]
    clear b1 b2 ey
    by_cases hy : y < 0
    · rw [if_pos hy]
      have hy0 : ¬ 0 < y := by omega
      go_enter Tryz.func52, Tryz.ntmps52
      go_wp2_with fail
      refine (K1.out _ HV.out).mono ?_
      rintro e w1 ⟨rfl, hb⟩
      go_wp2_with fail
      go_ret2
      exact ⟨rfl, hb⟩
    · rw [if_neg hy]
      by_cases hz : 0 < y
      · go_enter Tryz.func52, Tryz.ntmps52
        go_wp2_with fail
        refine (K1.out _ HV.out).mono ?_
        rintro e w1 ⟨rfl, hb⟩
        go_wp2_with fail
        go_ret2
        exact ⟨rfl, hb⟩
      · obtain rfl : y = 0 := by omega
        clear hz hy
        go_enter Tryz.func52, Tryz.ntmps52
        go_wp2_with fail
        refine (K1.out _ HV.out).mono ?_
        rintro e w1 ⟨rfl, hb⟩
        go_wp2_with fail
        go_ret2
        exact ⟨rfl, hb⟩
  · obtain ⟨e1, e2⟩ := f_no (zs := zs) (f := f) (n := n) fun g => h g.1
    obtain ⟨e3, e4⟩ := l_no h
    rw [e1, e2]
    have K1 := Lib.hid (fun W g => line_is zs f 0 1 (.slice A zs.length c) B W g e3 e4)
    clear e1 e2 e3 e4 h
    go_enter Tryz.func52, Tryz.ntmps52
    go_wp2_with fail
    refine (K1.out _ HV.out).mono ?_
    rintro e w1 ⟨rfl, hb⟩
    go_wp2_with fail
    go_ret2
    exact ⟨rfl, hb⟩
theorem free_is (zs : List Int) (f n l x : Int) (v : Value) (B : Nat) (w : World) (hv : Ints w B .i64 v zs) (h1 : fV zs f n = l) (h2 : fE zs f n = x) :
    Calls Tryz.prog 52 #[v, .int .i64 f, .int .i64 n] w fun e w' => e = .returned (.tuple #[.int .i64 l, .int .i64 x]) ∧ Below w.heap.size w w' := by
  rw [← h1, ← h2]; exact r_free zs f n v B w hv
set_option maxHeartbeats 400000 in
theorem r_ask (zs : List Int) (f n : Int) (v : Value) (B : Nat) (w : World) (hv : Ints w B .i64 v zs) :
    Calls Tryz.prog 21 #[v, .int .i64 f, .int .i64 n] w fun e w' => e = .returned (.tuple #[.int .i64 (aV zs f n), .int .i64 (aE zs f n)]) ∧ Below w.heap.size w w' := by
  have HV := Lib.hid hv
  obtain ⟨A, c, rfl, -, -, -⟩ := hv
  by_cases h : okF zs f n
  · obtain ⟨e1, e2⟩ := a_yes h
    obtain ⟨e3, e4⟩ := f_yes h
    rw [e1, e2]
    have K1 := Lib.hid (fun W g => free_is zs f n (free zs f n) 0 (.slice A zs.length c) B W g e3 e4)
    have K2 := Lib.hid (fun W => ask_md (f := f) (n := n) h.1.1 h.1.2.1 h.2.1 h.2.2 W)
    clear e1 e2 e3 e4 h
    generalize Income.ask zs f n = a at *
    generalize free zs f n = y at *
    go_enter Tryz.func21, Tryz.ntmps21
    go_wp2_with fail
    refine (K1.out _ HV.out).mono ?_
    rintro e w1 ⟨rfl, hb⟩
    go_wp2_with fail
    refine (K2.out _).mono ?_
    rintro e w2 ⟨rfl, hb2⟩
    go_wp2_with fail
    go_ret2
    exact ⟨rfl, below_via hb hb2⟩
  · obtain ⟨e1, e2⟩ := a_no h
    obtain ⟨e3, e4⟩ := f_no h
    rw [e1, e2]
    have K1 := Lib.hid (fun W g => free_is zs f n 0 1 (.slice A zs.length c) B W g e3 e4)
    clear e1 e2 e3 e4 h
    go_enter Tryz.func21, Tryz.ntmps21
    go_wp2_with fail
    refine (K1.out _ HV.out).mono ?_
    rintro e w1 ⟨rfl, hb⟩
    go_wp2_with fail
    go_ret2
    exact ⟨rfl, hb⟩
end Go.Proofs.YtkddiaiohnbjpaaGreatDoor.RIncome
