/- share's comparing closure: which place of the rests comes first. -/
import Derived.Test.YtbdcinecdigjgaaStable
import Derived.Shelf.Abstract
import Derived.Test.YtbdcinecdigjgaaSlice
namespace Go.Proofs.Ytbdcinecdigjgaa.Share
open Go.ChangeShapes Go.WideShapes Go.ChangeAt Go.RowKit Bits Slice Law Stable

theorem nan_any (a : Int) (w : World) : Calls Try.prog 40 #[.int .u64 a] w fun e w' => e = .returned (.bool false) ∧ w = w' := by
  have h : (a != a) = false := by simp
  go_enter Try.func40, Try.ntmps40
  go_wp2_with fail
  go_ret
  exact ⟨rfl, rfl⟩

/-- -1, 0, 1. -/
def cmpI (a b : Int) : Int := if a < b then -1 else if b < a then 1 else 0
theorem compare_any (a b : Int) (w : World) : Calls Try.prog 31 #[.int .u64 a, .int .u64 b] w fun e w' => e = .returned (.int .i64 (cmpI a b)) ∧ w = w' := by
  by_cases h : a < b
  · have H : Hid (cmpI a b = -1) := if_pos h
    go_enter Try.func31, Try.ntmps31
    go_wp2_with fail
    refine (nan_any _ _).mono ?_
    rintro e w' ⟨rfl, rfl⟩
    go_wp2_with fail
    refine (nan_any _ _).mono ?_
    rintro e w' ⟨rfl, rfl⟩
    go_wp2_with fail
    go_ret
    exact ⟨ret_int H.out.symm, rfl⟩
  · by_cases h2 : b < a
    · have H : Hid (cmpI a b = 1) := by show cmpI a b = 1; unfold cmpI; rw [if_neg h, if_pos h2]
      go_enter Try.func31, Try.ntmps31
      go_wp2_with fail
      refine (nan_any _ _).mono ?_
      rintro e w' ⟨rfl, rfl⟩
      go_wp2_with fail
      refine (nan_any _ _).mono ?_
      rintro e w' ⟨rfl, rfl⟩
      go_wp2_with fail
      go_ret
      exact ⟨ret_int H.out.symm, rfl⟩
    · have H : Hid (cmpI a b = 0) := by show cmpI a b = 0; unfold cmpI; rw [if_neg h, if_neg h2]
      go_enter Try.func31, Try.ntmps31
      go_wp2_with fail
      refine (nan_any _ _).mono ?_
      rintro e w' ⟨rfl, rfl⟩
      go_wp2_with fail
      refine (nan_any _ _).mono ?_
      rintro e w' ⟨rfl, rfl⟩
      go_wp2_with fail
      go_ret
      exact ⟨ret_int H.out.symm, rfl⟩

theorem Calls.quiet_left {P : Program} {f : FuncId} {args : Array Value} {w : World} {n : Nat} {v : Value}
    (h : Calls P f args (w.drewN n) fun e w' => e = .returned v ∧ w.drewN n = w') : Calls P f args (w.drewN n) fun e w'' => e = .returned v ∧ ∃ m, w'' = w.drewN m :=
  h.mono fun _ _ ⟨he, hm⟩ => ⟨he, n, hm.symm⟩

/-- Of two places that with the greater rest first, of as great ones the first. -/
def ltR (rs : List Int) (i j : Nat) : Bool := decide (rs.getD j 0 < rs.getD i 0)
def ordR (rs : List Int) (i j : Nat) : Prop := rs.getD j 0 < rs.getD i 0 ∨ rs.getD i 0 = rs.getD j 0 ∧ i < j
theorem ordR_ord (rs : List Int) : Ord (ordR rs) (ltR rs) := by
  refine ⟨?_, ?_, ?_⟩
  · intro i j k h1 h2
    unfold ordR at *
    omega
  · intro i j h1 h2
    have := of_decide_eq_true h2
    exact Or.inl this
  · intro i j h1 h2
    have := of_decide_eq_false h2
    unfold ordR
    omega

theorem closure_any (rs : List Int) (v : Value) (B p : Nat) (w : World) (hp : w.cell? ⟨p, 0, none⟩ = some v) (hv : Ints w B .u64 v rs) (i j : Nat) (hi : i < rs.length) (hj : j < rs.length) :
    Calls Try.prog 30 #[.int .i64 i, .int .i64 j, .pointer (some ⟨p, 0, none⟩)] w fun e w' => e = .returned (.int .i64 (cmpI (rs.getD j 0) (rs.getD i 0))) ∧ ∃ k, w' = w.drewN k := by
  obtain ⟨A, c, rfl, hl, -, hcell⟩ := hv
  obtain ⟨b, off, rfl, hb, hcell⟩ := hcell (by omega)
  have h1 := hcell i hi
  have h2 := hcell j hj
  have i0 : (0 : Int) ≤ i := by omega
  have j0 : (0 : Int) ≤ j := by omega
  have i1 : (i : Int) < rs.length := by omega
  have j1 : (j : Int) < rs.length := by omega
  clear hcell
  generalize rs.getD i 0 = x at *
  generalize rs.getD j 0 = y at *
  go_enter Try.func30, Try.ntmps30
  go_wp2_with fail
  go_quiet ((exact Calls.quiet_left (compare_any _ _ _)))
  go_wp2_with fail
  go_ret
  exact ⟨rfl, _, rfl⟩

theorem int_info : (Try.prog.info? 3).map (fun i => (i.zero, i.size, i.bytes)) = some (some (.int .i64 0), 1, 8) := by kernel_rfl
theorem closure_enters : ∀ (args : Array Value) (w : World), (callFunc 30 args).run Try.prog w = .ok (.enter 30 args) w :=
  enters_of Try.func30 (by kernel_rfl) rfl
theorem cmpI_sign (a b : Int) : decide (cmpI a b < 0) = decide (a < b) := by
  unfold cmpI
  by_cases h : a < b
  · rw [if_pos h]; simp [h]
  · rw [if_neg h]
    by_cases h2 : b < a
    · rw [if_pos h2]; simp [h]
    · rw [if_neg h2]; simp [h]
/-- The closure compares, wherever only the row of places has turned. -/
theorem closure_cmp (rs : List Int) (v : Value) (B p g : Nat) (w : World) (hB : B ≤ w.heap.size) (hp : w.cell? ⟨p, 0, none⟩ = some v) (hv : Ints w B .u64 v rs) (hg : B ≤ g) (hpg : p ≠ g) :
    Cmp (fun i => (i : Int)) (ltR rs) (fun i j => cmpI (rs.getD j 0) (rs.getD i 0)) 30 #[.pointer (some ⟨p, 0, none⟩)] g rs.length w := by
  have hlt := lt_of_cell hp
  refine ⟨closure_enters, fun i j => cmpI_sign _ _, fun w' h i j hi hj => ?_⟩
  have kp : w'.cell? ⟨p, 0, none⟩ = some v := (World.cell?_of_block (w := w) (h.block p hlt (fun e => hpg (by injection e)))).trans hp
  have kv : Ints w' B .u64 v rs := hv.keep fun b o hb => World.cell?_of_block (w := w) (h.block b (by omega) (fun e => by injection e; omega))
  exact closure_any rs v B p w' kp kv i j hi hj

def Sorted (rs : List Int) (w : World) (e : Ending) (w' : World) : Prop :=
  ∃ (g : Nat) (Q : Nat → Nat), e = .returned (.slice (some ⟨g, 0, none⟩) rs.length rs.length) ∧ w'.rowIs g 3 rs.length (rowE (fun i => (i : Int)) Q) ∧ Re 0 rs.length (fun i => i) Q ∧ Srt (ordR rs) Q 0 rs.length ∧ Below w.heap.size w w' ∧ w.heap.size ≤ g

def placeRow (j : Nat) (i : Nat) : Value := .int .i64 (if i < j then (i : Int) else 0)

set_option maxHeartbeats 400000 in
theorem greatest_any (hm : ∀ (E : Nat → Int) (lt : Nat → Nat → Bool) (c : Nat → Nat → Int) (R : Nat → Nat → Prop) (F : FuncId) (cap : Array Value) (g n : Nat) (W : World), Ord R lt → Cmp E lt c F cap g n W → n ≤ 1152921504606846976 → ∀ d, MergeTo E R F cap g n W d)
    (rs : List Int) (v : Value) (B : Nat) (w : World) (hB : B ≤ w.heap.size) (hv : Ints w B .u64 v rs) (hlen : rs.length ≤ 1000) :
    Calls Try.prog 18 #[v] w (Sorted rs w) := by
  obtain ⟨A, c, rfl, hl, hn, hc⟩ := hv
  have HV : Hid (Ints w B .u64 (.slice A rs.length c) rs) := ⟨A, c, rfl, hl, hn, hc⟩
  have hmk := fun W : World => run_make_row' (P := Try.prog) 49 3 (.int .i64 0) 8 Try.underlying49 int_info rfl .i64 .i64 rs.length (by omega) (by omega) W
  have hmf : ∀ (fn : Fn) (first cap : Array Value) (w : World), (Instr.makeFunc fn first cap).run Try.prog w = .ok (.func fn first cap) w := fun _ _ _ _ => rfl
  have HM := Lib.hid hm
  clear hn hc hm
  go_enter Try.func18, Try.ntmps18
  go_wp2_with fail
  clear hmk
  go_loopw [10] (fun t wr => ∃ j : Nat, j ≤ rs.length ∧ t = .int .i64 j ∧ Hid (wr.rowIs (w.heap.size + 1) 3 rs.length (placeRow j)) ∧ Hid (Below (w.heap.size + 1) (w.alloc (.cells #[.slice A rs.length c] 45)) wr)) (fun t _ => rs.length - (intOf t).toNat)
  case atStart =>
    refine ⟨0, Nat.zero_le _, rfl, ?_, (Below.refl _ _).alloc (by simp) _⟩
    have h := World.rowIs_made (w.alloc (.cells #[.slice A rs.length c] 45)) (.int .i64 0) rs.length 3
    simp only [World.size_alloc] at h
    exact h.congr fun i _ => by unfold placeRow; rw [if_neg (by omega)]
  case round =>
    obtain ⟨j, hj, rfl, HRow, HB⟩ := hrel
    by_cases hlt : j < rs.length
    · have ca := HRow.out.cell hlt
      have fa := HRow.out.frozen j
      have lg := HRow.out.lt
      have j0 : (0 : Int) ≤ j := by omega
      have HS := Lib.hid (HRow.out.set j (.int .i64 j))
      go_wp2_with fail
      go_roundw
      case rel =>
        refine ⟨j + 1, hlt, by go_num, ?_, HB.out.setCell (by show w.heap.size + 1 ≤ w.heap.size + 1; omega) _⟩
        refine HS.out.congr fun i _ => ?_
        unfold placeRow
        by_cases e : i = j
        · subst e; rw [if_pos rfl, if_pos (by omega)]
        · rw [if_neg e]
          by_cases h1 : i < j
          · rw [if_pos h1, if_pos (by omega)]
          · rw [if_neg h1, if_neg (by omega)]
      case measure => simp [intOf]; omega
    · obtain rfl : j = rs.length := by omega
      obtain ⟨w1, rfl⟩ : ∃ w1 : World, w1 = wr := ⟨_, rfl⟩
      have hrow : w1.rowIs (w.heap.size + 1) 3 rs.length (rowE (fun i => (i : Int)) fun i => i) := HRow.out.congr fun i hi => by unfold placeRow rowE; rw [if_pos hi]
      have hp : w1.cell? ⟨w.heap.size, 0, none⟩ = some (.slice A rs.length c) := (HB.out.cell (p := ⟨w.heap.size, 0, none⟩) (by show w.heap.size < w.heap.size + 1; omega)).trans (by simp)
      have hb : Below w.heap.size w w1 := ((Below.refl _ _).alloc (Nat.le_refl _) _).trans (HB.out.mono (by omega))
      have hcmp := closure_cmp rs (.slice A rs.length c) B w.heap.size (w.heap.size + 1) w1 (by have := hb.size; omega) hp (HV.out.keep fun b o h => hb.cell (p := ⟨b, o, none⟩) (by show b < _; omega)) (by omega) (by omega)
      have HCall := Lib.hid (sort_any _ _ _ (ordR rs) (ordR_ord rs) _ _ _ _ w1 hcmp (HM.out _ _ _ (ordR rs) _ _ _ _ _ (ordR_ord rs) hcmp (by omega)) (by omega) hrow)
      have HBW := Lib.hid hb
      clear hrow hp hb hcmp HRow
      go_wp2_with fail
      have hcc := HCall.out
      refine hcc.mono ?_
      clear hcc HCall
      rintro e w2 ⟨Q, ⟨rfl, hr1, hg1⟩, hq1, hs1⟩
      have HR1 := Lib.hid hr1
      have HG1 := Lib.hid (HBW.out.grown hg1 HBW.out.size (fun k h => by injection h; omega))
      have HQ1 := Lib.hid hq1
      have HS1 := Lib.hid hs1
      clear hr1 hg1 hq1 hs1
      go_wp2_with fail
      go_ret
      exact ⟨_, Q, rfl, HR1.out, HQ1.out, HS1.out, HG1.out, Nat.le_succ _⟩

def SortedN (rs : List Int) (n : Nat) (w : World) (e : Ending) (w' : World) : Prop :=
  ∃ (g : Nat) (Q : Nat → Nat), e = .returned (.slice (some ⟨g, 0, none⟩) n n) ∧ w'.rowIs g 3 n (rowE (fun i => (i : Int)) Q) ∧ Re 0 n (fun i => i) Q ∧ Srt (ordR rs) Q 0 n ∧ Below w.heap.size w w' ∧ w.heap.size ≤ g
theorem greatest_n (hm : ∀ (E : Nat → Int) (lt : Nat → Nat → Bool) (c : Nat → Nat → Int) (R : Nat → Nat → Prop) (F : FuncId) (cap : Array Value) (g n : Nat) (W : World), Ord R lt → Cmp E lt c F cap g n W → n ≤ 1152921504606846976 → ∀ d, MergeTo E R F cap g n W d)
    (rs : List Int) (v : Value) (B : Nat) (w : World) (hB : B ≤ w.heap.size) (hv : Ints w B .u64 v rs) (hlen : rs.length ≤ 1000) (n : Nat) (hn : rs.length = n) :
    Calls Try.prog 18 #[v] w (SortedN rs n w) := by
  subst hn
  exact greatest_any hm rs v B w hB hv hlen
end Go.Proofs.Ytbdcinecdigjgaa.Share
