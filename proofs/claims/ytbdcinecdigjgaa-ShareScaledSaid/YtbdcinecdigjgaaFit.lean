/- What may be shared, and by which weights: share.bad, share.fit, the document's own good; what slices.IndexFunc tells of it. -/
import Derived.Test.YtbdcinecdigjgaaRefAdd
import Derived.Test.YtbdcinecdigjgaaSlice
import Derived.Deep.QuietTactic
import Derived.BigQuiet
namespace Go.Proofs.Ytbdcinecdigjgaa.Share
open Go.ChangeShapes Go.WideShapes Go.ChangeAt Go.RowKit Bits Money Slice

def okB (a : Int) : Bool := decide (0 ≤ a ∧ a ≤ 10000000000000)
theorem okB_yes {a : Int} (h0 : 0 ≤ a) (h : goodB a = true) : okB a = true := by
  have := (goodB_iff a).1 h
  exact decide_eq_true ⟨h0, this.2⟩
theorem okB_low {a : Int} (h : a < 0) : okB a = false := decide_eq_false (by omega)
theorem okB_great {a : Int} (h : goodB a = false) : okB a = false := by
  unfold goodB at h
  have := of_decide_eq_false h
  exact decide_eq_false (by omega)
theorem okB_iff (a : Int) : okB a = true ↔ 0 ≤ a ∧ a ≤ 10000000000000 := by unfold okB; simp

theorem bad_any (a : Int) (w : World) : Calls Try.prog 22 #[.int .i64 a] w fun e w' => e = .returned (.bool (!okB a)) ∧ w = w' := by
  by_cases h : a < 0
  · have H := Lib.hid (okB_low h)
    go_enter Try.func22, Try.ntmps22
    go_wp2_with fail
    go_ret
    exact ⟨by rw [H.out]; rfl, rfl⟩
  · cases hg : goodB a with
    | true =>
      have H := Lib.hid (okB_yes (by omega) hg)
      have G := Lib.hid hg
      clear hg
      go_enter Try.func22, Try.ntmps22
      go_wp2_with fail
      refine (Money.good_any a _).mono ?_
      rw [G.out]
      rintro e w' ⟨rfl, rfl⟩
      go_wp2_with fail
      go_ret
      exact ⟨by rw [H.out]; rfl, rfl⟩
    | false =>
      have H := Lib.hid (okB_great hg)
      have G := Lib.hid hg
      clear hg
      go_enter Try.func22, Try.ntmps22
      go_wp2_with fail
      refine (Money.good_any a _).mono ?_
      rw [G.out]
      rintro e w' ⟨rfl, rfl⟩
      go_wp2_with fail
      go_ret
      exact ⟨by rw [H.out]; rfl, rfl⟩

theorem rgood_any (a : Int) (w : World) : Calls Try.prog 19 #[.int .i64 a] w fun e w' => e = .returned (.bool (okB a)) ∧ w = w' := by
  by_cases h : a < 0
  · have H := Lib.hid (okB_low h)
    have h' : decide (0 ≤ a) = false := decide_eq_false (by omega)
    go_enter Try.func19, Try.ntmps19
    go_wp2_with fail
    go_ret
    exact ⟨ret_bool H.out.symm, rfl⟩
  · have h' : 0 ≤ a := by omega
    cases hg : goodB a with
    | true =>
      have H := Lib.hid (okB_yes (by omega) hg)
      have G := Lib.hid hg
      clear hg
      go_enter Try.func19, Try.ntmps19
      go_wp2_with fail
      refine (Ref.good_any a _).mono ?_
      rw [G.out]
      rintro e w' ⟨rfl, rfl⟩
      go_wp2_with fail
      go_ret
      exact ⟨ret_bool H.out.symm, rfl⟩
    | false =>
      have H := Lib.hid (okB_great hg)
      have G := Lib.hid hg
      clear hg
      go_enter Try.func19, Try.ntmps19
      go_wp2_with fail
      refine (Ref.good_any a _).mono ?_
      rw [G.out]
      rintro e w' ⟨rfl, rfl⟩
      go_wp2_with fail
      go_ret
      exact ⟨ret_bool H.out.symm, rfl⟩

/-- The place of the first one that may not be, or -1. -/
def badAt (zs : List Int) : Int := match zs.findIdx? (fun z => !okB z) with
  | some j => (j : Int)
  | none => -1
def OkTo (zs : List Int) (j : Nat) : Prop := ∀ i, i < j → okB (zs.getD i 0) = true
theorem okTo_zero (zs : List Int) : OkTo zs 0 := fun i h => absurd h (by omega)
theorem okTo_succ {zs : List Int} {j : Nat} (h : OkTo zs j) (hb : okB (zs.getD j 0) = true) : OkTo zs (j + 1) := fun i hi => by
  rcases Nat.lt_or_ge i j with h1 | h1
  · exact h i h1
  · obtain rfl : i = j := by omega
    exact hb
theorem getD_lt {zs : List Int} {j : Nat} (h : j < zs.length) : zs.getD j 0 = zs[j] := by simp [List.getD_eq_getElem?_getD, List.getElem?_eq_getElem h]
theorem badAt_some {zs : List Int} {j : Nat} (hj : j < zs.length) (h : OkTo zs j) (hb : okB (zs.getD j 0) = false) : badAt zs = j := by
  have e : zs.findIdx? (fun z => !okB z) = some j := by
    rw [List.findIdx?_eq_some_iff_getElem]
    refine ⟨hj, by rw [getD_lt hj] at hb; simp [hb], fun i hi => ?_⟩
    have := h i hi
    rw [getD_lt (by omega)] at this
    simp [this]
  unfold badAt; rw [e]
theorem badAt_none {zs : List Int} (h : OkTo zs zs.length) : badAt zs = -1 := by
  have e : zs.findIdx? (fun z => !okB z) = none := by
    rw [List.findIdx?_eq_none_iff]
    intro z hz
    obtain ⟨i, hi, rfl⟩ := List.getElem_of_mem hz
    have := h i hi
    rw [getD_lt hi] at this
    simp [this]
  unfold badAt; rw [e]
def allB (zs : List Int) : Bool := zs.all okB
theorem allB_iff (zs : List Int) : allB zs = true ↔ ∀ z ∈ zs, okB z = true := by unfold allB; rw [List.all_eq_true]
theorem allB_to (zs : List Int) : allB zs = true ↔ OkTo zs zs.length := by
  rw [allB_iff]
  constructor
  · intro h i hi
    rw [getD_lt hi]; exact h _ (List.getElem_mem hi)
  · intro h z hz
    obtain ⟨i, hi, rfl⟩ := List.getElem_of_mem hz
    have := h i hi
    rwa [getD_lt hi] at this
theorem badAt_sign (zs : List Int) : decide (0 ≤ badAt zs) = !allB zs := by
  cases h : allB zs with
  | true => rw [badAt_none ((allB_to zs).1 h)]; rfl
  | false =>
    unfold badAt
    cases e : zs.findIdx? (fun z => !okB z) with
    | some j => simp
    | none =>
      exfalso
      rw [List.findIdx?_eq_none_iff] at e
      have : allB zs = true := (allB_iff zs).2 fun z hz => by simpa using e z hz
      rw [h] at this; cases this
theorem badAt_bd (zs : List Int) (h : zs.length ≤ 9223372036854775807) : -1 ≤ badAt zs ∧ badAt zs ≤ 9223372036854775807 := by
  unfold badAt
  cases e : zs.findIdx? (fun z => !okB z) with
  | some j =>
    rw [List.findIdx?_eq_some_iff_getElem] at e
    obtain ⟨hj, -⟩ := e
    exact ⟨by show -1 ≤ (j : Int); omega, by show (j : Int) ≤ _; omega⟩
  | none => exact ⟨by show (-1 : Int) ≤ -1; omega, by show (-1 : Int) ≤ _; omega⟩

theorem index_any (zs : List Int) (v : Value) (B : Nat) (w : World) (hv : Ints w B .i64 v zs) :
    Calls Try.prog 34 #[v, .func (.func 22) #[] #[]] w fun e w' => e = .returned (.int .i64 (badAt zs)) ∧ w = w' := by
  obtain ⟨A, c, rfl, hl, -, hcell⟩ := hv
  have HC := Lib.hid hcell
  clear hcell
  go_enter Try.func34, Try.ntmps34
  go_wp2_with fail
  go_loop [8] (fun t => ∃ j : Nat, j ≤ zs.length ∧ t = .int .i64 j ∧ Hid (OkTo zs j)) (fun t => zs.length - (intOf t).toNat)
  case atStart => exact ⟨0, Nat.zero_le _, rfl, okTo_zero zs⟩
  case round =>
    obtain ⟨j, hj, rfl, HP⟩ := hrel
    by_cases hlt : j < zs.length
    · obtain ⟨b, off, rfl, hb, hcell⟩ := HC.out (by omega)
      have hx := hcell j hlt
      clear hcell
      have H1 := fun h => Lib.hid (okTo_succ HP.out h)
      have H2 := fun h => Lib.hid (badAt_some hlt HP.out h)
      cases ho : okB (zs.getD j 0) with
      | true =>
        have H3 := H1 ho
        clear H1 H2
        have HO := Lib.hid ho
        clear ho
        generalize zs.getD j 0 = x at *
        go_wp2_with fail
        refine (bad_any _ _).mono ?_
        rw [HO.out]
        rintro e w' ⟨rfl, rfl⟩
        go_wp2_with fail
        go_round
        case rel => exact ⟨j + 1, by omega, by go_num, H3⟩
        case measure => simp [intOf]; omega
      | false =>
        have H3 := H2 ho
        clear H1 H2
        have HO := Lib.hid ho
        clear ho
        generalize zs.getD j 0 = x at *
        go_wp2_with fail
        refine (bad_any _ _).mono ?_
        rw [HO.out]
        rintro e w' ⟨rfl, rfl⟩
        go_wp2_with fail
        go_ret
        exact ⟨ret_int H3.out.symm, rfl⟩
    · obtain rfl : j = zs.length := by omega
      have H3 := Lib.hid (badAt_none HP.out)
      go_wp2_with fail
      go_ret
      exact ⟨ret_int H3.out.symm, rfl⟩

theorem contains_any (zs : List Int) (v : Value) (B : Nat) (w : World) (hv : Ints w B .i64 v zs) :
    Calls Try.prog 23 #[v, .func (.func 22) #[] #[]] w fun e w' => e = .returned (.bool (!allB zs)) ∧ w = w' := by
  have hl : zs.length ≤ 9223372036854775807 := by obtain ⟨A, c, rfl, hl, -, -⟩ := hv; exact hl
  have HV := Lib.hid hv
  clear hv
  have HB := Lib.hid (badAt_sign zs)
  obtain ⟨b0, b1⟩ := badAt_bd zs hl
  go_enter Try.func23, Try.ntmps23
  go_wp2_with fail
  refine (index_any zs v B _ HV.out).mono ?_
  rintro e w' ⟨rfl, rfl⟩
  go_wp2_with fail
  go_ret
  exact ⟨ret_bool HB.out, rfl⟩

def fitB (total : Int) (zs : List Int) : Bool := decide (zs.length ≤ 1000) && okB total && allB zs
theorem fitB_iff (total : Int) (zs : List Int) : fitB total zs = true ↔ zs.length ≤ 1000 ∧ okB total = true ∧ allB zs = true := by
  unfold fitB; simp [and_assoc]

theorem fit_any (total : Int) (zs : List Int) (v : Value) (B : Nat) (w : World) (hv : Ints w B .i64 v zs) :
    Calls Try.prog 15 #[.int .i64 total, v] w fun e w' => e = .returned (.bool (fitB total zs)) ∧ w = w' := by
  obtain ⟨A, c, rfl, hl, hn, hc⟩ := hv
  have HV : Hid (Ints w B .i64 (.slice A zs.length c) zs) := ⟨A, c, rfl, hl, hn, hc⟩
  clear hc hn
  by_cases h : zs.length ≤ 1000
  · cases ho : okB total with
    | true =>
      have HF : Hid (fitB total zs = allB zs) := by show fitB total zs = allB zs; unfold fitB; rw [ho]; simp [h]
      have HO := Lib.hid ho
      clear ho
      go_enter Try.func15, Try.ntmps15
      go_wp2_with fail
      refine (bad_any _ _).mono ?_
      rw [HO.out]
      rintro e w' ⟨rfl, rfl⟩
      go_wp2_with fail
      refine (contains_any zs _ B _ HV.out).mono ?_
      rintro e w' ⟨rfl, rfl⟩
      cases hb : allB zs with
      | true =>
        have HB := Lib.hid hb
        clear hb
        go_wp2_with fail
        go_ret
        exact ⟨ret_bool (by rw [HF.out, HB.out]), rfl⟩
      | false =>
        have HB := Lib.hid hb
        clear hb
        go_wp2_with fail
        go_ret
        exact ⟨ret_bool (by rw [HF.out, HB.out]), rfl⟩
    | false =>
      have HF : Hid (fitB total zs = false) := by show fitB total zs = false; unfold fitB; rw [ho]; simp
      have HO := Lib.hid ho
      clear ho
      go_enter Try.func15, Try.ntmps15
      go_wp2_with fail
      refine (bad_any _ _).mono ?_
      rw [HO.out]
      rintro e w' ⟨rfl, rfl⟩
      go_wp2_with fail
      go_ret
      exact ⟨ret_bool HF.out.symm, rfl⟩
  · have HF : Hid (fitB total zs = false) := by show fitB total zs = false; unfold fitB; simp [h]
    have h' : 1000 < zs.length := by omega
    go_enter Try.func15, Try.ntmps15
    go_wp2_with fail
    go_ret
    exact ⟨ret_bool HF.out.symm, rfl⟩
end Go.Proofs.Ytbdcinecdigjgaa.Share
