/- The laws' own test of how long items are. -/
import Derived.Test.YtndmimmkjccgmaaRefPack
import Derived.Test.YtndmimmkjccgmaaItems
namespace Go.Proofs.Ytndmimmkjccgmaa.Pack
open Go.ChangeShapes Go.WideShapes Go.ChangeAt Go.RowKit Items

/-- How long the texts are together. -/
def sumS (l : List It) : Nat := (l.map fun x => x.s.size).sum
def fairB (l : List It) : Bool := l.all (fun x => decide (x.s.size ≤ 130000)) && decide (l.length ≤ 300 ∧ sumS l ≤ 260000)
theorem take_next (l : List It) (j : Nat) (h : j < l.length) : l.take (j + 1) = l.take j ++ [l.getD j it0] := by
  rw [List.take_add_one, List.getElem?_eq_getElem h, List.getD_eq_getElem?_getD, List.getElem?_eq_getElem h]; rfl
theorem sum_next (l : List It) (j : Nat) (h : j < l.length) : sumS (l.take (j + 1)) = sumS (l.take j) + (l.getD j it0).s.size := by
  rw [take_next l j h]; unfold sumS; simp
theorem sum_bound {l : List It} (h : ∀ x ∈ l, x.s.size ≤ 130000) : sumS l ≤ l.length * 130000 := by
  induction l with
  | nil => simp [sumS]
  | cons x r ih =>
    have h1 := h x (List.mem_cons_self ..)
    have h2 := ih fun y hy => h y (List.mem_cons_of_mem _ hy)
    have : sumS (x :: r) = x.s.size + sumS r := by simp [sumS]
    rw [this, List.length_cons]
    omega
theorem fair_not {l : List It} {j : Nat} (h : j < l.length) (hx : 130000 < (l.getD j it0).s.size) : fairB l = false := by
  unfold fairB
  rw [Bool.and_eq_false_iff]
  left
  rw [List.all_eq_false]
  refine ⟨l.getD j it0, ?_, by rw [decide_eq_false (by omega)]; simp⟩
  rw [List.getD_eq_getElem?_getD, List.getElem?_eq_getElem h]
  exact List.getElem_mem _
theorem small_next {l : List It} {j : Nat} (h : j < l.length) (ha : ∀ x ∈ l.take j, x.s.size ≤ 130000) (hx : ¬ 130000 < (l.getD j it0).s.size) : ∀ x ∈ l.take (j + 1), x.s.size ≤ 130000 := by
  intro x hm
  rw [take_next l j h] at hm
  rcases List.mem_append.1 hm with hm | hm
  · exact ha x hm
  · rw [List.mem_singleton] at hm
    rw [hm]; omega
theorem fair_small {l : List It} (h : fairB l = true) : ∀ x ∈ l, x.s.size ≤ 130000 := by
  unfold fairB at h
  rw [Bool.and_eq_true, List.all_eq_true] at h
  exact fun x hx => of_decide_eq_true (h.1 x hx)
theorem fair_len {l : List It} (h : fairB l = true) : l.length ≤ 300 := by
  unfold fairB at h
  rw [Bool.and_eq_true] at h
  exact (of_decide_eq_true h.2).1
theorem item_in {l : List It} {j : Nat} (h : j < l.length) : l.getD j it0 ∈ l := by
  rw [List.getD_eq_getElem?_getD, List.getElem?_eq_getElem h]
  exact List.getElem_mem _
theorem fair_all {l : List It} (h : ∀ x ∈ l, x.s.size ≤ 130000) : fairB l = decide (l.length ≤ 300 ∧ sumS l ≤ 260000) := by
  unfold fairB
  rw [List.all_eq_true.2 fun x hx => decide_eq_true (h x hx), Bool.true_and]
theorem ret_bool {a b : Bool} (h : a = b) : Ending.returned (.bool a) = .returned (.bool b) := by rw [h]
theorem r_fair (l : List It) (v : Value) (B : Nat) (w : World) (hv : Its w B v l) :
    Calls Try.prog 8 #[v] w fun e w' => e = .returned (.bool (fairB l)) ∧ ∃ n, w' = w.drewN n := by
  obtain ⟨A, c, rfl, hl, -, hcell⟩ := hv
  have HC := Lib.hid hcell
  clear hcell
  go_enter Try.func8, Try.ntmps8
  go_wp2_with fail
  go_loop [3, 4] (fun u t => ∃ j : Nat, j ≤ l.length ∧ t = .int .i64 j ∧ u = .int .i64 (wrap64 (sumS (l.take j) : Int)) ∧ Hid (∀ x ∈ l.take j, x.s.size ≤ 130000)) (fun _ t => l.length - (intOf t).toNat)
  case atStart => exact ⟨0, Nat.zero_le _, rfl, by simp [sumS, wrap64], fun x hx => by simp at hx⟩
  case round =>
    obtain ⟨j, hj, rfl, rfl, hs⟩ := hrel
    by_cases hlt : j < l.length
    · obtain ⟨b, off, rfl, hb, hq⟩ := HC.out (by omega)
      obtain ⟨-, -, hx⟩ := hq j hlt
      have u0 : decide ((j : Int) < (l.length : Int)) = true := decide_eq_true (by omega)
      have j0 : (0 : Int) ≤ j := by omega
      have HF := Lib.hid (fun h => fair_not hlt h)
      have HS := Lib.hid (fun h => small_next hlt hs.out h)
      have HN := Lib.hid (sum_next l j hlt)
      clear hq
      generalize (l.getD j it0).s = s at *
      by_cases hbig : 130000 < s.size
      · have u1 : decide ((130000 : Int) < (s.size : Int)) = true := decide_eq_true (by omega)
        have H := Lib.hid (HF.out hbig)
        go_wp2_with fail
        go_ret
        exact ⟨ret_bool H.out.symm, 0, rfl⟩
      · have u1 : decide ((130000 : Int) < (s.size : Int)) = false := decide_eq_false (by omega)
        have ws : wrap64 (wrap64 (sumS (l.take j) : Int) + s.size) = wrap64 ((sumS (l.take (j + 1)) : Nat) : Int) := by rw [HN.out]; unfold wrap64; omega
        have H := Lib.hid (HS.out hbig)
        go_wp2_with fail
        go_round
        case rel => exact ⟨j + 1, by omega, by go_num, by first | rw [ws] | rfl, H⟩
        case measure => simp [intOf]; omega
    · obtain rfl : j = l.length := by omega
      have u0 : decide ((l.length : Int) < (l.length : Int)) = false := decide_eq_false (by omega)
      rw [List.take_length] at hs ⊢
      have H := fair_all hs.out
      have hbd := sum_bound hs.out
      by_cases h1 : l.length ≤ 300
      · have hw : wrap64 (sumS l : Int) = sumS l := by unfold wrap64; omega
        rw [hw]
        by_cases h2 : sumS l ≤ 260000
        · have HE := Lib.hid (H.trans (decide_eq_true ⟨h1, h2⟩))
          clear H
          go_wp2_with fail
          go_ret
          exact ⟨ret_bool ((decide_eq_true (by omega)).trans HE.out.symm), 0, rfl⟩
        · have HE := Lib.hid (H.trans (decide_eq_false fun h => h2 h.2))
          clear H
          go_wp2_with fail
          go_ret
          exact ⟨ret_bool ((decide_eq_false (by omega)).trans HE.out.symm), 0, rfl⟩
      · have HE := Lib.hid (H.trans (decide_eq_false fun h => h1 h.1))
        clear H
        go_wp2_with fail
        go_ret
        exact ⟨ret_bool HE.out.symm, 0, rfl⟩
end Go.Proofs.Ytndmimmkjccgmaa.Pack
