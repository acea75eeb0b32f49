/- What money.Sum and the document's own Sum answer, at any list; whether two lists are alike. -/
import Derived.Test.YtldcocckfemgbaaRefAdd
import Derived.Test.YtldcocckfemgbaaSlice
import Derived.Deep.QuietTactic
import Derived.BigQuiet
namespace Go.Proofs.Ytldcocckfemgbaa.Money
open Go.ChangeShapes Go.WideShapes Go.ChangeAt Go.RowKit Bits Slice Law

/-- All of a list, one behind the other, if every sum on the way is one. -/
def psum (zs : List Int) : Option Int := zs.foldl (fun o x => o.bind fun n => plusO n x) (some 0)
theorem psum_from (zs : List Int) : zs.foldl (fun o x => o.bind fun n => plusO n x) (none : Option Int) = none := by
  induction zs with
  | nil => rfl
  | cons x r ih => exact ih
theorem psum_succ {zs : List Int} {j : Nat} (h : j < zs.length) : psum (zs.take (j + 1)) = (psum (zs.take j)).bind fun n => plusO n (zs.getD j 0) := by
  unfold psum
  rw [List.take_succ_eq_append_getElem h, List.foldl_append]
  simp [List.getD_eq_getElem?_getD, List.getElem?_eq_getElem h]
theorem psum_none {zs : List Int} {j : Nat} (h : psum (zs.take j) = none) : psum zs = none := by
  unfold psum at *
  rw [← List.take_append_drop j zs, List.foldl_append, h]
  exact psum_from _
theorem psum_step {zs : List Int} {j : Nat} {n : Int} (h : j < zs.length) (hn : psum (zs.take j) = some n) : psum (zs.take (j + 1)) = plusO n (zs.getD j 0) := by
  rw [psum_succ h, hn]; rfl
theorem psum_all {zs : List Int} {j : Nat} {n : Int} (h : ¬ j < zs.length) (hn : psum (zs.take j) = some n) : psum zs = some n := by
  rw [List.take_of_length_le (by omega)] at hn; exact hn

theorem plusO_cases (a b : Int) : (plusO a b = some (a + b) ∧ goodB a = true ∧ goodB b = true ∧ goodB (a + b) = true) ∨ (plusO a b = none ∧ ¬ (goodB a = true ∧ goodB b = true ∧ goodB (a + b) = true)) := by
  by_cases h : goodB a = true ∧ goodB b = true ∧ goodB (a + b) = true
  · exact Or.inl ⟨plusO_some h, h⟩
  · exact Or.inr ⟨plusO_none h, h⟩

set_option maxHeartbeats 400000 in
/-- Two lists that are one are told alike. -/
theorem longs_same (zs : List Int) (v u : Value) (B : Nat) (w : World) (hv : Ints w B .i64 v zs) (hu : Ints w B .i64 u zs) :
    Calls Try.prog 14 #[v, u] w fun e w' => e = .returned (.bool true) ∧ ∃ n, w' = w.drewN n := by
  obtain ⟨A, c, rfl, hl, -, hcell⟩ := hv
  obtain ⟨A', c', rfl, -, -, hcell'⟩ := hu
  have HC := Lib.hid hcell
  have HC' := Lib.hid hcell'
  clear hcell hcell'
  go_enter Try.func14, Try.ntmps14
  go_wp2_with fail
  go_loopw [5] (fun t wr => ∃ j : Nat, j ≤ zs.length ∧ t = .int .i64 j ∧ ∃ n, wr = w.drewN n) (fun t _ => zs.length - (intOf t).toNat)
  case atStart => exact ⟨0, Nat.zero_le _, rfl, 0, rfl⟩
  case round =>
    obtain ⟨j, hj, rfl, n, rfl⟩ := hrel
    by_cases hlt : j < zs.length
    · obtain ⟨b, off, rfl, hb, hcell⟩ := HC.out (by omega)
      obtain ⟨b', off', rfl, hb', hcell'⟩ := HC'.out (by omega)
      have hx := hcell j hlt
      have hx' := hcell' j hlt
      clear hcell hcell'
      generalize zs.getD j 0 = x at *
      have h0 : (0 : Int) ≤ j := by omega
      go_wp2_with fail
      go_quiet (fail)
      go_wp2_with fail
      go_roundw
      case rel => exact ⟨j + 1, by omega, by go_num, _, rfl⟩
      case measure => simp [intOf]; omega
    · go_wp2_with fail
      go_ret
      exact ⟨rfl, _, rfl⟩
end Go.Proofs.Ytldcocckfemgbaa.Money
