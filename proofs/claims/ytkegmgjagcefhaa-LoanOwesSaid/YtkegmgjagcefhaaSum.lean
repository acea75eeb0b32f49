/- What money.Sum and the document's own Sum answer, at any list; whether two lists are alike. -/
import Derived.Test.YtkegmgjagcefhaaRefAdd
import Derived.Test.YtkegmgjagcefhaaSlice
import Derived.Deep.QuietTactic
import Derived.BigQuiet
namespace Go.Proofs.Ytkegmgjagcefhaa.Money
open Go.ChangeShapes Go.WideShapes Go.ChangeAt Go.RowKit Bits Slice Law

/-- All of a list, one behind the other, if every sum on the way is one. -/
def psum (zs : List Int) : Option Int := zs.foldl (fun o x => o.bind fun n => plusO n x) (some 0)
theorem psum_from (zs : List Int) : zs.foldl (fun o x => o.bind fun n => plusO n x) (none : Option Int) = none := by
  induction zs with
  | nil => rfl
  | cons x r ih => exact ih
theorem psum_succ {zs : List Int} {j : Nat} (h : j < zs.length) : psum (zs.take (j + 1)) = (psum (zs.take j)).bind fun n => plusO n (zs.getD j 0) := by
  unfold psum
  rw [List.take_succ_eq_append_getElem h, List.foldl_append]
  simp [List.getD_eq_getElem?_getD, List.getElem?_eq_getElem h]
theorem psum_none {zs : List Int} {j : Nat} (h : psum (zs.take j) = none) : psum zs = none := by
  unfold psum at *
  rw [← List.take_append_drop j zs, List.foldl_append, h]
  exact psum_from _
theorem psum_step {zs : List Int} {j : Nat} {n : Int} (h : j < zs.length) (hn : psum (zs.take j) = some n) : psum (zs.take (j + 1)) = plusO n (zs.getD j 0) := by
  rw [psum_succ h, hn]; rfl
theorem psum_all {zs : List Int} {j : Nat} {n : Int} (h : ¬ j < zs.length) (hn : psum (zs.take j) = some n) : psum zs = some n := by
  rw [List.take_of_length_le (by omega)] at hn; exact hn

theorem plusO_cases (a b : Int) : (plusO a b = some (a + b) ∧ goodB a = true ∧ goodB b = true ∧ goodB (a + b) = true) ∨ (plusO a b = none ∧ ¬ (goodB a = true ∧ goodB b = true ∧ goodB (a + b) = true)) := by
  by_cases h : goodB a = true ∧ goodB b = true ∧ goodB (a + b) = true
  · exact Or.inl ⟨plusO_some h, h⟩
  · exact Or.inr ⟨plusO_none h, h⟩

set_option maxHeartbeats 400000 in
theorem sum_fn (zs : List Int) (v : Value) (B p : Nat) (w : World) (hp : w.cell? ⟨p, 0, none⟩ = some v) (hv : Ints w B .i64 v zs) :
    Calls Try.prog 85 #[.pointer (some ⟨p, 0, none⟩)] w fun e w' => (∀ n, psum zs = some n → e = .returned (.int .i64 n)) ∧ (psum zs = none → e = .panicked tooGreat) ∧ w = w' := by
  obtain ⟨A, c, rfl, hl, -, hcell⟩ := hv
  have HC := Lib.hid hcell
  clear hcell
  go_enter Try.func85, Try.ntmps85
  go_wp2_with fail
  go_loop [2, 7] (fun s t => ∃ (j : Nat) (n : Int), j ≤ zs.length ∧ t = .int .i64 j ∧ s = .int .i64 n ∧ Hid (psum (zs.take j) = some n)) (fun _ t => zs.length - (intOf t).toNat)
  case atStart => exact ⟨0, 0, Nat.zero_le _, rfl, rfl, rfl⟩
  case round =>
    obtain ⟨j, n, hj, rfl, rfl, HP⟩ := hrel
    by_cases hlt : j < zs.length
    · obtain ⟨b, off, rfl, hb, hcell⟩ := HC.out (by omega)
      have hx := hcell j hlt
      clear hcell
      have HS := Lib.hid (psum_step hlt HP.out)
      generalize zs.getD j 0 = x at *
      rcases plusO_cases n x with ⟨he, hg⟩ | ⟨he, hg⟩
      · have HE := Lib.hid he
        have HG := Lib.hid hg
        clear he hg
        go_wp2_with fail
        refine (plus_ok _ _ _ HG.out.1 HG.out.2.1 HG.out.2.2).mono ?_
        rintro e w' ⟨rfl, rfl⟩
        go_wp2_with fail
        go_round
        case rel => exact ⟨j + 1, n + x, by omega, by go_num, rfl, Lib.hid (HS.out.trans HE.out)⟩
        case measure => simp [intOf]; omega
      · have HE := Lib.hid he
        have HG := Lib.hid hg
        clear he hg
        go_wp2_with fail
        refine (plus_bad _ _ _ HG.out).mono ?_
        rintro e w' ⟨rfl, rfl⟩
        go_wp2_with fail
        have hn : psum zs = none := psum_none (HS.out.trans HE.out)
        refine ⟨rfl, ?_⟩
        exact ⟨fun m hm => (by rw [hn] at hm; cases hm), fun _ => rfl, rfl⟩
    · have hall := Lib.hid (psum_all hlt HP.out)
      go_wp2_with fail
      go_ret
      exact ⟨fun m hm => (by rw [hall.out] at hm; injection hm with hm; rw [← hm]; rfl), fun hm => (by rw [hall.out] at hm; cases hm), rfl⟩

theorem sum_enters : ∀ (args : Array Value) (w : World), (callFunc 85 args).run Try.prog w = .ok (.enter 85 args) w :=
  enters_of Try.func85 (by kernel_rfl) rfl

theorem sum_tells (zs : List Int) (v : Value) (w : World) (hv : Ints w w.heap.size .i64 v zs) :
    Calls Try.prog 66 #[v] w fun e w' => e = .returned (.tuple #[.int .i64 (valO (psum zs)), .int .i64 (errO (psum zs))]) ∧ Below w.heap.size w w' := by
  have hmf : ∀ (fn : Fn) (first cap : Array Value) (w : World), (Instr.makeFunc fn first cap).run Try.prog w = .ok (.func fn first cap) w := fun _ _ _ _ => rfl
  obtain ⟨A, c, rfl, hl, hn, hc⟩ := hv
  have HV : Hid (Ints w w.heap.size .i64 (.slice A zs.length c) zs) := ⟨A, c, rfl, hl, hn, hc⟩
  clear hc hn
  cases hp : psum zs with
  | some n =>
    have HP := Lib.hid hp
    clear hp
    go_enter Try.func66, Try.ntmps66
    go_wp2_with fail
    refine (told_ok 85 _ n _ sum_enters ((sum_fn zs (.slice A zs.length c) w.heap.size w.heap.size _ (by simp [go_sem]) (((HV.out.alloc (Nat.le_refl _) _).alloc (by simp) _).alloc (by simp; omega) _)).mono fun e w' h => ⟨h.1 n HP.out, h.2.2⟩)).mono ?_
    rintro e w1 ⟨rfl, hb⟩
    have HB := Lib.hid hb
    clear hb
    go_wp2_with fail
    go_ret2
    exact ⟨rfl, below_via (below_new (Below.refl _ _) _) HB.out⟩
  | none =>
    have HP := Lib.hid hp
    clear hp
    go_enter Try.func66, Try.ntmps66
    go_wp2_with fail
    refine (told_bad 85 _ _ sum_enters ((sum_fn zs (.slice A zs.length c) w.heap.size w.heap.size _ (by simp [go_sem]) (((HV.out.alloc (Nat.le_refl _) _).alloc (by simp) _).alloc (by simp; omega) _)).mono fun e w' h => ⟨h.2.1 HP.out, h.2.2⟩)).mono ?_
    rintro e w1 ⟨rfl, hb⟩
    have HB := Lib.hid hb
    clear hb
    go_wp2_with fail
    go_ret2
    exact ⟨rfl, below_via (below_new (Below.refl _ _) _) HB.out⟩

end Go.Proofs.Ytkegmgjagcefhaa.Money
