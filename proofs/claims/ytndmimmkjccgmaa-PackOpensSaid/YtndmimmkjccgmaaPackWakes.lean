/- Layer 8's example. -/
import Derived.Test.YtndmimmkjccgmaaPackTwo
namespace Go.Proofs.Ytndmimmkjccgmaa.Pack
open Go.ChangeShapes Go.WideShapes Go.ChangeAt Go.RowKit

theorem ex_p1 : (pst0.num 5 2).s = ⟨#[5, 0]⟩ ∧ (pst0.num 5 2).e = 0 := ⟨by kernel_rfl, by kernel_rfl⟩
theorem ex_p2 : ((pst0.num 5 2).text ⟨#[97]⟩).told = ⟨#[5, 0, 1, 0, 97]⟩ ∧ ((pst0.num 5 2).text ⟨#[97]⟩).e = 0 := ⟨by kernel_rfl, by kernel_rfl⟩
def ost1 : OSt := ⟨⟨#[5, 0, 1, 0, 97]⟩, 0, false⟩
def ost2 : OSt := ⟨⟨#[5, 0, 1, 0, 97]⟩, 2, false⟩
def ost3 : OSt := ⟨⟨#[5, 0, 1, 0, 97]⟩, 5, false⟩
theorem ex_o1 : ost1.num 2 = (5, ost2) := by kernel_rfl
theorem ex_o2 : ost2.text 9 = (⟨#[97]⟩, ost3) := by kernel_rfl
theorem ex_o3 : (!ost3.bad && decide (ost3.at_ = ost3.s.size)) = true := by kernel_rfl
theorem only_below {F : Nat → Prop} {w a b : World} (h : Below w.heap.size w a) (hF : ∀ i, F i → w.heap.size ≤ i) (ho : Only F a b) : Below w.heap.size w b :=
  h.trans ⟨ho.os, ho.tape, ho.output, ho.size, fun i hi => ho.block i (by have := h.size; omega) (fun hf => by have := hF i hf; omega)⟩
theorem high_next {F F1 : Nat → Prop} {n m : Nat} (h : ∀ i, F i → n ≤ i) (hm : n ≤ m) (hF : ∀ i, F1 i → F i ∨ m ≤ i) : ∀ i, F1 i → n ≤ i := fun i hi => by
  rcases hF i hi with h1 | h1
  · exact h i h1
  · omega
theorem wakes_pack (w : World) : Calls Try.prog 9 #[] w fun e w' => e = .returned (.bool true) ∧ Below w.heap.size w w' := by
  go_enter Try.func9, Try.ntmps9
  go_wp2_with fail
  have K := Lib.hid (pk_zero w)
  have BB := Lib.hid (show Below w.heap.size w (w.alloc pkObj) from (Below.refl _ _).alloc (Nat.le_refl _) _)
  have hcc := pk_num pst0 5 2 w.heap.size _ (w.alloc pkObj) K.out (by decide) (by decide)
  refine hcc.mono ?_
  clear hcc
  rintro e w1 ⟨rfl, F1, hp, ho, hF⟩
  have H1 := Lib.hid (high_next (n := w.heap.size) (F := fun i => i = w.heap.size) (fun i hi => by have hi : i = w.heap.size := hi; omega) BB.out.size hF)
  have BB := Lib.hid (only_below BB.out (fun i hi => by have hi : i = w.heap.size := hi; omega) ho)
  have K := Lib.hid hp
  clear hp ho hF
  go_wp2_with fail
  have hcc := pk_text (pst0.num 5 2) ⟨#[97]⟩ w.heap.size F1 w1 K.out (by decide)
  refine hcc.mono ?_
  clear hcc
  rintro e w2 ⟨rfl, F2, hp, ho, hF⟩
  have H2 := Lib.hid (high_next H1.out BB.out.size hF)
  have BB := Lib.hid (only_below BB.out H1.out ho)
  have K := Lib.hid hp
  clear hp ho hF
  go_wp2_with fail
  have hcc := pk_done ((pst0.num 5 2).text ⟨#[97]⟩) w.heap.size F2 w2 K.out
  rw [ex_p2.1, ex_p2.2] at hcc
  refine hcc.mono ?_
  clear hcc
  rintro e w3 ⟨rfl, F3, hp, ho, hF⟩
  have H3 := Lib.hid (high_next H2.out BB.out.size hF)
  have BB := Lib.hid (only_below BB.out H2.out ho)
  have K := Lib.hid hp
  clear hp ho hF
  go_wp2_with fail
  have hcc := op_open ⟨#[5, 0, 1, 0, 97]⟩ w3 (by decide)
  refine hcc.mono ?_
  clear hcc
  rintro e w4 ⟨a, rfl, F4, hp, ho, hF⟩
  have H4 := Lib.hid (fun i hi => Nat.le_trans BB.out.size (hF i hi))
  have BB := Lib.hid (BB.out.trans (ho.mono BB.out.size))
  have K : Hid (OpAt w4 F4 (.pointer (some a)) ost1) := hp
  clear hp ho hF
  go_wp2_with fail
  have hcc := op_num ost1 2 a F4 w4 K.out (by decide)
  rw [ex_o1] at hcc
  refine hcc.mono ?_
  clear hcc
  rintro e w5 ⟨rfl, F5, hp, ho, hF⟩
  have H5 := Lib.hid (high_next H4.out BB.out.size hF)
  have BB := Lib.hid (only_below BB.out H4.out ho)
  have K := Lib.hid hp
  clear hp ho hF
  go_wp2_with fail
  have hcc := op_text ost2 9 a F5 w5 K.out (by decide)
  rw [ex_o2] at hcc
  refine hcc.mono ?_
  clear hcc
  rintro e w6 ⟨rfl, F6, hp, ho, hF⟩
  have H6 := Lib.hid (high_next H5.out BB.out.size hF)
  have BB := Lib.hid (only_below BB.out H5.out ho)
  have K := Lib.hid hp
  clear hp ho hF
  go_wp2_with fail
  have hcc := op_done ost3 a F6 w6 K.out
  rw [ex_o3] at hcc
  refine hcc.mono ?_
  clear hcc
  rintro e w7 ⟨rfl, F7, hp, ho, hF⟩
  have H7 := Lib.hid (high_next H6.out BB.out.size hF)
  have BB := Lib.hid (only_below BB.out H6.out ho)
  have K := Lib.hid hp
  clear hp ho hF
  go_wp2_with fail
  go_ret
  exact ⟨rfl, BB.out⟩
end Go.Proofs.Ytndmimmkjccgmaa.Pack
