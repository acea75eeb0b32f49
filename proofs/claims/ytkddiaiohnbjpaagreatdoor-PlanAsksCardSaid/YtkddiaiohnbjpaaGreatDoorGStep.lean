/- A step's share, what is asked, in plain numbers; no condition. The program's own Share and Of, at every input, where its array of shares lies as listed. The program's own Of, the document's own Share and Of, and the examples, where the array of shares lies as listed. -/
import Derived.Test.YtkddiaiohnbjpaaGreatDoorGNum
import Derived.Test.YtkddiaiohnbjpaaGreatDoorGA
import Derived.Deep.QuietTactic
import Derived.Test.YtkddiaiohnbjpaaGreatDoorGAdd
namespace Go.Proofs.YtkddiaiohnbjpaaGreatDoor.Step
open Go.ChangeShapes Go.WideShapes Go.ChangeAt Go.RowKit Bits Money

/-- The steps' shares, in hundredths. -/
def shs : List Int := [60, 80, 100, 125, 150]
/-- The share of the k-th step. -/
def shI (k : Int) : Int := if k < 0 then 0 else if k = 0 then 60 else if k = 1 then 80 else if k = 2 then 100 else if k = 3 then 125 else 150
theorem sh_neg {k : Int} (h : k < 0) : shI k = 0 := by unfold shI; rw [if_pos h]
theorem sh_late {k : Int} (h : 4 ≤ k) : shI k = 150 := by unfold shI; rw [if_neg (by omega), if_neg (by omega), if_neg (by omega), if_neg (by omega), if_neg (by omega)]
theorem sh_shs (j : Nat) (h : j < 5) : shI (j : Int) = shs.getD j 0 := by
  match j, h with
  | 0, _ | 1, _ | 2, _ | 3, _ | 4, _ => rfl
theorem sh_range (k : Int) (h : 0 ≤ k) : 60 ≤ shI k ∧ shI k ≤ 150 := by unfold shI; split <;> (try split) <;> (try split) <;> (try split) <;> (try split) <;> omega
theorem sh_any (k : Int) : 0 ≤ shI k ∧ shI k ≤ 150 := by unfold shI; split <;> (try split) <;> (try split) <;> (try split) <;> (try split) <;> omega
theorem sh_more {k l : Int} (h : k ≤ l) : shI k ≤ shI l := by
  unfold shI
  repeat' (first | omega | split)

/-- What is no level, or no month. -/
def bad (l m : Int) : Prop := l < 0 ∨ 10000000000000 < l ∨ m < 0
instance (l m : Int) : Decidable (bad l m) := by unfold bad; exact inferInstance
/-- What Of tells: the amount, and the error. -/
def oV (l m : Int) : Int := if bad l m then 0 else mdV l (shI (m.tdiv 24)) 100 1
def oE (l m : Int) : Int := if bad l m then 1 else mdE l (shI (m.tdiv 24)) 100 1
theorem o_bad {l m : Int} (h : bad l m) : oV l m = 0 ∧ oE l m = 1 := by unfold oV oE; rw [if_pos h, if_pos h]; exact ⟨rfl, rfl⟩
theorem o_good {l m : Int} (h : ¬ bad l m) : oV l m = mdV l (shI (m.tdiv 24)) 100 1 ∧ oE l m = mdE l (shI (m.tdiv 24)) 100 1 := by unfold oV oE; rw [if_neg h, if_neg h]; exact ⟨rfl, rfl⟩
/-- Of a level of at most 32 bits: it is money. -/
theorem o_small {l m : Int} (l0 : 0 ≤ l) (l1 : l ≤ 4294967295) (m0 : 0 ≤ m) :
    oV l m = rnd l (shI (m.tdiv 24)) 100 1 ∧ oE l m = 0 ∧ 60 * l ≤ 100 * rnd l (shI (m.tdiv 24)) 100 1 ∧ 100 * rnd l (shI (m.tdiv 24)) 100 1 ≤ 150 * l + 99 := by
  have hs := sh_range (m.tdiv 24) (Int.tdiv_nonneg m0 (by decide))
  have h := o_good (l := l) (m := m) (by unfold bad; omega)
  generalize shI (m.tdiv 24) = s at *
  have p0 : 60 * l ≤ l * s := by rw [Int.mul_comm l s]; exact Int.mul_le_mul_of_nonneg_right hs.1 l0
  have p1 : l * s ≤ 150 * l := by rw [Int.mul_comm l s]; exact Int.mul_le_mul_of_nonneg_right hs.2 l0
  have u := rnd_up l s 100
  have r1 : 100 * rnd l s 100 1 ≤ 150 * l + 99 ∧ 60 * l ≤ 100 * rnd l s 100 1 := by
    rw [u]
    generalize l * s = p at *
    split <;> omega
  have g := md_in (a := l) (b := s) (c := 100) (how := 1) (by unfold mdBad; omega) (by omega)
  exact ⟨h.1.trans g.1, h.2.trans g.2, r1.2, r1.1⟩
theorem o_more {l m k : Int} (l0 : 0 ≤ l) (m0 : 0 ≤ m) (h : m ≤ k) : rnd l (shI (m.tdiv 24)) 100 1 ≤ rnd l (shI (k.tdiv 24)) 100 1 := by
  have hq : m.tdiv 24 ≤ k.tdiv 24 := by rw [Int.tdiv_eq_ediv_of_nonneg m0, Int.tdiv_eq_ediv_of_nonneg (by omega)]; omega
  have hs := sh_more hq
  have p : l * shI (m.tdiv 24) ≤ l * shI (k.tdiv 24) := Int.mul_le_mul_of_nonneg_left hs l0
  rw [rnd_up, rnd_up]
  generalize l * shI (m.tdiv 24) = x at *
  generalize l * shI (k.tdiv 24) = y at *
  split <;> split <;> omega
end Go.Proofs.YtkddiaiohnbjpaaGreatDoor.Step
namespace Go.Proofs.YtkddiaiohnbjpaaGreatDoor.Step
open Go.ChangeShapes Go.WideShapes Go.ChangeAt Go.RowKit Bits Money Law

/-- The program's array of shares lies as its text lays it. -/
def Laid (w : World) : Prop := 1 < w.heap.size ∧ ∀ i, i < 5 → w.cell? ⟨1, i, none⟩ = some (.int .i64 (shs.getD i 0))
theorem Laid.of {w w' : World} (h : Laid w) (hb : Below w.heap.size w w') : Laid w' := by
  refine ⟨Nat.lt_of_lt_of_le h.1 hb.size, fun i hi => ?_⟩
  rw [hb.cell (p := ⟨1, i, none⟩) h.1]
  exact h.2 i hi
theorem Laid.drewN {w : World} (h : Laid w) (n : Nat) : Laid (w.drewN n) := h.of (below_drewN (Below.refl _ _) n)
theorem Laid.alloc {w : World} (h : Laid w) (o : Obj) : Laid (w.alloc o) := h.of (below_new (Below.refl _ _) o)
theorem laid_of {laid : List (String × DataW Unit)} {w : World} (h : laidMet Tryz.prog laid w) (hm : ("annuity/step.shares", Lib.tabData .i64 shs) ∈ laid) : Laid w := by
  have hT := Door.tab_of_mem (g := 1) (t := 154) (e := 3) (n := 5) (by kernel_rfl) (by kernel_rfl) Tryz.underlying154 Tryz.underlying3 (by kernel_rfl) (by kernel_rfl) h hm
  have hc := hT.cell (g := 1) (by kernel_rfl)
  refine ⟨?_, fun i hi => hc i hi⟩
  have h0 := hc 0 (by decide)
  exact World.block_lt_of_cell? _ _ h0
theorem ret_i {a b : Int} (h : a = b) : Ending.returned (.int .i64 a) = .returned (.int .i64 b) := by rw [h]
theorem p_share (k : Int) (w : World) (L : Laid w) : Calls Tryz.prog 109 #[.int .i64 k] w fun e w' => e = .returned (.int .i64 (shI k)) ∧ w = w' := by
  by_cases h1 : k < 0
  · have H := Lib.hid (sh_neg h1)
    clear L
    go_enter Tryz.func109, Tryz.ntmps109
    go_wp2_with fail
    go_ret
    exact ⟨ret_i H.out.symm, rfl⟩
  by_cases h2 : 4 ≤ k
  · have H := Lib.hid (sh_late h2)
    have C : w.cell? ⟨1, 4, none⟩ = some (.int .i64 150) := L.2 4 (by decide)
    have e1 : (if k < 4 then k else 4) = 4 := if_neg (by omega)
    have e2 : (if 4 < k then 4 else k) = 4 := by split <;> omega
    have e3 : min k 4 = 4 := by omega
    clear L
    go_enter Tryz.func109, Tryz.ntmps109
    go_wp2_with fail
    go_ret
    exact ⟨ret_i H.out.symm, rfl⟩
  obtain ⟨j, rfl⟩ := Int.eq_ofNat_of_zero_le (show 0 ≤ k by omega)
  have hj : j < 5 := by omega
  have H := Lib.hid (sh_shs j hj)
  have C := L.2 j hj
  have e1 : (if (j : Int) < 4 then (j : Int) else 4) = j := if_pos (by omega)
  have e2 : (if (4 : Int) < j then 4 else (j : Int)) = j := if_neg (by omega)
  have e3 : min (j : Int) 4 = j := by omega
  clear L
  go_enter Tryz.func109, Tryz.ntmps109
  go_wp2_with fail
  go_ret
  exact ⟨ret_i H.out.symm, rfl⟩
end Go.Proofs.YtkddiaiohnbjpaaGreatDoor.Step
namespace Go.Proofs.YtkddiaiohnbjpaaGreatDoor.Step
open Go.ChangeShapes Go.WideShapes Go.ChangeAt Go.RowKit Bits Money Law

theorem quot_wrap {m : Int} (h : 0 ≤ m) (hm : m ≤ 9223372036854775807) : wrap64 (m.tdiv 24) = m.tdiv 24 := by
  rw [Int.tdiv_eq_ediv_of_nonneg h]; unfold wrap64; omega
theorem p_of (l m : Int) (w : World) (hm : m ≤ 9223372036854775807) (L : Laid w) : Calls Tryz.prog 76 #[.int .i64 l, .int .i64 m] w fun e w' => e = .returned (.tuple #[.int .i64 (oV l m), .int .i64 (oE l m)]) ∧ ∃ n, w' = w.drewN n := by
  by_cases h : bad l m
  · obtain ⟨e1, e2⟩ := o_bad h
    rw [e1, e2]
    clear L e1 e2 hm
    unfold bad at h
    by_cases h1 : l < 0
    · clear h
      go_enter Tryz.func76, Tryz.ntmps76
      go_wp2_with fail
      go_ret2
      exact ⟨rfl, 0, rfl⟩
    by_cases h2 : 10000000000000 < l
    · clear h
      go_enter Tryz.func76, Tryz.ntmps76
      go_wp2_with fail
      go_ret2
      exact ⟨rfl, 0, rfl⟩
    have h3 : m < 0 := by omega
    clear h
    go_enter Tryz.func76, Tryz.ntmps76
    go_wp2_with fail
    go_ret2
    exact ⟨rfl, 0, rfl⟩
  · obtain ⟨e1, e2⟩ := o_good h
    rw [e1, e2]
    clear e1 e2
    unfold bad at h
    have h1 : ¬ l < 0 := by omega
    have h2 : ¬ 10000000000000 < l := by omega
    have h3 : ¬ m < 0 := by omega
    have hs := sh_any (m.tdiv 24)
    have K1 := Lib.hid (p_share (m.tdiv 24) w L)
    have K2 := Lib.hid (fun W => Money.muldiv_any l (shI (m.tdiv 24)) 100 1 W (by omega) (by omega) (by omega))
    generalize shI (m.tdiv 24) = s at *
    have hq := quot_wrap (m := m) (by omega) hm
    have hs1 : IntKind.i64.wrap s = s := IntWalk.i64_in _ (by omega)
    clear hm
    generalize mdV l s 100 1 = v at *
    generalize mdE l s 100 1 = x at *
    clear h L
    go_enter Tryz.func76, Tryz.ntmps76
    go_wp2_with fail
    refine K1.out.mono ?_
    rintro e w1 ⟨rfl, rfl⟩
    go_wp2_with fail
    refine (K2.out _).mono ?_
    rintro e w1 ⟨rfl, n, rfl⟩
    go_wp2_with fail
    go_ret2
    exact ⟨rfl, n, rfl⟩
theorem r_share (k : Int) (w : World) : Calls Tryz.prog 121 #[.int .i64 k] w fun e w' => e = .returned (.int .i64 (shI k)) ∧ w = w' := by
  by_cases h0 : k < 0
  · have H := Lib.hid (sh_neg h0)
    go_enter Tryz.func121, Tryz.ntmps121
    go_wp2_with fail
    go_ret
    exact ⟨ret_i H.out.symm, rfl⟩
  by_cases h4 : 4 ≤ k
  · have H := Lib.hid (sh_late h4)
    have t0 : (k == 0) = false := by rw [beq_eq_false_iff_ne]; omega
    have t1 : (k == 1) = false := by rw [beq_eq_false_iff_ne]; omega
    have t2 : (k == 2) = false := by rw [beq_eq_false_iff_ne]; omega
    have t3 : (k == 3) = false := by rw [beq_eq_false_iff_ne]; omega
    go_enter Tryz.func121, Tryz.ntmps121
    go_wp2_with fail
    go_ret
    exact ⟨ret_i H.out.symm, rfl⟩
  have : k = 0 ∨ k = 1 ∨ k = 2 ∨ k = 3 := by omega
  clear h0 h4
  rcases this with rfl | rfl | rfl | rfl <;>
  · go_enter Tryz.func121, Tryz.ntmps121
    go_wp2_with fail
    go_ret
    exact ⟨rfl, rfl⟩
theorem r_of (l m : Int) (w : World) (hm : m ≤ 9223372036854775807) : Calls Tryz.prog 84 #[.int .i64 l, .int .i64 m] w fun e w' => e = .returned (.tuple #[.int .i64 (oV l m), .int .i64 (oE l m)]) ∧ Below w.heap.size w w' := by
  by_cases h1 : l < 0
  · obtain ⟨e1, e2⟩ := o_bad (l := l) (m := m) (Or.inl h1)
    rw [e1, e2]
    clear e1 e2
    go_enter Tryz.func84, Tryz.ntmps84
    go_wp2_with fail
    go_ret2
    exact ⟨rfl, Below.refl _ _⟩
  by_cases h2 : 10000000000000 < l
  · obtain ⟨e1, e2⟩ := o_bad (l := l) (m := m) (Or.inr (Or.inl h2))
    rw [e1, e2]
    clear e1 e2
    have K : Hid (Calls Tryz.prog 87 #[.int .i64 l] w fun e w' => e = .returned (.bool false) ∧ w = w') := show Calls _ _ _ _ _ by
      have t := Ref.good_any l w
      have g : goodB l = false := by rw [← Bool.not_eq_true, goodB_iff]; omega
      rw [g] at t; exact t
    go_enter Tryz.func84, Tryz.ntmps84
    go_wp2_with fail
    refine K.out.mono ?_
    rintro e w1 ⟨rfl, rfl⟩
    go_wp2_with fail
    go_ret2
    exact ⟨rfl, Below.refl _ _⟩
  have KG : Hid (Calls Tryz.prog 87 #[.int .i64 l] w fun e w' => e = .returned (.bool true) ∧ w = w') := show Calls _ _ _ _ _ by
    have t := Ref.good_any l w
    have g : goodB l = true := by rw [goodB_iff]; omega
    rw [g] at t; exact t
  by_cases h3 : m < 0
  · obtain ⟨e1, e2⟩ := o_bad (l := l) (m := m) (Or.inr (Or.inr h3))
    rw [e1, e2]
    clear e1 e2
    go_enter Tryz.func84, Tryz.ntmps84
    go_wp2_with fail
    refine KG.out.mono ?_
    rintro e w1 ⟨rfl, rfl⟩
    go_wp2_with fail
    go_ret2
    exact ⟨rfl, Below.refl _ _⟩
  obtain ⟨e1, e2⟩ := o_good (l := l) (m := m) (by unfold bad; omega)
  rw [e1, e2]
  clear e1 e2
  have hs := sh_any (m.tdiv 24)
  have K1 := Lib.hid (r_share (m.tdiv 24) w)
  have K2 := Lib.hid (fun W => Ref.muldiv_any l (shI (m.tdiv 24)) 100 1 W (by omega) (by omega) (by omega))
  generalize shI (m.tdiv 24) = s at *
  generalize mdV l s 100 1 = v at *
  generalize mdE l s 100 1 = x at *
  have hq := quot_wrap (m := m) (by omega) hm
  have hs1 : IntKind.i64.wrap s = s := IntWalk.i64_in _ (by omega)
  clear hm
  go_enter Tryz.func84, Tryz.ntmps84
  go_wp2_with fail
  refine KG.out.mono ?_
  rintro e w1 ⟨rfl, rfl⟩
  go_wp2_with fail
  refine K1.out.mono ?_
  rintro e w1 ⟨rfl, rfl⟩
  go_wp2_with fail
  refine (K2.out _).mono ?_
  rintro e w1 ⟨rfl, hb⟩
  go_wp2_with fail
  go_ret2
  exact ⟨rfl, hb⟩
theorem of_at (l m v x : Int) (w : World) (hm : m ≤ 9223372036854775807) (L : Laid w) (h1 : oV l m = v) (h2 : oE l m = x) : Calls Tryz.prog 76 #[.int .i64 l, .int .i64 m] w fun e w' => e = .returned (.tuple #[.int .i64 v, .int .i64 x]) ∧ ∃ n, w' = w.drewN n := by
  have t := p_of l m w hm L
  rw [h1, h2] at t; exact t
end Go.Proofs.YtkddiaiohnbjpaaGreatDoor.Step
