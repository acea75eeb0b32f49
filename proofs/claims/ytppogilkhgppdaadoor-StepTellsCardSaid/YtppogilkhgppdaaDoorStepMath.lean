/- A step's share, what is asked, in plain numbers; no condition. -/
import Derived.Test.YtppogilkhgppdaaDoorRnd
namespace Go.Proofs.YtppogilkhgppdaaDoor.Step
open Go.ChangeShapes Go.WideShapes Go.ChangeAt Go.RowKit Bits Money

/-- The steps' shares, in hundredths. -/
def shs : List Int := [60, 80, 100, 125, 150]
/-- The share of the k-th step. -/
def shI (k : Int) : Int := if k < 0 then 0 else if k = 0 then 60 else if k = 1 then 80 else if k = 2 then 100 else if k = 3 then 125 else 150
theorem sh_neg {k : Int} (h : k < 0) : shI k = 0 := by unfold shI; rw [if_pos h]
theorem sh_late {k : Int} (h : 4 ≤ k) : shI k = 150 := by unfold shI; rw [if_neg (by omega), if_neg (by omega), if_neg (by omega), if_neg (by omega), if_neg (by omega)]
theorem sh_shs (j : Nat) (h : j < 5) : shI (j : Int) = shs.getD j 0 := by
  match j, h with
  | 0, _ | 1, _ | 2, _ | 3, _ | 4, _ => rfl
theorem sh_range (k : Int) (h : 0 ≤ k) : 60 ≤ shI k ∧ shI k ≤ 150 := by unfold shI; split <;> (try split) <;> (try split) <;> (try split) <;> (try split) <;> omega
theorem sh_any (k : Int) : 0 ≤ shI k ∧ shI k ≤ 150 := by unfold shI; split <;> (try split) <;> (try split) <;> (try split) <;> (try split) <;> omega
theorem sh_more {k l : Int} (h : k ≤ l) : shI k ≤ shI l := by
  unfold shI
  repeat' (first | omega | split)

/-- What is no level, or no month. -/
def bad (l m : Int) : Prop := l < 0 ∨ 10000000000000 < l ∨ m < 0
instance (l m : Int) : Decidable (bad l m) := by unfold bad; exact inferInstance
/-- What Of tells: the amount, and the error. -/
def oV (l m : Int) : Int := if bad l m then 0 else mdV l (shI (m.tdiv 24)) 100 1
def oE (l m : Int) : Int := if bad l m then 1 else mdE l (shI (m.tdiv 24)) 100 1
theorem o_bad {l m : Int} (h : bad l m) : oV l m = 0 ∧ oE l m = 1 := by unfold oV oE; rw [if_pos h, if_pos h]; exact ⟨rfl, rfl⟩
theorem o_good {l m : Int} (h : ¬ bad l m) : oV l m = mdV l (shI (m.tdiv 24)) 100 1 ∧ oE l m = mdE l (shI (m.tdiv 24)) 100 1 := by unfold oV oE; rw [if_neg h, if_neg h]; exact ⟨rfl, rfl⟩
/-- Of a level of at most 32 bits: it is money. -/
theorem o_small {l m : Int} (l0 : 0 ≤ l) (l1 : l ≤ 4294967295) (m0 : 0 ≤ m) :
    oV l m = rnd l (shI (m.tdiv 24)) 100 1 ∧ oE l m = 0 ∧ 60 * l ≤ 100 * rnd l (shI (m.tdiv 24)) 100 1 ∧ 100 * rnd l (shI (m.tdiv 24)) 100 1 ≤ 150 * l + 99 := by
  have hs := sh_range (m.tdiv 24) (Int.tdiv_nonneg m0 (by decide))
  have h := o_good (l := l) (m := m) (by unfold bad; omega)
  generalize shI (m.tdiv 24) = s at *
  have p0 : 60 * l ≤ l * s := by rw [Int.mul_comm l s]; exact Int.mul_le_mul_of_nonneg_right hs.1 l0
  have p1 : l * s ≤ 150 * l := by rw [Int.mul_comm l s]; exact Int.mul_le_mul_of_nonneg_right hs.2 l0
  have u := rnd_up l s 100
  have r1 : 100 * rnd l s 100 1 ≤ 150 * l + 99 ∧ 60 * l ≤ 100 * rnd l s 100 1 := by
    rw [u]
    generalize l * s = p at *
    split <;> omega
  have g := md_in (a := l) (b := s) (c := 100) (how := 1) (by unfold mdBad; omega) (by omega)
  exact ⟨h.1.trans g.1, h.2.trans g.2, r1.2, r1.1⟩
theorem o_more {l m k : Int} (l0 : 0 ≤ l) (m0 : 0 ≤ m) (h : m ≤ k) : rnd l (shI (m.tdiv 24)) 100 1 ≤ rnd l (shI (k.tdiv 24)) 100 1 := by
  have hq : m.tdiv 24 ≤ k.tdiv 24 := by rw [Int.tdiv_eq_ediv_of_nonneg m0, Int.tdiv_eq_ediv_of_nonneg (by omega)]; omega
  have hs := sh_more hq
  have p : l * shI (m.tdiv 24) ≤ l * shI (k.tdiv 24) := Int.mul_le_mul_of_nonneg_left hs l0
  rw [rnd_up, rnd_up]
  generalize l * shI (m.tdiv 24) = x at *
  generalize l * shI (k.tdiv 24) = y at *
  split <;> split <;> omega
end Go.Proofs.YtppogilkhgppdaaDoor.Step
