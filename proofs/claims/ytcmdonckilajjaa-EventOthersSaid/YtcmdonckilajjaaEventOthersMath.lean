/- An event of which one field is another one: it has the fields of its kind alone, or without it it is what it was. -/
import Derived.Test.YtcmdonckilajjaaEventWakes
namespace Go.Proofs.Ytcmdonckilajjaa.Event
open Go.ChangeShapes Go.WideShapes Go.ChangeAt Go.RowKit Fl Date Cal Pack

theorem other_loan (e : Ev) (h : e = onlyE e) (v : Int) : onlyE { e with loan := v } = { e with loan := v } ∨ onlyE { e with loan := v } = e := by
  obtain ⟨kind, day, key, loan, amount, rate, income, sub, status, plan, family⟩ := e
  simp only [onlyE] at h ⊢
  by_cases h1 : kind = 1 <;> by_cases h2 : kind = 2 <;> by_cases h3 : kind = 3 <;> by_cases h4 : kind = 4 <;> by_cases h5 : kind = 5 <;> by_cases h7 : kind = 7 <;> by_cases h8 : kind = 8 <;> by_cases hp : plan = 4 <;> simp_all
theorem other_amount (e : Ev) (h : e = onlyE e) (v : Int) : onlyE { e with amount := v } = { e with amount := v } ∨ onlyE { e with amount := v } = e := by
  obtain ⟨kind, day, key, loan, amount, rate, income, sub, status, plan, family⟩ := e
  simp only [onlyE] at h ⊢
  by_cases h1 : kind = 1 <;> by_cases h2 : kind = 2 <;> by_cases h3 : kind = 3 <;> by_cases h4 : kind = 4 <;> by_cases h5 : kind = 5 <;> by_cases h7 : kind = 7 <;> by_cases h8 : kind = 8 <;> by_cases hp : plan = 4 <;> simp_all
theorem other_rate (e : Ev) (h : e = onlyE e) (v : Nat) : onlyE { e with rate := v } = { e with rate := v } ∨ onlyE { e with rate := v } = e := by
  obtain ⟨kind, day, key, loan, amount, rate, income, sub, status, plan, family⟩ := e
  simp only [onlyE] at h ⊢
  by_cases h1 : kind = 1 <;> by_cases h2 : kind = 2 <;> by_cases h3 : kind = 3 <;> by_cases h4 : kind = 4 <;> by_cases h5 : kind = 5 <;> by_cases h7 : kind = 7 <;> by_cases h8 : kind = 8 <;> by_cases hp : plan = 4 <;> simp_all
theorem other_income (e : Ev) (h : e = onlyE e) (v : Nat) : onlyE { e with income := v } = { e with income := v } ∨ onlyE { e with income := v } = e := by
  obtain ⟨kind, day, key, loan, amount, rate, income, sub, status, plan, family⟩ := e
  simp only [onlyE] at h ⊢
  by_cases h1 : kind = 1 <;> by_cases h2 : kind = 2 <;> by_cases h3 : kind = 3 <;> by_cases h4 : kind = 4 <;> by_cases h5 : kind = 5 <;> by_cases h7 : kind = 7 <;> by_cases h8 : kind = 8 <;> by_cases hp : plan = 4 <;> simp_all
theorem other_sub (e : Ev) (h : e = onlyE e) (v : Bool) : onlyE { e with sub := v } = { e with sub := v } ∨ onlyE { e with sub := v } = e := by
  obtain ⟨kind, day, key, loan, amount, rate, income, sub, status, plan, family⟩ := e
  simp only [onlyE] at h ⊢
  by_cases h1 : kind = 1 <;> by_cases h2 : kind = 2 <;> by_cases h3 : kind = 3 <;> by_cases h4 : kind = 4 <;> by_cases h5 : kind = 5 <;> by_cases h7 : kind = 7 <;> by_cases h8 : kind = 8 <;> by_cases hp : plan = 4 <;> simp_all
theorem other_status (e : Ev) (h : e = onlyE e) (v : Int) : onlyE { e with status := v } = { e with status := v } ∨ onlyE { e with status := v } = e := by
  obtain ⟨kind, day, key, loan, amount, rate, income, sub, status, plan, family⟩ := e
  simp only [onlyE] at h ⊢
  by_cases h1 : kind = 1 <;> by_cases h2 : kind = 2 <;> by_cases h3 : kind = 3 <;> by_cases h4 : kind = 4 <;> by_cases h5 : kind = 5 <;> by_cases h7 : kind = 7 <;> by_cases h8 : kind = 8 <;> by_cases hp : plan = 4 <;> simp_all
theorem other_family (e : Ev) (h : e = onlyE e) (v : Int) : onlyE { e with family := v } = { e with family := v } ∨ onlyE { e with family := v } = e := by
  obtain ⟨kind, day, key, loan, amount, rate, income, sub, status, plan, family⟩ := e
  simp only [onlyE] at h ⊢
  by_cases h1 : kind = 1 <;> by_cases h2 : kind = 2 <;> by_cases h3 : kind = 3 <;> by_cases h4 : kind = 4 <;> by_cases h5 : kind = 5 <;> by_cases h7 : kind = 7 <;> by_cases h8 : kind = 8 <;> by_cases hp : plan = 4 <;> simp_all
/-- One is added to a number that is none below 0, nor endless. -/
theorem one_more {r : Nat} (h : r < 9218868437227405312) : ∃ s, Flo.D.add r 4607182418800017408 = some s ∧ s < 18446744073709551616 :=
  ⟨_, Flo.add_pos h (by decide), Nat.lt_of_le_of_lt (Nat.min_le_right _ _) (by decide)⟩
theorem only_of {e : Ev} (h : goodE e = true) : e = onlyE e := by
  unfold goodE headB at h
  simp only [Bool.and_eq_true] at h
  exact eqE_iff.1 h.1.2
theorem u8_nat {z : Int} (h : (Lit.int .u8 z).wf = true) : ∃ n : Nat, z = n ∧ n < 256 := by
  have h1 : 0 ≤ z ∧ z ≤ 255 := by simpa [Lit.wf, IntKind.min, IntKind.max, IntKind.bits, IntKind.signed] using h
  exact ⟨z.toNat, by omega, by omega⟩
theorem held_row {P : Program} {f : FuncId} {args : Array Value} {v : Value} {A : Array Value} {T1 : TypeId} {w W : World} {g1 : Nat}
    (hS : Boxd W g1 A T1 ∧ Below w.heap.size w W) (hc : Calls P f args W fun e w' => e = .returned v ∧ Below W.heap.size W w') :
    Calls P f args W fun e w' => e = .returned v ∧ (Boxd w' g1 A T1 ∧ Below w.heap.size w w') :=
  hc.mono fun _ _ ⟨he, hb⟩ => ⟨he, hS.1.below hb, hS.2.trans (hb.mono hS.2.size)⟩
/-- What stands behind the changes. -/
def Turn (e : Ev) (wx : World) (g : Nat) : Prop := ∃ x : Ev, Boxd wx g x.cells 25 ∧ x.Fit ∧ (onlyE x = x ∨ onlyE x = e)
end Go.Proofs.Ytcmdonckilajjaa.Event
