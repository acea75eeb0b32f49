/- What Add and Sub answer, money's and the document's own, at any two numbers. -/
import Derived.Test.YtkeghiljolojlaaAdd
import Derived.Shelf.Abstract
namespace Go.Proofs.Ytkeghiljolojlaa.Money
open Go.ChangeShapes Go.WideShapes Go.ChangeAt Go.RowKit Bits

/-- The sum, if it is one. -/
def plusO (a b : Int) : Option Int := if goodB a = true ∧ goodB b = true ∧ goodB (a + b) = true then some (a + b) else none
theorem plusO_some {a b : Int} (h : goodB a = true ∧ goodB b = true ∧ goodB (a + b) = true) : plusO a b = some (a + b) := if_pos h
theorem plusO_none {a b : Int} (h : ¬ (goodB a = true ∧ goodB b = true ∧ goodB (a + b) = true)) : plusO a b = none := if_neg h
def valO : Option Int → Int
  | some n => n
  | none => 0
def errO : Option Int → Int
  | some _ => 0
  | none => 14

open Law

theorem add_fn (a b : Int) (w : World) (p q : Nat) (ha : w.cell? ⟨p, 0, none⟩ = some (.int .i64 a)) (hb : w.cell? ⟨q, 0, none⟩ = some (.int .i64 b)) (R : Ending → World → Prop)
    (h : Calls Try.prog 40 #[.int .i64 a, .int .i64 b] w fun e w' => R e w' ∧ w = w') (hR : ∀ e, R e w → (∃ n, e = .returned (.int .i64 n)) ∨ ∃ c, e = .panicked c) :
    Calls Try.prog 39 #[.pointer (some ⟨p, 0, none⟩), .pointer (some ⟨q, 0, none⟩)] w fun e w' => R e w' ∧ w = w' := by
  have H := Lib.hid h
  have HR := Lib.hid hR
  clear h hR
  go_enter Try.func39, Try.ntmps39
  go_wp2_with fail
  refine (H.out).mono ?_
  rintro e w' ⟨hr, rfl⟩
  rcases HR.out e hr with ⟨n, rfl⟩ | ⟨c, rfl⟩
  · have K := Lib.hid hr
    clear hr
    go_wp2_with fail
    go_ret
    exact ⟨K.out, rfl⟩
  · have K := Lib.hid hr
    clear hr
    go_wp2_with fail
    exact ⟨rfl, K.out, rfl⟩

theorem add_enters : ∀ (args : Array Value) (w : World), (callFunc 39 args).run Try.prog w = .ok (.enter 39 args) w :=
  enters_of Try.func39 (by kernel_rfl) rfl

theorem add_tells (a b : Int) (w : World) :
    Calls Try.prog 34 #[.int .i64 a, .int .i64 b] w fun e w' => e = .returned (.tuple #[.int .i64 (valO (plusO a b)), .int .i64 (errO (plusO a b))]) ∧ Below w.heap.size w w' := by
  have hmf : ∀ (fn : Fn) (first cap : Array Value) (w : World), (Instr.makeFunc fn first cap).run Try.prog w = .ok (.func fn first cap) w := fun _ _ _ _ => rfl
  by_cases h : goodB a = true ∧ goodB b = true ∧ goodB (a + b) = true
  · rw [plusO_some h]
    have H := Lib.hid h
    clear h
    go_enter Try.func34, Try.ntmps34
    go_wp2_with fail
    refine (told_ok 39 _ (a + b) _ add_enters (add_fn a b _ w.heap.size (w.heap.size + 1) (by simp [go_sem]) (by simp [go_sem]) _ (plus_ok a b _ H.out.1 H.out.2.1 H.out.2.2) (fun e he => Or.inl ⟨_, he⟩))).mono ?_
    rintro e w1 ⟨rfl, hb⟩
    have HB := Lib.hid hb
    clear hb
    go_wp2_with fail
    go_ret2
    exact ⟨rfl, below_via (below_new (below_new (Below.refl _ _) _) _) HB.out⟩
  · rw [plusO_none h]
    have H := Lib.hid h
    clear h
    go_enter Try.func34, Try.ntmps34
    go_wp2_with fail
    refine (told_bad 39 _ _ add_enters (add_fn a b _ w.heap.size (w.heap.size + 1) (by simp [go_sem]) (by simp [go_sem]) _ (plus_bad a b _ H.out) (fun e he => Or.inr ⟨_, he⟩))).mono ?_
    rintro e w1 ⟨rfl, hb⟩
    have HB := Lib.hid hb
    clear hb
    go_wp2_with fail
    go_ret2
    exact ⟨rfl, below_via (below_new (below_new (Below.refl _ _) _) _) HB.out⟩

/-- Who takes b away adds what it is below 0: of what is no money either way nothing comes. -/
theorem minus (a b : Int) (hb : -9223372036854775808 ≤ b) (hb1 : b ≤ 9223372036854775807) : plusO a (wrap64 (-b)) = plusO a (-b) := by
  by_cases h : b = -9223372036854775808
  · subst h
    rw [plusO_none, plusO_none]
    · intro h; have := (goodB_iff _).1 h.2.1; omega
    · intro h; have := (goodB_iff _).1 h.2.1; unfold wrap64 at this; omega
  · rw [IntWalk.wrap64_in _ (by omega)]
theorem add_some (a b c : Int) (w : World) (h : Hid (plusO a b = some c)) : Calls Try.prog 34 #[.int .i64 a, .int .i64 b] w fun e w' => e = .returned (.tuple #[.int .i64 c, .int .i64 0]) ∧ Below w.heap.size w w' := by
  have t := add_tells a b w
  rw [h.out] at t; exact t
theorem add_none (a b : Int) (w : World) (h : Hid (plusO a b = none)) : Calls Try.prog 34 #[.int .i64 a, .int .i64 b] w fun e w' => e = .returned (.tuple #[.int .i64 0, .int .i64 14]) ∧ Below w.heap.size w w' := by
  have t := add_tells a b w
  rw [h.out] at t; exact t
end Go.Proofs.Ytkeghiljolojlaa.Money
