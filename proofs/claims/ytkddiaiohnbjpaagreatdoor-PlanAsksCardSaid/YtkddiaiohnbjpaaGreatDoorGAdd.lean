/- What money's must, plus, told, Add and Sub do: a sum that is too great is told by a panic, and kept within. What Add and Sub answer, money's and the document's own, at any two numbers. What the document's own Good, Add and Sub of layer 1 come to, at any numbers. What money.Sum and the document's own Sum answer, at any list; whether two lists are alike. -/
import Derived.Test.YtkddiaiohnbjpaaGreatDoorGNum
import Derived.Defers
import Derived.Recover
import Derived.WalkLawsBesides
import Derived.Shelf.Abstract
import Derived.Test.YtkddiaiohnbjpaaGreatDoorGA
import Derived.Deep.QuietTactic
import Derived.BigQuiet
namespace Go.Proofs.YtkddiaiohnbjpaaGreatDoor.Money
open Go.ChangeShapes Go.WideShapes Go.ChangeAt Go.RowKit Bits

/-- The panic of a sum that is too great. -/
def tooGreat : List PanicEntry := [{ v := .iface 24 (.int .i64 14), recovered := false }]

theorem must_ok (a : Int) (w : World) (h : goodB a = true) : Calls Tryz.prog 150 #[.int .i64 a] w fun e w' => e = .returned (.int .i64 a) ∧ w = w' := by
  have H := Lib.hid h
  clear h
  go_enter Tryz.func150, Tryz.ntmps150
  go_wp2_with (go_at_call 126; refine (good_any _ _).mono ?_; rw [H.out]; rintro e w' ⟨rfl, rfl⟩)
  go_ret
  exact ⟨rfl, rfl⟩

theorem must_bad (a : Int) (w : World) (h : goodB a = false) : Calls Tryz.prog 150 #[.int .i64 a] w fun e w' => e = .panicked tooGreat ∧ w = w' := by
  have H := Lib.hid h
  clear h
  go_enter Tryz.func150, Tryz.ntmps150
  go_wp2_with (go_at_call 126; refine (good_any _ _).mono ?_; rw [H.out]; rintro e w' ⟨rfl, rfl⟩)
  exact ⟨rfl, rfl, rfl⟩

theorem wrap_good {a b : Int} (ha : goodB a = true) (hb : goodB b = true) : IntKind.i64.wrap (a + b) = a + b := by
  rw [goodB_iff] at ha hb; exact IntWalk.i64_in _ (by omega)

theorem plus_ok (a b : Int) (w : World) (ha : goodB a = true) (hb : goodB b = true) (hc : goodB (a + b) = true) :
    Calls Tryz.prog 133 #[.int .i64 a, .int .i64 b] w fun e w' => e = .returned (.int .i64 (a + b)) ∧ w = w' := by
  have HA := Lib.hid ha
  have HB := Lib.hid hb
  have HC := Lib.hid hc
  rw [goodB_iff] at ha hb
  obtain ⟨a0, a1⟩ := ha
  obtain ⟨b0, b1⟩ := hb
  clear hc
  go_enter Tryz.func133, Tryz.ntmps133
  go_wp2_with fail
  refine (must_ok _ _ HA.out).mono ?_
  rintro e w' ⟨rfl, rfl⟩
  go_wp2_with fail
  refine (must_ok _ _ HB.out).mono ?_
  rintro e w' ⟨rfl, rfl⟩
  go_wp2_with fail
  refine (must_ok _ _ HC.out).mono ?_
  rintro e w' ⟨rfl, rfl⟩
  go_wp2_with fail
  go_ret
  exact ⟨rfl, rfl⟩

theorem plus_bad (a b : Int) (w : World) (h : ¬ (goodB a = true ∧ goodB b = true ∧ goodB (a + b) = true)) :
    Calls Tryz.prog 133 #[.int .i64 a, .int .i64 b] w fun e w' => e = .panicked tooGreat ∧ w = w' := by
  cases ha : goodB a
  · clear h
    have HA := Lib.hid ha
    clear ha
    go_enter Tryz.func133, Tryz.ntmps133
    go_wp2_with fail
    refine (must_bad _ _ HA.out).mono ?_
    rintro e w' ⟨rfl, rfl⟩
    go_wp2_with fail
    exact ⟨rfl, rfl, rfl⟩
  · cases hb : goodB b
    · clear h
      have HA := Lib.hid ha
      have HB := Lib.hid hb
      clear ha hb
      go_enter Tryz.func133, Tryz.ntmps133
      go_wp2_with fail
      refine (must_ok _ _ HA.out).mono ?_
      rintro e w' ⟨rfl, rfl⟩
      go_wp2_with fail
      refine (must_bad _ _ HB.out).mono ?_
      rintro e w' ⟨rfl, rfl⟩
      go_wp2_with fail
      exact ⟨rfl, rfl, rfl⟩
    · have hc : goodB (a + b) = false := by
        rw [Bool.eq_false_iff]; exact fun hc => h ⟨ha, hb, hc⟩
      clear h
      have HA := Lib.hid ha
      have HB := Lib.hid hb
      have HC := Lib.hid hc
      rw [goodB_iff] at ha hb
      obtain ⟨a0, a1⟩ := ha
      obtain ⟨b0, b1⟩ := hb
      clear hc
      go_enter Tryz.func133, Tryz.ntmps133
      go_wp2_with fail
      refine (must_ok _ _ HA.out).mono ?_
      rintro e w' ⟨rfl, rfl⟩
      go_wp2_with fail
      refine (must_ok _ _ HB.out).mono ?_
      rintro e w' ⟨rfl, rfl⟩
      go_wp2_with fail
      refine (must_bad _ _ HC.out).mono ?_
      rintro e w' ⟨rfl, rfl⟩
      go_wp2_with fail
      exact ⟨rfl, rfl, rfl⟩

/-- The deferred closure: of a frame that panics. -/
theorem catch_panicking (p q : Addr) (x y : Int) (u : TypeId) (pv : Value) (older : List PanicEntry) (w : World) (hc : w.cell? p = some (.int .i64 x)) (hz : w.frozen? p = false) (hq : w.cell? q = some (.int .i64 y)) (hzq : w.frozen? q = false) (hpq : p ≠ q) :
    CallsD Tryz.prog 149 #[.pointer (some p), .pointer (some q)] (.panicking ({ v := .iface u pv, recovered := false } :: older)) w fun e u' w' =>
      e = .returned (.tuple #[]) ∧ u' = .panicking ({ v := .iface u pv, recovered := true } :: older) ∧ w' = (w.setCell p (.int .i64 0)).setCell q (.int .i64 14) := by
  refine callsD_of_wpS Tryz.func149 rfl fun c₀ cs hu => ?_
  apply wpS_seq
  apply wpS_region
  simp [wpOpsS, go_sem, recoverD, hu, Tryz.ntmps149, Exit.thenS]
  refine wpS_cond (t := true) (by simp [Act.eval, Array.replicate]) ?_
  simp only [if_true]
  apply wpS_region
  simp [wpOpsS, go_sem, hc, hz, hq, hzq, hpq, bodyPostS, results, Tryz.results149]

theorem catch_idle (p q : Addr) (w : World) :
    CallsD Tryz.prog 149 #[.pointer (some p), .pointer (some q)] .returning w fun e u' w' => e = .returned (.tuple #[]) ∧ u' = .returning ∧ w' = w := by
  refine callsD_of_wpS Tryz.func149 rfl fun c₀ cs hu => ?_
  apply wpS_seq
  apply wpS_region
  simp [wpOpsS, go_sem, recoverD, hu, Tryz.ntmps149, Exit.thenS]
  refine wpS_cond (t := false) (by simp [Act.eval, Array.replicate]) ?_
  simp only [Bool.false_eq_true, if_false]
  refine wpS_of_wp (wp_skip ?_)
  cases c₀
  simp_all [bodyPostS, results, Tryz.results149]

theorem told_ok (F : FuncId) (cap : Array Value) (n : Int) (w : World) (hF : ∀ (args : Array Value) (w : World), (callFunc F args).run Tryz.prog w = .ok (.enter F args) w) (h : Calls Tryz.prog F cap ((w.alloc (.cells #[.int .i64 0] 2)).alloc (.cells #[.int .i64 0] 24)) fun e w' => e = .returned (.int .i64 n) ∧ ((w.alloc (.cells #[.int .i64 0] 2)).alloc (.cells #[.int .i64 0] 24)) = w') :
    Calls Tryz.prog 131 #[.func (.func F) #[] cap] w fun e w' => e = .returned (.tuple #[.int .i64 n, .int .i64 0]) ∧ Below w.heap.size w w' := by
  have hmf : ∀ (fn : Fn) (first cap : Array Value) (w : World), (Instr.makeFunc fn first cap).run Tryz.prog w = .ok (.func fn first cap) w := fun _ _ _ _ => rfl
  have H := Lib.hid h
  clear h
  go_enter_defers Tryz.func131, Tryz.ntmps131
  go_wp2_with fail
  refine (H.out).mono ?_
  rintro e w' ⟨rfl, rfl⟩
  go_wp2_with fail
  refine leaves_cons (f := 149) (args := #[.pointer (some ⟨w.heap.size, 0, none⟩), .pointer (some ⟨w.heap.size + 1, 0, none⟩)]) (by simp) (by simp [go_sem]) ?_
  refine (catch_idle ⟨w.heap.size, 0, none⟩ ⟨w.heap.size + 1, 0, none⟩ _).mono ?_
  rintro e u' w'' ⟨rfl, rfl, rfl⟩
  simp [Leaves, settle, results, Tryz.results131, go_sem]
  go_grown

theorem told_bad (F : FuncId) (cap : Array Value) (w : World) (hF : ∀ (args : Array Value) (w : World), (callFunc F args).run Tryz.prog w = .ok (.enter F args) w) (h : Calls Tryz.prog F cap ((w.alloc (.cells #[.int .i64 0] 2)).alloc (.cells #[.int .i64 0] 24)) fun e w' => e = .panicked tooGreat ∧ ((w.alloc (.cells #[.int .i64 0] 2)).alloc (.cells #[.int .i64 0] 24)) = w') :
    Calls Tryz.prog 131 #[.func (.func F) #[] cap] w fun e w' => e = .returned (.tuple #[.int .i64 0, .int .i64 14]) ∧ Below w.heap.size w w' := by
  have hmf : ∀ (fn : Fn) (first cap : Array Value) (w : World), (Instr.makeFunc fn first cap).run Tryz.prog w = .ok (.func fn first cap) w := fun _ _ _ _ => rfl
  have H := Lib.hid h
  clear h
  go_enter_defers Tryz.func131, Tryz.ntmps131
  go_wp2_with fail
  refine (H.out).mono ?_
  rintro e w' ⟨rfl, rfl⟩
  go_wp2_with fail
  refine leaves_cons (f := 149) (args := #[.pointer (some ⟨w.heap.size, 0, none⟩), .pointer (some ⟨w.heap.size + 1, 0, none⟩)]) (by simp) (by simp [go_sem]) ?_
  refine (catch_panicking ⟨w.heap.size, 0, none⟩ ⟨w.heap.size + 1, 0, none⟩ 0 0 24 _ [] _ ?_ ?_ ?_ ?_ ?_).mono ?_
  · simp [go_sem]
  · simp [go_sem]
  · simp [go_sem]
  · simp [go_sem]
  · simp
  rintro e u' w'' ⟨rfl, rfl, rfl⟩
  simp [Leaves, settle, results, Tryz.results131, go_sem]
  go_grown
end Go.Proofs.YtkddiaiohnbjpaaGreatDoor.Money
namespace Go.Proofs.YtkddiaiohnbjpaaGreatDoor.Money
open Go.ChangeShapes Go.WideShapes Go.ChangeAt Go.RowKit Bits

/-- The sum, if it is one. -/
def plusO (a b : Int) : Option Int := if goodB a = true ∧ goodB b = true ∧ goodB (a + b) = true then some (a + b) else none
theorem plusO_some {a b : Int} (h : goodB a = true ∧ goodB b = true ∧ goodB (a + b) = true) : plusO a b = some (a + b) := if_pos h
theorem plusO_none {a b : Int} (h : ¬ (goodB a = true ∧ goodB b = true ∧ goodB (a + b) = true)) : plusO a b = none := if_neg h
def valO : Option Int → Int
  | some n => n
  | none => 0
def errO : Option Int → Int
  | some _ => 0
  | none => 14

open Law

theorem add_fn (a b : Int) (w : World) (p q : Nat) (ha : w.cell? ⟨p, 0, none⟩ = some (.int .i64 a)) (hb : w.cell? ⟨q, 0, none⟩ = some (.int .i64 b)) (R : Ending → World → Prop)
    (h : Calls Tryz.prog 133 #[.int .i64 a, .int .i64 b] w fun e w' => R e w' ∧ w = w') (hR : ∀ e, R e w → (∃ n, e = .returned (.int .i64 n)) ∨ ∃ c, e = .panicked c) :
    Calls Tryz.prog 132 #[.pointer (some ⟨p, 0, none⟩), .pointer (some ⟨q, 0, none⟩)] w fun e w' => R e w' ∧ w = w' := by
  have H := Lib.hid h
  have HR := Lib.hid hR
  clear h hR
  go_enter Tryz.func132, Tryz.ntmps132
  go_wp2_with fail
  refine (H.out).mono ?_
  rintro e w' ⟨hr, rfl⟩
  rcases HR.out e hr with ⟨n, rfl⟩ | ⟨c, rfl⟩
  · have K := Lib.hid hr
    clear hr
    go_wp2_with fail
    go_ret
    exact ⟨K.out, rfl⟩
  · have K := Lib.hid hr
    clear hr
    go_wp2_with fail
    exact ⟨rfl, K.out, rfl⟩

theorem add_enters : ∀ (args : Array Value) (w : World), (callFunc 132 args).run Tryz.prog w = .ok (.enter 132 args) w :=
  enters_of Tryz.func132 (by kernel_rfl) rfl

theorem add_tells (a b : Int) (w : World) :
    Calls Tryz.prog 104 #[.int .i64 a, .int .i64 b] w fun e w' => e = .returned (.tuple #[.int .i64 (valO (plusO a b)), .int .i64 (errO (plusO a b))]) ∧ Below w.heap.size w w' := by
  have hmf : ∀ (fn : Fn) (first cap : Array Value) (w : World), (Instr.makeFunc fn first cap).run Tryz.prog w = .ok (.func fn first cap) w := fun _ _ _ _ => rfl
  by_cases h : goodB a = true ∧ goodB b = true ∧ goodB (a + b) = true
  · rw [plusO_some h]
    have H := Lib.hid h
    clear h
    go_enter Tryz.func104, Tryz.ntmps104
    go_wp2_with fail
    refine (told_ok 132 _ (a + b) _ add_enters (add_fn a b _ w.heap.size (w.heap.size + 1) (by simp [go_sem]) (by simp [go_sem]) _ (plus_ok a b _ H.out.1 H.out.2.1 H.out.2.2) (fun e he => Or.inl ⟨_, he⟩))).mono ?_
    rintro e w1 ⟨rfl, hb⟩
    have HB := Lib.hid hb
    clear hb
    go_wp2_with fail
    go_ret2
    exact ⟨rfl, below_via (below_new (below_new (Below.refl _ _) _) _) HB.out⟩
  · rw [plusO_none h]
    have H := Lib.hid h
    clear h
    go_enter Tryz.func104, Tryz.ntmps104
    go_wp2_with fail
    refine (told_bad 132 _ _ add_enters (add_fn a b _ w.heap.size (w.heap.size + 1) (by simp [go_sem]) (by simp [go_sem]) _ (plus_bad a b _ H.out) (fun e he => Or.inr ⟨_, he⟩))).mono ?_
    rintro e w1 ⟨rfl, hb⟩
    have HB := Lib.hid hb
    clear hb
    go_wp2_with fail
    go_ret2
    exact ⟨rfl, below_via (below_new (below_new (Below.refl _ _) _) _) HB.out⟩

/-- Who takes b away adds what it is below 0: of what is no money either way nothing comes. -/
theorem minus (a b : Int) (hb : -9223372036854775808 ≤ b) (hb1 : b ≤ 9223372036854775807) : plusO a (wrap64 (-b)) = plusO a (-b) := by
  by_cases h : b = -9223372036854775808
  · subst h
    rw [plusO_none, plusO_none]
    · intro h; have := (goodB_iff _).1 h.2.1; omega
    · intro h; have := (goodB_iff _).1 h.2.1; unfold wrap64 at this; omega
  · rw [IntWalk.wrap64_in _ (by omega)]
theorem add_some (a b c : Int) (w : World) (h : Hid (plusO a b = some c)) : Calls Tryz.prog 104 #[.int .i64 a, .int .i64 b] w fun e w' => e = .returned (.tuple #[.int .i64 c, .int .i64 0]) ∧ Below w.heap.size w w' := by
  have t := add_tells a b w
  rw [h.out] at t; exact t
theorem add_none (a b : Int) (w : World) (h : Hid (plusO a b = none)) : Calls Tryz.prog 104 #[.int .i64 a, .int .i64 b] w fun e w' => e = .returned (.tuple #[.int .i64 0, .int .i64 14]) ∧ Below w.heap.size w w' := by
  have t := add_tells a b w
  rw [h.out] at t; exact t
end Go.Proofs.YtkddiaiohnbjpaaGreatDoor.Money
namespace Go.Proofs.YtkddiaiohnbjpaaGreatDoor.Ref
open Go.ChangeShapes Go.WideShapes Go.ChangeAt Go.RowKit Bits Money

theorem good_any (a : Int) (w : World) : Calls Tryz.prog 87 #[.int .i64 a] w fun e w' => e = .returned (.bool (goodB a)) ∧ w = w' := by
  by_cases h1 : -10000000000000 ≤ a
  · by_cases h2 : a ≤ 10000000000000
    · have H : Hid (goodB a = true) := (goodB_iff a).2 ⟨h1, h2⟩
      go_enter Tryz.func87, Tryz.ntmps87
      go_wp2
      go_ret
      exact ⟨ret_bool H.out.symm, rfl⟩
    · have H : Hid (goodB a = false) := by show goodB a = false; rw [Bool.eq_false_iff]; intro h; exact h2 ((goodB_iff a).1 h).2
      go_enter Tryz.func87, Tryz.ntmps87
      go_wp2
      go_ret
      exact ⟨ret_bool H.out.symm, rfl⟩
  · have H : Hid (goodB a = false) := by show goodB a = false; rw [Bool.eq_false_iff]; intro h; exact h1 ((goodB_iff a).1 h).1
    go_enter Tryz.func87, Tryz.ntmps87
    go_wp2
    go_ret
    exact ⟨ret_bool H.out.symm, rfl⟩

theorem good_neg (b : Int) : goodB (-b) = goodB b := by
  rw [Bool.eq_iff_iff, goodB_iff, goodB_iff]; omega

theorem add_tells (a b : Int) (w : World) :
    Calls Tryz.prog 49 #[.int .i64 a, .int .i64 b] w fun e w' => e = .returned (.tuple #[.int .i64 (valO (plusO a (b))), .int .i64 (errO (plusO a (b)))]) ∧ w = w' := by
  cases ha : goodB a
  · rw [plusO_none (fun h => by rw [ha] at h; exact Bool.noConfusion h.1)]
    have HA := Lib.hid ha
    clear ha
    go_enter Tryz.func49, Tryz.ntmps49
    go_wp2_with fail
    refine (good_any _ _).mono ?_
    rw [HA.out]
    rintro e w' ⟨rfl, rfl⟩
    go_wp2_with fail
    go_ret2
    exact ⟨rfl, rfl⟩
  · cases hb : goodB b
    · rw [plusO_none (fun h => by rw [hb] at h; exact Bool.noConfusion h.2.1)]
      have HA := Lib.hid ha
      have HB := Lib.hid hb
      clear ha hb
      go_enter Tryz.func49, Tryz.ntmps49
      go_wp2_with fail
      refine (good_any _ _).mono ?_
      rw [HA.out]
      rintro e w' ⟨rfl, rfl⟩
      go_wp2_with fail
      refine (good_any _ _).mono ?_
      rw [HB.out]
      rintro e w' ⟨rfl, rfl⟩
      go_wp2_with fail
      go_ret2
      exact ⟨rfl, rfl⟩
    · have HA := Lib.hid ha
      have HB := Lib.hid hb
      obtain ⟨a0, a1⟩ := (goodB_iff _).1 ha
      obtain ⟨b0, b1⟩ := (goodB_iff _).1 hb
      cases hc : goodB (a + b)
      · rw [plusO_none (fun h => by rw [hc] at h; exact Bool.noConfusion h.2.2)]
        have HC := Lib.hid hc
        clear ha hb hc
        go_enter Tryz.func49, Tryz.ntmps49
        go_wp2_with fail
        refine (good_any _ _).mono ?_
        rw [HA.out]
        rintro e w' ⟨rfl, rfl⟩
        go_wp2_with fail
        refine (good_any _ _).mono ?_
        rw [HB.out]
        rintro e w' ⟨rfl, rfl⟩
        go_wp2_with fail
        refine (good_any _ _).mono ?_
        rw [HC.out]
        rintro e w' ⟨rfl, rfl⟩
        go_wp2_with fail
        go_ret2
        exact ⟨rfl, rfl⟩
      · rw [plusO_some ⟨ha, hb, hc⟩]
        have HC := Lib.hid hc
        clear ha hb hc
        go_enter Tryz.func49, Tryz.ntmps49
        go_wp2_with fail
        refine (good_any _ _).mono ?_
        rw [HA.out]
        rintro e w' ⟨rfl, rfl⟩
        go_wp2_with fail
        refine (good_any _ _).mono ?_
        rw [HB.out]
        rintro e w' ⟨rfl, rfl⟩
        go_wp2_with fail
        refine (good_any _ _).mono ?_
        rw [HC.out]
        rintro e w' ⟨rfl, rfl⟩
        go_wp2_with fail
        go_ret2
        exact ⟨rfl, rfl⟩

theorem radd_some (a b c : Int) (w : World) (h : Hid (plusO a b = some c)) : Calls Tryz.prog 49 #[.int .i64 a, .int .i64 b] w fun e w' => e = .returned (.tuple #[.int .i64 c, .int .i64 0]) ∧ w = w' := by
  have t := add_tells a b w
  rw [h.out] at t; exact t
theorem radd_none (a b : Int) (w : World) (h : Hid (plusO a b = none)) : Calls Tryz.prog 49 #[.int .i64 a, .int .i64 b] w fun e w' => e = .returned (.tuple #[.int .i64 0, .int .i64 14]) ∧ w = w' := by
  have t := add_tells a b w
  rw [h.out] at t; exact t
end Go.Proofs.YtkddiaiohnbjpaaGreatDoor.Ref
namespace Go.Proofs.YtkddiaiohnbjpaaGreatDoor.Money
open Go.ChangeShapes Go.WideShapes Go.ChangeAt Go.RowKit Bits Slice Law

/-- All of a list, one behind the other, if every sum on the way is one. -/
def psum (zs : List Int) : Option Int := zs.foldl (fun o x => o.bind fun n => plusO n x) (some 0)
theorem psum_from (zs : List Int) : zs.foldl (fun o x => o.bind fun n => plusO n x) (none : Option Int) = none := by
  induction zs with
  | nil => rfl
  | cons x r ih => exact ih
theorem psum_succ {zs : List Int} {j : Nat} (h : j < zs.length) : psum (zs.take (j + 1)) = (psum (zs.take j)).bind fun n => plusO n (zs.getD j 0) := by
  unfold psum
  rw [List.take_succ_eq_append_getElem h, List.foldl_append]
  simp [List.getD_eq_getElem?_getD, List.getElem?_eq_getElem h]
theorem psum_none {zs : List Int} {j : Nat} (h : psum (zs.take j) = none) : psum zs = none := by
  unfold psum at *
  rw [← List.take_append_drop j zs, List.foldl_append, h]
  exact psum_from _
theorem psum_step {zs : List Int} {j : Nat} {n : Int} (h : j < zs.length) (hn : psum (zs.take j) = some n) : psum (zs.take (j + 1)) = plusO n (zs.getD j 0) := by
  rw [psum_succ h, hn]; rfl
theorem psum_all {zs : List Int} {j : Nat} {n : Int} (h : ¬ j < zs.length) (hn : psum (zs.take j) = some n) : psum zs = some n := by
  rw [List.take_of_length_le (by omega)] at hn; exact hn

theorem plusO_cases (a b : Int) : (plusO a b = some (a + b) ∧ goodB a = true ∧ goodB b = true ∧ goodB (a + b) = true) ∨ (plusO a b = none ∧ ¬ (goodB a = true ∧ goodB b = true ∧ goodB (a + b) = true)) := by
  by_cases h : goodB a = true ∧ goodB b = true ∧ goodB (a + b) = true
  · exact Or.inl ⟨plusO_some h, h⟩
  · exact Or.inr ⟨plusO_none h, h⟩

set_option maxHeartbeats 400000 in
theorem sum_fn (zs : List Int) (v : Value) (B p : Nat) (w : World) (hp : w.cell? ⟨p, 0, none⟩ = some v) (hv : Ints w B .i64 v zs) :
    Calls Tryz.prog 139 #[.pointer (some ⟨p, 0, none⟩)] w fun e w' => (∀ n, psum zs = some n → e = .returned (.int .i64 n)) ∧ (psum zs = none → e = .panicked tooGreat) ∧ w = w' := by
  obtain ⟨A, c, rfl, hl, -, hcell⟩ := hv
  have HC := Lib.hid hcell
  clear hcell
  go_enter Tryz.func139, Tryz.ntmps139
  go_wp2_with fail
  go_loop [2, 7] (fun s t => ∃ (j : Nat) (n : Int), j ≤ zs.length ∧ t = .int .i64 j ∧ s = .int .i64 n ∧ Hid (psum (zs.take j) = some n)) (fun _ t => zs.length - (intOf t).toNat)
  case atStart => exact ⟨0, 0, Nat.zero_le _, rfl, rfl, rfl⟩
  case round =>
    obtain ⟨j, n, hj, rfl, rfl, HP⟩ := hrel
    by_cases hlt : j < zs.length
    · obtain ⟨b, off, rfl, hb, hcell⟩ := HC.out (by omega)
      have hx := hcell j hlt
      clear hcell
      have HS := Lib.hid (psum_step hlt HP.out)
      generalize zs.getD j 0 = x at *
      rcases plusO_cases n x with ⟨he, hg⟩ | ⟨he, hg⟩
      · have HE := Lib.hid he
        have HG := Lib.hid hg
        clear he hg
        go_wp2_with fail
        refine (plus_ok _ _ _ HG.out.1 HG.out.2.1 HG.out.2.2).mono ?_
        rintro e w' ⟨rfl, rfl⟩
        go_wp2_with fail
        go_round
        case rel => exact ⟨j + 1, n + x, by omega, by go_num, rfl, Lib.hid (HS.out.trans HE.out)⟩
        case measure => simp [intOf]; omega
      · have HE := Lib.hid he
        have HG := Lib.hid hg
        clear he hg
        go_wp2_with fail
        refine (plus_bad _ _ _ HG.out).mono ?_
        rintro e w' ⟨rfl, rfl⟩
        go_wp2_with fail
        have hn : psum zs = none := psum_none (HS.out.trans HE.out)
        refine ⟨rfl, ?_⟩
        exact ⟨fun m hm => (by rw [hn] at hm; cases hm), fun _ => rfl, rfl⟩
    · have hall := Lib.hid (psum_all hlt HP.out)
      go_wp2_with fail
      go_ret
      exact ⟨fun m hm => (by rw [hall.out] at hm; injection hm with hm; rw [← hm]; rfl), fun hm => (by rw [hall.out] at hm; cases hm), rfl⟩

theorem sum_enters : ∀ (args : Array Value) (w : World), (callFunc 139 args).run Tryz.prog w = .ok (.enter 139 args) w :=
  enters_of Tryz.func139 (by kernel_rfl) rfl

theorem sum_tells (zs : List Int) (v : Value) (w : World) (hv : Ints w w.heap.size .i64 v zs) :
    Calls Tryz.prog 113 #[v] w fun e w' => e = .returned (.tuple #[.int .i64 (valO (psum zs)), .int .i64 (errO (psum zs))]) ∧ Below w.heap.size w w' := by
  have hmf : ∀ (fn : Fn) (first cap : Array Value) (w : World), (Instr.makeFunc fn first cap).run Tryz.prog w = .ok (.func fn first cap) w := fun _ _ _ _ => rfl
  obtain ⟨A, c, rfl, hl, hn, hc⟩ := hv
  have HV : Hid (Ints w w.heap.size .i64 (.slice A zs.length c) zs) := ⟨A, c, rfl, hl, hn, hc⟩
  clear hc hn
  cases hp : psum zs with
  | some n =>
    have HP := Lib.hid hp
    clear hp
    go_enter Tryz.func113, Tryz.ntmps113
    go_wp2_with fail
    refine (told_ok 139 _ n _ sum_enters ((sum_fn zs (.slice A zs.length c) w.heap.size w.heap.size _ (by simp [go_sem]) (((HV.out.alloc (Nat.le_refl _) _).alloc (by simp) _).alloc (by simp; omega) _)).mono fun e w' h => ⟨h.1 n HP.out, h.2.2⟩)).mono ?_
    rintro e w1 ⟨rfl, hb⟩
    have HB := Lib.hid hb
    clear hb
    go_wp2_with fail
    go_ret2
    exact ⟨rfl, below_via (below_new (Below.refl _ _) _) HB.out⟩
  | none =>
    have HP := Lib.hid hp
    clear hp
    go_enter Tryz.func113, Tryz.ntmps113
    go_wp2_with fail
    refine (told_bad 139 _ _ sum_enters ((sum_fn zs (.slice A zs.length c) w.heap.size w.heap.size _ (by simp [go_sem]) (((HV.out.alloc (Nat.le_refl _) _).alloc (by simp) _).alloc (by simp; omega) _)).mono fun e w' h => ⟨h.2.1 HP.out, h.2.2⟩)).mono ?_
    rintro e w1 ⟨rfl, hb⟩
    have HB := Lib.hid hb
    clear hb
    go_wp2_with fail
    go_ret2
    exact ⟨rfl, below_via (below_new (Below.refl _ _) _) HB.out⟩

set_option maxHeartbeats 400000 in
/-- Two lists that are one are told alike. -/
theorem longs_same (zs : List Int) (v u : Value) (B : Nat) (w : World) (hv : Ints w B .i64 v zs) (hu : Ints w B .i64 u zs) :
    Calls Tryz.prog 16 #[v, u] w fun e w' => e = .returned (.bool true) ∧ ∃ n, w' = w.drewN n := by
  obtain ⟨A, c, rfl, hl, -, hcell⟩ := hv
  obtain ⟨A', c', rfl, -, -, hcell'⟩ := hu
  have HC := Lib.hid hcell
  have HC' := Lib.hid hcell'
  clear hcell hcell'
  go_enter Tryz.func16, Tryz.ntmps16
  go_wp2_with fail
  go_loopw [5] (fun t wr => ∃ j : Nat, j ≤ zs.length ∧ t = .int .i64 j ∧ ∃ n, wr = w.drewN n) (fun t _ => zs.length - (intOf t).toNat)
  case atStart => exact ⟨0, Nat.zero_le _, rfl, 0, rfl⟩
  case round =>
    obtain ⟨j, hj, rfl, n, rfl⟩ := hrel
    by_cases hlt : j < zs.length
    · obtain ⟨b, off, rfl, hb, hcell⟩ := HC.out (by omega)
      obtain ⟨b', off', rfl, hb', hcell'⟩ := HC'.out (by omega)
      have hx := hcell j hlt
      have hx' := hcell' j hlt
      clear hcell hcell'
      generalize zs.getD j 0 = x at *
      have h0 : (0 : Int) ≤ j := by omega
      go_wp2_with fail
      go_quiet (fail)
      go_wp2_with fail
      go_roundw
      case rel => exact ⟨j + 1, by omega, by go_num, _, rfl⟩
      case measure => simp [intOf]; omega
    · go_wp2_with fail
      go_ret
      exact ⟨rfl, _, rfl⟩
end Go.Proofs.YtkddiaiohnbjpaaGreatDoor.Money
