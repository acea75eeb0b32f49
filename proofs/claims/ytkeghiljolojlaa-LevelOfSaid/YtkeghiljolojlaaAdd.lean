/- What money's must, plus, told, Add and Sub do: a sum that is too great is told by a panic, and kept within. -/
import Derived.Test.YtkeghiljolojlaaWakes
import Derived.Defers
import Derived.Recover
import Derived.WalkLawsBesides
namespace Go.Proofs.Ytkeghiljolojlaa.Money
open Go.ChangeShapes Go.WideShapes Go.ChangeAt Go.RowKit Bits

/-- The panic of a sum that is too great. -/
def tooGreat : List PanicEntry := [{ v := .iface 23 (.int .i64 14), recovered := false }]

theorem must_ok (a : Int) (w : World) (h : goodB a = true) : Calls Try.prog 44 #[.int .i64 a] w fun e w' => e = .returned (.int .i64 a) ∧ w = w' := by
  have H := Lib.hid h
  clear h
  go_enter Try.func44, Try.ntmps44
  go_wp2_with (go_at_call 46; refine (good_any _ _).mono ?_; rw [H.out]; rintro e w' ⟨rfl, rfl⟩)
  go_ret
  exact ⟨rfl, rfl⟩

theorem must_bad (a : Int) (w : World) (h : goodB a = false) : Calls Try.prog 44 #[.int .i64 a] w fun e w' => e = .panicked tooGreat ∧ w = w' := by
  have H := Lib.hid h
  clear h
  go_enter Try.func44, Try.ntmps44
  go_wp2_with (go_at_call 46; refine (good_any _ _).mono ?_; rw [H.out]; rintro e w' ⟨rfl, rfl⟩)
  exact ⟨rfl, rfl, rfl⟩

theorem wrap_good {a b : Int} (ha : goodB a = true) (hb : goodB b = true) : IntKind.i64.wrap (a + b) = a + b := by
  rw [goodB_iff] at ha hb; exact IntWalk.i64_in _ (by omega)

theorem plus_ok (a b : Int) (w : World) (ha : goodB a = true) (hb : goodB b = true) (hc : goodB (a + b) = true) :
    Calls Try.prog 40 #[.int .i64 a, .int .i64 b] w fun e w' => e = .returned (.int .i64 (a + b)) ∧ w = w' := by
  have HA := Lib.hid ha
  have HB := Lib.hid hb
  have HC := Lib.hid hc
  rw [goodB_iff] at ha hb
  obtain ⟨a0, a1⟩ := ha
  obtain ⟨b0, b1⟩ := hb
  clear hc
  go_enter Try.func40, Try.ntmps40
  go_wp2_with fail
  refine (must_ok _ _ HA.out).mono ?_
  rintro e w' ⟨rfl, rfl⟩
  go_wp2_with fail
  refine (must_ok _ _ HB.out).mono ?_
  rintro e w' ⟨rfl, rfl⟩
  go_wp2_with fail
  refine (must_ok _ _ HC.out).mono ?_
  rintro e w' ⟨rfl, rfl⟩
  go_wp2_with fail
  go_ret
  exact ⟨rfl, rfl⟩

theorem plus_bad (a b : Int) (w : World) (h : ¬ (goodB a = true ∧ goodB b = true ∧ goodB (a + b) = true)) :
    Calls Try.prog 40 #[.int .i64 a, .int .i64 b] w fun e w' => e = .panicked tooGreat ∧ w = w' := by
  cases ha : goodB a
  · clear h
    have HA := Lib.hid ha
    clear ha
    go_enter Try.func40, Try.ntmps40
    go_wp2_with fail
    refine (must_bad _ _ HA.out).mono ?_
    rintro e w' ⟨rfl, rfl⟩
    go_wp2_with fail
    exact ⟨rfl, rfl, rfl⟩
  · cases hb : goodB b
    · clear h
      have HA := Lib.hid ha
      have HB := Lib.hid hb
      clear ha hb
      go_enter Try.func40, Try.ntmps40
      go_wp2_with fail
      refine (must_ok _ _ HA.out).mono ?_
      rintro e w' ⟨rfl, rfl⟩
      go_wp2_with fail
      refine (must_bad _ _ HB.out).mono ?_
      rintro e w' ⟨rfl, rfl⟩
      go_wp2_with fail
      exact ⟨rfl, rfl, rfl⟩
    · have hc : goodB (a + b) = false := by
        rw [Bool.eq_false_iff]; exact fun hc => h ⟨ha, hb, hc⟩
      clear h
      have HA := Lib.hid ha
      have HB := Lib.hid hb
      have HC := Lib.hid hc
      rw [goodB_iff] at ha hb
      obtain ⟨a0, a1⟩ := ha
      obtain ⟨b0, b1⟩ := hb
      clear hc
      go_enter Try.func40, Try.ntmps40
      go_wp2_with fail
      refine (must_ok _ _ HA.out).mono ?_
      rintro e w' ⟨rfl, rfl⟩
      go_wp2_with fail
      refine (must_ok _ _ HB.out).mono ?_
      rintro e w' ⟨rfl, rfl⟩
      go_wp2_with fail
      refine (must_bad _ _ HC.out).mono ?_
      rintro e w' ⟨rfl, rfl⟩
      go_wp2_with fail
      exact ⟨rfl, rfl, rfl⟩

/-- The deferred closure: of a frame that panics. -/
theorem catch_panicking (p q : Addr) (x y : Int) (u : TypeId) (pv : Value) (older : List PanicEntry) (w : World) (hc : w.cell? p = some (.int .i64 x)) (hz : w.frozen? p = false) (hq : w.cell? q = some (.int .i64 y)) (hzq : w.frozen? q = false) (hpq : p ≠ q) :
    CallsD Try.prog 43 #[.pointer (some p), .pointer (some q)] (.panicking ({ v := .iface u pv, recovered := false } :: older)) w fun e u' w' =>
      e = .returned (.tuple #[]) ∧ u' = .panicking ({ v := .iface u pv, recovered := true } :: older) ∧ w' = (w.setCell p (.int .i64 0)).setCell q (.int .i64 14) := by
  refine callsD_of_wpS Try.func43 rfl fun c₀ cs hu => ?_
  apply wpS_seq
  apply wpS_region
  simp [wpOpsS, go_sem, recoverD, hu, Try.ntmps43, Exit.thenS]
  refine wpS_cond (t := true) (by simp [Act.eval, Array.replicate]) ?_
  simp only [if_true]
  apply wpS_region
  simp [wpOpsS, go_sem, hc, hz, hq, hzq, hpq, bodyPostS, results, Try.results43]

theorem catch_idle (p q : Addr) (w : World) :
    CallsD Try.prog 43 #[.pointer (some p), .pointer (some q)] .returning w fun e u' w' => e = .returned (.tuple #[]) ∧ u' = .returning ∧ w' = w := by
  refine callsD_of_wpS Try.func43 rfl fun c₀ cs hu => ?_
  apply wpS_seq
  apply wpS_region
  simp [wpOpsS, go_sem, recoverD, hu, Try.ntmps43, Exit.thenS]
  refine wpS_cond (t := false) (by simp [Act.eval, Array.replicate]) ?_
  simp only [Bool.false_eq_true, if_false]
  refine wpS_of_wp (wp_skip ?_)
  cases c₀
  simp_all [bodyPostS, results, Try.results43]

theorem told_ok (F : FuncId) (cap : Array Value) (n : Int) (w : World) (hF : ∀ (args : Array Value) (w : World), (callFunc F args).run Try.prog w = .ok (.enter F args) w) (h : Calls Try.prog F cap ((w.alloc (.cells #[.int .i64 0] 2)).alloc (.cells #[.int .i64 0] 23)) fun e w' => e = .returned (.int .i64 n) ∧ ((w.alloc (.cells #[.int .i64 0] 2)).alloc (.cells #[.int .i64 0] 23)) = w') :
    Calls Try.prog 38 #[.func (.func F) #[] cap] w fun e w' => e = .returned (.tuple #[.int .i64 n, .int .i64 0]) ∧ Below w.heap.size w w' := by
  have hmf : ∀ (fn : Fn) (first cap : Array Value) (w : World), (Instr.makeFunc fn first cap).run Try.prog w = .ok (.func fn first cap) w := fun _ _ _ _ => rfl
  have H := Lib.hid h
  clear h
  go_enter_defers Try.func38, Try.ntmps38
  go_wp2_with fail
  refine (H.out).mono ?_
  rintro e w' ⟨rfl, rfl⟩
  go_wp2_with fail
  refine leaves_cons (f := 43) (args := #[.pointer (some ⟨w.heap.size, 0, none⟩), .pointer (some ⟨w.heap.size + 1, 0, none⟩)]) (by simp) (by simp [go_sem]) ?_
  refine (catch_idle ⟨w.heap.size, 0, none⟩ ⟨w.heap.size + 1, 0, none⟩ _).mono ?_
  rintro e u' w'' ⟨rfl, rfl, rfl⟩
  simp [Leaves, settle, results, Try.results38, go_sem]
  go_grown

theorem told_bad (F : FuncId) (cap : Array Value) (w : World) (hF : ∀ (args : Array Value) (w : World), (callFunc F args).run Try.prog w = .ok (.enter F args) w) (h : Calls Try.prog F cap ((w.alloc (.cells #[.int .i64 0] 2)).alloc (.cells #[.int .i64 0] 23)) fun e w' => e = .panicked tooGreat ∧ ((w.alloc (.cells #[.int .i64 0] 2)).alloc (.cells #[.int .i64 0] 23)) = w') :
    Calls Try.prog 38 #[.func (.func F) #[] cap] w fun e w' => e = .returned (.tuple #[.int .i64 0, .int .i64 14]) ∧ Below w.heap.size w w' := by
  have hmf : ∀ (fn : Fn) (first cap : Array Value) (w : World), (Instr.makeFunc fn first cap).run Try.prog w = .ok (.func fn first cap) w := fun _ _ _ _ => rfl
  have H := Lib.hid h
  clear h
  go_enter_defers Try.func38, Try.ntmps38
  go_wp2_with fail
  refine (H.out).mono ?_
  rintro e w' ⟨rfl, rfl⟩
  go_wp2_with fail
  refine leaves_cons (f := 43) (args := #[.pointer (some ⟨w.heap.size, 0, none⟩), .pointer (some ⟨w.heap.size + 1, 0, none⟩)]) (by simp) (by simp [go_sem]) ?_
  refine (catch_panicking ⟨w.heap.size, 0, none⟩ ⟨w.heap.size + 1, 0, none⟩ 0 0 23 _ [] _ ?_ ?_ ?_ ?_ ?_).mono ?_
  · simp [go_sem]
  · simp [go_sem]
  · simp [go_sem]
  · simp [go_sem]
  · simp
  rintro e u' w'' ⟨rfl, rfl, rfl⟩
  simp [Leaves, settle, results, Try.results38, go_sem]
  go_grown
end Go.Proofs.Ytkeghiljolojlaa.Money
