/- The program's own Opener: Open, Num, Text, Done, and the panic that is kept within. -/
import Derived.Test.YtndmimmkjccgmaaPackOwn6
namespace Go.Proofs.Ytndmimmkjccgmaa.Pack
open Go.ChangeShapes Go.WideShapes Go.ChangeAt Go.RowKit

/-- The world in which what stands next is taken: the opener's pointer lies behind all. -/
def boxed (w : World) (k : Nat) : World := w.alloc (.cells #[.pointer (some ⟨k, 0, none⟩)] 42)
theorem boxed_below (w : World) (k : Nat) : Below w.heap.size w (boxed w k) := below_one w _
theorem boxed_cell (w : World) (k : Nat) : (boxed w k).cell? ⟨w.heap.size, 0, none⟩ = some (.pointer (some ⟨k, 0, none⟩)) := by unfold boxed; simp [go_sem]
theorem left_spoilt {w : World} {k : Nat} {r : ByteArray} {b : Bool} (h : Left w k r b) : Left ((w.setCell ⟨k, 0, none⟩ (.string ⟨#[]⟩)).setCell ⟨k, 1, none⟩ (.bool true)) k ⟨#[]⟩ true :=
  ((h.set 0 _).set 1 _).congr fun i hi => by
    match i, hi with
    | 0, _ | 1, _ => rfl
theorem only_two (w : World) (k : Nat) (u v : Value) : Only (fun i => i = k) w ((w.setCell ⟨k, 0, none⟩ u).setCell ⟨k, 1, none⟩ v) := (only_one w k 0 u).trans (only_one _ k 1 v)

theorem idle_text (q : Addr) (w : World) :
    CallsD Try.prog 41 #[.pointer (some q)] .returning w fun e u' w' => e = .returned (.tuple #[]) ∧ u' = .returning ∧ w' = w := by
  refine callsD_of_wpS Try.func41 rfl fun c₀ cs hu => ?_
  apply wpS_seq
  apply wpS_region
  simp [wpOpsS, go_sem, recoverD, hu, Try.ntmps41, Exit.thenS]
  refine wpS_cond (t := false) (by simp [Act.eval, Array.replicate]) ?_
  simp only [Bool.false_eq_true, if_false]
  refine wpS_of_wp (wp_skip ?_)
  cases c₀
  simp_all [bodyPostS, results, Try.results41]
theorem caught_text (q : Addr) (k : Nat) (f : Nat → Value) (x : Int) (older : List PanicEntry) (w : World) (hq : w.cell? q = some (.pointer (some ⟨k, 0, none⟩))) (hr : w.rowIs k 63 2 f) :
    CallsD Try.prog 41 #[.pointer (some q)] (.panicking ({ v := .iface 27 (.int .i64 x), recovered := false } :: older)) w fun e u' w' =>
      e = .returned (.tuple #[]) ∧ u' = .panicking ({ v := .iface 27 (.int .i64 x), recovered := true } :: older) ∧ w' = (w.setCell ⟨k, 0, none⟩ (.string ⟨#[]⟩)).setCell ⟨k, 1, none⟩ (.bool true) := by
  refine callsD_of_wpS Try.func41 rfl fun c₀ cs hu => ?_
  have c0 := hr.cell (i := 0) (by omega)
  have c1 := hr.cell (i := 1) (by omega)
  have f0 := hr.frozen 0
  have f1 := hr.frozen 1
  apply wpS_seq
  apply wpS_region
  simp [wpOpsS, go_sem, recoverD, hu, Try.ntmps41, Exit.thenS]
  refine wpS_cond (t := true) (by simp [Act.eval, Array.replicate]) ?_
  simp only [if_true]
  apply wpS_region
  simp [wpOpsS, go_sem, hq, c0, c1, f0, f1, bodyPostS, results, Try.results41]
theorem next_nil_text (Fn : Value) (w : World) :
    Calls Try.prog 32 #[.pointer none, Fn] w fun e w' => e = .returned (.string ⟨#[]⟩) ∧ Below w.heap.size w w' := by
  go_enter_defers Try.func32, Try.ntmps32
  go_wp2_with fail
  simp [bodyPostD, Leaves, results, Try.results32]
  exact below_one w _
theorem next_spoilt_text (Fn : Value) (k : Nat) (r : ByteArray) (w : World) (h : Left w k r true) :
    Calls Try.prog 32 #[.pointer (some ⟨k, 0, none⟩), Fn] w fun e w' => e = .returned (.string ⟨#[]⟩) ∧ Below w.heap.size w w' := by
  have c1 : w.cell? ⟨k, 1, none⟩ = some (.bool true) := h.cell (i := 1) (by omega)
  have hk := h.lt
  clear h
  go_enter_defers Try.func32, Try.ntmps32
  go_wp2_with fail
  simp [bodyPostD, Leaves, results, Try.results32]
  exact below_one w _
theorem next_ok_text (Fn : FuncId) (cap : Array Value) (v : Value) (R : World → Prop) (k : Nat) (r : ByteArray) (w : World) (hF : ∀ (args : Array Value) (w : World), (callFunc Fn args).run Try.prog w = .ok (.enter Fn args) w)
    (h : Left w k r false) (H : Calls Try.prog Fn cap (boxed w k) fun e w' => e = .returned v ∧ R w') :
    Calls Try.prog 32 #[.pointer (some ⟨k, 0, none⟩), .func (.func Fn) #[] cap] w fun e w' => e = .returned v ∧ R w' := by
  have c1 : w.cell? ⟨k, 1, none⟩ = some (.bool false) := h.cell (i := 1) (by omega)
  have hk := h.lt
  have hmf := make_fn
  have HH := Lib.hid H
  clear h H
  go_enter_defers Try.func32, Try.ntmps32
  go_wp2_with fail
  refine (HH.out).mono ?_
  rintro e w' ⟨rfl, hR⟩
  have HR := Lib.hid hR
  clear HH hR
  go_wp2_with fail
  refine leaves_cons (f := 41) (args := #[.pointer (some ⟨w.heap.size, 0, none⟩)]) (by simp) (by simp [go_sem]) ?_
  refine (idle_text ⟨w.heap.size, 0, none⟩ _).mono ?_
  rintro e u' w'' ⟨rfl, rfl, rfl⟩
  simp [Leaves, settle, results, Try.results32, go_sem]
  exact HR.out
theorem next_bad_text (Fn : FuncId) (cap : Array Value) (k : Nat) (r : ByteArray) (w : World) (hF : ∀ (args : Array Value) (w : World), (callFunc Fn args).run Try.prog w = .ok (.enter Fn args) w)
    (h : Left w k r false) (H : Calls Try.prog Fn cap (boxed w k) (Panics (boxed w k) k)) :
    Calls Try.prog 32 #[.pointer (some ⟨k, 0, none⟩), .func (.func Fn) #[] cap] w fun e w' => e = .returned (.string ⟨#[]⟩) ∧ Left w' k ⟨#[]⟩ true ∧ Only (fun i => i = k) w w' := by
  have c1 : w.cell? ⟨k, 1, none⟩ = some (.bool false) := h.cell (i := 1) (by omega)
  have hk := h.lt
  have hmf := make_fn
  have HH := Lib.hid H
  clear h H
  go_enter_defers Try.func32, Try.ntmps32
  go_wp2_with fail
  refine (HH.out).mono ?_
  rintro e w' ⟨x, r', rfl, hL, hO⟩
  have HL := Lib.hid hL
  have HO := Lib.hid hO
  have hq : w'.cell? ⟨w.heap.size, 0, none⟩ = some (.pointer (some ⟨k, 0, none⟩)) := (only_cell hO (by unfold boxed; simp) (by show ¬ w.heap.size = k; omega)).trans (boxed_cell w k)
  clear HH hL hO
  go_wp2_with fail
  refine leaves_cons (f := 41) (args := #[.pointer (some ⟨w.heap.size, 0, none⟩)]) (by simp) (by simp [go_sem]) ?_
  refine (caught_text ⟨w.heap.size, 0, none⟩ k _ x [] w' hq HL.out).mono ?_
  rintro e u' w'' ⟨rfl, rfl, rfl⟩
  simp [Leaves, settle, results, Try.results32, go_sem]
  exact ⟨left_spoilt HL.out, (HO.out.trans (only_two w' k _ _)).after (boxed_below w k)⟩

theorem idle_num (q : Addr) (w : World) :
    CallsD Try.prog 44 #[.pointer (some q)] .returning w fun e u' w' => e = .returned (.tuple #[]) ∧ u' = .returning ∧ w' = w := by
  refine callsD_of_wpS Try.func44 rfl fun c₀ cs hu => ?_
  apply wpS_seq
  apply wpS_region
  simp [wpOpsS, go_sem, recoverD, hu, Try.ntmps44, Exit.thenS]
  refine wpS_cond (t := false) (by simp [Act.eval, Array.replicate]) ?_
  simp only [Bool.false_eq_true, if_false]
  refine wpS_of_wp (wp_skip ?_)
  cases c₀
  simp_all [bodyPostS, results, Try.results44]
theorem caught_num (q : Addr) (k : Nat) (f : Nat → Value) (x : Int) (older : List PanicEntry) (w : World) (hq : w.cell? q = some (.pointer (some ⟨k, 0, none⟩))) (hr : w.rowIs k 63 2 f) :
    CallsD Try.prog 44 #[.pointer (some q)] (.panicking ({ v := .iface 27 (.int .i64 x), recovered := false } :: older)) w fun e u' w' =>
      e = .returned (.tuple #[]) ∧ u' = .panicking ({ v := .iface 27 (.int .i64 x), recovered := true } :: older) ∧ w' = (w.setCell ⟨k, 0, none⟩ (.string ⟨#[]⟩)).setCell ⟨k, 1, none⟩ (.bool true) := by
  refine callsD_of_wpS Try.func44 rfl fun c₀ cs hu => ?_
  have c0 := hr.cell (i := 0) (by omega)
  have c1 := hr.cell (i := 1) (by omega)
  have f0 := hr.frozen 0
  have f1 := hr.frozen 1
  apply wpS_seq
  apply wpS_region
  simp [wpOpsS, go_sem, recoverD, hu, Try.ntmps44, Exit.thenS]
  refine wpS_cond (t := true) (by simp [Act.eval, Array.replicate]) ?_
  simp only [if_true]
  apply wpS_region
  simp [wpOpsS, go_sem, hq, c0, c1, f0, f1, bodyPostS, results, Try.results44]
theorem next_nil_num (Fn : Value) (w : World) :
    Calls Try.prog 35 #[.pointer none, Fn] w fun e w' => e = .returned (.int .u64 0) ∧ Below w.heap.size w w' := by
  go_enter_defers Try.func35, Try.ntmps35
  go_wp2_with fail
  simp [bodyPostD, Leaves, results, Try.results35]
  exact below_one w _
theorem next_spoilt_num (Fn : Value) (k : Nat) (r : ByteArray) (w : World) (h : Left w k r true) :
    Calls Try.prog 35 #[.pointer (some ⟨k, 0, none⟩), Fn] w fun e w' => e = .returned (.int .u64 0) ∧ Below w.heap.size w w' := by
  have c1 : w.cell? ⟨k, 1, none⟩ = some (.bool true) := h.cell (i := 1) (by omega)
  have hk := h.lt
  clear h
  go_enter_defers Try.func35, Try.ntmps35
  go_wp2_with fail
  simp [bodyPostD, Leaves, results, Try.results35]
  exact below_one w _
theorem next_ok_num (Fn : FuncId) (cap : Array Value) (v : Value) (R : World → Prop) (k : Nat) (r : ByteArray) (w : World) (hF : ∀ (args : Array Value) (w : World), (callFunc Fn args).run Try.prog w = .ok (.enter Fn args) w)
    (h : Left w k r false) (H : Calls Try.prog Fn cap (boxed w k) fun e w' => e = .returned v ∧ R w') :
    Calls Try.prog 35 #[.pointer (some ⟨k, 0, none⟩), .func (.func Fn) #[] cap] w fun e w' => e = .returned v ∧ R w' := by
  have c1 : w.cell? ⟨k, 1, none⟩ = some (.bool false) := h.cell (i := 1) (by omega)
  have hk := h.lt
  have hmf := make_fn
  have HH := Lib.hid H
  clear h H
  go_enter_defers Try.func35, Try.ntmps35
  go_wp2_with fail
  refine (HH.out).mono ?_
  rintro e w' ⟨rfl, hR⟩
  have HR := Lib.hid hR
  clear HH hR
  go_wp2_with fail
  refine leaves_cons (f := 44) (args := #[.pointer (some ⟨w.heap.size, 0, none⟩)]) (by simp) (by simp [go_sem]) ?_
  refine (idle_num ⟨w.heap.size, 0, none⟩ _).mono ?_
  rintro e u' w'' ⟨rfl, rfl, rfl⟩
  simp [Leaves, settle, results, Try.results35, go_sem]
  exact HR.out
theorem next_bad_num (Fn : FuncId) (cap : Array Value) (k : Nat) (r : ByteArray) (w : World) (hF : ∀ (args : Array Value) (w : World), (callFunc Fn args).run Try.prog w = .ok (.enter Fn args) w)
    (h : Left w k r false) (H : Calls Try.prog Fn cap (boxed w k) (Panics (boxed w k) k)) :
    Calls Try.prog 35 #[.pointer (some ⟨k, 0, none⟩), .func (.func Fn) #[] cap] w fun e w' => e = .returned (.int .u64 0) ∧ Left w' k ⟨#[]⟩ true ∧ Only (fun i => i = k) w w' := by
  have c1 : w.cell? ⟨k, 1, none⟩ = some (.bool false) := h.cell (i := 1) (by omega)
  have hk := h.lt
  have hmf := make_fn
  have HH := Lib.hid H
  clear h H
  go_enter_defers Try.func35, Try.ntmps35
  go_wp2_with fail
  refine (HH.out).mono ?_
  rintro e w' ⟨x, r', rfl, hL, hO⟩
  have HL := Lib.hid hL
  have HO := Lib.hid hO
  have hq : w'.cell? ⟨w.heap.size, 0, none⟩ = some (.pointer (some ⟨k, 0, none⟩)) := (only_cell hO (by unfold boxed; simp) (by show ¬ w.heap.size = k; omega)).trans (boxed_cell w k)
  clear HH hL hO
  go_wp2_with fail
  refine leaves_cons (f := 44) (args := #[.pointer (some ⟨w.heap.size, 0, none⟩)]) (by simp) (by simp [go_sem]) ?_
  refine (caught_num ⟨w.heap.size, 0, none⟩ k _ x [] w' hq HL.out).mono ?_
  rintro e u' w'' ⟨rfl, rfl, rfl⟩
  simp [Leaves, settle, results, Try.results35, go_sem]
  exact ⟨left_spoilt HL.out, (HO.out.trans (only_two w' k _ _)).after (boxed_below w k)⟩
end Go.Proofs.Ytndmimmkjccgmaa.Pack
