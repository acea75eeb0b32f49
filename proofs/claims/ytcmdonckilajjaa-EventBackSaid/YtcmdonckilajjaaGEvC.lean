/- Of no one law: a cell of a block is written. The program's own package event: Same, and what takes a field out of an event. The program's own package event: what takes fields out of an event, one behind the other. The program's own package event: the closures over what a kind has. The program's own package event: kinds, Same, Good. The program's own package event: Same. The program's own package event: Good. The program's own package event: an event's bytes. The program's own package event: an event out of bytes. The program's own package event: Decode. The program's own package event: Fine, Pack. The program's own package event: Open. The program's own package event: all its contracts. -/
import Derived.Test.YtcmdonckilajjaaGCmd
import Derived.Test.YtcmdonckilajjaaGOwnP
import Derived.Laws.StructEq
import Derived.Deep.DeepCutAuto
import Derived.Deep.RegionHeld3
import Derived.ChangeKeysEq
import Derived.Test.YtcmdonckilajjaaGDec
namespace Go.Proofs.Ytcmdonckilajjaa.Event
open Go.ChangeShapes Go.WideShapes Go.ChangeAt Go.RowKit

theorem boxd_set {w : World} {g i : Nat} {v : Value} {C D : Array Value} {T : TypeId} (h : Boxd w g C T) (hd : C.setIfInBounds i v = D) : Boxd (w.setCell ⟨g, i, none⟩ v) g D T := by
  unfold Boxd at *
  subst hd
  simp [World.setCell, Array.getElem?_modify, h]
theorem boxd_free {w : World} {g i : Nat} {C : Array Value} {T : TypeId} (h : Boxd w g C T) : w.frozen? ⟨g, i, none⟩ = false := by
  unfold Boxd at h
  simp [World.frozen?, h]
end Go.Proofs.Ytcmdonckilajjaa.Event
namespace Go.Proofs.Ytcmdonckilajjaa.Event
open Go.ChangeShapes Go.WideShapes Go.ChangeAt Go.RowKit Fl Date Cal Pack

theorem run_store_fl (P : Program) (w : World) (a : Addr) (m : Mode) (k : FloatKind) (b : Nat) : (store a (.float k b) m).run P w = stored P w a (.float k b) m := run_store P w a _ m rfl
attribute [local go_sem] run_store_fl
theorem o_day (n : Int) (w : World) : Calls Try.prog 36 #[.int .i64 n] w fun e w' => e = .returned (.bool (dayB n)) ∧ w = w' := by
  by_cases h1 : 0 ≤ n
  · by_cases h2 : n ≤ 87658
    · have H : Hid (dayB n = true) := decide_eq_true ⟨h1, h2⟩
      go_enter Try.func36, Try.ntmps36
      go_wp2
      go_ret
      exact ⟨Date.ret_bool H.out.symm, rfl⟩
    · have H : Hid (dayB n = false) := decide_eq_false (by omega)
      go_enter Try.func36, Try.ntmps36
      go_wp2
      go_ret
      exact ⟨Date.ret_bool H.out.symm, rfl⟩
  · have H : Hid (dayB n = false) := decide_eq_false (by omega)
    go_enter Try.func36, Try.ntmps36
    go_wp2
    go_ret
    exact ⟨Date.ret_bool H.out.symm, rfl⟩
/-- What a call does that takes one cell of a block: it tells b, and there stands z. -/
def Took (w : World) (g i : Nat) (C : Array Value) (z : Value) (T : TypeId) (b : Bool) (x : Ending) (w' : World) : Prop :=
  x = .returned (.bool b) ∧ Boxd w' g (C.setIfInBounds i z) T ∧ Only (fun j => j = g) w w'
theorem only_drawn {F : Nat → Prop} {w w' : World} (h : Only F w w') (n : Nat) : Only F w (w'.drewN n) := ⟨h.os, h.tape, h.output, h.size, h.block⟩
theorem boxd_drawn {w : World} {g : Nat} {C : Array Value} {T : TypeId} (h : Boxd w g C T) (n : Nat) : Boxd (w.drewN n) g C T := h
theorem took_set {w : World} {g i : Nat} {C : Array Value} {z : Value} {T : TypeId} {b : Bool} (h : Boxd w g C T) : Took w g i C z T b (.returned (.bool b)) (w.setCell ⟨g, i, none⟩ z) :=
  ⟨rfl, boxd_set h rfl, only_one w g i z⟩
theorem took_drawn {w w' : World} {g i : Nat} {C : Array Value} {z : Value} {T : TypeId} {b : Bool} {x : Ending} (h : Took w g i C z T b x w') (n : Nat) : Took w g i C z T b x (w'.drewN n) :=
  ⟨h.1, boxd_drawn h.2.1 n, only_drawn h.2.2 n⟩
theorem took_of {w w' : World} {g i : Nat} {C : Array Value} {z : Value} {T : TypeId} {a b : Bool} {x : Ending} (h : Took w g i C z T a x w') (e : a = b) : Took w g i C z T b x w' := e ▸ h
theorem t_int (n m : Int) (g i : Nat) (C : Array Value) (T : TypeId) (w : World) (h : Boxd w g C T) (hc : C[i]? = some (.int .i64 n)) :
    Calls Try.prog 77 #[.pointer (some ⟨g, i, none⟩), .int .i64 m] w (Took w g i C (.int .i64 0) T (decide (1 ≤ n ∧ n ≤ m))) := by
  have c0 : w.cell? ⟨g, i, none⟩ = some (.int .i64 n) := h.cell.trans hc
  have f0 := boxd_free (i := i) h
  have HB := Lib.hid h
  clear h hc
  by_cases h1 : 1 ≤ n
  · by_cases h2 : n ≤ m
    · have H : Hid (decide (1 ≤ n ∧ n ≤ m) = true) := decide_eq_true ⟨h1, h2⟩
      generalize decide (1 ≤ n ∧ n ≤ m) = r at *
      go_enter Try.func77, Try.ntmps77
      go_wp2_with fail
      go_ret
      exact took_of (took_set HB.out) H.out.symm
    · have H : Hid (decide (1 ≤ n ∧ n ≤ m) = false) := decide_eq_false (by omega)
      generalize decide (1 ≤ n ∧ n ≤ m) = r at *
      go_enter Try.func77, Try.ntmps77
      go_wp2_with fail
      go_ret
      exact took_of (took_set HB.out) H.out.symm
  · have H : Hid (decide (1 ≤ n ∧ n ≤ m) = false) := decide_eq_false (by omega)
    generalize decide (1 ≤ n ∧ n ≤ m) = r at *
    go_enter Try.func77, Try.ntmps77
    go_wp2_with fail
    go_ret
    exact took_of (took_set HB.out) H.out.symm
theorem t_long (n m : Int) (g i : Nat) (C : Array Value) (T : TypeId) (w : World) (h : Boxd w g C T) (hc : C[i]? = some (.int .i64 n)) :
    Calls Try.prog 78 #[.pointer (some ⟨g, i, none⟩), .int .i64 m] w (Took w g i C (.int .i64 0) T (decide (1 ≤ n ∧ n ≤ m))) := by
  have c0 : w.cell? ⟨g, i, none⟩ = some (.int .i64 n) := h.cell.trans hc
  have f0 := boxd_free (i := i) h
  have HB := Lib.hid h
  clear h hc
  by_cases h1 : 1 ≤ n
  · by_cases h2 : n ≤ m
    · have H : Hid (decide (1 ≤ n ∧ n ≤ m) = true) := decide_eq_true ⟨h1, h2⟩
      generalize decide (1 ≤ n ∧ n ≤ m) = r at *
      go_enter Try.func78, Try.ntmps78
      go_wp2_with fail
      go_ret
      exact took_of (took_set HB.out) H.out.symm
    · have H : Hid (decide (1 ≤ n ∧ n ≤ m) = false) := decide_eq_false (by omega)
      generalize decide (1 ≤ n ∧ n ≤ m) = r at *
      go_enter Try.func78, Try.ntmps78
      go_wp2_with fail
      go_ret
      exact took_of (took_set HB.out) H.out.symm
  · have H : Hid (decide (1 ≤ n ∧ n ≤ m) = false) := decide_eq_false (by omega)
    generalize decide (1 ≤ n ∧ n ≤ m) = r at *
    go_enter Try.func78, Try.ntmps78
    go_wp2_with fail
    go_ret
    exact took_of (took_set HB.out) H.out.symm
theorem sign_minus {b : Nat} (h : goodF b = true) : decide (9223372036854775808 ≤ b) = minusB b := by
  have := of_decide_eq_true h
  unfold minusB
  by_cases hb : b = 9223372036854775808
  · rw [decide_eq_true hb, decide_eq_true (by omega)]
  · rw [decide_eq_false hb, decide_eq_false (by omega)]
theorem t_rate (b : Nat) (g i : Nat) (C : Array Value) (T : TypeId) (w : World) (hb : b < 18446744073709551616) (h : Boxd w g C T) (hc : C[i]? = some (.float .f64 b)) :
    Calls Try.prog 79 #[.pointer (some ⟨g, i, none⟩), .func (.func 80) #[] #[], .int .i64 250000] w (Took w g i C (.float .f64 0) T (rateB b)) := by
  have c0 : w.cell? ⟨g, i, none⟩ = some (.float .f64 b) := h.cell.trans hc
  have f0 := boxd_free (i := i) h
  have HB := Lib.hid h
  have HP : Hid (∀ W, Calls Try.prog 80 #[.float .f64 b] W fun e w' => e = .returned (.tuple #[.int .i64 (pV b), .int .i64 (pE b)]) ∧ ∃ n, w' = W.drewN n) := fun W => ppm_any b W hb
  have HS : Hid (∀ W, Calls Try.prog 66 #[.float .f64 b] W fun e w' => e = .returned (.bool (decide (9223372036854775808 ≤ b))) ∧ W = w') := fun W => sign_any b W hb
  clear h hc hb
  by_cases h1 : pE b = 0
  · by_cases h2 : pV b ≤ 250000
    · have H : Hid ((!(decide (9223372036854775808 ≤ b))) = rateB b) := show (!(decide (9223372036854775808 ≤ b))) = rateB b by
        rw [sign_minus (good_of_pE h1)]; unfold rateB; rw [decide_eq_true ⟨h1, h2⟩, Bool.true_and]
      rw [h1] at HP
      have h2 := decide_eq_true h2
      clear h1
      generalize rateB b = r at *
      generalize decide (9223372036854775808 ≤ b) = s at *
      generalize pV b = v at *
      go_enter Try.func79, Try.ntmps79
      go_wp2_with (first
        | (go_at_call 80; refine (HP.out _).mono ?_; rintro e w' ⟨rfl, m, rfl⟩)
        | (go_at_call 66; refine (HS.out _).mono ?_; rintro e w' ⟨rfl, rfl⟩))
      go_ret
      exact took_drawn (took_of (took_set HB.out) H.out) _
    · have H : Hid (rateB b = false) := show _ = _ by unfold rateB; rw [decide_eq_false (fun h => h2 h.2), Bool.false_and]
      rw [h1] at HP
      have h2 := decide_eq_false h2
      clear h1 HS
      generalize rateB b = r at *
      generalize pV b = v at *
      go_enter Try.func79, Try.ntmps79
      go_wp2_with (first
        | (go_at_call 80; refine (HP.out _).mono ?_; rintro e w' ⟨rfl, m, rfl⟩))
      go_ret
      exact took_drawn (took_of (took_set HB.out) H.out.symm) _
  · have H : Hid (rateB b = false) := show _ = _ by unfold rateB; rw [decide_eq_false (fun h => h1 h.1), Bool.false_and]
    have h1 : (pE b == 0) = false := by rw [beq_eq_false_iff_ne]; exact h1
    clear HS
    generalize rateB b = r at *
    generalize pV b = v at *
    generalize pE b = v2 at *
    go_enter Try.func79, Try.ntmps79
    go_wp2_with (first
      | (go_at_call 80; refine (HP.out _).mono ?_; rintro e w' ⟨rfl, m, rfl⟩))
    go_ret
    exact took_drawn (took_of (took_set HB.out) H.out.symm) _
theorem t_income (b : Nat) (g i : Nat) (C : Array Value) (T : TypeId) (w : World) (hb : b < 18446744073709551616) (h : Boxd w g C T) (hc : C[i]? = some (.float .f64 b)) :
    Calls Try.prog 81 #[.pointer (some ⟨g, i, none⟩), .func (.func 82) #[] #[], .int .i64 1000000000] w (Took w g i C (.float .f64 0) T (incomeB b)) := by
  have c0 : w.cell? ⟨g, i, none⟩ = some (.float .f64 b) := h.cell.trans hc
  have f0 := boxd_free (i := i) h
  have HB := Lib.hid h
  have HP : Hid (∀ W, Calls Try.prog 82 #[.float .f64 b] W fun e w' => e = .returned (.tuple #[.int .i64 (tV b 100), .int .i64 (tE b 100)]) ∧ ∃ n, w' = W.drewN n) := fun W => cents_any b W hb
  have HS : Hid (∀ W, Calls Try.prog 66 #[.float .f64 b] W fun e w' => e = .returned (.bool (decide (9223372036854775808 ≤ b))) ∧ W = w') := fun W => sign_any b W hb
  clear h hc hb
  by_cases h1 : tE b 100 = 0
  · by_cases h2 : tV b 100 ≤ 1000000000
    · have H : Hid ((!(decide (9223372036854775808 ≤ b))) = incomeB b) := show (!(decide (9223372036854775808 ≤ b))) = incomeB b by
        rw [sign_minus (good_of_tE h1)]; unfold incomeB; rw [decide_eq_true ⟨h1, h2⟩, Bool.true_and]
      rw [h1] at HP
      have h2 := decide_eq_true h2
      clear h1
      generalize incomeB b = r at *
      generalize decide (9223372036854775808 ≤ b) = s at *
      generalize tV b 100 = v at *
      go_enter Try.func81, Try.ntmps81
      go_wp2_with (first
        | (go_at_call 82; refine (HP.out _).mono ?_; rintro e w' ⟨rfl, m, rfl⟩)
        | (go_at_call 66; refine (HS.out _).mono ?_; rintro e w' ⟨rfl, rfl⟩))
      go_ret
      exact took_drawn (took_of (took_set HB.out) H.out) _
    · have H : Hid (incomeB b = false) := show _ = _ by unfold incomeB; rw [decide_eq_false (fun h => h2 h.2), Bool.false_and]
      rw [h1] at HP
      have h2 := decide_eq_false h2
      clear h1 HS
      generalize incomeB b = r at *
      generalize tV b 100 = v at *
      go_enter Try.func81, Try.ntmps81
      go_wp2_with (first
        | (go_at_call 82; refine (HP.out _).mono ?_; rintro e w' ⟨rfl, m, rfl⟩))
      go_ret
      exact took_drawn (took_of (took_set HB.out) H.out.symm) _
  · have H : Hid (incomeB b = false) := show _ = _ by unfold incomeB; rw [decide_eq_false (fun h => h1 h.1), Bool.false_and]
    have h1 : (tE b 100 == 0) = false := by rw [beq_eq_false_iff_ne]; exact h1
    clear HS
    generalize incomeB b = r at *
    generalize tV b 100 = v at *
    generalize tE b 100 = v2 at *
    go_enter Try.func81, Try.ntmps81
    go_wp2_with (first
      | (go_at_call 82; refine (HP.out _).mono ?_; rintro e w' ⟨rfl, m, rfl⟩))
    go_ret
    exact took_drawn (took_of (took_set HB.out) H.out.symm) _
end Go.Proofs.Ytcmdonckilajjaa.Event
namespace Go.Proofs.Ytcmdonckilajjaa.Event
open Go.ChangeShapes Go.WideShapes Go.ChangeAt Go.RowKit Fl Date Cal Pack

theorem run_store_fl2 (P : Program) (w : World) (a : Addr) (m : Mode) (k : FloatKind) (b : Nat) : (store a (.float k b) m).run P w = stored P w a (.float k b) m := run_store P w a _ m rfl
attribute [local go_sem] run_store_fl2
theorem zfit : (-9223372036854775808 : Int) ≤ 0 ∧ (0 : Int) ≤ 9223372036854775807 := by decide
theorem zflt : (0 : Nat) < 18446744073709551616 := by decide
/-- A function that takes fields out of an event: it tells b, and t is left. -/
structure Tk where
  f : FuncId
  b : Ev → Bool
  t : Ev → Ev
def Takes (k : Tk) : Prop :=
  (∀ (args : Array Value) (w : World), (callFunc k.f args).run Try.prog w = .ok (.enter k.f args) w) ∧ (∀ e : Ev, e.Fit → (k.t e).Fit) ∧
  ∀ (e : Ev) (g : Nat) (w : World), e.Fit → Boxd w g e.cells 25 →
    Calls Try.prog k.f #[.pointer (some ⟨g, 0, none⟩)] w fun x w' => x = .returned (.bool (k.b e)) ∧ (k.b e = true → Boxd w' g (k.t e).cells 25) ∧ Only (fun j => j = g) w w'
def tk_loan : Tk := ⟨58, fun e => loanB e.loan, fun e => { e with loan := 0 }⟩
set_option maxRecDepth 20000 in
theorem takes_loan : Takes tk_loan := by
  refine ⟨fun args w => by simp [tk_loan, go_sem], fun e h => ⟨h.kind, h.day, h.key, zfit, h.amount, h.rate, h.income, h.status, h.plan, h.family⟩, fun e g w hf hB => ?_⟩
  have HC := Lib.hid (t_int e.loan 1000 g 3 e.cells 25 w  hB rfl)
  show Calls Try.prog 58 #[.pointer (some ⟨g, 0, none⟩)] w fun x w' => x = .returned (.bool (loanB e.loan)) ∧ (loanB e.loan = true → Boxd w' g (e.cells.setIfInBounds 3 (.int .i64 0)) 25) ∧ Only (fun j => j = g) w w'
  change Hid (Calls _ _ _ _ (Took w g 3 e.cells (.int .i64 0) 25 (loanB e.loan))) at HC
  generalize (loanB e.loan) = r at *
  clear hf hB
  generalize e.cells = C at *
  go_enter Try.func58, Try.ntmps58
  go_wp2_with (go_at_call 77; refine HC.out.mono ?_; rintro x w' ⟨rfl, hb, ho⟩; have R := Lib.hid (And.intro hb ho); clear hb ho)
  go_ret
  exact ⟨rfl, fun _ => R.out.1, R.out.2⟩
def tk_amount : Tk := ⟨59, fun e => amountB e.amount, fun e => { e with amount := 0 }⟩
set_option maxRecDepth 20000 in
theorem takes_amount : Takes tk_amount := by
  refine ⟨fun args w => by simp [tk_amount, go_sem], fun e h => ⟨h.kind, h.day, h.key, h.loan, zfit, h.rate, h.income, h.status, h.plan, h.family⟩, fun e g w hf hB => ?_⟩
  have HC := Lib.hid (t_long e.amount 1000000000 g 4 e.cells 25 w  hB rfl)
  show Calls Try.prog 59 #[.pointer (some ⟨g, 0, none⟩)] w fun x w' => x = .returned (.bool (amountB e.amount)) ∧ (amountB e.amount = true → Boxd w' g (e.cells.setIfInBounds 4 (.int .i64 0)) 25) ∧ Only (fun j => j = g) w w'
  change Hid (Calls _ _ _ _ (Took w g 4 e.cells (.int .i64 0) 25 (amountB e.amount))) at HC
  generalize (amountB e.amount) = r at *
  clear hf hB
  generalize e.cells = C at *
  go_enter Try.func59, Try.ntmps59
  go_wp2_with (go_at_call 78; refine HC.out.mono ?_; rintro x w' ⟨rfl, hb, ho⟩; have R := Lib.hid (And.intro hb ho); clear hb ho)
  go_ret
  exact ⟨rfl, fun _ => R.out.1, R.out.2⟩
def tk_status : Tk := ⟨62, fun e => statusB e.status, fun e => { e with status := 0 }⟩
set_option maxRecDepth 20000 in
theorem takes_status : Takes tk_status := by
  refine ⟨fun args w => by simp [tk_status, go_sem], fun e h => ⟨h.kind, h.day, h.key, h.loan, h.amount, h.rate, h.income, zfit, h.plan, h.family⟩, fun e g w hf hB => ?_⟩
  have HC := Lib.hid (t_int e.status 5 g 8 e.cells 25 w  hB rfl)
  show Calls Try.prog 62 #[.pointer (some ⟨g, 0, none⟩)] w fun x w' => x = .returned (.bool (statusB e.status)) ∧ (statusB e.status = true → Boxd w' g (e.cells.setIfInBounds 8 (.int .i64 0)) 25) ∧ Only (fun j => j = g) w w'
  change Hid (Calls _ _ _ _ (Took w g 8 e.cells (.int .i64 0) 25 (statusB e.status))) at HC
  generalize (statusB e.status) = r at *
  clear hf hB
  generalize e.cells = C at *
  go_enter Try.func62, Try.ntmps62
  go_wp2_with (go_at_call 77; refine HC.out.mono ?_; rintro x w' ⟨rfl, hb, ho⟩; have R := Lib.hid (And.intro hb ho); clear hb ho)
  go_ret
  exact ⟨rfl, fun _ => R.out.1, R.out.2⟩
def tk_plan : Tk := ⟨64, fun e => decide (1 ≤ e.plan ∧ e.plan ≤ 4), fun e => { e with plan := 0 }⟩
set_option maxRecDepth 20000 in
theorem takes_plan : Takes tk_plan := by
  refine ⟨fun args w => by simp [tk_plan, go_sem], fun e h => ⟨h.kind, h.day, h.key, h.loan, h.amount, h.rate, h.income, h.status, zfit, h.family⟩, fun e g w hf hB => ?_⟩
  have HC := Lib.hid (t_int e.plan 4 g 9 e.cells 25 w  hB rfl)
  show Calls Try.prog 64 #[.pointer (some ⟨g, 0, none⟩)] w fun x w' => x = .returned (.bool (decide (1 ≤ e.plan ∧ e.plan ≤ 4))) ∧ (decide (1 ≤ e.plan ∧ e.plan ≤ 4) = true → Boxd w' g (e.cells.setIfInBounds 9 (.int .i64 0)) 25) ∧ Only (fun j => j = g) w w'
  change Hid (Calls _ _ _ _ (Took w g 9 e.cells (.int .i64 0) 25 (decide (1 ≤ e.plan ∧ e.plan ≤ 4)))) at HC
  generalize (decide (1 ≤ e.plan ∧ e.plan ≤ 4)) = r at *
  clear hf hB
  generalize e.cells = C at *
  go_enter Try.func64, Try.ntmps64
  go_wp2_with (go_at_call 77; refine HC.out.mono ?_; rintro x w' ⟨rfl, hb, ho⟩; have R := Lib.hid (And.intro hb ho); clear hb ho)
  go_ret
  exact ⟨rfl, fun _ => R.out.1, R.out.2⟩
def tk_family : Tk := ⟨83, fun e => familyB e.family, fun e => { e with family := 0 }⟩
set_option maxRecDepth 20000 in
theorem takes_family : Takes tk_family := by
  refine ⟨fun args w => by simp [tk_family, go_sem], fun e h => ⟨h.kind, h.day, h.key, h.loan, h.amount, h.rate, h.income, h.status, h.plan, zfit⟩, fun e g w hf hB => ?_⟩
  have HC := Lib.hid (t_int e.family 30 g 10 e.cells 25 w  hB rfl)
  show Calls Try.prog 83 #[.pointer (some ⟨g, 0, none⟩)] w fun x w' => x = .returned (.bool (familyB e.family)) ∧ (familyB e.family = true → Boxd w' g (e.cells.setIfInBounds 10 (.int .i64 0)) 25) ∧ Only (fun j => j = g) w w'
  change Hid (Calls _ _ _ _ (Took w g 10 e.cells (.int .i64 0) 25 (familyB e.family))) at HC
  generalize (familyB e.family) = r at *
  clear hf hB
  generalize e.cells = C at *
  go_enter Try.func83, Try.ntmps83
  go_wp2_with (go_at_call 77; refine HC.out.mono ?_; rintro x w' ⟨rfl, hb, ho⟩; have R := Lib.hid (And.intro hb ho); clear hb ho)
  go_ret
  exact ⟨rfl, fun _ => R.out.1, R.out.2⟩
def tk_rate : Tk := ⟨60, fun e => rateB e.rate, fun e => { e with rate := 0 }⟩
set_option maxRecDepth 20000 in
theorem takes_rate : Takes tk_rate := by
  refine ⟨fun args w => by simp [tk_rate, go_sem], fun e h => ⟨h.kind, h.day, h.key, h.loan, h.amount, zflt, h.income, h.status, h.plan, h.family⟩, fun e g w hf hB => ?_⟩
  have HC := Lib.hid (t_rate e.rate g 5 e.cells 25 w hf.rate hB rfl)
  show Calls Try.prog 60 #[.pointer (some ⟨g, 0, none⟩)] w fun x w' => x = .returned (.bool (rateB e.rate)) ∧ (rateB e.rate = true → Boxd w' g (e.cells.setIfInBounds 5 (.float .f64 0)) 25) ∧ Only (fun j => j = g) w w'
  change Hid (Calls _ _ _ _ (Took w g 5 e.cells (.float .f64 0) 25 (rateB e.rate))) at HC
  generalize (rateB e.rate) = r at *
  clear hf hB
  generalize e.cells = C at *
  go_enter Try.func60, Try.ntmps60
  go_wp2_with (go_at_call 79; refine HC.out.mono ?_; rintro x w' ⟨rfl, hb, ho⟩; have R := Lib.hid (And.intro hb ho); clear hb ho)
  go_ret
  exact ⟨rfl, fun _ => R.out.1, R.out.2⟩
def tk_sub : Tk := ⟨61, fun _ => true, fun e => { e with sub := false }⟩
set_option maxRecDepth 20000 in
theorem takes_sub : Takes tk_sub := by
  refine ⟨fun args w => by simp [tk_sub, go_sem], fun e h => ⟨h.kind, h.day, h.key, h.loan, h.amount, h.rate, h.income, h.status, h.plan, h.family⟩, fun e g w hf hB => ?_⟩
  have f0 := boxd_free (i := 7) hB
  have c0 : w.cell? ⟨g, 7, none⟩ = some (.bool e.sub) := hB.cell
  have HC : Hid (Boxd (w.setCell ⟨g, 7, none⟩ (.bool false)) g (e.cells.setIfInBounds 7 (.bool false)) 25 ∧ Only (fun j => j = g) w (w.setCell ⟨g, 7, none⟩ (.bool false))) := show _ ∧ _ from ⟨boxd_set hB rfl, only_one w g 7 _⟩
  show Calls Try.prog 61 #[.pointer (some ⟨g, 0, none⟩)] w fun x w' => x = .returned (.bool true) ∧ (true = true → Boxd w' g (e.cells.setIfInBounds 7 (.bool false)) 25) ∧ Only (fun j => j = g) w w'
  clear hf hB
  generalize e.cells = C at *
  go_enter Try.func61, Try.ntmps61
  go_wp2_with fail
  go_ret
  exact ⟨rfl, fun _ => HC.out.1, HC.out.2⟩
def tk_income : Tk := ⟨63, fun e => if e.plan = 4 then incomeB e.income && familyB e.family else true, fun e => if e.plan = 4 then { e with income := 0, family := 0 } else e⟩
theorem only_trans {F : Nat → Prop} {a b c : World} (h : Only F a b) (k : Only F b c) : Only F a c :=
  ⟨k.os.trans h.os, k.tape.trans h.tape, k.output.trans h.output, Nat.le_trans h.size k.size, fun i hi hf => (k.block i (Nat.lt_of_lt_of_le hi h.size) hf).trans (h.block i hi hf)⟩
set_option maxRecDepth 20000 in
theorem takes_income : Takes tk_income := by
  refine ⟨fun args w => by simp [tk_income, go_sem], fun e h => ?_, fun e g w hf hB => ?_⟩
  · show (if e.plan = 4 then ({ e with income := 0, family := 0 } : Ev) else e).Fit
    split
    · exact ⟨h.kind, h.day, h.key, h.loan, h.amount, h.rate, zflt, h.status, h.plan, zfit⟩
    · exact h
  show Calls Try.prog 63 #[.pointer (some ⟨g, 0, none⟩)] w fun x w' => x = .returned (.bool (if e.plan = 4 then incomeB e.income && familyB e.family else true)) ∧ ((if e.plan = 4 then incomeB e.income && familyB e.family else true) = true → Boxd w' g ((if e.plan = 4 then ({ e with income := 0, family := 0 } : Ev) else e).cells) 25) ∧ Only (fun j => j = g) w w'
  have c9 : w.cell? ⟨g, 9, none⟩ = some (.int .i64 e.plan) := hB.cell
  by_cases hp : e.plan = 4
  · rw [if_pos hp, if_pos hp]
    rw [hp] at c9
    have HC := Lib.hid (t_income e.income g 6 e.cells 25 w hf.income hB rfl)
    have HF : Hid (∀ W, Boxd W g (e.cells.setIfInBounds 6 (.float .f64 0)) 25 → Calls Try.prog 83 #[.pointer (some ⟨g, 0, none⟩)] W fun x w' => x = .returned (.bool (familyB e.family)) ∧ (familyB e.family = true → Boxd w' g (e.cells.setIfInBounds 6 (.float .f64 0) |>.setIfInBounds 10 (.int .i64 0)) 25) ∧ Only (fun j => j = g) W w') :=
      fun W hW => takes_family.2.2 { e with income := 0 } g W ⟨hf.kind, hf.day, hf.key, hf.loan, hf.amount, hf.rate, zflt, hf.status, hf.plan, hf.family⟩ hW
    show Calls Try.prog 63 #[.pointer (some ⟨g, 0, none⟩)] w fun x w' => x = .returned (.bool (incomeB e.income && familyB e.family)) ∧ ((incomeB e.income && familyB e.family) = true → Boxd w' g (e.cells.setIfInBounds 6 (.float .f64 0) |>.setIfInBounds 10 (.int .i64 0)) 25) ∧ Only (fun j => j = g) w w'
    clear hf hB hp
    generalize e.cells = C at *
    generalize familyB e.family = r2 at *
    cases hr : incomeB e.income
    · rw [hr] at HC
      rw [Bool.false_and]
      clear hr
      go_enter Try.func63, Try.ntmps63
      go_wp2_with (go_at_call 81; refine HC.out.mono ?_; rintro x w' ⟨rfl, hb, ho⟩; have R := Lib.hid ho; clear hb ho)
      go_ret
      exact ⟨rfl, fun h => absurd h (by decide), R.out⟩
    · rw [hr] at HC
      rw [Bool.true_and]
      clear hr
      go_enter Try.func63, Try.ntmps63
      go_wp2_with (first
        | (go_at_call 81; refine HC.out.mono ?_; rintro x w1 ⟨rfl, hb, ho⟩; have R := Lib.hid ho; have RB := Lib.hid hb; clear hb ho)
        | (go_at_call 83; refine (HF.out w1 RB.out).mono ?_; rintro x w2 ⟨rfl, hb, ho⟩; have R2 := Lib.hid (And.intro hb (only_trans R.out ho)); clear hb ho))
      go_ret
      exact ⟨rfl, R2.out.1, R2.out.2⟩
  · rw [if_neg hp, if_neg hp]
    have hp2 : (e.plan != 4) = true := by rw [bne_iff_ne]; exact hp
    have HB := Lib.hid hB
    clear hB hf hp
    generalize e.plan = p at *
    go_enter Try.func63, Try.ntmps63
    go_wp2_with fail
    go_ret
    exact ⟨rfl, fun _ => HB.out, Only.refl _ _⟩
end Go.Proofs.Ytcmdonckilajjaa.Event
namespace Go.Proofs.Ytcmdonckilajjaa.Event
open Go.ChangeShapes Go.WideShapes Go.ChangeAt Go.RowKit Fl Date Cal Pack

def tk0 : Tk := ⟨0, fun _ => true, fun e => e⟩
def allB : List Tk → Ev → Bool
  | [], _ => true
  | k :: l, e => k.b e && allB l (k.t e)
def allT : List Tk → Ev → Ev
  | [], e => e
  | k :: l, e => allT l (k.t e)
/-- Block b holds what the closure over these takers holds; its blocks are from n on. -/
def Keeps (n : Nat) (w : World) (b : Nat) (l : List Tk) : Prop :=
  ∃ P : Option Addr, n ≤ b ∧ w.cell? ⟨b, 0, none⟩ = some (.slice P l.length l.length) ∧
    ∀ i, i < l.length → ∃ a, P = some ⟨a, 0, none⟩ ∧ n ≤ a ∧ w.cell? ⟨a, i, none⟩ = some (.func (.func (l.getD i tk0).f) #[] #[])
theorem Keeps.below {n : Nat} {w w' : World} {b : Nat} {l : List Tk} (h : Keeps n w b l) (hb : Below w.heap.size w w') : Keeps n w' b l := by
  obtain ⟨P, h2, h3, h4⟩ := h
  refine ⟨P, h2, (hb.cell (World.block_lt_of_cell? _ _ h3)).trans h3, fun i hi => ?_⟩
  obtain ⟨a, q1, q2, q3⟩ := h4 i hi
  exact ⟨a, q1, q2, (hb.cell (World.block_lt_of_cell? _ _ q3)).trans q3⟩
theorem Keeps.low {m n : Nat} {w : World} {b : Nat} {l : List Tk} (h : Keeps n w b l) (hm : m ≤ n) : Keeps m w b l := by
  obtain ⟨P, h2, h3, h4⟩ := h
  refine ⟨P, Nat.le_trans hm h2, h3, fun i hi => ?_⟩
  obtain ⟨a, q1, q2, q3⟩ := h4 i hi
  exact ⟨a, q1, Nat.le_trans hm q2, q3⟩
/-- What has become of the event behind j of them. -/
def Gone (l : List Tk) (e : Ev) (g : Nat) (w : World) (j : Nat) (c : Ev) (wr : World) : Prop :=
  c.Fit ∧ Boxd wr g c.cells 25 ∧ Only (fun i => i = g) w wr ∧ allB l e = allB (l.drop j) c ∧ allT l e = allT (l.drop j) c
theorem gone_next {l : List Tk} {e c : Ev} {g j : Nat} {w wr w' : World} (h : Gone l e g w j c wr) (hj : j < l.length) (hf : ((l.getD j tk0).t c).Fit) (hb : (l.getD j tk0).b c = true)
    (hB : Boxd w' g ((l.getD j tk0).t c).cells 25) (hO : Only (fun i => i = g) wr w') : Gone l e g w (j + 1) ((l.getD j tk0).t c) w' := by
  obtain ⟨h1, h2, h3, h4, h5⟩ := h
  have hd : l.drop j = l.getD j tk0 :: l.drop (j + 1) := by
    rw [List.drop_eq_getElem_cons hj, List.getD_eq_getElem?_getD, List.getElem?_eq_getElem hj]; rfl
  refine ⟨hf, hB, only_trans h3 hO, ?_, ?_⟩
  · rw [h4, hd]
    show ((l.getD j tk0).b c && allB (l.drop (j + 1)) _) = _
    rw [hb, Bool.true_and]
  · rw [h5, hd]
    rfl
theorem gone_no {l : List Tk} {e c : Ev} {g j : Nat} {w wr : World} (h : Gone l e g w j c wr) (hj : j < l.length) (hb : (l.getD j tk0).b c = false) : allB l e = false := by
  have hd : l.drop j = l.getD j tk0 :: l.drop (j + 1) := by
    rw [List.drop_eq_getElem_cons hj, List.getD_eq_getElem?_getD, List.getElem?_eq_getElem hj]; rfl
  rw [h.2.2.2.1, hd]
  show ((l.getD j tk0).b c && _) = false
  rw [hb, Bool.false_and]
theorem gone_end {l : List Tk} {e c : Ev} {g : Nat} {w wr : World} (h : Gone l e g w l.length c wr) : allB l e = true ∧ allT l e = c := by
  obtain ⟨h1, h2, h3, h4, h5⟩ := h
  rw [List.drop_length] at h4 h5
  exact ⟨h4, h5⟩
set_option maxRecDepth 20000 in
set_option maxHeartbeats 1000000 in
theorem all_calls (l : List Tk) (hl : l.length ≤ 4) (hT : ∀ k ∈ l, Takes k) (n b g : Nat) (P : Option Addr) (e : Ev) (w : World) (hf : e.Fit) (hB : Boxd w g e.cells 25) (hg : g < n)
    (hc : w.cell? ⟨b, 0, none⟩ = some (.slice P l.length l.length)) (hP : ∀ i, i < l.length → ∃ a, P = some ⟨a, 0, none⟩ ∧ n ≤ a ∧ w.cell? ⟨a, i, none⟩ = some (.func (.func (l.getD i tk0).f) #[] #[])) :
    Calls Try.prog 76 #[.pointer (some ⟨g, 0, none⟩), .pointer (some ⟨b, 0, none⟩)] w fun x w' => x = .returned (.bool (allB l e)) ∧ (allB l e = true → Boxd w' g (allT l e).cells 25) ∧ Only (fun j => j = g) w w' := by
  have G0 : Hid (Gone l e g w 0 e w) := show Gone _ _ _ _ _ _ _ from ⟨hf, hB, Only.refl _ _, rfl, rfl⟩
  have HP := Lib.hid hP
  have HT := Lib.hid hT
  have HG := Lib.hid hg
  have HB := Lib.hid hB
  clear hf hP hT hg hB
  go_enter Try.func76, Try.ntmps76
  go_wp2_with fail
  go_loopw [8] (fun t wr => ∃ (j : Nat) (c : Ev), j ≤ l.length ∧ t = .int .i64 j ∧ Hid (Gone l e g w j c wr)) (fun t _ => l.length - (intOf t).toNat)
  case atStart => exact ⟨0, e, Nat.zero_le _, rfl, G0⟩
  case round =>
    obtain ⟨j, c, hj, rfl, GG⟩ := hrel
    by_cases hlt : j < l.length
    · obtain ⟨a, rfl, ha, hq⟩ := HP.out j hlt
      have u0 : decide ((j : Int) < (l.length : Int)) = true := decide_eq_true (by omega)
      have j0 : (0 : Int) ≤ j := by omega
      have j1 : (j : Int) < (l.length : Int) := by omega
      have hx : l.getD j tk0 ∈ l := by rw [List.getD_eq_getElem?_getD, List.getElem?_eq_getElem hlt]; exact List.getElem_mem hlt
      have hK := HT.out _ hx
      have ca : wr.cell? ⟨a, j, none⟩ = some (.func (.func (l.getD j tk0).f) #[] #[]) := (only_cell GG.out.2.2.1 (World.block_lt_of_cell? _ _ hq) (by have := HG.out; show ¬ a = g; omega)).trans hq
      have hN := fun w' => gone_next (w' := w') GG.out hlt (hK.2.1 c GG.out.1)
      have hNo := gone_no GG.out hlt
      have hcc := hK.2.2 c g wr GG.out.1 GG.out.2.1
      have hF := hK.1
      have HN := Lib.hid hN
      have HNo := Lib.hid hNo
      have HC := Lib.hid hcc
      have HO := Lib.hid GG.out.2.2.1
      clear hq hN hNo hcc hK hx hlt ha
      generalize l.getD j tk0 = k at *
      go_wp2_with fail
      refine HC.out.mono ?_
      rintro x w' ⟨rfl, hb, ho⟩
      cases hr : k.b c
      · have A : Hid (allB l e = false ∧ Only (fun i => i = g) w w') := show _ ∧ _ from ⟨HNo.out hr, only_trans HO.out ho⟩
        clear hb ho hr
        go_wp2_with fail
        go_ret
        exact ⟨show Ending.returned (.bool false) = _ by rw [A.out.1], fun h => absurd (h.symm.trans A.out.1) (by decide), A.out.2⟩
      · have A := Lib.hid (HN.out w' hr (hb hr) ho)
        clear hb ho hr
        go_wp2_with fail
        go_roundw
        case rel => exact ⟨j + 1, _, by omega, by go_num, A⟩
        case measure => simp [intOf]; omega
    · obtain rfl : j = l.length := by omega
      have u0 : decide ((l.length : Int) < (l.length : Int)) = false := decide_eq_false (by omega)
      have E := Lib.hid (gone_end GG.out)
      have EB := Lib.hid (GG.out.2.1)
      have EO := Lib.hid (GG.out.2.2.1)
      go_wp2_with fail
      go_ret
      rw [E.out.1, E.out.2]
      exact ⟨rfl, fun _ => EB.out, EO.out⟩
theorem all_fns (l : List Tk) (A : Array Value) (m : Nat) (w : World) (hA : A = (l.map fun k => Value.func (.func k.f) #[] #[]).toArray) (hm : m = l.length) :
    Calls Try.prog 57 #[.slice (some ⟨w.heap.size, 0, none⟩) m m] (w.alloc (.cells A 75)) fun x w' => ∃ b, x = .returned (.func (.func 76) #[] #[.pointer (some ⟨b, 0, none⟩)]) ∧ Keeps w.heap.size w' b l ∧ Below w.heap.size w w' := by
  have HA := Lib.hid hA
  subst hm
  clear hA
  have hmf := make_fn
  go_enter Try.func57, Try.ntmps57
  go_wp2_with fail
  go_ret
  refine ⟨_, rfl, ⟨some ⟨w.heap.size, 0, none⟩, Nat.le_succ _, by simp [go_sem], fun i hi => ⟨w.heap.size, rfl, Nat.le_refl _, ?_⟩⟩, (below_one w _).alloc (by simp) _⟩
  rw [(((Below.refl _ _).alloc (Nat.le_refl _) _ : Below (w.alloc (.cells A 75)).heap.size _ _).cell (p := ⟨w.heap.size, i, none⟩) (by simp))]
  show (w.alloc _).cell? _ = _
  simp only [World.cell?]
  rw [heap_alloc_last, HA.out]
  show ((l.map fun k => Value.func (.func k.f) #[] #[]).toArray)[i]? = _
  rw [List.getElem?_toArray, List.getElem?_map, List.getElem?_eq_getElem hi, List.getD_eq_getElem?_getD, List.getElem?_eq_getElem hi]
  rfl
theorem all_none (w : World) :
    Calls Try.prog 57 #[.slice none 0 0] w fun x w' => ∃ b, x = .returned (.func (.func 76) #[] #[.pointer (some ⟨b, 0, none⟩)]) ∧ Keeps w.heap.size w' b [] ∧ Below w.heap.size w w' := by
  have hmf := make_fn
  go_enter Try.func57, Try.ntmps57
  go_wp2_with fail
  go_ret
  exact ⟨_, rfl, ⟨none, Nat.le_refl _, by simp [go_sem], fun i hi => absurd hi (Nat.not_lt_zero _)⟩, below_one w _⟩
/-- What each kind has. -/
def kindL : Nat → List Tk
  | 1 => [tk_loan, tk_amount, tk_rate, tk_sub]
  | 2 => [tk_loan, tk_status]
  | 3 => [tk_amount]
  | 4 => [tk_loan, tk_amount]
  | 5 => [tk_income, tk_plan]
  | 7 => [tk_loan]
  | 8 => [tk_loan]
  | _ => []
theorem kind_takes : ∀ (n : Nat), ∀ k ∈ kindL n, Takes k := by
  intro n k hk
  match n, hk with
  | 0, hk | 6, hk | n + 9, hk => exact absurd hk (List.not_mem_nil)
  | 1, hk =>
    simp only [kindL, List.mem_cons, List.not_mem_nil, or_false] at hk
    rcases hk with rfl | rfl | rfl | rfl
    · exact takes_loan
    · exact takes_amount
    · exact takes_rate
    · exact takes_sub
  | 2, hk =>
    simp only [kindL, List.mem_cons, List.not_mem_nil, or_false] at hk
    rcases hk with rfl | rfl
    · exact takes_loan
    · exact takes_status
  | 3, hk =>
    simp only [kindL, List.mem_cons, List.not_mem_nil, or_false] at hk
    exact hk ▸ takes_amount
  | 4, hk =>
    simp only [kindL, List.mem_cons, List.not_mem_nil, or_false] at hk
    rcases hk with rfl | rfl
    · exact takes_loan
    · exact takes_amount
  | 5, hk =>
    simp only [kindL, List.mem_cons, List.not_mem_nil, or_false] at hk
    rcases hk with rfl | rfl
    · exact takes_income
    · exact takes_plan
  | 7, hk | 8, hk =>
    simp only [kindL, List.mem_cons, List.not_mem_nil, or_false] at hk
    exact hk ▸ takes_loan
end Go.Proofs.Ytcmdonckilajjaa.Event
namespace Go.Proofs.Ytcmdonckilajjaa.Event
open Go.ChangeShapes Go.WideShapes Go.ChangeAt Go.RowKit Fl Date Cal Pack

theorem o_load {P : Program} {ops : Array Oper} {rest : List Oper} {o : Oper} {a : Act} {w : World} {Q : Exit → Act → World → Prop} (hw : Region.wanted o (yielded ops a.tmps) = true) (ty : TypeId) (x : Operand) (ho : o.op = .load ty x)
    (g : Nat) (hx : a.eval x = .pointer (some ⟨g, 0, none⟩)) (t : TypeId) (cs : Array Value) (d : TypeDesc) (hg : Boxd w g cs t)
    (hu : P.underlying ty = some d) (hd : (match d with | .struct _ | .array _ _ => true | _ => false) = true) (hi : (P.info? ty).map (·.size) = some cs.size)
    (h : wpList P ops Q rest (a.put o.dst (.agg cs)) w) : wpList P ops Q (o :: rest) a w :=
  BigFrame.wpList_want hw fun _ hK => wp_load_row ty x ho g hx t cs (0, 0) d hg hu hd hi (hK _ _ h)
theorem o_store {P : Program} {ops : Array Oper} {rest : List Oper} {o : Oper} {a : Act} {w : World} {Q : Exit → Act → World → Prop} (hgd : o.guard = none) (ty : TypeId) (x y : Operand) (ho : o.op = .store ty x y) (hd : o.dst = none)
    (g : Nat) (cells : Array Value) (hx : a.eval x = .pointer (some ⟨g, 0, none⟩)) (hy : a.eval y = .agg cells)
    (t : TypeId) (old : Array Value) (hg : w.heap[g]? = some (.cells old t (0, 0))) (hi : (P.info? ty).map (·.size) = some cells.size)
    (hold : old.size = cells.size) (h1 : cells.all (·.oneCell') = true)
    (h : wpList P ops Q rest a (w.setRow g cells)) : wpList P ops Q (o :: rest) a w :=
  wpList_store_row hgd ty x y ho g cells hx hy t old hg hi hold h1 (by rw [hd]; exact h)
theorem boxd_row {w : World} {g : Nat} {C D : Array Value} {T : TypeId} (h : Boxd w g C T) : Boxd (w.setRow g D) g D T := setRow_heap _ _ _ _ _ _ h
theorem below_row {B : Nat} {w w' : World} {g : Nat} (h : Below B w w') (hg : B ≤ g) (D : Array Value) : Below B w (w'.setRow g D) :=
  ⟨h.os, h.tape, h.output, by simpa using h.size, fun i hi => (setRow_other _ _ _ _ (by omega)).trans (h.block i hi)⟩
/-- The array of closures. -/
def arrK (b : Nat → Nat) : Array Value := #[.nilFunc, .func (.func 76) #[] #[.pointer (some ⟨b 1, 0, none⟩)], .func (.func 76) #[] #[.pointer (some ⟨b 2, 0, none⟩)],
  .func (.func 76) #[] #[.pointer (some ⟨b 3, 0, none⟩)], .func (.func 76) #[] #[.pointer (some ⟨b 4, 0, none⟩)], .func (.func 76) #[] #[.pointer (some ⟨b 5, 0, none⟩)],
  .func (.func 76) #[] #[.pointer (some ⟨b 6, 0, none⟩)], .func (.func 76) #[] #[.pointer (some ⟨b 7, 0, none⟩)], .func (.func 76) #[] #[.pointer (some ⟨b 8, 0, none⟩)]]
theorem arrK_info (b : Nat → Nat) : (Try.prog.info? 76).map (·.size) = some (arrK b).size := by
  show _ = some 9
  kernel_rfl
def nils : Array Value := #[.nilFunc, .nilFunc, .nilFunc, .nilFunc, .nilFunc, .nilFunc, .nilFunc, .nilFunc, .nilFunc]
theorem nine_info (C : Array Value) (h : C.size = 9) : (Try.prog.info? 76).map (·.size) = some C.size := by
  rw [h]
  kernel_rfl
theorem only_row (w : World) (g : Nat) (D : Array Value) : Only (fun i => i = g) w (w.setRow g D) := ⟨rfl, rfl, rfl, by simp, fun i _ hf => setRow_other _ _ _ _ hf⟩
theorem Keeps.only {n g : Nat} {w w' : World} {b : Nat} {l : List Tk} (h : Keeps n w b l) (ho : Only (fun i => i = g) w w') (hg : g < n) : Keeps n w' b l := by
  obtain ⟨P, h2, h3, h4⟩ := h
  refine ⟨P, h2, (only_cell ho (World.block_lt_of_cell? _ _ h3) (by show ¬ b = g; omega)).trans h3, fun i hi => ?_⟩
  obtain ⟨a, q1, q2, q3⟩ := h4 i hi
  exact ⟨a, q1, q2, (only_cell ho (World.block_lt_of_cell? _ _ q3) (by show ¬ a = g; omega)).trans q3⟩
/-- What has been kept so far. -/
def Kept (w y : World) (ps : List (Nat × List Tk)) : Prop := Below w.heap.size w y ∧ Boxd y w.heap.size nils 76 ∧ ∀ p ∈ ps, Keeps (w.heap.size + 1) y p.1 p.2
theorem Kept.next {w y y' : World} {ps : List (Nat × List Tk)} {b : Nat} {l : List Tk} (h : Kept w y ps) (hk : Keeps y.heap.size y' b l) (hb : Below y.heap.size y y') : Kept w y' ((b, l) :: ps) := by
  refine ⟨h.1.trans (hb.mono h.1.size), h.2.1.below hb, fun p hp => ?_⟩
  rcases List.mem_cons.1 hp with rfl | hp
  · exact hk.low (World.block_lt_of_cell? _ _ (show y.cell? ⟨w.heap.size, 0, none⟩ = some .nilFunc from h.2.1.cell))
  · exact (h.2.2 p hp).below hb
set_option maxRecDepth 20000 in
set_option maxHeartbeats 1000000 in
theorem o_kinds (w : World) :
    Calls Try.prog 35 #[] w fun x w' => ∃ b : Nat → Nat, x = .returned (.agg (arrK b)) ∧ Below w.heap.size w w' ∧ ∀ i, 1 ≤ i → i ≤ 8 → Keeps (w.heap.size + 1) w' (b i) (kindL i) := by
  go_enter Try.func35, Try.ntmps35
  go_upto_region 1 with fail
  have HR := Lib.hid (heap_alloc_last w (.cells #[.nilFunc, .nilFunc, .nilFunc, .nilFunc, .nilFunc, .nilFunc, .nilFunc, .nilFunc, .nilFunc] 76))
  have HB := Lib.hid (below_one w (.cells #[.nilFunc, .nilFunc, .nilFunc, .nilFunc, .nilFunc, .nilFunc, .nilFunc, .nilFunc, .nilFunc] 76))
  generalize w.alloc (.cells #[.nilFunc, .nilFunc, .nilFunc, .nilFunc, .nilFunc, .nilFunc, .nilFunc, .nilFunc, .nilFunc] 76) = y at *
  have A0 : Hid (∀ W : World, Calls Try.prog 57 #[.slice (some ⟨W.heap.size, 0, none⟩) 4 4] (W.alloc (.cells #[.func (.func 58) #[] #[], .func (.func 59) #[] #[], .func (.func 60) #[] #[], .func (.func 61) #[] #[]] 75)) fun x w' => ∃ b, x = .returned (.func (.func 76) #[] #[.pointer (some ⟨b, 0, none⟩)]) ∧ Keeps W.heap.size w' b [tk_loan, tk_amount, tk_rate, tk_sub] ∧ Below W.heap.size W w') :=
    fun W => all_fns [tk_loan, tk_amount, tk_rate, tk_sub] _ 4 W rfl rfl
  have A1 : Hid (∀ W : World, Calls Try.prog 57 #[.slice (some ⟨W.heap.size, 0, none⟩) 2 2] (W.alloc (.cells #[.func (.func 58) #[] #[], .func (.func 62) #[] #[]] 75)) fun x w' => ∃ b, x = .returned (.func (.func 76) #[] #[.pointer (some ⟨b, 0, none⟩)]) ∧ Keeps W.heap.size w' b [tk_loan, tk_status] ∧ Below W.heap.size W w') :=
    fun W => all_fns [tk_loan, tk_status] _ 2 W rfl rfl
  have A2 : Hid (∀ W : World, Calls Try.prog 57 #[.slice (some ⟨W.heap.size, 0, none⟩) 2 2] (W.alloc (.cells #[.func (.func 58) #[] #[], .func (.func 59) #[] #[]] 75)) fun x w' => ∃ b, x = .returned (.func (.func 76) #[] #[.pointer (some ⟨b, 0, none⟩)]) ∧ Keeps W.heap.size w' b [tk_loan, tk_amount] ∧ Below W.heap.size W w') :=
    fun W => all_fns [tk_loan, tk_amount] _ 2 W rfl rfl
  have A3 : Hid (∀ W : World, Calls Try.prog 57 #[.slice (some ⟨W.heap.size, 0, none⟩) 2 2] (W.alloc (.cells #[.func (.func 63) #[] #[], .func (.func 64) #[] #[]] 75)) fun x w' => ∃ b, x = .returned (.func (.func 76) #[] #[.pointer (some ⟨b, 0, none⟩)]) ∧ Keeps W.heap.size w' b [tk_income, tk_plan] ∧ Below W.heap.size W w') :=
    fun W => all_fns [tk_income, tk_plan] _ 2 W rfl rfl
  have A4 : Hid (∀ W : World, Calls Try.prog 57 #[.slice (some ⟨W.heap.size, 0, none⟩) 1 1] (W.alloc (.cells #[.func (.func 59) #[] #[]] 75)) fun x w' => ∃ b, x = .returned (.func (.func 76) #[] #[.pointer (some ⟨b, 0, none⟩)]) ∧ Keeps W.heap.size w' b [tk_amount] ∧ Below W.heap.size W w') :=
    fun W => all_fns [tk_amount] _ 1 W rfl rfl
  have A5 : Hid (∀ W : World, Calls Try.prog 57 #[.slice (some ⟨W.heap.size, 0, none⟩) 1 1] (W.alloc (.cells #[.func (.func 58) #[] #[]] 75)) fun x w' => ∃ b, x = .returned (.func (.func 76) #[] #[.pointer (some ⟨b, 0, none⟩)]) ∧ Keeps W.heap.size w' b [tk_loan] ∧ Below W.heap.size W w') :=
    fun W => all_fns [tk_loan] _ 1 W rfl rfl
  have HK : Hid (Kept w y []) := show Kept _ _ _ from ⟨HB.out, HR.out, fun p hp => absurd hp List.not_mem_nil⟩
  clear HB HR
  have HI : Hid (∀ C : Array Value, C.size = 9 → (Try.prog.info? 76).map (·.size) = some C.size) := nine_info
  go_wp2_with (first
    | (go_at_call 57
       with_reducible refine (A0.out _).mono ?_
       rintro x y' ⟨b, rfl, hk, hb⟩
       replace HK := Lib.hid (HK.out.next hk hb)
       clear hk hb)
    | (go_at_call 57
       with_reducible refine (A1.out _).mono ?_
       rintro x y' ⟨b, rfl, hk, hb⟩
       replace HK := Lib.hid (HK.out.next hk hb)
       clear hk hb)
    | (go_at_call 57
       with_reducible refine (A2.out _).mono ?_
       rintro x y' ⟨b, rfl, hk, hb⟩
       replace HK := Lib.hid (HK.out.next hk hb)
       clear hk hb)
    | (go_at_call 57
       with_reducible refine (A3.out _).mono ?_
       rintro x y' ⟨b, rfl, hk, hb⟩
       replace HK := Lib.hid (HK.out.next hk hb)
       clear hk hb)
    | (go_at_call 57
       with_reducible refine (A4.out _).mono ?_
       rintro x y' ⟨b, rfl, hk, hb⟩
       replace HK := Lib.hid (HK.out.next hk hb)
       clear hk hb)
    | (go_at_call 57
       with_reducible refine (A5.out _).mono ?_
       rintro x y' ⟨b, rfl, hk, hb⟩
       replace HK := Lib.hid (HK.out.next hk hb)
       clear hk hb)
    | (go_at_call 57
       with_reducible refine (all_none _).mono ?_
       rintro x y' ⟨b, rfl, hk, hb⟩
       replace HK := Lib.hid (HK.out.next hk hb)
       clear hk hb)
    | (refine o_store rfl 76 _ _ rfl rfl _ _ rfl rfl _ _ HK.out.2.1 (HI.out _ (by rfl)) (by rfl) (by simp [Value.oneCell']) ?_))
  rename_i y1 b1 y2 b2 y3 b3 y4 b4 y5 b5 y6 b6 y7 b7
  refine bodyPost_ret (results_cell_row rfl _ _ _ _ _ _ _ rfl (boxd_row (D := arrK fun i => [0, b1, b2, b3, b4, b5, b6, b7, b].getD i 0) HK.out.2.1) Try.underlying76 rfl (arrK_info _)) rfl ?_
  refine ⟨fun i => [0, b1, b2, b3, b4, b5, b6, b7, b].getD i 0, rfl, below_row HK.out.1 (Nat.le_refl _) _, fun i h1 h8 => ?_⟩
  have K := HK.out.2.2
  have R : ∀ {c l}, Keeps (w.heap.size + 1) y' c l → Keeps (w.heap.size + 1) (y'.setRow w.heap.size (arrK fun i => [0, b1, b2, b3, b4, b5, b6, b7, b].getD i 0)) c l := fun {c l} h => h.only (only_row _ _ _) (Nat.lt_succ_self _)
  match i, h1, h8 with
  | 1, _, _ => exact R (K (b1, _) (by simp))
  | 2, _, _ => exact R (K (b2, _) (by simp))
  | 3, _, _ => exact R (K (b3, _) (by simp))
  | 4, _, _ => exact R (K (b4, _) (by simp))
  | 5, _, _ => exact R (K (b5, _) (by simp))
  | 6, _, _ => exact R (K (b6, _) (by simp))
  | 7, _, _ => exact R (K (b7, _) (by simp))
  | 8, _, _ => exact R (K (b, _) (by simp))
theorem bits_info (a b : Int) : (Try.prog.info? 87).map (·.size) = some (#[Value.int .u64 a, Value.int .u64 b] : Array Value).size := by
  show _ = some 2
  kernel_rfl
theorem below_drawn {B : Nat} {a w : World} (h : Below B a w) : Below B a w.drew := ⟨h.os, h.tape, h.output, h.size, h.block⟩
set_option maxRecDepth 20000 in
theorem o_bits (e : Ev) (w : World) : Calls Try.prog 44 #[.agg e.cells] w fun x w' => x = .returned (.agg #[.int .u64 (e.rate : Nat), .int .u64 (e.income : Nat)]) ∧ Below w.heap.size w w' := by
  obtain ⟨g, wb, e1, e2, hB, hb⟩ := boxd_new w e.cells 25
  have c5 : wb.cell? ⟨g, 5, none⟩ = some (.float .f64 e.rate) := hB.cell
  have c6 : wb.cell? ⟨g, 6, none⟩ = some (.float .f64 e.income) := hB.cell
  have HW := Lib.hid hb
  clear hB hb
  generalize e.cells = C at *
  generalize e.rate = r at *
  generalize e.income = n at *
  obtain ⟨g2, wc, e3, e4, hB2, hb2⟩ := boxd_new wb #[.int .u64 0, .int .u64 0] 87
  have e5 : g2 = g + 1 := by rw [e3, e2, Deep.nblk_alloc, e1]
  have c5 := (hb2.cell (p := ⟨g, 5, none⟩) (World.block_lt_of_cell? _ _ c5)).trans c5
  have c6 := (hb2.cell (p := ⟨g, 6, none⟩) (World.block_lt_of_cell? _ _ c6)).trans c6
  have HB2 := Lib.hid hB2
  have HW2 := Lib.hid (HW.out.trans (hb2.mono HW.out.size))
  have HI := Lib.hid (bits_info r n)
  clear hB2 hb2 HW
  go_enter Try.func44, Try.ntmps44
  go_upto_region 1 with fail
  rw [← e2, ← e1, ← e5, ← e4]
  have E5 : Hid (w.heap.size ≤ g2) := show _ ≤ _ by omega
  have NE : Hid (¬ g = g2) := show ¬ _ by omega
  clear e1 e2 e3 e4 e5
  refine wp_region_held_drew (S := (fun w' => w'.cell? ⟨g, 5, none⟩ = some (.float .f64 r) ∧ w'.cell? ⟨g, 6, none⟩ = some (.float .f64 n))) (by kernel_rfl) ⟨c5, c6⟩ (fun hHeld => ?_)
  refine ByHand.take_yes (v := ?_) 0 3 rfl rfl (by kernel_rfl) (by kernel_rfl) (by kernel_rfl) (fun _ _ _ h => h) (by rfl) ?_ (by assumption) ?_
  rotate_left
  · intro w' hSw
    (try dsimp only at hSw)
    go_simp
    all_goals with_reducible rfl
  (try simp only [Act.put, List.setIfInBounds_toArray, List.set_cons_zero, List.set_cons_succ])
  refine ByHand.take_yes (v := ?_) 1 4 rfl rfl (by kernel_rfl) (by kernel_rfl) (by kernel_rfl) (fun _ _ _ h => h) (by rfl) ?_ (by assumption) ?_
  rotate_left
  · intro w' hSw
    (try dsimp only at hSw)
    go_simp
    all_goals with_reducible rfl
  (try simp only [Act.put, List.setIfInBounds_toArray, List.set_cons_zero, List.set_cons_succ])
  refine ByHand.take_yes (v := ?_) 3 6 rfl rfl (by kernel_rfl) (by kernel_rfl) (by kernel_rfl) (fun _ _ _ h => h) (by rfl) ?_ (by assumption) ?_
  rotate_left
  · intro w' hSw
    (try dsimp only at hSw)
    go_simp
    all_goals with_reducible rfl
  (try simp only [Act.put, List.setIfInBounds_toArray, List.set_cons_zero, List.set_cons_succ])
  refine ByHand.take_yes (v := ?_) 4 7 rfl rfl (by kernel_rfl) (by kernel_rfl) (by kernel_rfl) (fun _ _ _ h => h) (by rfl) ?_ (by assumption) ?_
  rotate_left
  · intro w' hSw
    (try dsimp only at hSw)
    go_simp
    all_goals with_reducible rfl
  (try simp only [Act.put, List.setIfInBounds_toArray, List.set_cons_zero, List.set_cons_succ])
  refine ByHand.take_yes (v := ?_) 2 5 rfl rfl (by kernel_rfl) (by kernel_rfl) (by kernel_rfl) (fun _ _ _ h => h) (by rfl) ?_ (by assumption) ?_
  rotate_left
  · intro w' hSw
    (try dsimp only at hSw)
    go_simp
    all_goals with_reducible rfl
  (try simp only [Act.put, List.setIfInBounds_toArray, List.set_cons_zero, List.set_cons_succ])
  refine ByHand.take_yes (v := ?_) 5 8 rfl rfl (by kernel_rfl) (by kernel_rfl) (by kernel_rfl) (fun _ _ _ h => h) (by rfl) ?_ (by assumption) ?_
  rotate_left
  · intro w' hSw
    (try dsimp only at hSw)
    go_simp
    all_goals with_reducible rfl
  (try simp only [Act.put, List.setIfInBounds_toArray, List.set_cons_zero, List.set_cons_succ])
  refine ByHand.take_yes (v := ?_) 6 9 rfl rfl (by kernel_rfl) (by kernel_rfl) (by kernel_rfl) (fun _ _ _ h => h) (by rfl) ?_ (by assumption) ?_
  rotate_left
  · intro w' hSw
    (try dsimp only at hSw)
    go_simp
    all_goals with_reducible rfl
  (try simp only [Act.put, List.setIfInBounds_toArray, List.set_cons_zero, List.set_cons_succ])
  refine wpAnyH_ready (rs := [7]) (by kernel_rfl) (by simp) (AllReadyH.cons rfl (fun K hK => ?_) AllReadyH.nil)
  rw [if_pos (by rfl)]
  refine wp_store_row 87 _ _ rfl g2 #[.int .u64 (r : Nat), .int .u64 (n : Nat)] rfl rfl 87 #[.int .u64 0, .int .u64 0] HB2.out HI.out rfl (by simp [Value.oneCell']) ?_
  refine hK.out _ _ ?_ (fun hHeld => ?_)
  · exact ⟨(only_cell (only_row wc.drew g2 _) (World.block_lt_of_cell? _ _ c5) NE.out).trans c5, (only_cell (only_row wc.drew g2 _) (World.block_lt_of_cell? _ _ c6) NE.out).trans c6⟩
  clear hK K
  (try simp only [Act.put, List.setIfInBounds_toArray])
  refine wpAnyH_done (by kernel_rfl) ?_ _
  go_wp2_with fail
  refine bodyPost_ret (results_cell_row rfl _ _ _ _ _ _ _ rfl (boxd_row (w := wc.drew) (D := #[.int .u64 (r : Nat), .int .u64 (n : Nat)]) HB2.out) Try.underlying87 rfl HI.out) rfl ?_
  exact ⟨rfl, below_row (w' := wc.drew) (below_drawn HW2.out) E5.out _⟩
end Go.Proofs.Ytcmdonckilajjaa.Event
namespace Go.Proofs.Ytcmdonckilajjaa.Event
open Go.ChangeShapes Go.WideShapes Go.ChangeAt Go.RowKit Fl Date Cal Pack

attribute [local go_sem] run_store_fl
theorem u64_one : Try.prog.cellsOf 69 = 1 := by kernel_rfl
theorem u64_some : (Try.prog.info? 69).isSome = true := by kernel_rfl
theorem neq_bits (a b c d : Nat) (w : World) : (binOp .neq 87 (.agg #[.int .u64 (a : Nat), .int .u64 (b : Nat)]) (.agg #[.int .u64 (c : Nat), .int .u64 (d : Nat)])).run Try.prog w = .ok (.bool (!(decide (a = c) && decide (b = d)))) w := by
  obtain ⟨i, hi⟩ := Option.isSome_iff_exists.1 u64_some
  rw [run_neq_struct, run_equalIn_array w 9999 _ _ Try.underlying87 hi, u64_one]
  by_cases h1 : a = c <;> by_cases h2 : b = d <;> simp [go_sem, Op.eqItems, List.range_succ, h1, h2] <;> omega
theorem equalIn_zero (d : Nat) (w : World) : (Op.equalIn (d + 1) 23 (.float .f64 0) (.float .f64 0)).run Try.prog w = .ok true w := by
  have h : Op.floatEq .f64 0 0 = true := by decide
  simp [Op.equalIn, run_underlying Try.underlying23, h]
theorem eql_events (e f : Ev) (w : World) : (binOp .eql 25 (.agg ({ e with rate := 0, income := 0 } : Ev).cells) (.agg ({ f with rate := 0, income := 0 } : Ev).cells)).run Try.prog w = .ok (.bool (eqE { e with rate := 0, income := 0 } { f with rate := 0, income := 0 })) w := by
  have hk : ((e.key : Int) = (f.key : Int)) ↔ e.key = f.key := Int.ofNat_inj
  unfold eqE
  simp only [Ev.cells]
  simp [go_sem, equalIn_zero]
  split
  · split
    · split
      · split
        · split
          · split
            · split
              · split
                · split <;> simp_all
                · simp_all
              · simp_all
            · simp_all
          · simp_all
        · simp_all
      · simp_all
    · simp_all
  · simp_all
theorem o_row {P : Program} {ops : Array Oper} {Q : Exit → Act → World → Prop} {md : Region.Mode} {S : World → Prop} {oi : Oper} {fuel : Nat} {listed : Array Bool} {a : Act} {w : World}
    (i k : Nat) (hi : ops[i]? = some oi) (hd : oi.dst = some k) (hs : Region.noSelect ops = true) (hf : Region.free md ops listed i = true) (hr : (Region.ready md ops listed).contains i = true)
    (T : TypeId) (x : Operand) (ho : oi.op = .load T x) (g : Nat) (hx : a.eval x = .pointer (some ⟨g, 0, none⟩)) (C : Array Value) (d : TypeDesc) (hu : P.underlying T = some d) (ht : (match d with | .struct _ | .array _ _ => true | _ => false) = true) (hz : (P.info? T).map (·.size) = some C.size)
    (hB : ∀ w, S w → Boxd w g C T)
    (hQ : ∀ c a w, Q (.panic c) (a.put oi.dst (.agg C)) w → Q (.panic c) a w) (hw : Region.wanted oi (yielded ops a.tmps) = true) (hS : S w)
    (h : wpAnyH P md ops Q S fuel (listed.setIfInBounds i true) (a.put (some k) (.agg C)) w) : wpAnyH P md ops Q S (fuel + 1) listed a w :=
  ByHand.take_yes (v := .agg C) i k hi hd hs hf hr hQ hw (fun W hW => by
    unfold execOp
    simp only [ho, hx, Instr.loadAt, Instr.sureAddr, Sem.run_bind, Sem.run_pure, Result.andThen_ok, run_loadVar_row W g T T C (0, 0) d (hB W hW) hu ht hz]) hS h
theorem o_held {P : Program} {f : FuncId} {args : Array Value} {v : Value} {A B : Array Value} {T1 T2 : TypeId} {w W : World} {g1 g2 : Nat}
    (hS : Boxd W g1 A T1 ∧ Boxd W g2 B T2 ∧ Below w.heap.size w W) (hc : Calls P f args W fun e w' => e = .returned v ∧ Below W.heap.size W w') :
    Calls P f args W fun e w' => e = .returned v ∧ (Boxd w' g1 A T1 ∧ Boxd w' g2 B T2 ∧ Below w.heap.size w w') :=
  hc.mono fun _ _ ⟨he, hb⟩ => ⟨he, hS.1.below hb, hS.2.1.below hb, hS.2.2.trans (hb.mono hS.2.2.size)⟩
theorem below_only {B g : Nat} {w w1 w2 : World} (h : Below B w w1) (ho : Only (fun i => i = g) w1 w2) (hB : B ≤ g) (hs : B ≤ w1.heap.size) : Below B w w2 :=
  ⟨ho.os.trans h.os, ho.tape.trans h.tape, ho.output.trans h.output, Nat.le_trans h.size ho.size, fun i hi => (ho.block i (by omega) (by show ¬ i = g; omega)).trans (h.block i hi)⟩
theorem boxd_only {g k : Nat} {w w' : World} {C : Array Value} {T : TypeId} (h : Boxd w k C T) (ho : Only (fun i => i = g) w w') (hk : ¬ k = g) : Boxd w' k C T := by
  have hlt : k < w.heap.size := by
    rcases Nat.lt_or_ge k w.heap.size with hlt | hge
    · exact hlt
    · unfold Boxd at h; rw [Array.getElem?_eq_none hge] at h; cases h
  exact (ho.block k hlt hk).trans h
theorem f64_one : (Try.prog.info? 23).map (·.size) = some 1 := by kernel_rfl
/-- Two boxes behind all. -/
def Pair (w : World) (g g2 : Nat) (y : World) (C D : Array Value) : Prop := Boxd y g C 25 ∧ Boxd y g2 D 25 ∧ Below w.heap.size w y
theorem Pair.left {w y y' : World} {g g2 : Nat} {C C' D : Array Value} (h : Pair w g g2 y C D) (hA : Boxd y' g C' 25) (ho : Only (fun i => i = g) y y') (ne : ¬ g = g2) (hg : w.heap.size ≤ g) : Pair w g g2 y' C' D :=
  ⟨hA, boxd_only h.2.1 ho (fun e => ne e.symm), below_only h.2.2 ho hg h.2.2.size⟩
theorem Pair.right {w y y' : World} {g g2 : Nat} {C D D' : Array Value} (h : Pair w g g2 y C D) (hA : Boxd y' g2 D' 25) (ho : Only (fun i => i = g2) y y') (ne : ¬ g = g2) (hg : w.heap.size ≤ g2) : Pair w g g2 y' C D' :=
  ⟨boxd_only h.1 ho ne, hA, below_only h.2.2 ho hg h.2.2.size⟩
theorem run_put {P : Program} (w : World) (g i : Nat) (T ty : TypeId) (C : Array Value) (v : Value) (hB : Boxd w g C T) (hi : i < C.size) (hz : (P.info? ty).map (·.size) = some 1)
    (h1 : v.oneCell' = true) : (storeVar ty ⟨g, i, none⟩ v).run P w = .ok () (w.setCell ⟨g, i, none⟩ v) := by
  have hc : v.cells = #[v] := by cases v <;> first | rfl | cases h1
  have c0 : w.cell? ⟨g, i, none⟩ = some C[i] := by rw [hB.cell, Array.getElem?_eq_getElem hi]
  have f0 := boxd_free (i := i) hB
  have e0 : (⟨g, i, none⟩ : Addr).add 0 = ⟨g, i, none⟩ := rfl
  cases hq : P.info? ty with
  | none => simp [hq] at hz
  | some q =>
    have hs : q.size = 1 := by simpa [hq] using hz
    simp [storeVar, sizeOf, typeInfo, hq, hc, hs, storeCells, run_store P w _ v _ h1, e0, c0, f0]
theorem o_put {P : Program} {ops : Array Oper} {rest : List Oper} {o : Oper} {a : Act} {w : World} {Q : Exit → Act → World → Prop} (hgd : o.guard = none) (ty : TypeId) (x y : Operand) (ho : o.op = .store ty x y) (hd : o.dst = none)
    (g i : Nat) (v : Value) (hx : a.eval x = .pointer (some ⟨g, i, none⟩)) (hy : a.eval y = v) (h1 : v.oneCell' = true) (T : TypeId) (C : Array Value) (hB : Boxd w g C T) (hi : i < C.size) (hz : (P.info? ty).map (·.size) = some 1)
    (h : ∀ w', Boxd w' g (C.setIfInBounds i v) T → Only (fun j => j = g) w w' → wpList P ops Q rest a w') : wpList P ops Q (o :: rest) a w :=
  wpList_plain hgd fun _ hK => by
    unfold Oper.wp execOp
    simp only [ho, hx, hy, Instr.storeAt, Instr.sureAddr, Sem.run_bind, Sem.run_pure, Result.andThen_ok, run_put w g i T ty C v hB hi hz h1]
    exact hK _ _ (by rw [hd]; exact h _ (boxd_set hB rfl) (only_one w g i v))
set_option maxRecDepth 20000 in
set_option maxHeartbeats 1000000 in
theorem o_same (e f : Ev) (w : World) : Calls Try.prog 16 #[.agg e.cells, .agg f.cells] w fun x w' => x = .returned (.bool (eqE e f)) ∧ Below w.heap.size w w' := by
  have HA : Hid (∀ W, Calls Try.prog 44 #[.agg e.cells] W fun x w' => x = .returned (.agg #[.int .u64 (e.rate : Nat), .int .u64 (e.income : Nat)]) ∧ Below W.heap.size W w') := fun W => o_bits e W
  have HF : Hid (∀ W, Calls Try.prog 44 #[.agg f.cells] W fun x w' => x = .returned (.agg #[.int .u64 (f.rate : Nat), .int .u64 (f.income : Nat)]) ∧ Below W.heap.size W w') := fun W => o_bits f W
  have hne := neq_bits e.rate e.income f.rate f.income
  have heq := eql_events e f
  obtain ⟨g, wa, e1, e2, hA, ha⟩ := boxd_new w e.cells 25
  obtain ⟨g2, wb, e3, e4, hB, hb⟩ := boxd_new wa f.cells 25
  have HS := Lib.hid (ev_info e)
  have HS2 := Lib.hid (ev_info f)
  have HP : Hid ((e.cells[5]? = some (.float .f64 e.rate) ∧ e.cells[6]? = some (.float .f64 e.income)) ∧ f.cells[5]? = some (.float .f64 f.rate) ∧ f.cells[6]? = some (.float .f64 f.income)) := show _ ∧ _ from ⟨⟨rfl, rfl⟩, rfl, rfl⟩
  have HX : Hid (({ e with rate := 0, income := 0 } : Ev).cells = (e.cells.setIfInBounds 5 (.float .f64 0)).setIfInBounds 6 (.float .f64 0)) := show _ = _ from rfl
  have HY : Hid (({ f with rate := 0, income := 0 } : Ev).cells = (f.cells.setIfInBounds 5 (.float .f64 0)).setIfInBounds 6 (.float .f64 0)) := show _ = _ from rfl
  have HXS := Lib.hid (ev_info { e with rate := 0, income := 0 })
  have HYS := Lib.hid (ev_info { f with rate := 0, income := 0 })
  have HC : Hid (e.cells.size = 11 ∧ f.cells.size = 11) := show _ ∧ _ from ⟨rfl, rfl⟩
  have LG : Hid (w.heap.size ≤ g ∧ w.heap.size ≤ g2) := show _ ∧ _ by have := e3; rw [e2, Deep.nblk_alloc] at this; omega
  have NE : Hid (¬ g = g2) := show ¬ _ by have := e3; rw [e2, Deep.nblk_alloc] at this; omega
  have e5 : g2 = g + 1 := by rw [e3, e2, Deep.nblk_alloc, e1]
  have HQ : Hid (eqE e f = if (decide (e.rate = f.rate) && decide (e.income = f.income)) = true then eqE { e with rate := 0, income := 0 } { f with rate := 0, income := 0 } else false) := show _ = _ by
    unfold eqE
    by_cases h1 : e.rate = f.rate <;> by_cases h2 : e.income = f.income <;> simp [h1, h2]
  have hS0 : Boxd wb.drew g e.cells 25 ∧ Boxd wb.drew g2 f.cells 25 ∧ Below w.heap.size w wb.drew := ⟨(hA.below hb : Boxd wb g e.cells 25), hB, below_drawn (below_via ha hb)⟩
  clear hA hB ha hb
  rw [HX.out, HY.out] at heq
  rw [HX.out] at HXS
  rw [HY.out] at HYS
  clear HX HY
  generalize eqE { e with rate := 0, income := 0 } { f with rate := 0, income := 0 } = q at *
  generalize eqE e f = z at *
  generalize (decide (e.rate = f.rate) && decide (e.income = f.income)) = t at *
  generalize e.cells = C at *
  generalize f.cells = D at *
  go_enter Try.func16, Try.ntmps16
  go_upto_region 1 with fail
  rw [← e2, ← e1, ← e5, ← e4]
  clear e1 e2 e3 e4 e5
  refine wp_region_held_drew (S := (fun w' => Boxd w' g C 25 ∧ Boxd w' g2 D 25 ∧ Below w.heap.size w w')) (by kernel_rfl) hS0 (fun hHeld => ?_)
  refine o_row 0 5 rfl rfl (by kernel_rfl) (by kernel_rfl) (by kernel_rfl) 25 _ rfl g rfl C _ Try.underlying25 rfl HS.out (fun _ h => h.1) (fun _ _ _ h => h) (by rfl) (by assumption) ?_
  (try simp only [Act.put, List.setIfInBounds_toArray, List.set_cons_zero, List.set_cons_succ])
  refine o_row 2 7 rfl rfl (by kernel_rfl) (by kernel_rfl) (by kernel_rfl) 25 _ rfl g2 rfl D _ Try.underlying25 rfl HS2.out (fun _ h => h.2.1) (fun _ _ _ h => h) (by rfl) (by assumption) ?_
  (try simp only [Act.put, List.setIfInBounds_toArray, List.set_cons_zero, List.set_cons_succ])
  refine wpAnyH_ready (rs := [1]) (by kernel_rfl) (by simp) (AllReadyH.cons rfl (fun K hK => ?_) AllReadyH.nil)
  go_simp
  (go_at_call 44; with_reducible refine (o_held (by assumption) (HA.out _)).mono ?_; rintro e y5 ⟨rfl, hS1⟩)
  go_wp2_with fail
  refine hK.out _ _ ?_ (fun hHeld => ?_)
  · exact hS1
  clear hK K
  (try simp only [Act.put, List.setIfInBounds_toArray, List.set_cons_zero, List.set_cons_succ])
  refine wpAnyH_ready (rs := [3]) (by kernel_rfl) (by simp) (AllReadyH.cons rfl (fun K hK => ?_) AllReadyH.nil)
  go_simp
  (go_at_call 44; with_reducible refine (o_held (by assumption) (HF.out _)).mono ?_; rintro e y6 ⟨rfl, hS2⟩)
  go_wp2_with fail
  refine hK.out _ _ ?_ (fun hHeld => ?_)
  · exact hS2
  clear hK K
  (try simp only [Act.put, List.setIfInBounds_toArray, List.set_cons_zero, List.set_cons_succ])
  refine ByHand.take_yes (v := ?_) 4 9 rfl rfl (by kernel_rfl) (by kernel_rfl) (by kernel_rfl) (fun _ _ _ h => h) (by rfl) ?_ (by assumption) ?_
  rotate_left
  · intro w' hSw
    (try dsimp only at hSw)
    go_simp
    all_goals with_reducible rfl
  (try simp only [Act.put, List.setIfInBounds_toArray, List.set_cons_zero, List.set_cons_succ])
  refine wpAnyH_done (by kernel_rfl) ?_ _
  clear HA HF hHeld hS0 hS1
  cases t with
  | false =>
    go_wp2_with fail
    go_ret
    exact ⟨Date.ret_bool (by rw [HQ.out]; rfl), hS2.2.2⟩
  | true =>
    obtain ⟨hA, hB, hW⟩ := hS2
    have H1 := Lib.hid f64_one
    have HSZ := Lib.hid HC.out
    have ne := NE.out
    have ne' : ¬ g2 = g := fun e => NE.out e.symm
    have HST : Hid (Pair w g g2 y6 C D) := show Pair _ _ _ _ _ _ from ⟨hA, hB, hW⟩
    clear hA hB hW
    go_upto_region 3 with fail
    go_upto_region 4 with (first
      | (refine o_put rfl 23 _ _ rfl rfl g _ (.float .f64 0) rfl rfl rfl 25 _ HST.out.1 (by simp [HSZ.out.1]) H1.out (fun y hA ho => ?_)
         replace HST := Lib.hid (HST.out.left hA ho NE.out LG.out.1)
         clear hA ho)
      | (refine o_put rfl 23 _ _ rfl rfl g2 _ (.float .f64 0) rfl rfl rfl 25 _ HST.out.2.1 (by simp [HSZ.out.2]) H1.out (fun y hA ho => ?_)
         replace HST := Lib.hid (HST.out.right hA ho NE.out LG.out.2)
         clear hA ho))
    go_wp2_with (first
      | (refine o_load (by rfl) 25 _ rfl g rfl 25 _ _ HST.out.1 Try.underlying25 rfl HXS.out ?_)
      | (refine o_load (by rfl) 25 _ rfl g2 rfl 25 _ _ HST.out.2.1 Try.underlying25 rfl HYS.out ?_))
    go_ret
    exact ⟨Date.ret_bool (by rw [HQ.out]; rfl), HST.out.2.2⟩
set_option maxRecDepth 20000 in
/-- Is nothing in it? -/
theorem o_empty (e : Ev) (w : World) : Calls Try.prog 37 #[.agg e.cells] w fun x w' => x = .returned (.bool (eqE e ev0)) ∧ Below w.heap.size w w' := by
  have HC : Hid (∀ W, Calls Try.prog 16 #[.agg e.cells, .agg ev0.cells] W fun x w' => x = .returned (.bool (eqE e ev0)) ∧ Below W.heap.size W w') := fun W => o_same e ev0 W
  rw [ev0_cells] at HC
  obtain ⟨g, wb, e1, e2, hB, hb⟩ := boxd_new w e.cells 25
  have HS := Lib.hid (ev_info e)
  have HB := Lib.hid hB
  have HW := Lib.hid hb
  clear hB hb
  generalize eqE e ev0 = z at *
  generalize e.cells = C at *
  go_enter Try.func37, Try.ntmps37
  go_upto_region 1 with fail
  rw [← e2, ← e1]
  clear e1 e2
  go_wp2_with (first
    | (refine o_load (by rfl) 25 _ rfl _ rfl _ _ _ HB.out Try.underlying25 rfl HS.out ?_)
    | (go_at_call 16; with_reducible refine (HC.out _).mono ?_; rintro x y1 ⟨rfl, hb⟩; have HW1 := Lib.hid (below_via HW.out hb); clear hb))
  go_ret
  exact ⟨rfl, HW1.out⟩
end Go.Proofs.Ytcmdonckilajjaa.Event
namespace Go.Proofs.Ytcmdonckilajjaa.Event
open Go.ChangeShapes Go.WideShapes Go.ChangeAt Go.RowKit Fl Date Cal Pack

theorem good_tells (e : Ev) (k : Nat) (hk : e.kind = k) (h1 : 1 ≤ k) (h8 : k ≤ 8) (hd : dayB e.day = true) :
    goodE e = (allB (kindL k) e && eqE { allT (kindL k) e with kind := 0, day := 0, key := 0 } ev0) := by
  obtain ⟨kind, day, key, loan, amount, rate, income, sub, status, plan, family⟩ := e
  dsimp only at hk hd
  subst hk
  unfold goodE headB
  rw [hd, decide_eq_true (by dsimp only; omega), Bool.true_and, Bool.true_and]
  match k, h1, h8 with
  | 1, _, _ =>
    unfold fieldsB
    simp [onlyE, kindL, allB, allT, eqE, ev0, tk_loan, tk_amount, tk_rate, tk_sub]
    try ac_rfl
  | 2, _, _ =>
    unfold fieldsB
    simp [onlyE, kindL, allB, allT, eqE, ev0, tk_loan, tk_status]
    try ac_rfl
  | 3, _, _ =>
    unfold fieldsB
    simp [onlyE, kindL, allB, allT, eqE, ev0, tk_amount]
    try ac_rfl
  | 4, _, _ =>
    unfold fieldsB
    simp [onlyE, kindL, allB, allT, eqE, ev0, tk_loan, tk_amount]
    try ac_rfl
  | 5, _, _ =>
    unfold fieldsB
    by_cases hp : plan = 4
    · subst hp
      simp [onlyE, kindL, allB, allT, eqE, ev0, tk_income, tk_plan]
      try ac_rfl
    · simp [onlyE, kindL, allB, allT, eqE, ev0, tk_income, tk_plan, hp]
      try ac_rfl
  | 6, _, _ =>
    unfold fieldsB
    simp [onlyE, kindL, allB, allT, eqE, ev0]
    try ac_rfl
  | 7, _, _ =>
    unfold fieldsB
    simp [onlyE, kindL, allB, allT, eqE, ev0, tk_loan]
    try ac_rfl
  | 8, _, _ =>
    unfold fieldsB
    simp [onlyE, kindL, allB, allT, eqE, ev0, tk_loan]
    try ac_rfl
theorem arrK_at (b : Nat → Nat) (k : Nat) (h1 : 1 ≤ k) (h8 : k ≤ 8) : (arrK b)[k]? = some (.func (.func 76) #[] #[.pointer (some ⟨b k, 0, none⟩)]) := by
  match k, h1, h8 with
  | 1, _, _ | 2, _, _ | 3, _, _ | 4, _, _ | 5, _, _ | 6, _, _ | 7, _, _ | 8, _, _ => rfl
theorem arrK_one (b : Nat → Nat) : (arrK b).all (·.oneCell') = true := by simp [arrK, Value.oneCell']
theorem int_one : (Try.prog.info? 3).map (·.size) = some 1 := by kernel_rfl
theorem u32_one : (Try.prog.info? 22).map (·.size) = some 1 := by kernel_rfl
theorem kind_len (k : Nat) : (kindL k).length ≤ 4 := by
  match k with
  | 0 | 1 | 2 | 3 | 4 | 5 | 6 | 7 | 8 | n + 9 => simp [kindL]
/-- What stands when the closures are made. -/
structure Made9 (w y : World) (g ga : Nat) (b : Nat → Nat) (C : Array Value) : Prop where
  ev : Boxd y g C 25
  arr : Boxd y ga (arrK b) 76
  keeps : ∀ i, 1 ≤ i → i ≤ 8 → Keeps (g + 1) y (b i) (kindL i)
  low : w.heap.size ≤ g
  below : Below w.heap.size w y
theorem made9 {w wb y : World} {g : Nat} {b : Nat → Nat} {C : Array Value} (hB : Boxd wb g C 25) (hW : Below w.heap.size w wb) (hG : g < wb.heap.size ∧ w.heap.size ≤ g) (hY : Below wb.heap.size wb y)
    (hK : ∀ i, 1 ≤ i → i ≤ 8 → Keeps (wb.heap.size + 1) y (b i) (kindL i)) : Made9 w (y.alloc (.cells (arrK b) 76)) g y.heap.size b C :=
  ⟨(hB.below hY).below (below_one y _), heap_alloc_last _ _, fun i h1 h8 => ((hK i h1 h8).low (by omega)).below (below_one y _), hG.2, (hW.trans (hY.mono hW.size)).trans ((below_one y _).mono (hW.trans (hY.mono hW.size)).size)⟩
set_option maxRecDepth 20000 in
theorem o_good_no (e : Ev) (w : World) (h : dayB e.day = false ∨ e.kind < 1 ∨ 9 ≤ e.kind) :
    Calls Try.prog 13 #[.agg e.cells] w fun x w' => x = .returned (.bool false) ∧ Below w.heap.size w w' := by
  obtain ⟨g, wb, e1, e2, hB, hb⟩ := boxd_new w e.cells 25
  have HB := Lib.hid hB
  have HW := Lib.hid hb
  have HG : Hid (g < wb.heap.size ∧ w.heap.size ≤ g) := show _ ∧ _ by rw [e1, e2, Deep.nblk_alloc]; omega
  have HI : Hid (∀ b, (Try.prog.info? 76).map (·.size) = some (arrK b).size) := arrK_info
  have HO : Hid (∀ b, (arrK b).all (·.oneCell') = true) := arrK_one
  clear hB hb
  go_enter Try.func13, Try.ntmps13
  go_upto_region 1 with fail
  rw [← e2, ← e1]
  clear e1 e2
  go_upto_region 2 with (first
    | (go_at_call 35
       refine (o_kinds wb).mono ?_
       rintro x y ⟨b, rfl, hy, hk⟩
       have HY := Lib.hid hy
       have HK := Lib.hid hk
       clear hy hk)
    | (refine o_store rfl 76 _ _ rfl rfl _ _ rfl rfl _ _ (heap_alloc_last _ _) (HI.out b) (by rfl) (HO.out b) ?_; rw [World.setRow_alloc_new]))
  have MD : Hid (Made9 w (y.alloc (.cells (arrK b) 76)) g y.heap.size b e.cells) := show Made9 _ _ _ _ _ _ from made9 HB.out HW.out HG.out HY.out HK.out
  clear HB HW HG HI HO HY HK
  generalize y.alloc (.cells (arrK b) 76) = y2 at *
  generalize y.heap.size = ga at *
  have c0 : y2.cell? ⟨g, 0, none⟩ = some (.int .i64 e.kind) := MD.out.ev.cell
  have c1 : y2.cell? ⟨g, 1, none⟩ = some (.int .i64 e.day) := MD.out.ev.cell
  have hcc : ∀ W, Calls Try.prog 36 #[.int .i64 e.day] W fun x w' => x = .returned (.bool (dayB e.day)) ∧ W = w' := fun W => o_day e.day W
  have HD := Lib.hid hcc
  clear hcc
  generalize e.kind = k at *
  generalize e.day = d at *
  generalize e.cells = C at *
  by_cases hd : dayB d = false
  · rw [hd] at HD
    clear h hd
    go_wp2_with (go_at_call 36; refine (HD.out _).mono ?_; rintro x w' ⟨rfl, rfl⟩)
    go_ret
    exact ⟨rfl, MD.out.below⟩
  · rw [show dayB d = true by cases hq : dayB d; exact absurd hq hd; rfl] at HD
    by_cases h1 : k < 1
    · have t1 : decide (k < 1) = true := decide_eq_true h1
      clear h hd
      go_wp2_with (go_at_call 36; refine (HD.out _).mono ?_; rintro x w' ⟨rfl, rfl⟩)
      go_ret
      exact ⟨rfl, MD.out.below⟩
    · have t1 : decide (k < 1) = false := decide_eq_false h1
      have h9 : 9 ≤ k := by rcases h with h | h | h; exact absurd h hd; exact absurd h h1; exact h
      have t2 : decide (9 ≤ k) = true := decide_eq_true h9
      clear h hd
      go_wp2_with (go_at_call 36; refine (HD.out _).mono ?_; rintro x w' ⟨rfl, rfl⟩)
      go_ret
      exact ⟨rfl, MD.out.below⟩
set_option maxRecDepth 20000 in
set_option maxHeartbeats 1000000 in
theorem o_good_kind (e : Ev) (k : Nat) (w : World) (hf : e.Fit) (hk : e.kind = k) (h1 : 1 ≤ k) (h8 : k ≤ 8) (hd : dayB e.day = true) :
    Calls Try.prog 13 #[.agg e.cells] w fun x w' => x = .returned (.bool (goodE e)) ∧ Below w.heap.size w w' := by
  obtain ⟨g, wb, e1, e2, hB, hb⟩ := boxd_new w e.cells 25
  have HB := Lib.hid hB
  have HW := Lib.hid hb
  have HG : Hid (g < wb.heap.size ∧ w.heap.size ≤ g) := show _ ∧ _ by rw [e1, e2, Deep.nblk_alloc]; omega
  have HI : Hid (∀ b, (Try.prog.info? 76).map (·.size) = some (arrK b).size) := arrK_info
  have HO : Hid (∀ b, (arrK b).all (·.oneCell') = true) := arrK_one
  clear hB hb
  go_enter Try.func13, Try.ntmps13
  go_upto_region 1 with fail
  rw [← e2, ← e1]
  clear e1 e2
  go_upto_region 2 with (first
    | (go_at_call 35
       refine (o_kinds wb).mono ?_
       rintro x y ⟨b, rfl, hy, hk⟩
       have HY := Lib.hid hy
       have HK := Lib.hid hk
       clear hy hk)
    | (refine o_store rfl 76 _ _ rfl rfl _ _ rfl rfl _ _ (heap_alloc_last _ _) (HI.out b) (by rfl) (HO.out b) ?_; rw [World.setRow_alloc_new]))
  have MD : Hid (Made9 w (y.alloc (.cells (arrK b) 76)) g y.heap.size b e.cells) := show Made9 _ _ _ _ _ _ from made9 HB.out HW.out HG.out HY.out HK.out
  clear HB HW HG HI HO HY HK
  generalize y.alloc (.cells (arrK b) 76) = y2 at *
  generalize y.heap.size = ga at *
  have c0 : y2.cell? ⟨g, 0, none⟩ = some (.int .i64 (k : Int)) := by rw [MD.out.ev.cell, ← hk]; rfl
  have c1 : y2.cell? ⟨g, 1, none⟩ = some (.int .i64 e.day) := MD.out.ev.cell
  have ca : y2.cell? ⟨ga, k, none⟩ = some (.func (.func 76) #[] #[.pointer (some ⟨b k, 0, none⟩)]) := by rw [MD.out.arr.cell]; exact arrK_at b k h1 h8
  have hcc : ∀ W, Calls Try.prog 36 #[.int .i64 e.day] W fun x w' => x = .returned (.bool true) ∧ W = w' := fun W => hd ▸ o_day e.day W
  have HD := Lib.hid hcc
  obtain ⟨P, q2, q3, q4⟩ := MD.out.keeps k h1 h8
  have HC := Lib.hid (all_calls (kindL k) (kind_len k) (kind_takes k) (g + 1) (b k) g P e y2 hf MD.out.ev (Nat.lt_succ_self _) q3 q4)
  have HQ := Lib.hid (good_tells e k hk h1 h8 hd)
  have HE : Hid (∀ W, Calls Try.prog 37 #[.agg (({ allT (kindL k) e with kind := 0, day := 0, key := 0 } : Ev)).cells] W fun x w' => x = .returned (.bool (eqE { allT (kindL k) e with kind := 0, day := 0, key := 0 } ev0)) ∧ Below W.heap.size W w') := fun W => o_empty _ W
  have HS := Lib.hid (ev_info { allT (kindL k) e with kind := 0, day := 0, key := 0 })
  have HX : Hid (({ allT (kindL k) e with kind := 0, day := 0, key := 0 } : Ev).cells = (((allT (kindL k) e).cells.setIfInBounds 0 (.int .i64 0)).setIfInBounds 1 (.int .i64 0)).setIfInBounds 2 (.int .u32 0)) := show _ = _ from rfl
  have HN : Hid ((allT (kindL k) e).cells.size = 11) := show _ = _ from rfl
  have t1 : decide ((k : Int) < 1) = false := decide_eq_false (by omega)
  have t2 : decide ((9 : Int) ≤ (k : Int)) = false := decide_eq_false (by omega)
  have k0 : (0 : Int) ≤ (k : Int) := by omega
  have k9 : (k : Int) < 9 := by omega
  rw [HX.out] at HS HE
  clear hcc q2 q3 q4 hf hk HX
  generalize eqE { allT (kindL k) e with kind := 0, day := 0, key := 0 } ev0 = r at *
  generalize (allT (kindL k) e).cells = D at *
  generalize e.day = d at *
  generalize e.cells = C at *
  cases hb : allB (kindL k) e with
  | false =>
    rw [hb] at HC HQ
    go_wp2_with (first
      | (go_at_call 36; refine (HD.out _).mono ?_; rintro x w' ⟨rfl, rfl⟩)
      | (go_at_call 76; refine HC.out.mono ?_; rintro x y3 ⟨rfl, -, ho⟩; have HO := Lib.hid ho; clear ho))
    go_ret
    exact ⟨Date.ret_bool (by rw [HQ.out]; rfl), below_only MD.out.below HO.out MD.out.low MD.out.below.size⟩
  | true =>
    rw [hb, Bool.true_and] at HQ
    rw [hb] at HC
    clear hb
    go_upto_region 8 with (first
      | (go_at_call 36; refine (HD.out _).mono ?_; rintro x w' ⟨rfl, rfl⟩)
      | (go_at_call 76
         refine HC.out.mono ?_
         rintro x y3 ⟨rfl, hB, ho⟩
         have HB := Lib.hid (hB (by simp))
         have HW := Lib.hid (below_only MD.out.below ho MD.out.low MD.out.below.size)
         clear ho hB))
    have HL : Hid (w.heap.size ≤ g) := MD.out.low
    have I1 := Lib.hid int_one
    have I2 := Lib.hid u32_one
    clear c0 c1 ca HC MD HD t1 t2 k0 k9
    go_upto_region 9 with (first
      | (refine o_put rfl 3 _ _ rfl rfl g 0 (.int .i64 0) rfl rfl rfl 25 _ HB.out (by simp [HN.out]) I1.out (fun y hA ho => ?_)
         replace HB := Lib.hid hA
         replace HW := Lib.hid (below_only HW.out ho HL.out HW.out.size)
         clear hA ho)
      | (refine o_put rfl 3 _ _ rfl rfl g 1 (.int .i64 0) rfl rfl rfl 25 _ HB.out (by simp [HN.out]) I1.out (fun y hA ho => ?_)
         replace HB := Lib.hid hA
         replace HW := Lib.hid (below_only HW.out ho HL.out HW.out.size)
         clear hA ho)
      | (refine o_put rfl 22 _ _ rfl rfl g 2 (.int .u32 0) rfl rfl rfl 25 _ HB.out (by simp [HN.out]) I2.out (fun y hA ho => ?_)
         replace HB := Lib.hid hA
         replace HW := Lib.hid (below_only HW.out ho HL.out HW.out.size)
         clear hA ho))
    go_wp2_with (first
      | (refine o_load (by rfl) 25 _ rfl g rfl 25 _ _ HB.out Try.underlying25 rfl HS.out ?_)
      | (go_at_call 37; refine (HE.out _).mono ?_; rintro x y4 ⟨rfl, hb⟩; have HW2 := Lib.hid (below_via HW.out hb); clear hb))
    go_ret
    exact ⟨Date.ret_bool HQ.out.symm, HW2.out⟩
theorem c_good (e : Ev) (w : World) (hf : e.Fit) : Calls Try.prog 13 #[.agg e.cells] w fun x w' => x = .returned (.bool (goodE e)) ∧ Below w.heap.size w w' := by
  by_cases h : dayB e.day = false ∨ e.kind < 1 ∨ 9 ≤ e.kind
  · rw [show goodE e = false by
      unfold goodE headB
      rcases h with h | h | h
      · rw [h]; simp
      · rw [decide_eq_false (by omega)]; rfl
      · rw [decide_eq_false (by omega)]; rfl]
    exact o_good_no e w h
  · have h1 : ¬ e.kind < 1 := fun q => h (Or.inr (Or.inl q))
    have h2 : ¬ 9 ≤ e.kind := fun q => h (Or.inr (Or.inr q))
    have h3 : dayB e.day = true := by
      cases hq : dayB e.day
      · exact absurd (Or.inl hq) h
      · rfl
    exact o_good_kind e e.kind.toNat w hf (by omega) (by omega) (by omega) h3
theorem c_same (e f : Ev) (w : World) : Calls Try.prog 16 #[.agg e.cells, .agg f.cells] w fun x w' => x = .returned (.bool (eqE e f)) ∧ Below w.heap.size w w' := o_same e f w
end Go.Proofs.Ytcmdonckilajjaa.Event
namespace Go.Proofs.Ytcmdonckilajjaa.Event
open Go.ChangeShapes Go.WideShapes Go.ChangeAt Go.RowKit Fl Date Cal Pack

/-- Numbers that are put one behind the other. -/
def nums (p : PSt) (l : List (Nat × Nat)) : PSt := l.foldl (fun p x => p.num x.1 x.2) p
theorem nums_ok : ∀ (l : List (Nat × Nat)) (s : ByteArray), (∀ x ∈ l, goesB x.1 x.2 = true) → s.size + (l.map (·.2)).sum ≤ 60000 → nums ⟨s, 0⟩ l = ⟨s ++ catS l, 0⟩
  | [], s, _, _ => by
    show (⟨s, 0⟩ : PSt) = ⟨s ++ ⟨#[]⟩, 0⟩
    rw [show s ++ (⟨#[]⟩ : ByteArray) = s from ByteArray.append_empty ..]
  | x :: l, s, h, hs => by
    rw [List.map_cons, List.sum_cons] at hs
    have h1 : (⟨s, 0⟩ : PSt).num x.1 x.2 = ⟨s ++ lowS x.1 x.2, 0⟩ := by
      rw [num_yes _ (h x (List.mem_cons_self ..)), Int.toNat_natCast]
      unfold PSt.put
      rw [if_neg (by simp), if_neg (by rw [low_size]; show ¬ 60000 < s.size + x.2; omega)]
    show nums ((⟨s, 0⟩ : PSt).num x.1 x.2) l = _
    rw [h1, nums_ok l _ (fun y hy => h y (List.mem_cons_of_mem _ hy)) (by rw [ByteArray.size_append, low_size]; omega)]
    show (⟨s ++ lowS x.1 x.2 ++ catS l, 0⟩ : PSt) = ⟨s ++ (lowS x.1 x.2 ++ catS l), 0⟩
    rw [ByteArray.append_assoc]
theorem numz_goes {e : Ev} (h : Ranged e) : ∀ x ∈ numz e, goesB x.1 x.2 = true := by
  intro x hx
  have h1 := numz_lt h x hx
  have h2 : sizedB (x.2 : Nat) = true := by
    have h3 : x.2 ∈ sizeL := by
      rw [← numz_sizes e]
      exact List.mem_map_of_mem hx
    simp only [sizeL, List.mem_cons, List.not_mem_nil, or_false] at h3
    rcases h3 with h3 | h3 | h3 | h3 | h3 | h3 | h3 | h3 | h3 | h3 | h3 <;> rw [h3] <;> rfl
  unfold goesB
  rw [h2, Bool.true_and, Int.toNat_natCast]
  exact decide_eq_true h1
theorem nums_event {e : Ev} (h : Ranged e) (s : ByteArray) (hs : s.size ≤ 1000) : nums ⟨s, 0⟩ (numz e) = ⟨s ++ encS e, 0⟩ := by
  refine nums_ok _ s (numz_goes h) ?_
  rw [numz_sizes]
  show s.size + 39 ≤ 60000
  omega
/-- What stands while an event is packed: its box at k, the packer at g. -/
def Puts (w : World) (F0 : Nat → Prop) (g k : Nat) (C : Array Value) (p : PSt) (W : World) : Prop :=
  Boxd W k C 25 ∧ ∃ F, PkAt W F g p ∧ ¬ F k ∧ Only F0 w W ∧ (∀ i, F i → F0 i ∨ w.heap.size ≤ i)
theorem only_join {F0 F : Nat → Prop} {w W W' : World} (h : Only F0 w W) (k : Only F W W') (hF : ∀ i, F i → F0 i ∨ w.heap.size ≤ i) : Only F0 w W' :=
  ⟨k.os.trans h.os, k.tape.trans h.tape, k.output.trans h.output, Nat.le_trans h.size k.size, fun i hi hf => (k.block i (Nat.lt_of_lt_of_le hi h.size) (fun h2 => by
    rcases hF i h2 with h3 | h3
    · exact hf h3
    · omega)).trans (h.block i hi hf)⟩
theorem boxd_lt {w : World} {g : Nat} {C : Array Value} {T : TypeId} (h : Boxd w g C T) : g < w.heap.size := by
  rcases Nat.lt_or_ge g w.heap.size with hlt | hge
  · exact hlt
  · unfold Boxd at h; rw [Array.getElem?_eq_none hge] at h; cases h
theorem puts_num {w W : World} {F0 : Nat → Prop} {g k : Nat} {C : Array Value} {p : PSt} (h : Puts w F0 g k C p W) (v n : Nat) (m : Int) (hm : m = n) (hv : v < 18446744073709551616) (hn : m ≤ 9223372036854775807) :
    Calls Try.prog 45 #[.pointer (some ⟨g, 0, none⟩), .int .u64 v, .int .i64 m] W fun x W' => x = .returned (.tuple #[]) ∧ Puts w F0 g k C (p.num v n) W' := by
  subst hm
  obtain ⟨h1, F, h2, h3, h4, h5⟩ := h
  refine (pk_num p v n g F W h2 hv (by omega)).mono ?_
  rintro x W' ⟨rfl, F', r1, r2, r3⟩
  have hk := boxd_lt h1
  refine ⟨rfl, (r2.block k hk h3).trans h1, F', r1, fun hf => ?_, only_join h4 r2 h5, fun i hi => ?_⟩
  · rcases r3 k hf with q | q
    · exact h3 q
    · omega
  · rcases r3 i hi with q | q
    · exact h5 i q
    · exact Or.inr (Nat.le_trans h4.size q)
theorem o_bit (b : Bool) (w : World) : Calls Try.prog 46 #[.bool b] w fun x w' => x = .returned (.int .u64 (b.toNat : Nat)) ∧ w = w' := by
  cases b
  · go_enter Try.func46, Try.ntmps46
    go_wp2_with fail
    go_ret
    exact ⟨rfl, rfl⟩
  · go_enter Try.func46, Try.ntmps46
    go_wp2_with fail
    go_ret
    exact ⟨rfl, rfl⟩
theorem bool_lt (b : Bool) : b.toNat < 18446744073709551616 := by cases b <;> decide
set_option maxRecDepth 20000 in
set_option maxHeartbeats 4000000 in
theorem o_puts (e : Ev) (p : PSt) (g : Nat) (F : Nat → Prop) (w : World) (h : Ranged e) (hp : PkAt w F g p) :
    Calls Try.prog 25 #[.pointer (some ⟨g, 0, none⟩), .agg e.cells] w fun x w' => x = .returned (.tuple #[]) ∧ ∃ F', PkAt w' F' g (nums p (numz e)) ∧ Only F w w' ∧ (∀ i, F' i → F i ∨ w.heap.size ≤ i) := by
  obtain ⟨E, hE⟩ : ∃ E, numz e = E := ⟨_, rfl⟩
  rw [hE]
  have bs1 := bits_small h.rate
  have bs2 := bits_small h.income
  obtain ⟨hk, hd, hkey, hl, ha, hr, hi, hs, hpl, hf⟩ := h
  obtain ⟨kind, day, key, loan, amount, rate, income, sub, status, plan, family⟩ := e
  dsimp only at *
  obtain ⟨K, rfl, k0⟩ := nat_of (b := 8) ⟨by omega, hk.2⟩ (by decide)
  obtain ⟨D, rfl, k1⟩ := nat_of hd (by decide)
  obtain ⟨L, rfl, k2⟩ := nat_of hl (by decide)
  obtain ⟨A, rfl, k3⟩ := nat_of ha (by decide)
  obtain ⟨S, rfl, k4⟩ := nat_of hs (by decide)
  obtain ⟨P, rfl, k5⟩ := nat_of hpl (by decide)
  obtain ⟨R, rfl, k6⟩ := nat_of hf (by decide)
  have hE : E = [(K, 1), (D, 4), (key, 4), (L, 2), (A, 8), (rate, 8), (income, 8), (sub.toNat, 1), (S, 1), (P, 1), (R, 1)] := hE.symm.trans rfl
  have m0 := mod_u64 k0
  have m1 := mod_u64 k1
  have m2 := mod_u64 k2
  have m3 := mod_u64 k3
  have m4 := mod_u64 k4
  have m5 := mod_u64 k5
  have m6 := mod_u64 k6
  have m7 := key_u64 hkey
  have HV : Hid (K < 18446744073709551616 ∧ D < 18446744073709551616 ∧ key < 18446744073709551616 ∧ L < 18446744073709551616 ∧ A < 18446744073709551616 ∧ rate < 18446744073709551616 ∧ income < 18446744073709551616 ∧ sub.toNat < 18446744073709551616 ∧ S < 18446744073709551616 ∧ P < 18446744073709551616 ∧ R < 18446744073709551616) := show _ ∧ _ from ⟨by omega, by omega, by omega, by omega, by omega, by omega, by omega, bool_lt sub, by omega, by omega, by omega⟩
  have HR1 : Hid (∀ W, Calls Try.prog 51 #[.float .f64 rate] W fun x w' => x = .returned (.int .u64 (rate : Nat)) ∧ W = w') := fun W => by have := bits_any rate W (by omega); rwa [bs1] at this
  have HR2 : Hid (∀ W, Calls Try.prog 51 #[.float .f64 income] W fun x w' => x = .returned (.int .u64 (income : Nat)) ∧ W = w') := fun W => by have := bits_any income W (by omega); rwa [bs2] at this
  have HFL : Hid (∀ W, Calls Try.prog 46 #[.bool sub] W fun x w' => x = .returned (.int .u64 (sub.toNat : Nat)) ∧ W = w') := fun W => o_bit sub W
  clear bs1 bs2 hk hd hkey hl ha hr hi hs hf k0 k1 k2 k3 k4 k5 k6 hpl
  obtain ⟨k, wb, e1, e2, hA, hb⟩ := boxd_new w (Ev.cells ⟨(K : Int), (D : Int), key, (L : Int), (A : Int), rate, income, sub, (S : Int), (P : Int), (R : Int)⟩) 25
  have HC : Hid (∀ W, Boxd W k (Ev.cells ⟨(K : Int), (D : Int), key, (L : Int), (A : Int), rate, income, sub, (S : Int), (P : Int), (R : Int)⟩) 25 →
      (W.cell? ⟨k, 0, none⟩ = some (.int .i64 (K : Int)) ∧ W.cell? ⟨k, 1, none⟩ = some (.int .i64 (D : Int)) ∧ W.cell? ⟨k, 2, none⟩ = some (.int .u32 (key : Nat)) ∧ W.cell? ⟨k, 3, none⟩ = some (.int .i64 (L : Int)) ∧ W.cell? ⟨k, 4, none⟩ = some (.int .i64 (A : Int)) ∧
       W.cell? ⟨k, 5, none⟩ = some (.float .f64 rate) ∧ W.cell? ⟨k, 6, none⟩ = some (.float .f64 income) ∧ W.cell? ⟨k, 7, none⟩ = some (.bool sub) ∧ W.cell? ⟨k, 8, none⟩ = some (.int .i64 (S : Int)) ∧ W.cell? ⟨k, 9, none⟩ = some (.int .i64 (P : Int)) ∧ W.cell? ⟨k, 10, none⟩ = some (.int .i64 (R : Int)))) :=
    fun W hW => ⟨hW.cell, hW.cell, hW.cell, hW.cell, hW.cell, hW.cell, hW.cell, hW.cell, hW.cell, hW.cell, hW.cell⟩
  have HP : Hid (Puts w F g k (Ev.cells ⟨(K : Int), (D : Int), key, (L : Int), (A : Int), rate, income, sub, (S : Int), (P : Int), (R : Int)⟩) p wb) := show Puts _ _ _ _ _ _ _ from
    ⟨hA, F, pk_new hp hb, fun hf => Nat.lt_irrefl _ (e1 ▸ hp.lt _ hf), only_new hb, fun i hi => Or.inl hi⟩
  clear hA hb hp
  generalize Ev.cells ⟨(K : Int), (D : Int), key, (L : Int), (A : Int), rate, income, sub, (S : Int), (P : Int), (R : Int)⟩ = C at *
  obtain ⟨q, hq⟩ : ∃ q, q = nums p E := ⟨_, rfl⟩
  rw [← hq]
  have HQ : Hid (q = (((((((((((p.num K (1 : Nat)).num D (4 : Nat)).num key (4 : Nat)).num L (2 : Nat)).num A (8 : Nat)).num rate (8 : Nat)).num income (8 : Nat)).num sub.toNat (1 : Nat)).num S (1 : Nat)).num P (1 : Nat)).num R (1 : Nat))) := show _ = _ by rw [hq, hE]; rfl
  have NN : Hid ((1 : Int) = (1 : Nat) ∧ (2 : Int) = (2 : Nat) ∧ (4 : Int) = (4 : Nat) ∧ (8 : Int) = (8 : Nat)) := show _ ∧ _ from ⟨rfl, rfl, rfl, rfl⟩
  clear hq hE
  go_enter Try.func25, Try.ntmps25
  go_upto_region 1 with fail
  rw [← e2, ← e1]
  clear e1 e2
  obtain ⟨a0, a1, a2, a3, a4, a5, a6, a7, a8, a9, a10⟩ := HC.out _ HP.out.1
  go_wp2_with (first
    | (go_at_call 51; with_reducible refine (HR1.out _).mono ?_; rintro x w' ⟨rfl, rfl⟩)
    | (go_at_call 51; with_reducible refine (HR2.out _).mono ?_; rintro x w' ⟨rfl, rfl⟩)
    | (go_at_call 46; refine (HFL.out _).mono ?_; rintro x w' ⟨rfl, rfl⟩)
    | (go_at_call 45
       with_reducible refine (puts_num HP.out K 1 1 NN.out.1 HV.out.1 (by decide)).mono ?_
       rintro x y ⟨rfl, h⟩
       replace HP := Lib.hid h
       clear h a0 a1 a2 a3 a4 a5 a6 a7 a8 a9 a10
       obtain ⟨a0, a1, a2, a3, a4, a5, a6, a7, a8, a9, a10⟩ := HC.out _ HP.out.1)
    | (go_at_call 45
       with_reducible refine (puts_num HP.out D 4 4 NN.out.2.2.1 HV.out.2.1 (by decide)).mono ?_
       rintro x y ⟨rfl, h⟩
       replace HP := Lib.hid h
       clear h a0 a1 a2 a3 a4 a5 a6 a7 a8 a9 a10
       obtain ⟨a0, a1, a2, a3, a4, a5, a6, a7, a8, a9, a10⟩ := HC.out _ HP.out.1)
    | (go_at_call 45
       with_reducible refine (puts_num HP.out key 4 4 NN.out.2.2.1 HV.out.2.2.1 (by decide)).mono ?_
       rintro x y ⟨rfl, h⟩
       replace HP := Lib.hid h
       clear h a0 a1 a2 a3 a4 a5 a6 a7 a8 a9 a10
       obtain ⟨a0, a1, a2, a3, a4, a5, a6, a7, a8, a9, a10⟩ := HC.out _ HP.out.1)
    | (go_at_call 45
       with_reducible refine (puts_num HP.out L 2 2 NN.out.2.1 HV.out.2.2.2.1 (by decide)).mono ?_
       rintro x y ⟨rfl, h⟩
       replace HP := Lib.hid h
       clear h a0 a1 a2 a3 a4 a5 a6 a7 a8 a9 a10
       obtain ⟨a0, a1, a2, a3, a4, a5, a6, a7, a8, a9, a10⟩ := HC.out _ HP.out.1)
    | (go_at_call 45
       with_reducible refine (puts_num HP.out A 8 8 NN.out.2.2.2 HV.out.2.2.2.2.1 (by decide)).mono ?_
       rintro x y ⟨rfl, h⟩
       replace HP := Lib.hid h
       clear h a0 a1 a2 a3 a4 a5 a6 a7 a8 a9 a10
       obtain ⟨a0, a1, a2, a3, a4, a5, a6, a7, a8, a9, a10⟩ := HC.out _ HP.out.1)
    | (go_at_call 45
       with_reducible refine (puts_num HP.out rate 8 8 NN.out.2.2.2 HV.out.2.2.2.2.2.1 (by decide)).mono ?_
       rintro x y ⟨rfl, h⟩
       replace HP := Lib.hid h
       clear h a0 a1 a2 a3 a4 a5 a6 a7 a8 a9 a10
       obtain ⟨a0, a1, a2, a3, a4, a5, a6, a7, a8, a9, a10⟩ := HC.out _ HP.out.1)
    | (go_at_call 45
       with_reducible refine (puts_num HP.out income 8 8 NN.out.2.2.2 HV.out.2.2.2.2.2.2.1 (by decide)).mono ?_
       rintro x y ⟨rfl, h⟩
       replace HP := Lib.hid h
       clear h a0 a1 a2 a3 a4 a5 a6 a7 a8 a9 a10
       obtain ⟨a0, a1, a2, a3, a4, a5, a6, a7, a8, a9, a10⟩ := HC.out _ HP.out.1)
    | (go_at_call 45
       with_reducible refine (puts_num HP.out sub.toNat 1 1 NN.out.1 HV.out.2.2.2.2.2.2.2.1 (by decide)).mono ?_
       rintro x y ⟨rfl, h⟩
       replace HP := Lib.hid h
       clear h a0 a1 a2 a3 a4 a5 a6 a7 a8 a9 a10
       obtain ⟨a0, a1, a2, a3, a4, a5, a6, a7, a8, a9, a10⟩ := HC.out _ HP.out.1)
    | (go_at_call 45
       with_reducible refine (puts_num HP.out S 1 1 NN.out.1 HV.out.2.2.2.2.2.2.2.2.1 (by decide)).mono ?_
       rintro x y ⟨rfl, h⟩
       replace HP := Lib.hid h
       clear h a0 a1 a2 a3 a4 a5 a6 a7 a8 a9 a10
       obtain ⟨a0, a1, a2, a3, a4, a5, a6, a7, a8, a9, a10⟩ := HC.out _ HP.out.1)
    | (go_at_call 45
       with_reducible refine (puts_num HP.out P 1 1 NN.out.1 HV.out.2.2.2.2.2.2.2.2.2.1 (by decide)).mono ?_
       rintro x y ⟨rfl, h⟩
       replace HP := Lib.hid h
       clear h a0 a1 a2 a3 a4 a5 a6 a7 a8 a9 a10
       obtain ⟨a0, a1, a2, a3, a4, a5, a6, a7, a8, a9, a10⟩ := HC.out _ HP.out.1)
    | (go_at_call 45
       with_reducible refine (puts_num HP.out R 1 1 NN.out.1 HV.out.2.2.2.2.2.2.2.2.2.2 (by decide)).mono ?_
       rintro x y ⟨rfl, h⟩
       replace HP := Lib.hid h
       clear h a0 a1 a2 a3 a4 a5 a6 a7 a8 a9 a10
       obtain ⟨a0, a1, a2, a3, a4, a5, a6, a7, a8, a9, a10⟩ := HC.out _ HP.out.1))
  go_returns
  obtain ⟨-, F', r1, -, r3, r4⟩ := HP.out
  rw [← HQ.out] at r1
  exact ⟨rfl, F', r1, r3, r4⟩
theorem below_onlyF {B : Nat} {F : Nat → Prop} {w w1 w2 : World} (h : Below B w w1) (ho : Only F w1 w2) (hF : ∀ i, F i → B ≤ i) (hs : B ≤ w1.heap.size) : Below B w w2 :=
  ⟨ho.os.trans h.os, ho.tape.trans h.tape, ho.output.trans h.output, Nat.le_trans h.size ho.size, fun i hi => (ho.block i (by omega) (fun hf => by have := hF i hf; omega)).trans (h.block i hi)⟩
theorem told_ok (s : ByteArray) : (⟨s, 0⟩ : PSt).told = s := rfl
theorem empty_cat (s : ByteArray) : (⟨#[]⟩ : ByteArray) ++ s = s := ByteArray.empty_append ..
set_option maxRecDepth 20000 in
set_option maxHeartbeats 1000000 in
theorem c_encode (e : Ev) (w : World) (hf : e.Fit) : Calls Try.prog 9 #[.agg e.cells] w fun x w' => x = .returned (.tuple #[.string (encT e), .int .i64 (encX e)]) ∧ Below w.heap.size w w' := by
  have HG : Hid (∀ W, Calls Try.prog 13 #[.agg e.cells] W fun x w' => x = .returned (.bool (goodE e)) ∧ Below W.heap.size W w') := fun W => c_good e W hf
  have HS := Lib.hid (ev_info e)
  cases hg : goodE e with
  | false =>
    rw [hg] at HG
    rw [show encT e = ⟨#[]⟩ by unfold encT; simp [hg], show encX e = 11 by unfold encX; simp [hg]]
    clear hf hg
    generalize e.cells = C at *
    obtain ⟨g, wb, e1, e2, hB, hb⟩ := boxd_new w C 25
    have HB := Lib.hid hB
    have HW := Lib.hid hb
    clear hB hb
    go_enter Try.func9, Try.ntmps9
    go_upto_region 1 with fail
    rw [← e2, ← e1]
    clear e1 e2
    go_wp2_with (first
      | (refine o_load (by rfl) 25 _ rfl g rfl 25 _ _ HB.out Try.underlying25 rfl HS.out ?_)
      | (go_at_call 13
         refine (HG.out wb).mono ?_
         rintro x y1 ⟨rfl, hb⟩
         have HW1 := Lib.hid (below_via HW.out hb)
         clear hb))
    go_ret2
    exact ⟨rfl, HW1.out⟩
  | true =>
    rw [hg] at HG
    rw [show encT e = encS e by unfold encT; simp [hg], show encX e = 0 by unfold encX; simp [hg]]
    have HR := Lib.hid (ranged_of hf hg)
    have HT : Hid (nums pst0 (numz e) = ⟨encS e, 0⟩) := show _ = _ by
      have := nums_event HR.out ⟨#[]⟩ (by decide)
      rw [empty_cat] at this
      exact this
    have HE : Hid (∀ (g : Nat) (F : Nat → Prop) (W : World), PkAt W F g pst0 → Calls Try.prog 25 #[.pointer (some ⟨g, 0, none⟩), .agg e.cells] W fun x w' => x = .returned (.tuple #[]) ∧ ∃ F', PkAt w' F' g ⟨encS e, 0⟩ ∧ Only F W w' ∧ (∀ i, F' i → F i ∨ W.heap.size ≤ i)) := fun g F W hW => HT.out ▸ o_puts e pst0 g F W HR.out hW
    clear hf hg HR HT
    generalize e.cells = C at *
    generalize encS e = s at *
    obtain ⟨g, wb, e1, e2, hB, hb⟩ := boxd_new w C 25
    have HB := Lib.hid hB
    have HW := Lib.hid hb
    clear hB hb
    go_enter Try.func9, Try.ntmps9
    go_upto_region 1 with fail
    rw [← e2, ← e1]
    clear e1 e2
    go_upto_region 4 with (first
      | (refine o_load (by rfl) 25 _ rfl g rfl 25 _ _ HB.out Try.underlying25 rfl HS.out ?_)
      | (go_at_call 13
         refine (HG.out wb).mono ?_
         rintro x y1 ⟨rfl, hb⟩
         have HW1 := Lib.hid (below_via HW.out hb)
         have HB1 := Lib.hid (HB.out.below hb)
         clear hb))
    have HP : Hid (PkAt (y1.alloc (.cells #[.pointer none, .int .i64 0, .int .i64 0] 54)) (fun i => i = y1.heap.size) y1.heap.size pst0) := pk_zero y1
    have HB2 := Lib.hid (HB1.out.below (below_one y1 (.cells #[.pointer none, .int .i64 0, .int .i64 0] 54)))
    have HW2 := Lib.hid (below_via HW1.out (below_one y1 (.cells #[.pointer none, .int .i64 0, .int .i64 0] 54)))
    have HL : Hid (w.heap.size ≤ y1.heap.size) := HW1.out.size
    clear HB1 HW1 HB HW
    generalize y1.alloc (.cells #[.pointer none, .int .i64 0, .int .i64 0] 54) = y2 at *
    generalize y1.heap.size = gp at *
    go_wp2_with (first
      | (refine o_load (by rfl) 25 _ rfl g rfl 25 _ _ HB2.out Try.underlying25 rfl HS.out ?_)
      | (go_at_call 25
         refine (HE.out gp _ _ HP.out).mono ?_
         rintro x y3 ⟨rfl, F', hp, ho, hF⟩
         have HW3 := Lib.hid (below_onlyF HW2.out ho (fun i hi => by rw [hi]; exact HL.out) HW2.out.size)
         have HF : Hid (∀ i, F' i → w.heap.size ≤ i) := fun i hi => by
           rcases hF i hi with q | q
           · rw [q]; exact HL.out
           · exact Nat.le_trans HW2.out.size q
         have HP3 := Lib.hid hp
         clear hp ho hF)
      | (go_at_call 26
         refine (pk_done _ gp _ _ HP3.out).mono ?_
         rintro x y4 ⟨rfl, F4, -, ho, -⟩
         have HW4 := Lib.hid (below_onlyF HW3.out ho HF.out HW3.out.size)
         clear ho))
    go_ret2
    exact ⟨rfl, HW4.out⟩
end Go.Proofs.Ytcmdonckilajjaa.Event
namespace Go.Proofs.Ytcmdonckilajjaa.Event
open Go.ChangeShapes Go.WideShapes Go.ChangeAt Go.RowKit Fl Date Cal Pack

/-- Numbers of these sizes, as an opener tells them one behind the other. -/
def reads : OSt → List Nat → List Nat × OSt
  | o, [] => ([], o)
  | o, n :: l => ((o.num n).1 :: (reads (o.num n).2 l).1, (reads (o.num n).2 l).2)
/-- The event of such numbers. -/
def evN (L : List Nat) : Ev := ⟨(L.getD 0 0 : Nat), (L.getD 1 0 : Nat), L.getD 2 0, (L.getD 3 0 : Nat), wrap64 (L.getD 4 0 : Nat), ofF (L.getD 5 0), ofF (L.getD 6 0), decide (L.getD 7 0 = 1), (L.getD 8 0 : Nat), (L.getD 9 0 : Nat), (L.getD 10 0 : Nat)⟩
theorem reads_ok (b : ByteArray) : ∀ (l : List Nat) (a : Nat), (∀ n ∈ l, sizedB (n : Nat) = true) → a + l.sum ≤ b.size → reads ⟨b, a, false⟩ l = ((vals b a l).map (·.1), ⟨b, a + l.sum, false⟩)
  | [], _, _, _ => rfl
  | n :: l, a, h, hs => by
    rw [List.sum_cons] at hs
    have h1 : (⟨b, a, false⟩ : OSt).num n = (valN b a n, ⟨b, a + n, false⟩) := by
      unfold OSt.num OSt.hasNum
      rw [if_pos (by rw [h n (List.mem_cons_self ..), decide_eq_true (by show (n : Int) ≤ (b.size : Int) - (a : Int); omega)]; rfl), Int.toNat_natCast]
    show (((⟨b, a, false⟩ : OSt).num n).1 :: (reads ((⟨b, a, false⟩ : OSt).num n).2 l).1, (reads ((⟨b, a, false⟩ : OSt).num n).2 l).2) = _
    rw [h1, reads_ok b l (a + n) (fun m hm => h m (List.mem_cons_of_mem _ hm)) (by omega), List.sum_cons, Nat.add_assoc]
    rfl
theorem sizes_fit : ∀ n ∈ sizeL, sizedB (n : Nat) = true := by
  intro n hn
  simp only [sizeL, List.mem_cons, List.not_mem_nil, or_false] at hn
  rcases hn with h | h | h | h | h | h | h | h | h | h | h <;> rw [h] <;> rfl
theorem wrap_small {v : Nat} (h : v < 9223372036854775808) : IntKind.i64.wrap (v : Int) = v := by rw [IntKind.wrap_i64]; omega
theorem evn_dec {b : ByteArray} (h : okD b = true) : evN (reads ⟨b, 0, false⟩ sizeL).1 = evD b := by
  unfold okD at h
  simp only [Bool.and_eq_true, decide_eq_true_iff] at h
  obtain ⟨hs, h4, -⟩ := h
  rw [reads_ok b sizeL 0 sizes_fit (by rw [hs]; decide)]
  have e4 : wrap64 ((fld b 4 : Nat) : Int) = (fld b 4 : Nat) := by unfold wrap64; omega
  have e : ∀ j, ((vals b 0 sizeL).map (·.1)).getD j 0 = fld b j := fun j => by
    unfold fld
    rw [List.getD_eq_getElem?_getD, List.getD_eq_getElem?_getD, List.getElem?_map]
    cases (vals b 0 sizeL)[j]? <;> rfl
  unfold evN evD
  simp only [e, e4]
/-- Is b what x is encoded as? -/
def tl (x : Ev) (b : ByteArray) : Bool := goodE x && decide (encS x = b)
theorem tl_dec {b : ByteArray} (hf : (evN (reads ⟨b, 0, false⟩ sizeL).1).Fit) : tl (evN (reads ⟨b, 0, false⟩ sizeL).1) b = okD b ∧ (okD b = true → evN (reads ⟨b, 0, false⟩ sizeL).1 = evD b) := by
  refine ⟨?_, evn_dec⟩
  cases h : okD b with
  | true =>
    rw [evn_dec h]
    unfold tl
    rw [good_dec h, enc_dec h, decide_eq_true rfl]
    rfl
  | false =>
    cases h2 : tl (evN (reads ⟨b, 0, false⟩ sizeL).1) b with
    | false => rfl
    | true =>
      unfold tl at h2
      simp only [Bool.and_eq_true, decide_eq_true_iff] at h2
      have := (dec_enc hf h2.1).1
      rw [h2.2, h] at this
      cases this
theorem num_bound (o : OSt) (n : Nat) : (o.num n).1 < 256 ^ n := by
  unfold OSt.num
  split
  · rw [Int.toNat_natCast]
    exact valN_lt _ _ _
  · exact Nat.pow_pos (by decide)
/-- What stands while an event is read: its box at k, the opener at a. -/
def Nexts (w : World) (F0 : Nat → Prop) (a : Addr) (k : Nat) (C : Array Value) (o : OSt) (W : World) : Prop :=
  Boxd W k C 25 ∧ C.size = 11 ∧ w.heap.size ≤ k ∧ ∃ F, OpAt W F (.pointer (some a)) o ∧ ¬ F k ∧ Only F0 w W ∧ (∀ i, F i → F0 i ∨ w.heap.size ≤ i)
theorem nexts_num {w W : World} {F0 : Nat → Prop} {a : Addr} {k : Nat} {C : Array Value} {o : OSt} (h : Nexts w F0 a k C o W) (n B : Nat) (m : Int) (hm : m = n) (hn : m ≤ 9223372036854775807) (hB : 256 ^ n = B) :
    Calls Try.prog 49 #[.pointer (some a), .int .i64 m] W fun x W' => ∃ v q, x = .returned (.int .u64 (v : Nat)) ∧ v < B ∧ o.num n = (v, q) ∧ Nexts w F0 a k C q W' := by
  subst hm
  subst hB
  obtain ⟨h1, hz, hk0, F, h2, h3, h4, h5⟩ := h
  refine (op_num o n a F W h2 (by omega)).mono ?_
  rintro x W' ⟨rfl, F', r1, r2, r3⟩
  have hk := boxd_lt h1
  refine ⟨(o.num n).1, (o.num n).2, rfl, num_bound o n, rfl, (r2.block k hk h3).trans h1, hz, hk0, F', r1, fun hf => ?_, only_join h4 r2 h5, fun i hi => ?_⟩
  · rcases r3 k hf with q | q
    · exact h3 q
    · omega
  · rcases r3 i hi with q | q
    · exact h5 i q
    · exact Or.inr (Nat.le_trans h4.size q)
theorem Nexts.set {w W W' : World} {F0 : Nat → Prop} {a : Addr} {k : Nat} {C D : Array Value} {o : OSt} (h : Nexts w F0 a k C o W) (hB : Boxd W' k D 25) (hD : D.size = 11) (ho : Only (fun j => j = k) W W') : Nexts w F0 a k D o W' := by
  obtain ⟨h1, hz, hk0, F, h2, h3, h4, h5⟩ := h
  exact ⟨hB, hD, hk0, F, h2.keep ho.size (fun i hi => ho.block i (h2.lt i hi) (fun e => h3 (e ▸ hi))), h3, only_join h4 ho (fun i hi => Or.inr (by rw [hi]; exact hk0)), h5⟩
theorem is_one (v : Nat) : ((v : Int) == 1) = decide (v = 1) := by
  by_cases h : v = 1
  · rw [h]; rfl
  · rw [decide_eq_false h, beq_eq_false_iff_ne]; omega
theorem i64_one : (Try.prog.info? 2).map (·.size) = some 1 := by kernel_rfl
theorem bool_one : (Try.prog.info? 4).map (·.size) = some 1 := by kernel_rfl
theorem off_lt {u : Nat} : ofF u < 18446744073709551616 := by unfold ofF; split <;> omega
theorem set_all (x0 x1 x2 x3 x4 x5 x6 x7 x8 x9 x10 : Value) : ((((((((((ev0.cells.setIfInBounds 0 x0).setIfInBounds 1 x1).setIfInBounds 2 x2).setIfInBounds 3 x3).setIfInBounds 4 x4).setIfInBounds 5 x5).setIfInBounds 6 x6).setIfInBounds 7 x7).setIfInBounds 8 x8).setIfInBounds 9 x9).setIfInBounds 10 x10 = #[x0, x1, x2, x3, x4, x5, x6, x7, x8, x9, x10] := by
  simp [Ev.cells, ev0]
theorem evn_cells (v0 v1 v2 v3 v4 v5 v6 v7 v8 v9 v10 : Nat) : (evN [v0, v1, v2, v3, v4, v5, v6, v7, v8, v9, v10]).cells = #[.int .i64 (v0 : Nat), .int .i64 (v1 : Nat), .int .u32 (v2 : Nat), .int .i64 (v3 : Nat), .int .i64 (wrap64 (v4 : Nat)), .float .f64 (ofF v5), .float .f64 (ofF v6), .bool (decide (v7 = 1)), .int .i64 (v8 : Nat), .int .i64 (v9 : Nat), .int .i64 (v10 : Nat)] := rfl
theorem wrap64_fit (n : Int) : -9223372036854775808 ≤ wrap64 n ∧ wrap64 n ≤ 9223372036854775807 := by unfold wrap64; omega
theorem evn_fit {v0 v1 v2 v3 v4 v5 v6 v7 v8 v9 v10 : Nat} (h0 : v0 < 256) (h1 : v1 < 4294967296) (h2 : v2 < 4294967296) (h3 : v3 < 65536) (h8 : v8 < 256) (h9 : v9 < 256) (h10 : v10 < 256) :
    (evN [v0, v1, v2, v3, v4, v5, v6, v7, v8, v9, v10]).Fit := by
  refine ⟨?_, ?_, h2, ?_, wrap64_fit _, off_lt, off_lt, ?_, ?_, ?_⟩
  · show -9223372036854775808 ≤ ((v0 : Nat) : Int) ∧ ((v0 : Nat) : Int) ≤ 9223372036854775807
    omega
  · show -9223372036854775808 ≤ ((v1 : Nat) : Int) ∧ ((v1 : Nat) : Int) ≤ 9223372036854775807
    omega
  · show -9223372036854775808 ≤ ((v3 : Nat) : Int) ∧ ((v3 : Nat) : Int) ≤ 9223372036854775807
    omega
  · show -9223372036854775808 ≤ ((v8 : Nat) : Int) ∧ ((v8 : Nat) : Int) ≤ 9223372036854775807
    omega
  · show -9223372036854775808 ≤ ((v9 : Nat) : Int) ∧ ((v9 : Nat) : Int) ≤ 9223372036854775807
    omega
  · show -9223372036854775808 ≤ ((v10 : Nat) : Int) ∧ ((v10 : Nat) : Int) ≤ 9223372036854775807
    omega
set_option maxRecDepth 20000 in
set_option maxHeartbeats 4000000 in
theorem o_next (o : OSt) (a : Addr) (F : Nat → Prop) (w : World) (hp : OpAt w F (.pointer (some a)) o) :
    Calls Try.prog 29 #[.pointer (some a)] w fun x w' => (evN (reads o sizeL).1).Fit ∧ x = .returned (.agg (evN (reads o sizeL).1).cells) ∧ ∃ F', OpAt w' F' (.pointer (some a)) (reads o sizeL).2 ∧ Only F w w' ∧ (∀ i, F' i → F i ∨ w.heap.size ≤ i) := by
  have HOF : Hid (∀ u W, u < 18446744073709551616 → Calls Try.prog 53 #[.int .u64 (u : Nat)] W fun x w' => x = .returned (.tuple #[.float .f64 (ofF u), .bool (ofB u)]) ∧ W = w') := fun u W hu => of_any u W hu
  obtain ⟨k, wb, e1, e2, hA, hb⟩ := boxd_new w ev0.cells 25
  have HP : Hid (Nexts w F a k ev0.cells o wb) := show Nexts _ _ _ _ _ _ _ from
    ⟨hA, rfl, by rw [e1]; exact Nat.le_refl _, F, hp.keep hb.size (fun i hi => hb.block i (hp.lt i hi)), fun hf => Nat.lt_irrefl _ (e1 ▸ hp.lt _ hf), only_new hb, fun i hi => Or.inl hi⟩
  have NN : Hid ((1 : Int) = (1 : Nat) ∧ (2 : Int) = (2 : Nat) ∧ (4 : Int) = (4 : Nat) ∧ (8 : Int) = (8 : Nat)) := show _ ∧ _ from ⟨rfl, rfl, rfl, rfl⟩
  have II := Lib.hid int_one
  have IU := Lib.hid u32_one
  have IL := Lib.hid i64_one
  have IF := Lib.hid f64_one
  have IB := Lib.hid bool_one
  clear hA hb hp
  go_enter Try.func29, Try.ntmps29
  go_upto_region 1 with fail
  rw [ev0_cells] at e2
  rw [← e2, ← e1]
  clear e1 e2
  go_upto_region 2 with (first
    | (go_at_call 49
       refine (nexts_num HP.out 1 256 1 NN.out.1 (by decide) (by decide)).mono ?_
       rintro x y ⟨v0, q0, rfl, hv, E0, h⟩
       have E0 := Lib.hid E0
       have m0 : IntKind.i64.wrap (v0 : Int) = v0 := wrap_small (by omega)
       have b0 := Lib.hid hv
       replace HP := Lib.hid h
       clear h hv)
    | (refine o_put rfl 3 _ _ rfl rfl k 0 (.int .i64 (v0 : Nat)) rfl rfl rfl 25 _ HP.out.1 (by rw [HP.out.2.1]; decide) II.out (fun y hA ho => ?_)
       replace HP := Lib.hid (HP.out.set hA (by simp [HP.out.2.1]) ho)
       clear hA ho))
  clear m0
  go_upto_region 3 with (first
    | (go_at_call 49
       refine (nexts_num HP.out 4 4294967296 4 NN.out.2.2.1 (by decide) (by decide)).mono ?_
       rintro x y ⟨v1, q1, rfl, hv, E1, h⟩
       have E1 := Lib.hid E1
       have m1 : IntKind.i64.wrap (v1 : Int) = v1 := wrap_small (by omega)
       have b1 := Lib.hid hv
       replace HP := Lib.hid h
       clear h hv)
    | (refine o_put rfl 3 _ _ rfl rfl k 1 (.int .i64 (v1 : Nat)) rfl rfl rfl 25 _ HP.out.1 (by rw [HP.out.2.1]; decide) II.out (fun y hA ho => ?_)
       replace HP := Lib.hid (HP.out.set hA (by simp [HP.out.2.1]) ho)
       clear hA ho))
  clear m1
  go_upto_region 4 with (first
    | (go_at_call 49
       refine (nexts_num HP.out 4 4294967296 4 NN.out.2.2.1 (by decide) (by decide)).mono ?_
       rintro x y ⟨v2, q2, rfl, hv, E2, h⟩
       have E2 := Lib.hid E2
       have m2 : IntKind.u32.wrap (v2 : Int) = v2 := by rw [IntKind.wrap_u32]; omega
       have b2 := Lib.hid hv
       replace HP := Lib.hid h
       clear h hv)
    | (refine o_put rfl 22 _ _ rfl rfl k 2 (.int .u32 (v2 : Nat)) rfl rfl rfl 25 _ HP.out.1 (by rw [HP.out.2.1]; decide) IU.out (fun y hA ho => ?_)
       replace HP := Lib.hid (HP.out.set hA (by simp [HP.out.2.1]) ho)
       clear hA ho))
  clear m2
  go_upto_region 5 with (first
    | (go_at_call 49
       refine (nexts_num HP.out 2 65536 2 NN.out.2.1 (by decide) (by decide)).mono ?_
       rintro x y ⟨v3, q3, rfl, hv, E3, h⟩
       have E3 := Lib.hid E3
       have m3 : IntKind.i64.wrap (v3 : Int) = v3 := wrap_small (by omega)
       have b3 := Lib.hid hv
       replace HP := Lib.hid h
       clear h hv)
    | (refine o_put rfl 3 _ _ rfl rfl k 3 (.int .i64 (v3 : Nat)) rfl rfl rfl 25 _ HP.out.1 (by rw [HP.out.2.1]; decide) II.out (fun y hA ho => ?_)
       replace HP := Lib.hid (HP.out.set hA (by simp [HP.out.2.1]) ho)
       clear hA ho))
  clear m3
  go_upto_region 6 with (first
    | (go_at_call 49
       refine (nexts_num HP.out 8 18446744073709551616 8 NN.out.2.2.2 (by decide) (by decide)).mono ?_
       rintro x y ⟨v4, q4, rfl, hv, E4, h⟩
       have E4 := Lib.hid E4
       skip
       have b4 := Lib.hid hv
       replace HP := Lib.hid h
       clear h hv)
    | (refine o_put rfl 2 _ _ rfl rfl k 4 (.int .i64 (wrap64 (v4 : Nat))) rfl rfl rfl 25 _ HP.out.1 (by rw [HP.out.2.1]; decide) IL.out (fun y hA ho => ?_)
       replace HP := Lib.hid (HP.out.set hA (by simp [HP.out.2.1]) ho)
       clear hA ho))
  go_upto_region 7 with (first
    | (go_at_call 49
       refine (nexts_num HP.out 8 18446744073709551616 8 NN.out.2.2.2 (by decide) (by decide)).mono ?_
       rintro x y ⟨v5, q5, rfl, hv, E5, h⟩
       have E5 := Lib.hid E5
       have B5 := Lib.hid hv
       have b5 := Lib.hid hv
       replace HP := Lib.hid h
       clear h hv)
    | (go_at_call 53; refine (HOF.out v5 _ B5.out).mono ?_; rintro x w' ⟨rfl, rfl⟩)
    | (refine o_put rfl 23 _ _ rfl rfl k 5 (.float .f64 (ofF v5)) rfl rfl rfl 25 _ HP.out.1 (by rw [HP.out.2.1]; decide) IF.out (fun y hA ho => ?_)
       replace HP := Lib.hid (HP.out.set hA (by simp [HP.out.2.1]) ho)
       clear hA ho))
  go_upto_region 8 with (first
    | (go_at_call 49
       refine (nexts_num HP.out 8 18446744073709551616 8 NN.out.2.2.2 (by decide) (by decide)).mono ?_
       rintro x y ⟨v6, q6, rfl, hv, E6, h⟩
       have E6 := Lib.hid E6
       have B6 := Lib.hid hv
       have b6 := Lib.hid hv
       replace HP := Lib.hid h
       clear h hv)
    | (go_at_call 53; refine (HOF.out v6 _ B6.out).mono ?_; rintro x w' ⟨rfl, rfl⟩)
    | (refine o_put rfl 23 _ _ rfl rfl k 6 (.float .f64 (ofF v6)) rfl rfl rfl 25 _ HP.out.1 (by rw [HP.out.2.1]; decide) IF.out (fun y hA ho => ?_)
       replace HP := Lib.hid (HP.out.set hA (by simp [HP.out.2.1]) ho)
       clear hA ho))
  go_upto_region 9 with (first
    | (go_at_call 49
       refine (nexts_num HP.out 1 256 1 NN.out.1 (by decide) (by decide)).mono ?_
       rintro x y ⟨v7, q7, rfl, hv, E7, h⟩
       have E7 := Lib.hid E7
       have m7 := is_one v7
       have b7 := Lib.hid hv
       replace HP := Lib.hid h
       clear h hv)
    | (refine o_put rfl 4 _ _ rfl rfl k 7 (.bool (decide (v7 = 1))) rfl rfl rfl 25 _ HP.out.1 (by rw [HP.out.2.1]; decide) IB.out (fun y hA ho => ?_)
       replace HP := Lib.hid (HP.out.set hA (by simp [HP.out.2.1]) ho)
       clear hA ho))
  clear m7
  go_upto_region 10 with (first
    | (go_at_call 49
       refine (nexts_num HP.out 1 256 1 NN.out.1 (by decide) (by decide)).mono ?_
       rintro x y ⟨v8, q8, rfl, hv, E8, h⟩
       have E8 := Lib.hid E8
       have m8 : IntKind.i64.wrap (v8 : Int) = v8 := wrap_small (by omega)
       have b8 := Lib.hid hv
       replace HP := Lib.hid h
       clear h hv)
    | (refine o_put rfl 3 _ _ rfl rfl k 8 (.int .i64 (v8 : Nat)) rfl rfl rfl 25 _ HP.out.1 (by rw [HP.out.2.1]; decide) II.out (fun y hA ho => ?_)
       replace HP := Lib.hid (HP.out.set hA (by simp [HP.out.2.1]) ho)
       clear hA ho))
  clear m8
  go_upto_region 11 with (first
    | (go_at_call 49
       refine (nexts_num HP.out 1 256 1 NN.out.1 (by decide) (by decide)).mono ?_
       rintro x y ⟨v9, q9, rfl, hv, E9, h⟩
       have E9 := Lib.hid E9
       have m9 : IntKind.i64.wrap (v9 : Int) = v9 := wrap_small (by omega)
       have b9 := Lib.hid hv
       replace HP := Lib.hid h
       clear h hv)
    | (refine o_put rfl 3 _ _ rfl rfl k 9 (.int .i64 (v9 : Nat)) rfl rfl rfl 25 _ HP.out.1 (by rw [HP.out.2.1]; decide) II.out (fun y hA ho => ?_)
       replace HP := Lib.hid (HP.out.set hA (by simp [HP.out.2.1]) ho)
       clear hA ho))
  clear m9
  go_upto_region 12 with (first
    | (go_at_call 49
       refine (nexts_num HP.out 1 256 1 NN.out.1 (by decide) (by decide)).mono ?_
       rintro x y ⟨v10, q10, rfl, hv, E10, h⟩
       have E10 := Lib.hid E10
       have m10 : IntKind.i64.wrap (v10 : Int) = v10 := wrap_small (by omega)
       have b10 := Lib.hid hv
       replace HP := Lib.hid h
       clear h hv)
    | (refine o_put rfl 3 _ _ rfl rfl k 10 (.int .i64 (v10 : Nat)) rfl rfl rfl 25 _ HP.out.1 (by rw [HP.out.2.1]; decide) II.out (fun y hA ho => ?_)
       replace HP := Lib.hid (HP.out.set hA (by simp [HP.out.2.1]) ho)
       clear hA ho))
  clear m10
  have HR : reads o sizeL = ([v0, v1, v2, v3, v4, v5, v6, v7, v8, v9, v10], q10) := by
    simp only [reads, sizeL, E0.out, E1.out, E2.out, E3.out, E4.out, E5.out, E6.out, E7.out, E8.out, E9.out, E10.out]
  have HC : Hid (Nexts w F a k (evN [v0, v1, v2, v3, v4, v5, v6, v7, v8, v9, v10]).cells q10 y) := show Nexts _ _ _ _ _ _ _ by
    have h := HP.out
    rw [set_all] at h
    rw [evn_cells]
    exact h
  have HF : Hid ((evN (reads o sizeL).1).Fit ∧ (evN (reads o sizeL).1).cells = (evN [v0, v1, v2, v3, v4, v5, v6, v7, v8, v9, v10]).cells ∧ (reads o sizeL).2 = q10) := show _ ∧ _ by
    rw [HR]
    exact ⟨evn_fit b0.out b1.out b2.out b3.out b8.out b9.out b10.out, rfl, rfl⟩
  have HS := Lib.hid (ev_info (evN [v0, v1, v2, v3, v4, v5, v6, v7, v8, v9, v10]))
  have H1 := Lib.hid (ev_one (evN [v0, v1, v2, v3, v4, v5, v6, v7, v8, v9, v10]))
  clear HP II IU IL IF IB HOF NN HR
  generalize (evN [v0, v1, v2, v3, v4, v5, v6, v7, v8, v9, v10]).cells = C at *
  go_wp2_with (first
    | (refine o_load (by rfl) 25 _ rfl k rfl 25 _ _ HC.out.1 Try.underlying25 rfl HS.out ?_)
    | (refine o_store rfl 25 _ _ rfl rfl k C rfl rfl 25 C HC.out.1 HS.out rfl H1.out ?_))
  refine bodyPost_ret (results_cell_row rfl _ _ _ _ _ _ _ rfl (boxd_row (D := C) HC.out.1) Try.underlying25 rfl HS.out) rfl ?_
  obtain ⟨-, -, -, F', r1, -, r2, r3⟩ := HC.out.set (boxd_row (D := C) HC.out.1) HC.out.2.1 (only_row _ _ _)
  rw [HF.out.2.1, HF.out.2.2]
  exact ⟨HF.out.1, rfl, F', r1, r2, r3⟩
end Go.Proofs.Ytcmdonckilajjaa.Event
namespace Go.Proofs.Ytcmdonckilajjaa.Event
open Go.ChangeShapes Go.WideShapes Go.ChangeAt Go.RowKit Fl Date Cal Pack

theorem o_text_ne {s t : ByteArray} (h : s ≠ t) : (s.toList == t.toList) = false := by
  rw [beq_eq_false_iff_ne]
  exact fun e => h (Go.WideShapes.bytes_inj (by rw [← ByteArray.toList_eq, ← ByteArray.toList_eq]; exact e))
theorem o_text_eq (s : ByteArray) : (s.toList == s.toList) = true := by simp
theorem ev0_one' : ev0.cells.all (·.oneCell') = true := ev_one ev0
def ToldE (x : Ev) (b : ByteArray) (w : World) (C : Array Value) (n : Int) : Prop :=
  Calls Try.prog 28 #[.string b, .agg x.cells, .func (.func 9) #[] #[]] w fun r w' => r = .returned (.tuple #[.agg C, .int .i64 n]) ∧ Below w.heap.size w w'
set_option maxRecDepth 20000 in
set_option maxHeartbeats 1000000 in
theorem told_yes (x : Ev) (b : ByteArray) (w : World) (hf : x.Fit) (hg : goodE x = true) (hb : encS x = b) : ToldE x b w x.cells 0 := by
  unfold ToldE
  have HE : Hid (∀ W, Calls Try.prog 9 #[.agg x.cells] W fun x w' => x = .returned (.tuple #[.string b, .int .i64 0]) ∧ Below W.heap.size W w') := fun W => by
    have := c_encode x W hf
    rwa [show encT x = b by unfold encT; simp [hg, hb], show encX x = 0 by unfold encX; simp [hg]] at this
  have HT := o_text_eq b
  have HS := Lib.hid (ev_info x)
  have HS0 := Lib.hid (ev_info ev0)
  have H1 := Lib.hid (ev_one x)
  have H0 := Lib.hid ev0_one'
  have HZ : Hid (ev0.cells.size = x.cells.size) := show _ = _ from rfl
  obtain ⟨k1, wa, e1, e2, hA, ha⟩ := boxd_new w x.cells 25
  obtain ⟨k2, wb, e3, e4, hB, hb⟩ := boxd_new wa ev0.cells 25
  have HB : Hid (Boxd wb k1 x.cells 25) := hA.below hb
  have HR := Lib.hid hB
  have HW := Lib.hid (below_via ha hb)
  have e5 : k2 = k1 + 1 := by rw [e3, e2, Deep.nblk_alloc, e1]
  have HL : Hid (w.heap.size ≤ k2) := show _ ≤ _ by omega
  clear hf hg hA hB ha hb
  generalize x.cells = C at *
  go_enter Try.func28, Try.ntmps28
  go_upto_region 1 with fail
  rw [ev0_cells] at e4
  rw [← e2, ← e1, ← e5, ← e4]
  clear e1 e2 e3 e4 e5
  go_wp2_with (first
    | (refine o_load (by rfl) 25 _ rfl k1 rfl 25 _ _ HB2.out Try.underlying25 rfl HS.out ?_)
    | (refine o_load (by rfl) 25 _ rfl k1 rfl 25 _ _ HB.out Try.underlying25 rfl HS.out ?_)
    | (go_at_call 9
       refine (HE.out wb).mono ?_
       rintro r y1 ⟨rfl, hb⟩
       have HB2 := Lib.hid (HB.out.below hb)
       have HR2 := Lib.hid (HR.out.below hb)
       have HW2 := Lib.hid (below_via HW.out hb)
       clear hb)
    | (refine o_store rfl 25 _ _ rfl rfl k2 C rfl rfl 25 ev0.cells HR2.out HS.out HZ.out H1.out ?_))
  refine bodyPost_ret (results_two rfl _ _ _ _ _ _ _ _ rfl (setRow_heap _ _ _ _ _ _ HR2.out) Try.underlying25 rfl HS.out rfl) rfl ?_
  exact ⟨rfl, below_row HW2.out HL.out _⟩
set_option maxRecDepth 20000 in
set_option maxHeartbeats 1000000 in
theorem told_no (x : Ev) (b : ByteArray) (w : World) (hf : x.Fit) (h : goodE x = false ∨ encS x ≠ b) : ToldE x b w ev0.cells 11 := by
  unfold ToldE
  have HE : Hid (∀ W, Calls Try.prog 9 #[.agg x.cells] W fun r w' => r = .returned (.tuple #[.string (encT x), .int .i64 (encX x)]) ∧ Below W.heap.size W w') := fun W => c_encode x W hf
  have HT : Hid ((encX x = 11) ∨ (encX x = 0 ∧ ((encT x).toList == b.toList) = false)) := show _ ∨ _ by
    cases hg : goodE x with
    | false => left; unfold encX; simp [hg]
    | true =>
      right
      refine ⟨by unfold encX; simp [hg], o_text_ne ?_⟩
      rcases h with h | h
      · rw [hg] at h; cases h
      · unfold encT; simp [hg]; exact h
  generalize encT x = s at *
  generalize encX x = n at *
  clear h
  have HS := Lib.hid (ev_info x)
  have HS0 := Lib.hid (ev_info ev0)
  have H1 := Lib.hid (ev_one x)
  have H0 := Lib.hid ev0_one'
  have HZ : Hid (ev0.cells.size = x.cells.size) := show _ = _ from rfl
  obtain ⟨k1, wa, e1, e2, hA, ha⟩ := boxd_new w x.cells 25
  obtain ⟨k2, wb, e3, e4, hB, hb⟩ := boxd_new wa ev0.cells 25
  have HB : Hid (Boxd wb k1 x.cells 25) := hA.below hb
  have HR := Lib.hid hB
  have HW := Lib.hid (below_via ha hb)
  have e5 : k2 = k1 + 1 := by rw [e3, e2, Deep.nblk_alloc, e1]
  have HL : Hid (w.heap.size ≤ k2) := show _ ≤ _ by omega
  clear hf hA hB ha hb
  generalize x.cells = C at *
  go_enter Try.func28, Try.ntmps28
  go_upto_region 1 with fail
  rw [ev0_cells] at e4
  rw [← e2, ← e1, ← e5, ← e4]
  clear e1 e2 e3 e4 e5
  rcases HT.out with hn | ⟨hn, ht⟩
  · rw [hn] at HE
    clear HT
    go_upto_region 4 with (first
      | (refine o_load (by rfl) 25 _ rfl k1 rfl 25 _ _ HB.out Try.underlying25 rfl HS.out ?_)
      | (go_at_call 9
         refine (HE.out wb).mono ?_
         rintro r y1 ⟨rfl, hb⟩
         have HB2 := Lib.hid (HB.out.below hb)
         have HR2 := Lib.hid (HR.out.below hb)
         have HW2 := Lib.hid (below_via HW.out hb)
         clear hb))
    obtain ⟨k3, y2, e1, e2, hA, ha⟩ := boxd_new y1 ev0.cells 25
    have HN := Lib.hid hA
    have HR3 := Lib.hid (HR2.out.below ha)
    have HW3 := Lib.hid (below_via HW2.out ha)
    rw [ev0_cells] at e2
    rw [← e2, ← e1]
    clear e1 e2 hA ha
    generalize hZ : ev0.cells = Z at *
    have HZE := Lib.hid hZ
    clear hZ
    go_wp2_with (first
      | (refine o_load (by rfl) 25 _ rfl k3 rfl 25 _ _ HN.out Try.underlying25 rfl HS0.out ?_)
      | (refine o_store rfl 25 _ _ rfl rfl k2 Z rfl rfl 25 Z HR3.out HS0.out rfl H0.out ?_))
    refine bodyPost_ret (results_two rfl _ _ _ _ _ _ _ _ rfl (setRow_heap _ _ _ _ _ _ HR3.out) Try.underlying25 rfl HS0.out rfl) rfl ?_
    rw [HZE.out]
    exact ⟨rfl, below_row HW3.out HL.out _⟩
  · rw [hn] at HE
    clear HT
    go_upto_region 4 with (first
      | (refine o_load (by rfl) 25 _ rfl k1 rfl 25 _ _ HB.out Try.underlying25 rfl HS.out ?_)
      | (go_at_call 9
         refine (HE.out wb).mono ?_
         rintro r y1 ⟨rfl, hb⟩
         have HB2 := Lib.hid (HB.out.below hb)
         have HR2 := Lib.hid (HR.out.below hb)
         have HW2 := Lib.hid (below_via HW.out hb)
         clear hb))
    obtain ⟨k3, y2, e1, e2, hA, ha⟩ := boxd_new y1 ev0.cells 25
    have HN := Lib.hid hA
    have HR3 := Lib.hid (HR2.out.below ha)
    have HW3 := Lib.hid (below_via HW2.out ha)
    rw [ev0_cells] at e2
    rw [← e2, ← e1]
    clear e1 e2 hA ha
    generalize hZ : ev0.cells = Z at *
    have HZE := Lib.hid hZ
    clear hZ
    go_wp2_with (first
      | (refine o_load (by rfl) 25 _ rfl k3 rfl 25 _ _ HN.out Try.underlying25 rfl HS0.out ?_)
      | (refine o_store rfl 25 _ _ rfl rfl k2 Z rfl rfl 25 Z HR3.out HS0.out rfl H0.out ?_))
    refine bodyPost_ret (results_two rfl _ _ _ _ _ _ _ _ rfl (setRow_heap _ _ _ _ _ _ HR3.out) Try.underlying25 rfl HS0.out rfl) rfl ?_
    rw [HZE.out]
    exact ⟨rfl, below_row HW3.out HL.out _⟩
theorem c_decode (b : ByteArray) (w : World) (hl : b.size ≤ 100000) : Calls Try.prog 11 #[.string b] w fun x w' => x = .returned (.tuple #[.agg (decE b).cells, .int .i64 (decX b)]) ∧ Below w.heap.size w w' := by
  obtain ⟨k, wb, e1, e2, hA, hb⟩ := boxd_new w ev0.cells 25
  have HL : Hid (w.heap.size ≤ k) := show _ ≤ _ by omega
  have HA := Lib.hid hA
  have HW := Lib.hid hb
  have HO : Hid (∀ W, Calls Try.prog 30 #[.string b] W fun e w' => ∃ a, e = .returned (.pointer (some a)) ∧ ∃ F, OpAt w' F (.pointer (some a)) ⟨b, 0, false⟩ ∧ Below W.heap.size W w' ∧ (∀ i, F i → W.heap.size ≤ i)) := fun W => op_open b W (by omega)
  have HN : Hid (∀ a F W, OpAt W F (.pointer (some a)) ⟨b, 0, false⟩ → Calls Try.prog 29 #[.pointer (some a)] W fun x w' => (evN (reads ⟨b, 0, false⟩ sizeL).1).Fit ∧ x = .returned (.agg (evN (reads ⟨b, 0, false⟩ sizeL).1).cells) ∧ ∃ F', OpAt w' F' (.pointer (some a)) (reads ⟨b, 0, false⟩ sizeL).2 ∧ Only F W w' ∧ (∀ i, F' i → F i ∨ W.heap.size ≤ i)) := fun a F W h => o_next _ a F W h
  have HT : Hid (∀ W, (evN (reads ⟨b, 0, false⟩ sizeL).1).Fit → ToldE (evN (reads ⟨b, 0, false⟩ sizeL).1) b W (decE b).cells (decX b)) := fun W hf => by
    obtain ⟨h1, h2⟩ := tl_dec hf
    cases ho : okD b with
    | true =>
      rw [ho] at h1
      unfold tl at h1
      simp only [Bool.and_eq_true, decide_eq_true_iff] at h1
      have := told_yes _ b W hf h1.1 h1.2
      rw [h2 ho] at this ⊢
      rwa [show decE b = evD b by unfold decE; rw [if_pos ho], show decX b = 0 by unfold decX; rw [if_pos ho]]
    | false =>
      rw [ho] at h1
      unfold tl at h1
      rw [show decE b = ev0 by unfold decE; rw [if_neg (by rw [ho]; decide)], show decX b = 11 by unfold decX; rw [if_neg (by rw [ho]; decide)]]
      refine told_no _ b W hf ?_
      simp only [Bool.and_eq_false_iff, decide_eq_false_iff_not] at h1
      exact h1
  have HS := Lib.hid (ev_info (decE b))
  have H1 := Lib.hid (ev_one (decE b))
  have HZ : Hid (ev0.cells.size = (decE b).cells.size) := show _ = _ from rfl
  unfold ToldE at HT
  clear hA hb hl
  generalize evN (reads ⟨b, 0, false⟩ sizeL).1 = z at *
  generalize (decE b).cells = D at *
  generalize decX b = n at *
  go_enter Try.func11, Try.ntmps11
  go_upto_region 1 with fail
  rw [ev0_cells] at e2
  rw [← e2, ← e1]
  clear e1 e2
  go_wp2_with (first
    | (go_at_call 30
       refine (HO.out wb).mono ?_
       rintro x y1 ⟨a, rfl, F, hp, hb, hF⟩
       have HP := Lib.hid hp
       have HA1 := Lib.hid (HA.out.below hb)
       have HW1 := Lib.hid (below_via HW.out hb)
       have HF : Hid (∀ i, F i → w.heap.size ≤ i ∧ ¬ i = k) := fun i hi => ⟨Nat.le_trans HW.out.size (hF i hi), fun e => by have := hF i hi; have := boxd_lt HA.out; omega⟩
       clear hp hb hF)
    | (go_at_call 29
       refine (HN.out a F y1 HP.out).mono ?_
       rintro x y2 ⟨hf, rfl, F', hp, ho, hF⟩
       have HFIT := Lib.hid hf
       have HW2 := Lib.hid (below_onlyF HW1.out ho (fun i hi => (HF.out i hi).1) HW1.out.size)
       have HA2 : Hid (Boxd y2 k ev0.cells 25) := show Boxd _ _ _ _ from (ho.block k (boxd_lt HA1.out) (fun h => (HF.out k h).2 rfl)).trans HA1.out
       clear hf hp ho hF)
    | (go_at_call 28
       refine (HT.out y2 HFIT.out).mono ?_
       rintro x y3 ⟨rfl, hb⟩
       have HW3 := Lib.hid (below_via HW2.out hb)
       have HA3 := Lib.hid (HA2.out.below hb)
       clear hb)
    | (refine o_store rfl 25 _ _ rfl rfl k D rfl rfl 25 ev0.cells HA3.out HS.out HZ.out H1.out ?_))
  refine bodyPost_ret (results_two rfl _ _ _ _ _ _ _ _ rfl (setRow_heap _ _ _ _ _ _ HA3.out) Try.underlying25 rfl HS.out rfl) rfl ?_
  exact ⟨rfl, below_row HW3.out HL.out _⟩
end Go.Proofs.Ytcmdonckilajjaa.Event
namespace Go.Proofs.Ytcmdonckilajjaa.Event
open Go.ChangeShapes Go.WideShapes Go.ChangeAt Go.RowKit Fl Date Cal Pack

set_option maxRecDepth 20000 in
set_option maxHeartbeats 1000000 in
theorem fine_own_undo (c : Cm) (w : World) (h : c.undo = true) :
    Calls Try.prog 21 #[.agg c.cells] w fun x w' => x = .returned (.bool (eqE c.e ev0)) ∧ Below w.heap.size w w' := by
  have HE : Hid (∀ W, Calls Try.prog 37 #[.agg c.e.cells] W fun x w' => x = .returned (.bool (eqE c.e ev0)) ∧ Below W.heap.size W w') := fun W => o_empty c.e W
  generalize eqE c.e ev0 = r at *
  obtain ⟨g, wb, e1, e2, hB, hb⟩ := boxd_new w c.cells 40
  have HS := Lib.hid (ev_info' c.e)
  have a0 : wb.cell? ⟨g, 0, none⟩ = some (.bool true) := by rw [hB.cell, ← h]; rfl
  have HM := Lib.hid (ev_mid hB)
  have HW := Lib.hid hb
  clear hB hb h
  generalize c.cells = C at *
  go_enter Try.func21, Try.ntmps21
  go_upto_region 1 with fail
  rw [← e2, ← e1]
  clear e1 e2
  go_wp2_with (first
    | (refine load_mid_want (by rfl) 25 _ rfl _ _ rfl c.e.cells _ HM.out Try.underlying25 rfl HS.out ?_)
    | (go_at_call 37
       refine (HE.out wb).mono ?_
       rintro e y1 ⟨rfl, hb⟩
       have HW1 := Lib.hid (below_via HW.out hb)
       clear hb))
  go_ret
  exact ⟨rfl, HW1.out⟩
set_option maxRecDepth 20000 in
set_option maxHeartbeats 1000000 in
theorem fine_own_do (c : Cm) (w : World) (h : c.undo = false) (hf : c.e.Fit) :
    Calls Try.prog 21 #[.agg c.cells] w fun x w' => x = .returned (.bool (decide (c.of_ = 0) && (goodE c.e && decide (c.e.key = c.key)))) ∧ Below w.heap.size w w' := by
  have HG : Hid (∀ W, Calls Try.prog 13 #[.agg c.e.cells] W fun x w' => x = .returned (.bool (goodE c.e)) ∧ Below W.heap.size W w') := fun W => c_good c.e W hf
  obtain ⟨g, wb, e1, e2, hB, hb⟩ := boxd_new w c.cells 40
  have HS := Lib.hid (ev_info' c.e)
  have a0 : wb.cell? ⟨g, 0, none⟩ = some (.bool false) := by rw [hB.cell, ← h]; rfl
  have a1 : wb.cell? ⟨g, 1, none⟩ = some (.int .u32 (c.key : Nat)) := by rw [hB.cell]; rfl
  have a4 : wb.cell? ⟨g, 4, none⟩ = some (.int .u32 (c.e.key : Nat)) := by rw [hB.cell]; rfl
  have a13 : wb.cell? ⟨g, 13, none⟩ = some (.int .u32 (c.of_ : Nat)) := by rw [hB.cell]; rfl
  have HM := Lib.hid (ev_mid hB)
  have HW := Lib.hid hb
  clear hB hb h hf
  generalize c.cells = C at *
  generalize goodE c.e = r at *
  generalize c.e.key = k1 at *
  generalize c.key = k2 at *
  generalize c.of_ = o at *
  by_cases h0 : o = 0
  · have t0 : ((o : Int) == 0) = true := by rw [h0]; rfl
    by_cases hk : k1 = k2
    · have t1 : ((k1 : Int) == (k2 : Int)) = true := by rw [hk]; simp
      have HR : Hid ((decide (o = 0) && (r && decide (k1 = k2))) = r) := show _ = _ by rw [decide_eq_true h0, decide_eq_true hk]; simp
      rw [HR.out]
      clear h0 hk HR
      go_enter Try.func21, Try.ntmps21
      go_upto_region 1 with fail
      rw [← e2, ← e1]
      clear e1 e2
      go_wp2_with (first
        | (refine load_mid_want (by rfl) 25 _ rfl _ _ rfl c.e.cells _ HM.out Try.underlying25 rfl HS.out ?_)
        | (go_at_call 13
           refine (HG.out wb).mono ?_
           rintro e y1 ⟨rfl, hb⟩
           have HW1 := Lib.hid (below_via HW.out hb)
           clear hb))
      go_ret
      exact ⟨rfl, HW1.out⟩
    · have t1 : ((k1 : Int) == (k2 : Int)) = false := by rw [beq_eq_false_iff_ne]; omega
      have HR : Hid ((decide (o = 0) && (r && decide (k1 = k2))) = false) := show _ = _ by rw [decide_eq_false hk]; simp
      rw [HR.out]
      clear h0 hk HR HG
      go_enter Try.func21, Try.ntmps21
      go_upto_region 1 with fail
      rw [← e2, ← e1]
      clear e1 e2
      go_wp2_with fail
      go_ret
      exact ⟨rfl, HW.out⟩
  · have t0 : ((o : Int) == 0) = false := by rw [beq_eq_false_iff_ne]; omega
    have HR : Hid ((decide (o = 0) && (r && decide (k1 = k2))) = false) := show _ = _ by rw [decide_eq_false h0]; simp
    rw [HR.out]
    clear h0 HR HG
    go_enter Try.func21, Try.ntmps21
    go_upto_region 1 with fail
    rw [← e2, ← e1]
    clear e1 e2
    go_wp2_with fail
    go_ret
    exact ⟨rfl, HW.out⟩
theorem c_fine (c : Cm) (w : World) (hf : c.Fit) : Calls Try.prog 21 #[.agg c.cells] w fun x w' => x = .returned (.bool (fineC c)) ∧ Below w.heap.size w w' := by
  cases h : c.undo with
  | true =>
    rw [show fineC c = eqE c.e ev0 by unfold fineC; rw [if_pos h]]
    exact fine_own_undo c w h
  | false =>
    rw [show fineC c = (decide (c.of_ = 0) && (goodE c.e && decide (c.e.key = c.key))) by unfold fineC; rw [if_neg (by rw [h]; decide)]]
    exact fine_own_do c w h hf.e
/-- What stands while a command is packed: its box at k, the packer at g. -/
def PutsC (w : World) (g k : Nat) (C : Array Value) (p : PSt) (W : World) : Prop :=
  Boxd W k C 40 ∧ Below w.heap.size w W ∧ ∃ F, PkAt W F g p ∧ ¬ F k ∧ (∀ i, F i → w.heap.size ≤ i)
theorem PutsC.next {w W W' : World} {g k : Nat} {C : Array Value} {q : PSt} {F F' : Nat → Prop} (h1 : Boxd W k C 40) (h2 : Below w.heap.size w W) (h3 : ¬ F k) (h4 : ∀ i, F i → w.heap.size ≤ i)
    (r1 : PkAt W' F' g q) (r2 : Only F W W') (r3 : ∀ i, F' i → F i ∨ W.heap.size ≤ i) : PutsC w g k C q W' := by
  have hk := boxd_lt h1
  refine ⟨(r2.block k hk h3).trans h1, below_onlyF h2 r2 h4 h2.size, F', r1, fun hf => ?_, fun i hi => ?_⟩
  · rcases r3 k hf with q | q
    · exact h3 q
    · omega
  · rcases r3 i hi with q | q
    · exact h4 i q
    · exact Nat.le_trans h2.size q
theorem putsC_num {w W : World} {g k : Nat} {C : Array Value} {p : PSt} (h : PutsC w g k C p W) (v n : Nat) (u m : Int) (hu : u = v) (hm : m = n) (hv : v < 18446744073709551616) (hn : m ≤ 9223372036854775807) :
    Calls Try.prog 45 #[.pointer (some ⟨g, 0, none⟩), .int .u64 u, .int .i64 m] W fun x W' => x = .returned (.tuple #[]) ∧ PutsC w g k C (p.num v n) W' := by
  subst hm
  subst hu
  obtain ⟨h1, h2, F, h3, h4, h5⟩ := h
  refine (pk_num p v n g F W h3 hv (by omega)).mono ?_
  rintro x W' ⟨rfl, F', r1, r2, r3⟩
  exact ⟨rfl, PutsC.next h1 h2 h4 h5 r1 r2 r3⟩
theorem putsC_event {w W : World} {g k : Nat} {C : Array Value} {p : PSt} (h : PutsC w g k C p W) (e : Ev) (he : Ranged e) :
    Calls Try.prog 25 #[.pointer (some ⟨g, 0, none⟩), .agg e.cells] W fun x W' => x = .returned (.tuple #[]) ∧ PutsC w g k C (nums p (numz e)) W' := by
  obtain ⟨h1, h2, F, h3, h4, h5⟩ := h
  refine (o_puts e p g F W he h3).mono ?_
  rintro x W' ⟨rfl, F', r1, r2, r3⟩
  exact ⟨rfl, PutsC.next h1 h2 h4 h5 r1 r2 r3⟩
theorem putsC_done {w W : World} {g k : Nat} {C : Array Value} {p : PSt} (h : PutsC w g k C p W) :
    Calls Try.prog 26 #[.pointer (some ⟨g, 0, none⟩)] W fun x W' => x = .returned (.tuple #[.string p.told, .int .i64 p.e]) ∧ Below w.heap.size w W' := by
  obtain ⟨h1, h2, F, h3, h4, h5⟩ := h
  refine (pk_done p g F W h3).mono ?_
  rintro x W' ⟨rfl, F', r1, r2, r3⟩
  exact ⟨rfl, below_onlyF h2 r2 h5 h2.size⟩
theorem pack_undo {c : Cm} (hf : c.Fit) (h : c.undo = true) : ((pst0.num 1 (1 : Nat)).num c.key (4 : Nat)).num c.of_ (4 : Nat) = ⟨cmdS c, 0⟩ := by
  have hk := hf.key
  have ho := hf.of_
  have := nums_ok [(1, 1), (c.key, 4), (c.of_, 4)] ⟨#[]⟩ (by
    intro x hx
    simp only [List.mem_cons, List.not_mem_nil, or_false] at hx
    rcases hx with rfl | rfl | rfl
    · rfl
    · show goesB c.key (4 : Nat) = true
      unfold goesB
      rw [decide_eq_true (show c.key < 256 ^ ((4 : Nat) : Int).toNat from by show c.key < 4294967296; exact hk)]
      rfl
    · show goesB c.of_ (4 : Nat) = true
      unfold goesB
      rw [decide_eq_true (show c.of_ < 256 ^ ((4 : Nat) : Int).toNat from by show c.of_ < 4294967296; exact ho)]
      rfl) (by show 0 + 9 ≤ 60000; omega)
  rw [empty_cat, ← cmd_undo_yes h] at this
  exact this
theorem pack_do {c : Cm} (hf : c.Fit) (h : c.undo = false) (hr : Ranged c.e) : nums ((pst0.num 0 (1 : Nat)).num c.key (4 : Nat)) (numz c.e) = ⟨cmdS c, 0⟩ := by
  have hk := hf.key
  have := nums_ok [(0, 1), (c.key, 4)] ⟨#[]⟩ (by
    intro x hx
    simp only [List.mem_cons, List.not_mem_nil, or_false] at hx
    rcases hx with rfl | rfl
    · rfl
    · show goesB c.key (4 : Nat) = true
      unfold goesB
      rw [decide_eq_true (show c.key < 256 ^ ((4 : Nat) : Int).toNat from by show c.key < 4294967296; exact hk)]
      rfl) (by show 0 + 5 ≤ 60000; omega)
  rw [empty_cat] at this
  have h2 : (pst0.num 0 (1 : Nat)).num c.key (4 : Nat) = ⟨catS [(0, 1), (c.key, 4)], 0⟩ := this
  rw [h2, nums_event hr _ (by rw [cat_length]; show 5 ≤ 1000; omega), ← cmd_undo_no h]
set_option maxRecDepth 20000 in
set_option maxHeartbeats 1000000 in
theorem c_pack (c : Cm) (w : World) (hf : c.Fit) : Calls Try.prog 17 #[.agg c.cells] w fun x w' => x = .returned (.tuple #[.string (packT c), .int .i64 (packX c)]) ∧ Below w.heap.size w w' := by
  have HG : Hid (∀ W, Calls Try.prog 21 #[.agg c.cells] W fun x w' => x = .returned (.bool (fineC c)) ∧ Below W.heap.size W w') := fun W => c_fine c W hf
  have HS := Lib.hid (cm_info c)
  have HS2 := Lib.hid (ev_info' c.e)
  obtain ⟨g, wb, e1, e2, hB, hb⟩ := boxd_new w c.cells 40
  have HB := Lib.hid hB
  have HW := Lib.hid hb
  have HM : Hid (∀ W, Boxd W g c.cells 40 → W.rangeAt g 2 c.e.cells.toList) := fun W hW => ev_mid hW
  have HC : Hid (∀ W, Boxd W g c.cells 40 → (W.cell? ⟨g, 0, none⟩ = some (.bool c.undo) ∧ W.cell? ⟨g, 1, none⟩ = some (.int .u32 (c.key : Nat)) ∧ W.cell? ⟨g, 13, none⟩ = some (.int .u32 (c.of_ : Nat)))) := fun W hW => ⟨hW.cell, hW.cell, hW.cell⟩
  have HFL : Hid (∀ W, Calls Try.prog 46 #[.bool c.undo] W fun x w' => x = .returned (.int .u64 (c.undo.toNat : Nat)) ∧ W = w') := fun W => o_bit c.undo W
  have NN : Hid ((1 : Int) = (1 : Nat) ∧ (4 : Int) = (4 : Nat) ∧ (0 : Int) = (0 : Nat)) := show _ ∧ _ from ⟨rfl, rfl, rfl⟩
  have m1 := key_u64 hf.key
  have m2 := key_u64 hf.of_
  have HV : Hid (c.key < 18446744073709551616 ∧ c.of_ < 18446744073709551616) := show _ ∧ _ by have := hf.key; have := hf.of_; omega
  clear hB hb
  cases hg : fineC c with
  | false =>
    rw [hg] at HG
    rw [show packT c = ⟨#[]⟩ by unfold packT; simp [hg], show packX c = 11 by unfold packX; simp [hg]]
    clear hf hg HC HM HFL NN m1 m2 HV
    generalize c.cells = C at *
    go_enter Try.func17, Try.ntmps17
    go_upto_region 1 with fail
    rw [← e2, ← e1]
    clear e1 e2
    go_wp2_with (first
      | (refine o_load (by rfl) 40 _ rfl g rfl 40 _ _ HB.out Try.underlying40 rfl HS.out ?_)
      | (go_at_call 21
         refine (HG.out wb).mono ?_
         rintro x y1 ⟨rfl, hb⟩
         have HW1 := Lib.hid (below_via HW.out hb)
         clear hb))
    go_ret2
    exact ⟨rfl, HW1.out⟩
  | true =>
    rw [hg] at HG
    rw [show packT c = cmdS c by unfold packT; simp [hg], show packX c = 0 by unfold packX; simp [hg]]
    cases hu : c.undo with
    | true =>
      have HQ := Lib.hid (pack_undo hf hu)
      rw [hu] at HC HFL
      clear hf hg hu HM
      have HFL : Hid (∀ W, Calls Try.prog 46 #[.bool true] W fun x w' => x = .returned (.int .u64 1) ∧ W = w') := HFL
      generalize cmdS c = s at *
      generalize c.key = ky at *
      generalize c.of_ = ko at *
      generalize c.cells = C at *
      go_enter Try.func17, Try.ntmps17
      go_upto_region 1 with fail
      rw [← e2, ← e1]
      clear e1 e2
      go_upto_region 4 with (first
        | (refine o_load (by rfl) 40 _ rfl g rfl 40 _ _ HB.out Try.underlying40 rfl HS.out ?_)
        | (go_at_call 21
           refine (HG.out wb).mono ?_
           rintro x y1 ⟨rfl, hb⟩
           have HW1 := Lib.hid (below_via HW.out hb)
           have HB1 := Lib.hid (HB.out.below hb)
           clear hb))
      have HP : Hid (PutsC w y1.heap.size g C pst0 (y1.alloc (.cells #[.pointer none, .int .i64 0, .int .i64 0] 54))) := show PutsC _ _ _ _ _ _ from
        ⟨HB1.out.below (below_one y1 _), below_via HW1.out (below_one y1 _), fun i => i = y1.heap.size, pk_zero y1, fun e => by have h1 := boxd_lt HB1.out; have h2 : g = y1.heap.size := e; omega, fun i hi => by rw [show i = y1.heap.size from hi]; exact HW1.out.size⟩
      clear HB1 HW1 HB HW
      generalize y1.alloc (.cells #[.pointer none, .int .i64 0, .int .i64 0] 54) = y2 at *
      generalize y1.heap.size = gp at *
      obtain ⟨a0, a1, a13⟩ := HC.out _ HP.out.1
      go_wp2_with (first
        | (go_at_call 46; refine (HFL.out _).mono ?_; rintro x w' ⟨rfl, rfl⟩)
        | (go_at_call 45
           with_reducible refine (putsC_num HP.out 1 1 1 1 NN.out.1 NN.out.1 (by decide) (by decide)).mono ?_
           rintro x y ⟨rfl, h⟩
           replace HP := Lib.hid h
           clear h a0 a1 a13
           obtain ⟨a0, a1, a13⟩ := HC.out _ HP.out.1)
        | (go_at_call 45
           with_reducible refine (putsC_num HP.out ky 4 (ky : Int) 4 rfl NN.out.2.1 HV.out.1 (by decide)).mono ?_
           rintro x y ⟨rfl, h⟩
           replace HP := Lib.hid h
           clear h a0 a1 a13
           obtain ⟨a0, a1, a13⟩ := HC.out _ HP.out.1)
        | (go_at_call 45
           with_reducible refine (putsC_num HP.out ko 4 (ko : Int) 4 rfl NN.out.2.1 HV.out.2 (by decide)).mono ?_
           rintro x y ⟨rfl, h⟩
           replace HP := Lib.hid h
           clear h a0 a1 a13
           obtain ⟨a0, a1, a13⟩ := HC.out _ HP.out.1)
        | (go_at_call 26
           refine (putsC_done HP.out).mono ?_
           rw [HQ.out]
           rintro x y4 ⟨rfl, hb⟩
           have HW4 := Lib.hid hb
           clear hb))
      go_ret2
      exact ⟨rfl, HW4.out⟩
    | false =>
      have HR : Hid (Ranged c.e) := show Ranged _ from ranged_of hf.e (by
        unfold fineC at hg
        rw [if_neg (by rw [hu]; decide)] at hg
        simp only [Bool.and_eq_true] at hg
        exact hg.2.1)
      have HQ := Lib.hid (pack_do hf hu HR.out)
      rw [hu] at HC HFL
      clear hf hg hu
      have HFL : Hid (∀ W, Calls Try.prog 46 #[.bool false] W fun x w' => x = .returned (.int .u64 0) ∧ W = w') := HFL
      generalize cmdS c = s at *
      generalize c.key = ky at *
      generalize c.of_ = ko at *
      generalize c.cells = C at *
      go_enter Try.func17, Try.ntmps17
      go_upto_region 1 with fail
      rw [← e2, ← e1]
      clear e1 e2
      go_upto_region 4 with (first
        | (refine o_load (by rfl) 40 _ rfl g rfl 40 _ _ HB.out Try.underlying40 rfl HS.out ?_)
        | (go_at_call 21
           refine (HG.out wb).mono ?_
           rintro x y1 ⟨rfl, hb⟩
           have HW1 := Lib.hid (below_via HW.out hb)
           have HB1 := Lib.hid (HB.out.below hb)
           clear hb))
      have HP : Hid (PutsC w y1.heap.size g C pst0 (y1.alloc (.cells #[.pointer none, .int .i64 0, .int .i64 0] 54))) := show PutsC _ _ _ _ _ _ from
        ⟨HB1.out.below (below_one y1 _), below_via HW1.out (below_one y1 _), fun i => i = y1.heap.size, pk_zero y1, fun e => by have h1 := boxd_lt HB1.out; have h2 : g = y1.heap.size := e; omega, fun i hi => by rw [show i = y1.heap.size from hi]; exact HW1.out.size⟩
      clear HB1 HW1 HB HW
      generalize y1.alloc (.cells #[.pointer none, .int .i64 0, .int .i64 0] 54) = y2 at *
      generalize y1.heap.size = gp at *
      obtain ⟨a0, a1, a13⟩ := HC.out _ HP.out.1
      go_wp2_with (first
        | (go_at_call 46; refine (HFL.out _).mono ?_; rintro x w' ⟨rfl, rfl⟩)
        | (go_at_call 45
           with_reducible refine (putsC_num HP.out 0 1 0 1 NN.out.2.2 NN.out.1 (by decide) (by decide)).mono ?_
           rintro x y ⟨rfl, h⟩
           replace HP := Lib.hid h
           clear h a0 a1 a13
           obtain ⟨a0, a1, a13⟩ := HC.out _ HP.out.1)
        | (go_at_call 45
           with_reducible refine (putsC_num HP.out ky 4 (ky : Int) 4 rfl NN.out.2.1 HV.out.1 (by decide)).mono ?_
           rintro x y ⟨rfl, h⟩
           replace HP := Lib.hid h
           clear h a0 a1 a13
           obtain ⟨a0, a1, a13⟩ := HC.out _ HP.out.1)
        | (refine load_mid_want (by rfl) 25 _ rfl g 2 rfl c.e.cells _ (HM.out _ HP.out.1) Try.underlying25 rfl HS2.out ?_)
        | (go_at_call 25
           refine (putsC_event HP.out c.e HR.out).mono ?_
           rintro x y ⟨rfl, h⟩
           replace HP := Lib.hid h
           clear h)
        | (go_at_call 26
           refine (putsC_done HP.out).mono ?_
           rw [HQ.out]
           rintro x y4 ⟨rfl, hb⟩
           have HW4 := Lib.hid hb
           clear hb))
      go_ret2
      exact ⟨rfl, HW4.out⟩
end Go.Proofs.Ytcmdonckilajjaa.Event
namespace Go.Proofs.Ytcmdonckilajjaa.Event
open Go.ChangeShapes Go.WideShapes Go.ChangeAt Go.RowKit Fl Date Cal Pack

theorem zu32 : (0 : Nat) < 4294967296 := by decide
theorem cm0_one : cm0.cells.all (·.oneCell') = true := cm_one cm0
def ToldC (x : Cm) (b : ByteArray) (w : World) (C : Array Value) (n : Int) : Prop :=
  Calls Try.prog 50 #[.string b, .agg x.cells, .func (.func 17) #[] #[]] w fun r w' => r = .returned (.tuple #[.agg C, .int .i64 n]) ∧ Below w.heap.size w w'
set_option maxRecDepth 20000 in
set_option maxHeartbeats 1000000 in
theorem toldc_yes (x : Cm) (b : ByteArray) (w : World) (hf : x.Fit) (hg : fineC x = true) (hb : cmdS x = b) : ToldC x b w x.cells 0 := by
  unfold ToldC
  have HE : Hid (∀ W, Calls Try.prog 17 #[.agg x.cells] W fun x w' => x = .returned (.tuple #[.string b, .int .i64 0]) ∧ Below W.heap.size W w') := fun W => by
    have := c_pack x W hf
    rwa [show packT x = b by unfold packT; simp [hg, hb], show packX x = 0 by unfold packX; simp [hg]] at this
  have HT := o_text_eq b
  have HS := Lib.hid (cm_info x)
  have HS0 := Lib.hid (cm_info cm0)
  have H1 := Lib.hid (cm_one x)
  have H0 := Lib.hid cm0_one
  have HZ : Hid (cm0.cells.size = x.cells.size) := show _ = _ from rfl
  obtain ⟨k1, wa, e1, e2, hA, ha⟩ := boxd_new w x.cells 40
  obtain ⟨k2, wb, e3, e4, hB, hb⟩ := boxd_new wa cm0.cells 40
  have HB : Hid (Boxd wb k1 x.cells 40) := hA.below hb
  have HR := Lib.hid hB
  have HW := Lib.hid (below_via ha hb)
  have e5 : k2 = k1 + 1 := by rw [e3, e2, Deep.nblk_alloc, e1]
  have HL : Hid (w.heap.size ≤ k2) := show _ ≤ _ by omega
  clear hf hg hA hB ha hb
  generalize x.cells = C at *
  go_enter Try.func50, Try.ntmps50
  go_upto_region 1 with fail
  rw [cm0_cells] at e4
  rw [← e2, ← e1, ← e5, ← e4]
  clear e1 e2 e3 e4 e5
  go_wp2_with (first
    | (refine o_load (by rfl) 40 _ rfl k1 rfl 40 _ _ HB2.out Try.underlying40 rfl HS.out ?_)
    | (refine o_load (by rfl) 40 _ rfl k1 rfl 40 _ _ HB.out Try.underlying40 rfl HS.out ?_)
    | (go_at_call 17
       refine (HE.out wb).mono ?_
       rintro r y1 ⟨rfl, hb⟩
       have HB2 := Lib.hid (HB.out.below hb)
       have HR2 := Lib.hid (HR.out.below hb)
       have HW2 := Lib.hid (below_via HW.out hb)
       clear hb)
    | (refine o_store rfl 40 _ _ rfl rfl k2 C rfl rfl 40 cm0.cells HR2.out HS.out HZ.out H1.out ?_))
  refine bodyPost_ret (results_two rfl _ _ _ _ _ _ _ _ rfl (setRow_heap _ _ _ _ _ _ HR2.out) Try.underlying40 rfl HS.out rfl) rfl ?_
  exact ⟨rfl, below_row HW2.out HL.out _⟩
set_option maxRecDepth 20000 in
set_option maxHeartbeats 1000000 in
theorem toldc_no (x : Cm) (b : ByteArray) (w : World) (hf : x.Fit) (h : fineC x = false ∨ cmdS x ≠ b) : ToldC x b w cm0.cells 11 := by
  unfold ToldC
  have HE : Hid (∀ W, Calls Try.prog 17 #[.agg x.cells] W fun r w' => r = .returned (.tuple #[.string (packT x), .int .i64 (packX x)]) ∧ Below W.heap.size W w') := fun W => c_pack x W hf
  have HT : Hid ((packX x = 11) ∨ (packX x = 0 ∧ ((packT x).toList == b.toList) = false)) := show _ ∨ _ by
    cases hg : fineC x with
    | false => left; unfold packX; simp [hg]
    | true =>
      right
      refine ⟨by unfold packX; simp [hg], o_text_ne ?_⟩
      rcases h with h | h
      · rw [hg] at h; cases h
      · unfold packT; simp [hg]; exact h
  generalize packT x = s at *
  generalize packX x = n at *
  clear h
  have HS := Lib.hid (cm_info x)
  have HS0 := Lib.hid (cm_info cm0)
  have H1 := Lib.hid (cm_one x)
  have H0 := Lib.hid cm0_one
  have HZ : Hid (cm0.cells.size = x.cells.size) := show _ = _ from rfl
  obtain ⟨k1, wa, e1, e2, hA, ha⟩ := boxd_new w x.cells 40
  obtain ⟨k2, wb, e3, e4, hB, hb⟩ := boxd_new wa cm0.cells 40
  have HB : Hid (Boxd wb k1 x.cells 40) := hA.below hb
  have HR := Lib.hid hB
  have HW := Lib.hid (below_via ha hb)
  have e5 : k2 = k1 + 1 := by rw [e3, e2, Deep.nblk_alloc, e1]
  have HL : Hid (w.heap.size ≤ k2) := show _ ≤ _ by omega
  clear hf hA hB ha hb
  generalize x.cells = C at *
  go_enter Try.func50, Try.ntmps50
  go_upto_region 1 with fail
  rw [cm0_cells] at e4
  rw [← e2, ← e1, ← e5, ← e4]
  clear e1 e2 e3 e4 e5
  rcases HT.out with hn | ⟨hn, ht⟩
  · rw [hn] at HE
    clear HT
    go_upto_region 4 with (first
      | (refine o_load (by rfl) 40 _ rfl k1 rfl 40 _ _ HB.out Try.underlying40 rfl HS.out ?_)
      | (go_at_call 17
         refine (HE.out wb).mono ?_
         rintro r y1 ⟨rfl, hb⟩
         have HB2 := Lib.hid (HB.out.below hb)
         have HR2 := Lib.hid (HR.out.below hb)
         have HW2 := Lib.hid (below_via HW.out hb)
         clear hb))
    obtain ⟨k3, y2, e1, e2, hA, ha⟩ := boxd_new y1 cm0.cells 40
    have HN := Lib.hid hA
    have HR3 := Lib.hid (HR2.out.below ha)
    have HW3 := Lib.hid (below_via HW2.out ha)
    rw [cm0_cells] at e2
    rw [← e2, ← e1]
    clear e1 e2 hA ha
    generalize hZ : cm0.cells = Z at *
    have HZE := Lib.hid hZ
    clear hZ
    go_wp2_with (first
      | (refine o_load (by rfl) 40 _ rfl k3 rfl 40 _ _ HN.out Try.underlying40 rfl HS0.out ?_)
      | (refine o_store rfl 40 _ _ rfl rfl k2 Z rfl rfl 40 Z HR3.out HS0.out rfl H0.out ?_))
    refine bodyPost_ret (results_two rfl _ _ _ _ _ _ _ _ rfl (setRow_heap _ _ _ _ _ _ HR3.out) Try.underlying40 rfl HS0.out rfl) rfl ?_
    rw [HZE.out]
    exact ⟨rfl, below_row HW3.out HL.out _⟩
  · rw [hn] at HE
    clear HT
    go_upto_region 4 with (first
      | (refine o_load (by rfl) 40 _ rfl k1 rfl 40 _ _ HB.out Try.underlying40 rfl HS.out ?_)
      | (go_at_call 17
         refine (HE.out wb).mono ?_
         rintro r y1 ⟨rfl, hb⟩
         have HB2 := Lib.hid (HB.out.below hb)
         have HR2 := Lib.hid (HR.out.below hb)
         have HW2 := Lib.hid (below_via HW.out hb)
         clear hb))
    obtain ⟨k3, y2, e1, e2, hA, ha⟩ := boxd_new y1 cm0.cells 40
    have HN := Lib.hid hA
    have HR3 := Lib.hid (HR2.out.below ha)
    have HW3 := Lib.hid (below_via HW2.out ha)
    rw [cm0_cells] at e2
    rw [← e2, ← e1]
    clear e1 e2 hA ha
    generalize hZ : cm0.cells = Z at *
    have HZE := Lib.hid hZ
    clear hZ
    go_wp2_with (first
      | (refine o_load (by rfl) 40 _ rfl k3 rfl 40 _ _ HN.out Try.underlying40 rfl HS0.out ?_)
      | (refine o_store rfl 40 _ _ rfl rfl k2 Z rfl rfl 40 Z HR3.out HS0.out rfl H0.out ?_))
    refine bodyPost_ret (results_two rfl _ _ _ _ _ _ _ _ rfl (setRow_heap _ _ _ _ _ _ HR3.out) Try.underlying40 rfl HS0.out rfl) rfl ?_
    rw [HZE.out]
    exact ⟨rfl, below_row HW3.out HL.out _⟩
/-- The cells behind a store of some of them. -/
def setAll (C : Array Value) : Nat → List Value → Array Value
  | _, [] => C
  | o, v :: r => setAll (C.setIfInBounds o v) (o + 1) r
theorem boxd_cells : ∀ (vs : List Value) (o g : Nat) (w : World) (C : Array Value) (T : TypeId), Boxd w g C T → Boxd (w.setCells g o vs) g (setAll C o vs) T ∧ Only (fun i => i = g) w (w.setCells g o vs)
  | [], _, _, _, _, _, h => ⟨h, Only.refl _ _⟩
  | v :: r, o, g, w, C, T, h => by
    obtain ⟨h1, h2⟩ := boxd_cells r (o + 1) g (w.setCell ⟨g, o, none⟩ v) (C.setIfInBounds o v) T (boxd_set h rfl)
    exact ⟨h1, only_trans (only_one w g o v) h2⟩
theorem o_mid {P : Program} {ops : Array Oper} {rest : List Oper} {o : Oper} {a : Act} {w : World} {Q : Exit → Act → World → Prop} (hgd : o.guard = none) (ty : TypeId) (x y : Operand) (ho : o.op = .store ty x y) (hd : o.dst = none)
    (g i : Nat) (D : Array Value) (hx : a.eval x = .pointer (some ⟨g, i, none⟩)) (hy : a.eval y = .agg D) (h1 : D.all (·.oneCell') = true) (T : TypeId) (C : Array Value) (hB : Boxd w g C T) (hi : i + D.size ≤ C.size) (hz : (P.info? ty).map (·.size) = some D.size)
    (h : ∀ w', Boxd w' g (setAll C i D.toList) T → Only (fun j => j = g) w w' → wpList P ops Q rest a w') : wpList P ops Q (o :: rest) a w := by
  refine wpList_store_mid hgd ty x y ho g i D hx hy (fun j hj => ⟨?_, boxd_free hB⟩) hz h1 ?_
  · rw [hB.cell, Array.getElem?_eq_getElem (by omega)]
    rfl
  · rw [hd]
    obtain ⟨q1, q2⟩ := boxd_cells D.toList i g w C T hB
    exact h _ q1 q2
theorem cm_mid (k : Nat) (e : Ev) : setAll (Cm.cells ⟨false, k, ev0, 0⟩) 2 e.cells.toList = Cm.cells ⟨false, k, e, 0⟩ := by
  simp [setAll, Cm.cells, Ev.cells]
theorem cm_key (u : Bool) (k : Nat) : (Cm.cells ⟨u, 0, ev0, 0⟩).setIfInBounds 1 (.int .u32 (k : Nat)) = Cm.cells ⟨u, k, ev0, 0⟩ := by
  simp [Cm.cells]
theorem cm_of (u : Bool) (k o : Nat) : (Cm.cells ⟨u, k, ev0, 0⟩).setIfInBounds 13 (.int .u32 (o : Nat)) = Cm.cells ⟨u, k, ev0, o⟩ := by
  simp [Cm.cells]
/-- The head of a command's bytes, as an opener tells it. -/
theorem head_num {b : ByteArray} (h : 5 ≤ b.size) : (⟨b, 0, false⟩ : OSt).num (1 : Nat) = (valN b 0 1, ⟨b, 1, false⟩) ∧ (⟨b, 1, false⟩ : OSt).num (4 : Nat) = (valN b 1 4, ⟨b, 5, false⟩) := by
  constructor
  · unfold OSt.num OSt.hasNum
    rw [if_pos (by rw [decide_eq_true (by show (1 : Int) ≤ (b.size : Int) - (0 : Nat); omega)]; rfl)]
    rfl
  · unfold OSt.num OSt.hasNum
    rw [if_pos (by rw [decide_eq_true (by show (4 : Int) ≤ (b.size : Int) - (1 : Nat); omega)]; rfl)]
    rfl
theorem tail_num {b : ByteArray} (h : 9 ≤ b.size) : (⟨b, 5, false⟩ : OSt).num (4 : Nat) = (valN b 5 4, ⟨b, 9, false⟩) := by
  unfold OSt.num OSt.hasNum
  rw [if_pos (by rw [decide_eq_true (by show (4 : Int) ≤ (b.size : Int) - (5 : Nat); omega)]; rfl)]
  rfl
theorem split_tail {b : ByteArray} (h : 5 ≤ b.size) : b = b.extract 0 5 ++ tailB b := by
  have z1 := size_ext b (a := 0) (e := 5) h
  have z2 : (tailB b).size = b.size - 5 := size_ext b (a := 5) (e := b.size) (Nat.le_refl _)
  refine byte_ext (by rw [ByteArray.size_append, z1, z2]; omega) fun i hi => ?_
  by_cases h3 : i < 5
  · rw [byteN_left _ _ (by rw [z1]; omega), byteN_ext b (a := 0) (e := 5) h (by omega), Nat.zero_add]
  · obtain ⟨k, rfl⟩ : ∃ k, i = 5 + k := ⟨i - 5, by omega⟩
    conv => rhs; rw [show 5 + k = (b.extract 0 5).size + k by rw [z1]]
    rw [byteN_right]
    unfold tailB
    rw [byteN_ext b (Nat.le_refl _) (by omega)]
theorem vals_tail {b : ByteArray} (h : 5 ≤ b.size) (l : List Nat) : vals b 5 l = vals (tailB b) 0 l := by
  have z1 := size_ext b (a := 0) (e := 5) h
  have := vals_behind (b.extract 0 5) (tailB b) l 0
  rw [← split_tail h, z1] at this
  exact this
theorem opn_undo {b : ByteArray} {v0 v1 v2 : Nat} {q0 q1 q2 : OSt} (E0 : (⟨b, 0, false⟩ : OSt).num (1 : Nat) = (v0, q0)) (E1 : q0.num (4 : Nat) = (v1, q1)) (E2 : q1.num (4 : Nat) = (v2, q2)) (h0 : v0 = 1) (hf : Cm.Fit ⟨true, v1, ev0, v2⟩) :
    (fineC ⟨true, v1, ev0, v2⟩ && decide (cmdS ⟨true, v1, ev0, v2⟩ = b)) = okC b ∧ (okC b = true → (⟨true, v1, ev0, v2⟩ : Cm) = cmD b) := by
  have H : okC b = true → (⟨true, v1, ev0, v2⟩ : Cm) = cmD b := fun h => by
    unfold okC at h
    simp only [Bool.and_eq_true, decide_eq_true_iff] at h
    obtain ⟨h5, -, h2⟩ := h
    obtain ⟨a1, a2⟩ := head_num h5
    rw [a1] at E0
    injection E0 with E0 E0'
    subst E0'
    rw [a2] at E1
    injection E1 with E1 E1'
    subst E1'
    rw [← E0] at h0
    rw [if_pos h0] at h2
    have h9 := of_decide_eq_true h2
    rw [tail_num (by omega)] at E2
    injection E2 with E2 E2'
    unfold cmD
    rw [if_pos h0, E1, E2]
  refine ⟨?_, H⟩
  cases h : okC b with
  | true =>
    obtain ⟨p1, p2⟩ := pack_opn h
    rw [H h, p1, p2, decide_eq_true rfl]
    rfl
  | false =>
    cases h2 : (fineC ⟨true, v1, ev0, v2⟩ && decide (cmdS ⟨true, v1, ev0, v2⟩ = b)) with
    | false => rfl
    | true =>
      simp only [Bool.and_eq_true, decide_eq_true_iff] at h2
      have := (opn_pack hf h2.1).1
      rw [h2.2, h] at this
      cases this
theorem opn_do {b : ByteArray} {v0 v1 : Nat} {q0 q1 : OSt} (E0 : (⟨b, 0, false⟩ : OSt).num (1 : Nat) = (v0, q0)) (E1 : q0.num (4 : Nat) = (v1, q1)) (h0 : ¬ v0 = 1) (hf : Cm.Fit ⟨false, v1, evN (reads q1 sizeL).1, 0⟩) :
    (fineC ⟨false, v1, evN (reads q1 sizeL).1, 0⟩ && decide (cmdS ⟨false, v1, evN (reads q1 sizeL).1, 0⟩ = b)) = okC b ∧ (okC b = true → (⟨false, v1, evN (reads q1 sizeL).1, 0⟩ : Cm) = cmD b) := by
  have H : okC b = true → (⟨false, v1, evN (reads q1 sizeL).1, 0⟩ : Cm) = cmD b := fun h => by
    unfold okC at h
    simp only [Bool.and_eq_true, decide_eq_true_iff] at h
    obtain ⟨h5, -, h2⟩ := h
    obtain ⟨a1, a2⟩ := head_num h5
    rw [a1] at E0
    injection E0 with E0 E0'
    subst E0'
    rw [a2] at E1
    injection E1 with E1 E1'
    subst E1'
    rw [← E0] at h0
    rw [if_neg h0] at h2
    simp only [Bool.and_eq_true, decide_eq_true_iff] at h2
    have hz : (tailB b).size = 39 := by
      have := h2.1
      unfold okD at this
      simp only [Bool.and_eq_true, decide_eq_true_iff] at this
      exact this.1
    have z2 : (tailB b).size = b.size - 5 := size_ext b (a := 5) (e := b.size) (Nat.le_refl _)
    have e : evN (reads ⟨b, 5, false⟩ sizeL).1 = evD (tailB b) := by
      rw [← evn_dec h2.1, reads_ok b sizeL 5 sizes_fit (by show 5 + 39 ≤ b.size; omega), reads_ok (tailB b) sizeL 0 sizes_fit (by rw [hz]; decide), vals_tail h5]
    unfold cmD
    rw [if_neg h0, E1, e]
  refine ⟨?_, H⟩
  cases h : okC b with
  | true =>
    obtain ⟨p1, p2⟩ := pack_opn h
    rw [H h, p1, p2, decide_eq_true rfl]
    rfl
  | false =>
    cases h2 : (fineC ⟨false, v1, evN (reads q1 sizeL).1, 0⟩ && decide (cmdS ⟨false, v1, evN (reads q1 sizeL).1, 0⟩ = b)) with
    | false => rfl
    | true =>
      simp only [Bool.and_eq_true, decide_eq_true_iff] at h2
      have := (opn_pack hf h2.1).1
      rw [h2.2, h] at this
      cases this
theorem told_cm {c : Cm} {b : ByteArray} (hf : c.Fit) (h : (fineC c && decide (cmdS c = b)) = okC b ∧ (okC b = true → c = cmD b)) (W : World) : ToldC c b W (opnE b).cells (opnX b) := by
  obtain ⟨h1, h2⟩ := h
  cases ho : okC b with
  | true =>
    rw [ho] at h1
    simp only [Bool.and_eq_true, decide_eq_true_iff] at h1
    have := toldc_yes c b W hf h1.1 h1.2
    rw [h2 ho] at this ⊢
    rwa [show opnE b = cmD b by unfold opnE; rw [if_pos ho], show opnX b = 0 by unfold opnX; rw [if_pos ho]]
  | false =>
    rw [ho] at h1
    rw [show opnE b = cm0 by unfold opnE; rw [if_neg (by rw [ho]; decide)], show opnX b = 11 by unfold opnX; rw [if_neg (by rw [ho]; decide)]]
    refine toldc_no c b W hf ?_
    simp only [Bool.and_eq_false_iff, decide_eq_false_iff_not] at h1
    exact h1
/-- What stands while a command is opened: the result at k, the opener at a. -/
def OpB (w : World) (a : Addr) (k : Nat) (o : OSt) (W : World) : Prop :=
  Boxd W k cm0.cells 40 ∧ Below w.heap.size w W ∧ ∃ F, OpAt W F (.pointer (some a)) o ∧ ¬ F k ∧ (∀ i, F i → w.heap.size ≤ i)
theorem opb_num {w W : World} {a : Addr} {k : Nat} {o q : OSt} {v n : Nat} (h : OpB w a k o W) (m : Int) (hm : m = n) (hn : m ≤ 9223372036854775807) (hq : o.num n = (v, q)) :
    Calls Try.prog 49 #[.pointer (some a), .int .i64 m] W fun x W' => x = .returned (.int .u64 (v : Nat)) ∧ OpB w a k q W' := by
  subst hm
  obtain ⟨h1, h2, F, h3, h4, h5⟩ := h
  refine (op_num o n a F W h3 (by omega)).mono ?_
  rw [hq]
  rintro x W' ⟨rfl, F', r1, r2, r3⟩
  have hk := boxd_lt h1
  refine ⟨rfl, (r2.block k hk h4).trans h1, below_onlyF h2 r2 h5 h2.size, F', r1, fun hf => ?_, fun i hi => ?_⟩
  · rcases r3 k hf with q | q
    · exact h4 q
    · omega
  · rcases r3 i hi with q | q
    · exact h5 i q
    · exact Nat.le_trans h2.size q
/-- The command itself at g. -/
def OpBB (w : World) (a : Addr) (k g : Nat) (C : Array Value) (o : OSt) (W : World) : Prop :=
  Boxd W k cm0.cells 40 ∧ Boxd W g C 40 ∧ C.size = 14 ∧ Below w.heap.size w W ∧ w.heap.size ≤ g ∧ ¬ k = g ∧ ∃ F, OpAt W F (.pointer (some a)) o ∧ ¬ F k ∧ ¬ F g ∧ (∀ i, F i → w.heap.size ≤ i)
theorem OpB.alloc {w W : World} {a : Addr} {k : Nat} {o : OSt} (h : OpB w a k o W) (C : Array Value) (hC : C.size = 14) : OpBB w a k W.heap.size C o (W.alloc (.cells C 40)) := by
  obtain ⟨h1, h2, F, h3, h4, h5⟩ := h
  have hb := below_one W (.cells C 40)
  have hk := boxd_lt h1
  exact ⟨h1.below hb, heap_alloc_last _ _, hC, below_via h2 hb, h2.size, by omega, F, h3.keep hb.size (fun i hi => hb.block i (h3.lt i hi)), h4, fun hf => Nat.lt_irrefl _ (h3.lt _ hf), h5⟩
theorem opbb_next {w W W' : World} {a : Addr} {k g : Nat} {C : Array Value} {q : OSt} {F F' : Nat → Prop} (h1 : Boxd W k cm0.cells 40) (h2 : Boxd W g C 40) (hz : C.size = 14) (hb : Below w.heap.size w W) (hg : w.heap.size ≤ g) (ne : ¬ k = g)
    (h4 : ¬ F k) (h5 : ¬ F g) (h6 : ∀ i, F i → w.heap.size ≤ i) (r1 : OpAt W' F' (.pointer (some a)) q) (r2 : Only F W W') (r3 : ∀ i, F' i → F i ∨ W.heap.size ≤ i) : OpBB w a k g C q W' := by
  have hk := boxd_lt h1
  have hk2 := boxd_lt h2
  refine ⟨(r2.block k hk h4).trans h1, (r2.block g hk2 h5).trans h2, hz, below_onlyF hb r2 h6 hb.size, hg, ne, F', r1, fun hf => ?_, fun hf => ?_, fun i hi => ?_⟩
  · rcases r3 k hf with q | q
    · exact h4 q
    · omega
  · rcases r3 g hf with q | q
    · exact h5 q
    · omega
  · rcases r3 i hi with q | q
    · exact h6 i q
    · exact Nat.le_trans hb.size q
theorem opbb_num {w W : World} {a : Addr} {k g : Nat} {C : Array Value} {o q : OSt} {v n : Nat} (h : OpBB w a k g C o W) (m : Int) (hm : m = n) (hn : m ≤ 9223372036854775807) (hq : o.num n = (v, q)) :
    Calls Try.prog 49 #[.pointer (some a), .int .i64 m] W fun x W' => x = .returned (.int .u64 (v : Nat)) ∧ OpBB w a k g C q W' := by
  subst hm
  obtain ⟨h1, h2, hz, hb, hg, ne, F, h3, h4, h5, h6⟩ := h
  refine (op_num o n a F W h3 (by omega)).mono ?_
  rw [hq]
  rintro x W' ⟨rfl, F', r1, r2, r3⟩
  exact ⟨rfl, opbb_next h1 h2 hz hb hg ne h4 h5 h6 r1 r2 r3⟩
theorem opbb_event {w W : World} {a : Addr} {k g : Nat} {C : Array Value} {o : OSt} (h : OpBB w a k g C o W) :
    Calls Try.prog 29 #[.pointer (some a)] W fun x W' => (evN (reads o sizeL).1).Fit ∧ x = .returned (.agg (evN (reads o sizeL).1).cells) ∧ OpBB w a k g C (reads o sizeL).2 W' := by
  obtain ⟨h1, h2, hz, hb, hg, ne, F, h3, h4, h5, h6⟩ := h
  refine (o_next o a F W h3).mono ?_
  rintro x W' ⟨hf, rfl, F', r1, r2, r3⟩
  exact ⟨hf, rfl, opbb_next h1 h2 hz hb hg ne h4 h5 h6 r1 r2 r3⟩
theorem OpBB.set {w W W' : World} {a : Addr} {k g : Nat} {C D : Array Value} {o : OSt} (h : OpBB w a k g C o W) (hB : Boxd W' g D 40) (hD : D.size = 14) (ho : Only (fun j => j = g) W W') : OpBB w a k g D o W' := by
  obtain ⟨h1, h2, hz, hb, hg, ne, F, h3, h4, h5, h6⟩ := h
  exact ⟨boxd_only h1 ho ne, hB, hD, below_only hb ho hg hb.size, hg, ne, F, h3.keep ho.size (fun i hi => ho.block i (h3.lt i hi) (fun e => h5 (e ▸ hi))), h4, h5, h6⟩
theorem opb_start {w wb y : World} {k : Nat} {a : Addr} {F : Nat → Prop} {o : OSt} (hA : Boxd wb k cm0.cells 40) (hW : Below w.heap.size w wb) (hp : OpAt y F (.pointer (some a)) o) (hb : Below wb.heap.size wb y) (hF : ∀ i, F i → wb.heap.size ≤ i) : OpB w a k o y :=
  ⟨hA.below hb, below_via hW hb, F, hp, fun hf => by have := hF k hf; have := boxd_lt hA; omega, fun i hi => Nat.le_trans hW.size (hF i hi)⟩
set_option maxRecDepth 20000 in
set_option maxHeartbeats 1000000 in
theorem open_undo (b : ByteArray) (w : World) (hl : b.size ≤ 100000) (v0 : Nat) (q0 : OSt) (E0 : (⟨b, 0, false⟩ : OSt).num (1 : Nat) = (v0, q0)) (h0 : v0 = 1) :
    Calls Try.prog 19 #[.string b] w fun x w' => x = .returned (.tuple #[.agg (opnE b).cells, .int .i64 (opnX b)]) ∧ Below w.heap.size w w' := by
  obtain ⟨v1, q1, E1⟩ : ∃ v q, q0.num (4 : Nat) = (v, q) := ⟨_, _, rfl⟩
  have b1 : v1 < 4294967296 := by have := num_bound q0 4; rw [E1] at this; exact this
  obtain ⟨v2, q2, E2⟩ : ∃ v q, q1.num (4 : Nat) = (v, q) := ⟨_, _, rfl⟩
  have b2 : v2 < 4294967296 := by have := num_bound q1 4; rw [E2] at this; exact this
  have hfit : Cm.Fit ⟨true, v1, ev0, v2⟩ := ⟨b1, ⟨zfit, zfit, zu32, zfit, zfit, zflt, zflt, zfit, zfit, zfit⟩, b2⟩
  have HT : Hid (∀ W, ToldC ⟨true, v1, ev0, v2⟩ b W (opnE b).cells (opnX b)) := fun W => told_cm hfit (opn_undo E0 E1 E2 h0 hfit) W
  unfold ToldC at HT
  have HE2 := Lib.hid E2
  have m2 : IntKind.u32.wrap (v2 : Int) = v2 := by rw [IntKind.wrap_u32]; omega
  have HC := Lib.hid (cm_info ⟨true, v1, ev0, v2⟩)
  obtain ⟨k, wb, e1, e2, hA, hb⟩ := boxd_new w cm0.cells 40
  have HL : Hid (w.heap.size ≤ k) := show _ ≤ _ by omega
  have HA := Lib.hid hA
  have HW := Lib.hid hb
  have HO : Hid (∀ W, Calls Try.prog 30 #[.string b] W fun e w' => ∃ a, e = .returned (.pointer (some a)) ∧ ∃ F, OpAt w' F (.pointer (some a)) ⟨b, 0, false⟩ ∧ Below W.heap.size W w' ∧ (∀ i, F i → W.heap.size ≤ i)) := fun W => op_open b W (by omega)
  have HE0 := Lib.hid E0
  have HE1 := Lib.hid E1
  have NN : Hid ((1 : Int) = (1 : Nat) ∧ (4 : Int) = (4 : Nat)) := show _ ∧ _ from ⟨rfl, rfl⟩
  have u0 : ((v0 : Int) == 1) = true := by rw [h0]; rfl
  have m1 : IntKind.u32.wrap (v1 : Int) = v1 := by rw [IntKind.wrap_u32]; omega
  have HS := Lib.hid (cm_info (opnE b))
  have H1 := Lib.hid (cm_one (opnE b))
  have HZ : Hid (cm0.cells.size = (opnE b).cells.size) := show _ = _ from rfl
  have HX := Lib.hid (cm_info ⟨true, 0, ev0, 0⟩)
  have HXO := Lib.hid (cm_one ⟨true, 0, ev0, 0⟩)
  have IU := Lib.hid u32_one
  clear hA hb hl E0 E1 h0 b1 E2 b2 hfit
  generalize (opnE b).cells = D at *
  generalize opnX b = n at *
  go_enter Try.func19, Try.ntmps19
  go_upto_region 1 with fail
  rw [cm0_cells] at e2
  rw [← e2, ← e1]
  clear e1 e2
  go_upto_region 3 with (first
    | (go_at_call 30
       refine (HO.out wb).mono ?_
       rintro x y1 ⟨a, rfl, F, hp, hb, hF⟩
       have HP := Lib.hid (opb_start HA.out HW.out hp hb hF)
       clear hp hb hF)
    | (go_at_call 49
       refine (opb_num HP.out 1 NN.out.1 (by decide) HE0.out).mono ?_
       rintro x y2 ⟨rfl, h⟩
       replace HP := Lib.hid h
       clear h)
    | (refine o_store rfl 40 _ _ rfl rfl _ (Cm.cells ⟨true, 0, ev0, 0⟩) rfl rfl _ _ (heap_alloc_last _ _) HX.out (by rfl) HXO.out ?_; rw [World.setRow_alloc_new]))
  have HQ := Lib.hid (HP.out.alloc (Cm.cells ⟨true, 0, ev0, 0⟩) rfl)
  clear HP HA HW HO
  generalize y2.alloc (.cells (Cm.cells ⟨true, 0, ev0, 0⟩) 40) = y3 at *
  generalize y2.heap.size = g at *
  go_upto_region 4 with (first
    | (go_at_call 49
       refine (opbb_num HQ.out 4 NN.out.2 (by decide) HE1.out).mono ?_
       rintro x y4 ⟨rfl, h⟩
       replace HQ := Lib.hid h
       clear h)
    | (refine o_put rfl 22 _ _ rfl rfl g 1 (.int .u32 (v1 : Nat)) rfl rfl rfl 40 _ HQ.out.2.1 (by rw [HQ.out.2.2.1]; decide) IU.out (fun y5 hB ho => ?_)
       rw [cm_key] at hB
       replace HQ := Lib.hid (HQ.out.set hB rfl ho)
       clear hB ho))
  have a0 : y5.cell? ⟨g, 0, none⟩ = some (.bool true) := HQ.out.2.1.cell
  go_wp2_with (first
    | (go_at_call 49
       refine (opbb_num HQ.out 4 NN.out.2 (by decide) HE2.out).mono ?_
       rintro x y6 ⟨rfl, h⟩
       replace HQ := Lib.hid h
       clear h)
    | (refine o_put rfl 22 _ _ rfl rfl g 13 (.int .u32 (v2 : Nat)) rfl rfl rfl 40 _ HQ.out.2.1 (by rw [HQ.out.2.2.1]; decide) IU.out (fun y7 hB ho => ?_)
       rw [cm_of] at hB
       replace HQ := Lib.hid (HQ.out.set hB rfl ho)
       clear hB ho)
    | (refine o_load (by rfl) 40 _ rfl g rfl 40 _ _ HQ.out.2.1 Try.underlying40 rfl HC.out ?_)
    | (go_at_call 50
       refine (HT.out _).mono ?_
       rintro x y8 ⟨rfl, hb⟩
       have HB8 := Lib.hid (HQ.out.1.below hb)
       have HW8 := Lib.hid (below_via HQ.out.2.2.2.1 hb)
       clear hb)
    | (refine o_store rfl 40 _ _ rfl rfl k D rfl rfl 40 cm0.cells HB8.out HS.out HZ.out H1.out ?_))
  refine bodyPost_ret (results_two rfl _ _ _ _ _ _ _ _ rfl (setRow_heap _ _ _ _ _ _ HB8.out) Try.underlying40 rfl HS.out rfl) rfl ?_
  exact ⟨rfl, below_row HW8.out HL.out _⟩
set_option maxRecDepth 20000 in
set_option maxHeartbeats 1000000 in
theorem open_do (b : ByteArray) (w : World) (hl : b.size ≤ 100000) (v0 : Nat) (q0 : OSt) (E0 : (⟨b, 0, false⟩ : OSt).num (1 : Nat) = (v0, q0)) (h0 : ¬ v0 = 1) :
    Calls Try.prog 19 #[.string b] w fun x w' => x = .returned (.tuple #[.agg (opnE b).cells, .int .i64 (opnX b)]) ∧ Below w.heap.size w w' := by
  obtain ⟨v1, q1, E1⟩ : ∃ v q, q0.num (4 : Nat) = (v, q) := ⟨_, _, rfl⟩
  have b1 : v1 < 4294967296 := by have := num_bound q0 4; rw [E1] at this; exact this
  have HT : Hid (∀ W, (evN (reads q1 sizeL).1).Fit → ToldC ⟨false, v1, evN (reads q1 sizeL).1, 0⟩ b W (opnE b).cells (opnX b)) := fun W hf => told_cm ⟨b1, hf, zu32⟩ (opn_do E0 E1 h0 ⟨b1, hf, zu32⟩) W
  unfold ToldC at HT
  have HC := Lib.hid (cm_info ⟨false, v1, evN (reads q1 sizeL).1, 0⟩)
  have HEI := Lib.hid (ev_info (evN (reads q1 sizeL).1))
  have HEO := Lib.hid (ev_one (evN (reads q1 sizeL).1))
  have HES : Hid ((evN (reads q1 sizeL).1).cells.size = 11) := show _ = _ from rfl
  obtain ⟨k, wb, e1, e2, hA, hb⟩ := boxd_new w cm0.cells 40
  have HL : Hid (w.heap.size ≤ k) := show _ ≤ _ by omega
  have HA := Lib.hid hA
  have HW := Lib.hid hb
  have HO : Hid (∀ W, Calls Try.prog 30 #[.string b] W fun e w' => ∃ a, e = .returned (.pointer (some a)) ∧ ∃ F, OpAt w' F (.pointer (some a)) ⟨b, 0, false⟩ ∧ Below W.heap.size W w' ∧ (∀ i, F i → W.heap.size ≤ i)) := fun W => op_open b W (by omega)
  have HE0 := Lib.hid E0
  have HE1 := Lib.hid E1
  have NN : Hid ((1 : Int) = (1 : Nat) ∧ (4 : Int) = (4 : Nat)) := show _ ∧ _ from ⟨rfl, rfl⟩
  have u0 : ((v0 : Int) == 1) = false := by rw [beq_eq_false_iff_ne]; omega
  have m1 : IntKind.u32.wrap (v1 : Int) = v1 := by rw [IntKind.wrap_u32]; omega
  have HS := Lib.hid (cm_info (opnE b))
  have H1 := Lib.hid (cm_one (opnE b))
  have HZ : Hid (cm0.cells.size = (opnE b).cells.size) := show _ = _ from rfl
  have HX := Lib.hid (cm_info ⟨false, 0, ev0, 0⟩)
  have HXO := Lib.hid (cm_one ⟨false, 0, ev0, 0⟩)
  have IU := Lib.hid u32_one
  clear hA hb hl E0 E1 h0 b1
  generalize (opnE b).cells = D at *
  generalize opnX b = n at *
  go_enter Try.func19, Try.ntmps19
  go_upto_region 1 with fail
  rw [cm0_cells] at e2
  rw [← e2, ← e1]
  clear e1 e2
  go_upto_region 3 with (first
    | (go_at_call 30
       refine (HO.out wb).mono ?_
       rintro x y1 ⟨a, rfl, F, hp, hb, hF⟩
       have HP := Lib.hid (opb_start HA.out HW.out hp hb hF)
       clear hp hb hF)
    | (go_at_call 49
       refine (opb_num HP.out 1 NN.out.1 (by decide) HE0.out).mono ?_
       rintro x y2 ⟨rfl, h⟩
       replace HP := Lib.hid h
       clear h)
    | (refine o_store rfl 40 _ _ rfl rfl _ (Cm.cells ⟨false, 0, ev0, 0⟩) rfl rfl _ _ (heap_alloc_last _ _) HX.out (by rfl) HXO.out ?_; rw [World.setRow_alloc_new]))
  have HQ := Lib.hid (HP.out.alloc (Cm.cells ⟨false, 0, ev0, 0⟩) rfl)
  clear HP HA HW HO
  generalize y2.alloc (.cells (Cm.cells ⟨false, 0, ev0, 0⟩) 40) = y3 at *
  generalize y2.heap.size = g at *
  go_upto_region 4 with (first
    | (go_at_call 49
       refine (opbb_num HQ.out 4 NN.out.2 (by decide) HE1.out).mono ?_
       rintro x y4 ⟨rfl, h⟩
       replace HQ := Lib.hid h
       clear h)
    | (refine o_put rfl 22 _ _ rfl rfl g 1 (.int .u32 (v1 : Nat)) rfl rfl rfl 40 _ HQ.out.2.1 (by rw [HQ.out.2.2.1]; decide) IU.out (fun y5 hB ho => ?_)
       rw [cm_key] at hB
       replace HQ := Lib.hid (HQ.out.set hB rfl ho)
       clear hB ho))
  have a0 : y5.cell? ⟨g, 0, none⟩ = some (.bool false) := HQ.out.2.1.cell
  generalize hz : evN (reads q1 sizeL).1 = z at *
  have HZZ := Lib.hid hz
  clear hz
  go_wp2_with (first
    | (go_at_call 29
       refine (opbb_event HQ.out).mono ?_
       rw [HZZ.out]
       rintro x y6 ⟨hf, rfl, h⟩
       have HFIT := Lib.hid hf
       replace HQ := Lib.hid h
       clear h hf)
    | (refine o_mid rfl 25 _ _ rfl rfl g 2 z.cells rfl rfl HEO.out 40 _ HQ.out.2.1 (by rw [HQ.out.2.2.1, HES.out]; decide) HEI.out (fun y7 hB ho => ?_)
       rw [cm_mid] at hB
       replace HQ := Lib.hid (HQ.out.set hB rfl ho)
       clear hB ho)
    | (refine o_load (by rfl) 40 _ rfl g rfl 40 _ _ HQ.out.2.1 Try.underlying40 rfl HC.out ?_)
    | (go_at_call 50
       refine (HT.out _ HFIT.out).mono ?_
       rintro x y8 ⟨rfl, hb⟩
       have HB8 := Lib.hid (HQ.out.1.below hb)
       have HW8 := Lib.hid (below_via HQ.out.2.2.2.1 hb)
       clear hb)
    | (refine o_store rfl 40 _ _ rfl rfl k D rfl rfl 40 cm0.cells HB8.out HS.out HZ.out H1.out ?_))
  refine bodyPost_ret (results_two rfl _ _ _ _ _ _ _ _ rfl (setRow_heap _ _ _ _ _ _ HB8.out) Try.underlying40 rfl HS.out rfl) rfl ?_
  exact ⟨rfl, below_row HW8.out HL.out _⟩
theorem c_open (b : ByteArray) (w : World) (hl : b.size ≤ 100000) : Calls Try.prog 19 #[.string b] w fun x w' => x = .returned (.tuple #[.agg (opnE b).cells, .int .i64 (opnX b)]) ∧ Below w.heap.size w w' := by
  obtain ⟨v0, q0, E0⟩ : ∃ v q, (⟨b, 0, false⟩ : OSt).num (1 : Nat) = (v, q) := ⟨_, _, rfl⟩
  by_cases h : v0 = 1
  · exact open_undo b w hl v0 q0 E0 h
  · exact open_do b w hl v0 q0 E0 h
end Go.Proofs.Ytcmdonckilajjaa.Event

