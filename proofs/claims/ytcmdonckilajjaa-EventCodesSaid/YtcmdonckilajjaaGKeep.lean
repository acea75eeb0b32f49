/- Of no one law: an event as its cells are; when two are alike. Of no one law: what was boxed at the entry of a call, cell by cell. The document's own event: which fields a kind has. The document's own event: the fields that a kind has. annuitykeep.Event: two that differ in one of the first four fields. annuitykeep.Event: two that differ in one of the next four fields. annuitykeep.Event: two that differ in one of the last three fields, or in none. annuitykeep.Event: two are alike just if all fields are. The calendar in plain numbers: how long months are, which day each begins with, which month a day lies in. Of no one law. The document's own calendar: Long, Days, Good, Start, Of, Civil, Month, First, Add, Week, at every input. -/
import Derived.WalkKit
import Derived.ProofKit
import Derived.OpenShut
import Derived.Deep.WholeRow
import Derived.Deep.OwnRows
import Derived.Test.YtcmdonckilajjaaGFlo
import Derived.Handy
import Derived.Deep.DeepCutAuto
import Derived.Test.YtcmdonckilajjaaChecked
import Derived.Lib.Hide
namespace Go.Proofs.Ytcmdonckilajjaa.Event
open Go.ChangeShapes Go.WideShapes Go.ChangeAt Go.RowKit

/-- An event: its floats by their bits. -/
structure Ev where
  kind : Int
  day : Int
  key : Nat
  loan : Int
  amount : Int
  rate : Nat
  income : Nat
  sub : Bool
  status : Int
  plan : Int
  family : Int
def ev0 : Ev := ⟨0, 0, 0, 0, 0, 0, 0, false, 0, 0, 0⟩
/-- Its cells. -/
def Ev.cells (e : Ev) : Array Value := #[.int .i64 e.kind, .int .i64 e.day, .int .u32 (e.key : Nat), .int .i64 e.loan, .int .i64 e.amount, .float .f64 e.rate, .float .f64 e.income, .bool e.sub, .int .i64 e.status, .int .i64 e.plan, .int .i64 e.family]
/-- What its fields may be. -/
structure Ev.Fit (e : Ev) : Prop where
  kind : (-9223372036854775808 ≤ e.kind ∧ e.kind ≤ 9223372036854775807)
  day : (-9223372036854775808 ≤ e.day ∧ e.day ≤ 9223372036854775807)
  key : e.key < 4294967296
  loan : (-9223372036854775808 ≤ e.loan ∧ e.loan ≤ 9223372036854775807)
  amount : (-9223372036854775808 ≤ e.amount ∧ e.amount ≤ 9223372036854775807)
  rate : e.rate < 18446744073709551616
  income : e.income < 18446744073709551616
  status : (-9223372036854775808 ≤ e.status ∧ e.status ≤ 9223372036854775807)
  plan : (-9223372036854775808 ≤ e.plan ∧ e.plan ≤ 9223372036854775807)
  family : (-9223372036854775808 ≤ e.family ∧ e.family ≤ 9223372036854775807)
/-- Are all fields alike? -/
def eqE (a b : Ev) : Bool := decide (a.kind = b.kind ∧ a.day = b.day ∧ a.key = b.key ∧ a.loan = b.loan ∧ a.amount = b.amount ∧ a.rate = b.rate ∧ a.income = b.income ∧ a.sub = b.sub ∧ a.status = b.status ∧ a.plan = b.plan ∧ a.family = b.family)
theorem eqE_iff {a b : Ev} : eqE a b = true ↔ a = b := by
  unfold eqE
  rw [decide_eq_true_iff]
  constructor
  · intro h
    cases a; cases b
    simp only [Ev.mk.injEq]
    exact h
  · rintro rfl
    exact ⟨rfl, rfl, rfl, rfl, rfl, rfl, rfl, rfl, rfl, rfl, rfl⟩
theorem eqE_self (a : Ev) : eqE a a = true := eqE_iff.2 rfl
theorem eqE_not {a b : Ev} (h : a ≠ b) : eqE a b = false := by
  rw [Bool.eq_false_iff]
  exact fun h2 => h (eqE_iff.1 h2)
end Go.Proofs.Ytcmdonckilajjaa.Event
namespace Go.Proofs.Ytcmdonckilajjaa.Event
open Go.ChangeShapes Go.WideShapes Go.ChangeAt Go.RowKit

theorem boxed_two (w : World) (A B : Array Value) (T : TypeId) : ∃ g1 g2 wb, g1 = w.heap.size ∧ g2 = w.heap.size + 1 ∧ wb = (w.alloc (.cells A T)).alloc (.cells B T) ∧ (∀ i : Nat, wb.cell? ⟨g1, i, none⟩ = A[i]?) ∧ (∀ i : Nat, wb.cell? ⟨g2, i, none⟩ = B[i]?) ∧ Below w.heap.size w wb := by
  refine ⟨_, _, _, rfl, rfl, rfl, fun i => ?_, fun i => ?_, ((Below.refl _ w).alloc (Nat.le_refl _) _).alloc (by rw [Deep.nblk_alloc]; omega) _⟩
  · simp only [World.cell?]
    rw [Deep.blk_alloc_lt _ _ _ (by rw [Deep.nblk_alloc]; exact Nat.lt_succ_self _), heap_alloc_last]
    rfl
  · have := heap_alloc_last (w.alloc (.cells A T)) (.cells B T)
    rw [Deep.nblk_alloc] at this
    simp only [World.cell?]
    rw [this]
    rfl
theorem boxed_one (w : World) (A : Array Value) (T : TypeId) : ∃ g wb, g = w.heap.size ∧ wb = w.alloc (.cells A T) ∧ (∀ i : Nat, wb.cell? ⟨g, i, none⟩ = A[i]?) ∧ Below w.heap.size w wb := by
  refine ⟨_, _, rfl, rfl, fun i => ?_, (Below.refl _ w).alloc (Nat.le_refl _) _⟩
  simp only [World.cell?]
  rw [heap_alloc_last]
  rfl
end Go.Proofs.Ytcmdonckilajjaa.Event
namespace Go.Proofs.Ytcmdonckilajjaa.Event
open Go.ChangeShapes Go.WideShapes Go.ChangeAt Go.RowKit Fl

/-- Which fields a kind has. -/
def hasS (k : Int) : ByteArray :=
  if k = 1 then ⟨#[76, 65, 82, 83]⟩ else if k = 2 then ⟨#[76, 84]⟩ else if k = 3 then ⟨#[65]⟩ else if k = 4 then ⟨#[76, 65]⟩ else if k = 5 then ⟨#[80]⟩ else if k = 7 then ⟨#[76]⟩ else if k = 8 then ⟨#[76]⟩ else ⟨#[]⟩
theorem r_has (k : Int) (w : World) : Calls Try.prog 39 #[.int .i64 k] w fun e w' => e = .returned (.string (hasS k)) ∧ w = w' := by
  by_cases h1 : k = 1
  · subst h1
    go_enter Try.func39, Try.ntmps39
    go_wp2
    go_ret
    exact ⟨rfl, rfl⟩
  by_cases h2 : k = 2
  · subst h2
    go_enter Try.func39, Try.ntmps39
    go_wp2
    go_ret
    exact ⟨rfl, rfl⟩
  by_cases h3 : k = 3
  · subst h3
    go_enter Try.func39, Try.ntmps39
    go_wp2
    go_ret
    exact ⟨rfl, rfl⟩
  by_cases h4 : k = 4
  · subst h4
    go_enter Try.func39, Try.ntmps39
    go_wp2
    go_ret
    exact ⟨rfl, rfl⟩
  by_cases h5 : k = 5
  · subst h5
    go_enter Try.func39, Try.ntmps39
    go_wp2
    go_ret
    exact ⟨rfl, rfl⟩
  by_cases h7 : k = 7
  · subst h7
    go_enter Try.func39, Try.ntmps39
    go_wp2
    go_ret
    exact ⟨rfl, rfl⟩
  by_cases h8 : k = 8
  · subst h8
    go_enter Try.func39, Try.ntmps39
    go_wp2
    go_ret
    exact ⟨rfl, rfl⟩
  have H : hasS k = ⟨#[]⟩ := by unfold hasS; simp [h1, h2, h3, h4, h5, h7, h8]
  rw [H]
  go_enter Try.func39, Try.ntmps39
  go_wp2
  go_ret
  exact ⟨rfl, rfl⟩
end Go.Proofs.Ytcmdonckilajjaa.Event
namespace Go.Proofs.Ytcmdonckilajjaa.Event
open Go.ChangeShapes Go.WideShapes Go.ChangeAt Go.RowKit Fl
attribute [local go_sem] run_store_float'

/-- An event with the fields alone that its kind has. -/
def onlyE (e : Ev) : Ev :=
  if e.kind = 1 then ⟨e.kind, e.day, e.key, e.loan, e.amount, e.rate, 0, e.sub, 0, 0, 0⟩ else
  if e.kind = 2 then ⟨e.kind, e.day, e.key, e.loan, 0, 0, 0, false, e.status, 0, 0⟩ else
  if e.kind = 3 then ⟨e.kind, e.day, e.key, 0, e.amount, 0, 0, false, 0, 0, 0⟩ else
  if e.kind = 4 then ⟨e.kind, e.day, e.key, e.loan, e.amount, 0, 0, false, 0, 0, 0⟩ else
  if e.kind = 5 then (if e.plan = 4 then ⟨e.kind, e.day, e.key, 0, 0, 0, e.income, false, 0, e.plan, e.family⟩ else ⟨e.kind, e.day, e.key, 0, 0, 0, 0, false, 0, e.plan, 0⟩) else
  if e.kind = 7 ∨ e.kind = 8 then ⟨e.kind, e.day, e.key, e.loan, 0, 0, 0, false, 0, 0, 0⟩ else ⟨e.kind, e.day, e.key, 0, 0, 0, 0, false, 0, 0, 0⟩
set_option maxHeartbeats 4000000 in
theorem only_1 (day : Int) (key : Nat) (loan amount : Int) (rate income : Nat) (sub : Bool) (status plan family : Int) (w : World) :
    Calls Try.prog 24 #[.agg (Ev.cells ⟨1, day, key, loan, amount, rate, income, sub, status, plan, family⟩)] w fun e w' => e = .returned (.agg (Ev.cells ⟨1, day, key, loan, amount, rate, 0, sub, 0, 0, 0⟩)) ∧ Below w.heap.size w w' := by
  unfold Ev.cells
  go_enter Try.func24, Try.ntmps24
  go_wp2_with (first | (go_at_call 39; refine (r_has _ _).mono ?_; rintro e w' ⟨rfl, rfl⟩))
  rw [show hasS 1 = ⟨#[76, 65, 82, 83]⟩ from rfl]
  go_rounds 5
  go_returns
  exact ⟨rfl, by go_grown⟩
set_option maxHeartbeats 4000000 in
theorem only_2 (day : Int) (key : Nat) (loan amount : Int) (rate income : Nat) (sub : Bool) (status plan family : Int) (w : World) :
    Calls Try.prog 24 #[.agg (Ev.cells ⟨2, day, key, loan, amount, rate, income, sub, status, plan, family⟩)] w fun e w' => e = .returned (.agg (Ev.cells ⟨2, day, key, loan, 0, 0, 0, false, status, 0, 0⟩)) ∧ Below w.heap.size w w' := by
  unfold Ev.cells
  go_enter Try.func24, Try.ntmps24
  go_wp2_with (first | (go_at_call 39; refine (r_has _ _).mono ?_; rintro e w' ⟨rfl, rfl⟩))
  rw [show hasS 2 = ⟨#[76, 84]⟩ from rfl]
  go_rounds 5
  go_returns
  exact ⟨rfl, by go_grown⟩
set_option maxHeartbeats 4000000 in
theorem only_3 (day : Int) (key : Nat) (loan amount : Int) (rate income : Nat) (sub : Bool) (status plan family : Int) (w : World) :
    Calls Try.prog 24 #[.agg (Ev.cells ⟨3, day, key, loan, amount, rate, income, sub, status, plan, family⟩)] w fun e w' => e = .returned (.agg (Ev.cells ⟨3, day, key, 0, amount, 0, 0, false, 0, 0, 0⟩)) ∧ Below w.heap.size w w' := by
  unfold Ev.cells
  go_enter Try.func24, Try.ntmps24
  go_wp2_with (first | (go_at_call 39; refine (r_has _ _).mono ?_; rintro e w' ⟨rfl, rfl⟩))
  rw [show hasS 3 = ⟨#[65]⟩ from rfl]
  go_rounds 5
  go_returns
  exact ⟨rfl, by go_grown⟩
set_option maxHeartbeats 4000000 in
theorem only_4 (day : Int) (key : Nat) (loan amount : Int) (rate income : Nat) (sub : Bool) (status plan family : Int) (w : World) :
    Calls Try.prog 24 #[.agg (Ev.cells ⟨4, day, key, loan, amount, rate, income, sub, status, plan, family⟩)] w fun e w' => e = .returned (.agg (Ev.cells ⟨4, day, key, loan, amount, 0, 0, false, 0, 0, 0⟩)) ∧ Below w.heap.size w w' := by
  unfold Ev.cells
  go_enter Try.func24, Try.ntmps24
  go_wp2_with (first | (go_at_call 39; refine (r_has _ _).mono ?_; rintro e w' ⟨rfl, rfl⟩))
  rw [show hasS 4 = ⟨#[76, 65]⟩ from rfl]
  go_rounds 5
  go_returns
  exact ⟨rfl, by go_grown⟩
set_option maxHeartbeats 4000000 in
theorem only_6 (day : Int) (key : Nat) (loan amount : Int) (rate income : Nat) (sub : Bool) (status plan family : Int) (w : World) :
    Calls Try.prog 24 #[.agg (Ev.cells ⟨6, day, key, loan, amount, rate, income, sub, status, plan, family⟩)] w fun e w' => e = .returned (.agg (Ev.cells ⟨6, day, key, 0, 0, 0, 0, false, 0, 0, 0⟩)) ∧ Below w.heap.size w w' := by
  unfold Ev.cells
  go_enter Try.func24, Try.ntmps24
  go_wp2_with (first | (go_at_call 39; refine (r_has _ _).mono ?_; rintro e w' ⟨rfl, rfl⟩))
  rw [show hasS 6 = ⟨#[]⟩ from rfl]
  go_rounds 5
  go_returns
  exact ⟨rfl, by go_grown⟩
set_option maxHeartbeats 4000000 in
theorem only_7 (day : Int) (key : Nat) (loan amount : Int) (rate income : Nat) (sub : Bool) (status plan family : Int) (w : World) :
    Calls Try.prog 24 #[.agg (Ev.cells ⟨7, day, key, loan, amount, rate, income, sub, status, plan, family⟩)] w fun e w' => e = .returned (.agg (Ev.cells ⟨7, day, key, loan, 0, 0, 0, false, 0, 0, 0⟩)) ∧ Below w.heap.size w w' := by
  unfold Ev.cells
  go_enter Try.func24, Try.ntmps24
  go_wp2_with (first | (go_at_call 39; refine (r_has _ _).mono ?_; rintro e w' ⟨rfl, rfl⟩))
  rw [show hasS 7 = ⟨#[76]⟩ from rfl]
  go_rounds 5
  go_returns
  exact ⟨rfl, by go_grown⟩
set_option maxHeartbeats 4000000 in
theorem only_8 (day : Int) (key : Nat) (loan amount : Int) (rate income : Nat) (sub : Bool) (status plan family : Int) (w : World) :
    Calls Try.prog 24 #[.agg (Ev.cells ⟨8, day, key, loan, amount, rate, income, sub, status, plan, family⟩)] w fun e w' => e = .returned (.agg (Ev.cells ⟨8, day, key, loan, 0, 0, 0, false, 0, 0, 0⟩)) ∧ Below w.heap.size w w' := by
  unfold Ev.cells
  go_enter Try.func24, Try.ntmps24
  go_wp2_with (first | (go_at_call 39; refine (r_has _ _).mono ?_; rintro e w' ⟨rfl, rfl⟩))
  rw [show hasS 8 = ⟨#[76]⟩ from rfl]
  go_rounds 5
  go_returns
  exact ⟨rfl, by go_grown⟩
set_option maxHeartbeats 4000000 in
theorem only_5m (day : Int) (key : Nat) (loan amount : Int) (rate income : Nat) (sub : Bool) (status plan family : Int) (hp : plan = 4) (w : World) :
    Calls Try.prog 24 #[.agg (Ev.cells ⟨5, day, key, loan, amount, rate, income, sub, status, plan, family⟩)] w fun e w' => e = .returned (.agg (Ev.cells ⟨5, day, key, 0, 0, 0, income, false, 0, plan, family⟩)) ∧ Below w.heap.size w w' := by
  subst hp
  unfold Ev.cells
  go_enter Try.func24, Try.ntmps24
  go_wp2_with (first | (go_at_call 39; refine (r_has _ _).mono ?_; rintro e w' ⟨rfl, rfl⟩))
  rw [show hasS 5 = ⟨#[80]⟩ from rfl]
  go_rounds 5
  go_region
  all_goals (go_wp2; repeat any_goals (rw [rounds_succ]; go_wp2))
  all_goals go_returns
  all_goals exact ⟨rfl, by go_grown⟩
set_option maxHeartbeats 4000000 in
theorem only_5o (day : Int) (key : Nat) (loan amount : Int) (rate income : Nat) (sub : Bool) (status plan family : Int) (hp : ¬ plan = 4) (w : World) :
    Calls Try.prog 24 #[.agg (Ev.cells ⟨5, day, key, loan, amount, rate, income, sub, status, plan, family⟩)] w fun e w' => e = .returned (.agg (Ev.cells ⟨5, day, key, 0, 0, 0, 0, false, 0, plan, 0⟩)) ∧ Below w.heap.size w w' := by
  have d1 : (plan == 4) = false := by rw [beq_eq_false_iff_ne]; exact hp
  unfold Ev.cells
  go_enter Try.func24, Try.ntmps24
  go_wp2_with (first | (go_at_call 39; refine (r_has _ _).mono ?_; rintro e w' ⟨rfl, rfl⟩))
  rw [show hasS 5 = ⟨#[80]⟩ from rfl]
  go_rounds 5
  go_returns
  exact ⟨rfl, by go_grown⟩
set_option maxHeartbeats 4000000 in
theorem only_o (kind : Int) (day : Int) (key : Nat) (loan amount : Int) (rate income : Nat) (sub : Bool) (status plan family : Int) (w : World) (H : hasS kind = ⟨#[]⟩) :
    Calls Try.prog 24 #[.agg (Ev.cells ⟨kind, day, key, loan, amount, rate, income, sub, status, plan, family⟩)] w fun e w' => e = .returned (.agg (Ev.cells ⟨kind, day, key, 0, 0, 0, 0, false, 0, 0, 0⟩)) ∧ Below w.heap.size w w' := by
  unfold Ev.cells
  go_enter Try.func24, Try.ntmps24
  go_wp2_with (first | (go_at_call 39; refine (r_has _ _).mono ?_; rintro e w' ⟨rfl, rfl⟩))
  go_rounds 5
  go_returns
  exact ⟨rfl, by go_grown⟩
theorem r_only (e : Ev) (w : World) :
    Calls Try.prog 24 #[.agg e.cells] w fun x w' => x = .returned (.agg (onlyE e).cells) ∧ Below w.heap.size w w' := by
  obtain ⟨kind, day, key, loan, amount, rate, income, sub, status, plan, family⟩ := e
  by_cases h1 : kind = 1
  · subst h1
    exact only_1 day key loan amount rate income sub status plan family w
  by_cases h2 : kind = 2
  · subst h2
    exact only_2 day key loan amount rate income sub status plan family w
  by_cases h3 : kind = 3
  · subst h3
    exact only_3 day key loan amount rate income sub status plan family w
  by_cases h4 : kind = 4
  · subst h4
    exact only_4 day key loan amount rate income sub status plan family w
  by_cases h5 : kind = 5
  · subst h5
    by_cases hp : plan = 4
    · rw [show onlyE ⟨5, day, key, loan, amount, rate, income, sub, status, plan, family⟩ = ⟨5, day, key, 0, 0, 0, income, false, 0, plan, family⟩ by unfold onlyE; simp [hp]]
      exact only_5m day key loan amount rate income sub status plan family hp w
    · rw [show onlyE ⟨5, day, key, loan, amount, rate, income, sub, status, plan, family⟩ = ⟨5, day, key, 0, 0, 0, 0, false, 0, plan, 0⟩ by unfold onlyE; simp [hp]]
      exact only_5o day key loan amount rate income sub status plan family hp w
  by_cases h7 : kind = 7
  · subst h7
    exact only_7 day key loan amount rate income sub status plan family w
  by_cases h8 : kind = 8
  · subst h8
    exact only_8 day key loan amount rate income sub status plan family w
  rw [show onlyE ⟨kind, day, key, loan, amount, rate, income, sub, status, plan, family⟩ = ⟨kind, day, key, 0, 0, 0, 0, false, 0, 0, 0⟩ by unfold onlyE; simp [h1, h2, h3, h4, h5, h7, h8]]
  exact only_o kind day key loan amount rate income sub status plan family w (by unfold hasS; simp [h1, h2, h3, h4, h5, h7, h8])
end Go.Proofs.Ytcmdonckilajjaa.Event
namespace Go.Proofs.Ytcmdonckilajjaa.Event
open Go.ChangeShapes Go.WideShapes Go.ChangeAt Go.RowKit Fl

set_option maxHeartbeats 2000000 in
theorem keep_kind (xkind ykind : Int) (xday yday : Int) (xkey ykey : Nat) (xloan yloan : Int) (xamount yamount : Int) (xrate yrate : Nat) (xincome yincome : Nat) (xsub ysub : Bool) (xstatus ystatus : Int) (xplan yplan : Int) (xfamily yfamily : Int) (w : World) (h : ¬ xkind = ykind) :
    Calls Try.prog 15 #[.agg #[.int .i64 xkind, .int .i64 xday, .int .u32 (xkey : Nat), .int .i64 xloan, .int .i64 xamount, .float .f64 xrate, .float .f64 xincome, .bool xsub, .int .i64 xstatus, .int .i64 xplan, .int .i64 xfamily], .agg #[.int .i64 ykind, .int .i64 yday, .int .u32 (ykey : Nat), .int .i64 yloan, .int .i64 yamount, .float .f64 yrate, .float .f64 yincome, .bool ysub, .int .i64 ystatus, .int .i64 yplan, .int .i64 yfamily]] w fun e w' => e = .returned (.bool false) ∧ Below w.heap.size w w' := by
  have d : (xkind == ykind) = false := by rw [beq_eq_false_iff_ne]; exact h
  obtain ⟨g1, g2, wb, e1, e2, e3, hA, hB, hb⟩ := boxed_two w #[.int .i64 xkind, .int .i64 xday, .int .u32 (xkey : Nat), .int .i64 xloan, .int .i64 xamount, .float .f64 xrate, .float .f64 xincome, .bool xsub, .int .i64 xstatus, .int .i64 xplan, .int .i64 xfamily] #[.int .i64 ykind, .int .i64 yday, .int .u32 (ykey : Nat), .int .i64 yloan, .int .i64 yamount, .float .f64 yrate, .float .f64 yincome, .bool ysub, .int .i64 ystatus, .int .i64 yplan, .int .i64 yfamily] 25
  go_enter Try.func15, Try.ntmps15
  go_upto_region 1 with fail
  rw [← e3, ← e2, ← e1]
  have a0 : wb.cell? ⟨g1, 0, none⟩ = some (.int .i64 xkind) := hA 0
  have b0 : wb.cell? ⟨g2, 0, none⟩ = some (.int .i64 ykind) := hB 0
  have a1 : wb.cell? ⟨g1, 1, none⟩ = some (.int .i64 xday) := hA 1
  have b1 : wb.cell? ⟨g2, 1, none⟩ = some (.int .i64 yday) := hB 1
  have a2 : wb.cell? ⟨g1, 2, none⟩ = some (.int .u32 (xkey : Nat)) := hA 2
  have b2 : wb.cell? ⟨g2, 2, none⟩ = some (.int .u32 (ykey : Nat)) := hB 2
  have a3 : wb.cell? ⟨g1, 3, none⟩ = some (.int .i64 xloan) := hA 3
  have b3 : wb.cell? ⟨g2, 3, none⟩ = some (.int .i64 yloan) := hB 3
  have a4 : wb.cell? ⟨g1, 4, none⟩ = some (.int .i64 xamount) := hA 4
  have b4 : wb.cell? ⟨g2, 4, none⟩ = some (.int .i64 yamount) := hB 4
  have a5 : wb.cell? ⟨g1, 5, none⟩ = some (.float .f64 xrate) := hA 5
  have b5 : wb.cell? ⟨g2, 5, none⟩ = some (.float .f64 yrate) := hB 5
  have a6 : wb.cell? ⟨g1, 6, none⟩ = some (.float .f64 xincome) := hA 6
  have b6 : wb.cell? ⟨g2, 6, none⟩ = some (.float .f64 yincome) := hB 6
  have a7 : wb.cell? ⟨g1, 7, none⟩ = some (.bool xsub) := hA 7
  have b7 : wb.cell? ⟨g2, 7, none⟩ = some (.bool ysub) := hB 7
  have a8 : wb.cell? ⟨g1, 8, none⟩ = some (.int .i64 xstatus) := hA 8
  have b8 : wb.cell? ⟨g2, 8, none⟩ = some (.int .i64 ystatus) := hB 8
  have a9 : wb.cell? ⟨g1, 9, none⟩ = some (.int .i64 xplan) := hA 9
  have b9 : wb.cell? ⟨g2, 9, none⟩ = some (.int .i64 yplan) := hB 9
  have a10 : wb.cell? ⟨g1, 10, none⟩ = some (.int .i64 xfamily) := hA 10
  have b10 : wb.cell? ⟨g2, 10, none⟩ = some (.int .i64 yfamily) := hB 10
  clear hA hB e1 e2 e3
  have HB := Lib.hid hb
  clear hb
  go_wp2_with (first | (go_at_call 43; refine (float_same _ _ _).mono ?_; rintro e w' ⟨rfl, rfl⟩))
  go_ret
  exact ⟨rfl, HB.out⟩
set_option maxHeartbeats 2000000 in
theorem keep_day (xkind : Int) (xday yday : Int) (xkey ykey : Nat) (xloan yloan : Int) (xamount yamount : Int) (xrate yrate : Nat) (xincome yincome : Nat) (xsub ysub : Bool) (xstatus ystatus : Int) (xplan yplan : Int) (xfamily yfamily : Int) (w : World) (h : ¬ xday = yday) :
    Calls Try.prog 15 #[.agg #[.int .i64 xkind, .int .i64 xday, .int .u32 (xkey : Nat), .int .i64 xloan, .int .i64 xamount, .float .f64 xrate, .float .f64 xincome, .bool xsub, .int .i64 xstatus, .int .i64 xplan, .int .i64 xfamily], .agg #[.int .i64 xkind, .int .i64 yday, .int .u32 (ykey : Nat), .int .i64 yloan, .int .i64 yamount, .float .f64 yrate, .float .f64 yincome, .bool ysub, .int .i64 ystatus, .int .i64 yplan, .int .i64 yfamily]] w fun e w' => e = .returned (.bool false) ∧ Below w.heap.size w w' := by
  have d : (xday == yday) = false := by rw [beq_eq_false_iff_ne]; exact h
  obtain ⟨g1, g2, wb, e1, e2, e3, hA, hB, hb⟩ := boxed_two w #[.int .i64 xkind, .int .i64 xday, .int .u32 (xkey : Nat), .int .i64 xloan, .int .i64 xamount, .float .f64 xrate, .float .f64 xincome, .bool xsub, .int .i64 xstatus, .int .i64 xplan, .int .i64 xfamily] #[.int .i64 xkind, .int .i64 yday, .int .u32 (ykey : Nat), .int .i64 yloan, .int .i64 yamount, .float .f64 yrate, .float .f64 yincome, .bool ysub, .int .i64 ystatus, .int .i64 yplan, .int .i64 yfamily] 25
  go_enter Try.func15, Try.ntmps15
  go_upto_region 1 with fail
  rw [← e3, ← e2, ← e1]
  have a0 : wb.cell? ⟨g1, 0, none⟩ = some (.int .i64 xkind) := hA 0
  have b0 : wb.cell? ⟨g2, 0, none⟩ = some (.int .i64 xkind) := hB 0
  have a1 : wb.cell? ⟨g1, 1, none⟩ = some (.int .i64 xday) := hA 1
  have b1 : wb.cell? ⟨g2, 1, none⟩ = some (.int .i64 yday) := hB 1
  have a2 : wb.cell? ⟨g1, 2, none⟩ = some (.int .u32 (xkey : Nat)) := hA 2
  have b2 : wb.cell? ⟨g2, 2, none⟩ = some (.int .u32 (ykey : Nat)) := hB 2
  have a3 : wb.cell? ⟨g1, 3, none⟩ = some (.int .i64 xloan) := hA 3
  have b3 : wb.cell? ⟨g2, 3, none⟩ = some (.int .i64 yloan) := hB 3
  have a4 : wb.cell? ⟨g1, 4, none⟩ = some (.int .i64 xamount) := hA 4
  have b4 : wb.cell? ⟨g2, 4, none⟩ = some (.int .i64 yamount) := hB 4
  have a5 : wb.cell? ⟨g1, 5, none⟩ = some (.float .f64 xrate) := hA 5
  have b5 : wb.cell? ⟨g2, 5, none⟩ = some (.float .f64 yrate) := hB 5
  have a6 : wb.cell? ⟨g1, 6, none⟩ = some (.float .f64 xincome) := hA 6
  have b6 : wb.cell? ⟨g2, 6, none⟩ = some (.float .f64 yincome) := hB 6
  have a7 : wb.cell? ⟨g1, 7, none⟩ = some (.bool xsub) := hA 7
  have b7 : wb.cell? ⟨g2, 7, none⟩ = some (.bool ysub) := hB 7
  have a8 : wb.cell? ⟨g1, 8, none⟩ = some (.int .i64 xstatus) := hA 8
  have b8 : wb.cell? ⟨g2, 8, none⟩ = some (.int .i64 ystatus) := hB 8
  have a9 : wb.cell? ⟨g1, 9, none⟩ = some (.int .i64 xplan) := hA 9
  have b9 : wb.cell? ⟨g2, 9, none⟩ = some (.int .i64 yplan) := hB 9
  have a10 : wb.cell? ⟨g1, 10, none⟩ = some (.int .i64 xfamily) := hA 10
  have b10 : wb.cell? ⟨g2, 10, none⟩ = some (.int .i64 yfamily) := hB 10
  clear hA hB e1 e2 e3
  have HB := Lib.hid hb
  clear hb
  go_wp2_with (first | (go_at_call 43; refine (float_same _ _ _).mono ?_; rintro e w' ⟨rfl, rfl⟩))
  go_ret
  exact ⟨rfl, HB.out⟩
set_option maxHeartbeats 2000000 in
theorem keep_key (xkind : Int) (xday : Int) (xkey ykey : Nat) (xloan yloan : Int) (xamount yamount : Int) (xrate yrate : Nat) (xincome yincome : Nat) (xsub ysub : Bool) (xstatus ystatus : Int) (xplan yplan : Int) (xfamily yfamily : Int) (w : World) (h : ¬ xkey = ykey) :
    Calls Try.prog 15 #[.agg #[.int .i64 xkind, .int .i64 xday, .int .u32 (xkey : Nat), .int .i64 xloan, .int .i64 xamount, .float .f64 xrate, .float .f64 xincome, .bool xsub, .int .i64 xstatus, .int .i64 xplan, .int .i64 xfamily], .agg #[.int .i64 xkind, .int .i64 xday, .int .u32 (ykey : Nat), .int .i64 yloan, .int .i64 yamount, .float .f64 yrate, .float .f64 yincome, .bool ysub, .int .i64 ystatus, .int .i64 yplan, .int .i64 yfamily]] w fun e w' => e = .returned (.bool false) ∧ Below w.heap.size w w' := by
  have d : ((xkey : Int) == (ykey : Int)) = false := by rw [beq_eq_false_iff_ne]; omega
  obtain ⟨g1, g2, wb, e1, e2, e3, hA, hB, hb⟩ := boxed_two w #[.int .i64 xkind, .int .i64 xday, .int .u32 (xkey : Nat), .int .i64 xloan, .int .i64 xamount, .float .f64 xrate, .float .f64 xincome, .bool xsub, .int .i64 xstatus, .int .i64 xplan, .int .i64 xfamily] #[.int .i64 xkind, .int .i64 xday, .int .u32 (ykey : Nat), .int .i64 yloan, .int .i64 yamount, .float .f64 yrate, .float .f64 yincome, .bool ysub, .int .i64 ystatus, .int .i64 yplan, .int .i64 yfamily] 25
  go_enter Try.func15, Try.ntmps15
  go_upto_region 1 with fail
  rw [← e3, ← e2, ← e1]
  have a0 : wb.cell? ⟨g1, 0, none⟩ = some (.int .i64 xkind) := hA 0
  have b0 : wb.cell? ⟨g2, 0, none⟩ = some (.int .i64 xkind) := hB 0
  have a1 : wb.cell? ⟨g1, 1, none⟩ = some (.int .i64 xday) := hA 1
  have b1 : wb.cell? ⟨g2, 1, none⟩ = some (.int .i64 xday) := hB 1
  have a2 : wb.cell? ⟨g1, 2, none⟩ = some (.int .u32 (xkey : Nat)) := hA 2
  have b2 : wb.cell? ⟨g2, 2, none⟩ = some (.int .u32 (ykey : Nat)) := hB 2
  have a3 : wb.cell? ⟨g1, 3, none⟩ = some (.int .i64 xloan) := hA 3
  have b3 : wb.cell? ⟨g2, 3, none⟩ = some (.int .i64 yloan) := hB 3
  have a4 : wb.cell? ⟨g1, 4, none⟩ = some (.int .i64 xamount) := hA 4
  have b4 : wb.cell? ⟨g2, 4, none⟩ = some (.int .i64 yamount) := hB 4
  have a5 : wb.cell? ⟨g1, 5, none⟩ = some (.float .f64 xrate) := hA 5
  have b5 : wb.cell? ⟨g2, 5, none⟩ = some (.float .f64 yrate) := hB 5
  have a6 : wb.cell? ⟨g1, 6, none⟩ = some (.float .f64 xincome) := hA 6
  have b6 : wb.cell? ⟨g2, 6, none⟩ = some (.float .f64 yincome) := hB 6
  have a7 : wb.cell? ⟨g1, 7, none⟩ = some (.bool xsub) := hA 7
  have b7 : wb.cell? ⟨g2, 7, none⟩ = some (.bool ysub) := hB 7
  have a8 : wb.cell? ⟨g1, 8, none⟩ = some (.int .i64 xstatus) := hA 8
  have b8 : wb.cell? ⟨g2, 8, none⟩ = some (.int .i64 ystatus) := hB 8
  have a9 : wb.cell? ⟨g1, 9, none⟩ = some (.int .i64 xplan) := hA 9
  have b9 : wb.cell? ⟨g2, 9, none⟩ = some (.int .i64 yplan) := hB 9
  have a10 : wb.cell? ⟨g1, 10, none⟩ = some (.int .i64 xfamily) := hA 10
  have b10 : wb.cell? ⟨g2, 10, none⟩ = some (.int .i64 yfamily) := hB 10
  clear hA hB e1 e2 e3
  have HB := Lib.hid hb
  clear hb
  go_wp2_with (first | (go_at_call 43; refine (float_same _ _ _).mono ?_; rintro e w' ⟨rfl, rfl⟩))
  go_ret
  exact ⟨rfl, HB.out⟩
set_option maxHeartbeats 2000000 in
theorem keep_loan (xkind : Int) (xday : Int) (xkey : Nat) (xloan yloan : Int) (xamount yamount : Int) (xrate yrate : Nat) (xincome yincome : Nat) (xsub ysub : Bool) (xstatus ystatus : Int) (xplan yplan : Int) (xfamily yfamily : Int) (w : World) (h : ¬ xloan = yloan) :
    Calls Try.prog 15 #[.agg #[.int .i64 xkind, .int .i64 xday, .int .u32 (xkey : Nat), .int .i64 xloan, .int .i64 xamount, .float .f64 xrate, .float .f64 xincome, .bool xsub, .int .i64 xstatus, .int .i64 xplan, .int .i64 xfamily], .agg #[.int .i64 xkind, .int .i64 xday, .int .u32 (xkey : Nat), .int .i64 yloan, .int .i64 yamount, .float .f64 yrate, .float .f64 yincome, .bool ysub, .int .i64 ystatus, .int .i64 yplan, .int .i64 yfamily]] w fun e w' => e = .returned (.bool false) ∧ Below w.heap.size w w' := by
  have d : (xloan == yloan) = false := by rw [beq_eq_false_iff_ne]; exact h
  obtain ⟨g1, g2, wb, e1, e2, e3, hA, hB, hb⟩ := boxed_two w #[.int .i64 xkind, .int .i64 xday, .int .u32 (xkey : Nat), .int .i64 xloan, .int .i64 xamount, .float .f64 xrate, .float .f64 xincome, .bool xsub, .int .i64 xstatus, .int .i64 xplan, .int .i64 xfamily] #[.int .i64 xkind, .int .i64 xday, .int .u32 (xkey : Nat), .int .i64 yloan, .int .i64 yamount, .float .f64 yrate, .float .f64 yincome, .bool ysub, .int .i64 ystatus, .int .i64 yplan, .int .i64 yfamily] 25
  go_enter Try.func15, Try.ntmps15
  go_upto_region 1 with fail
  rw [← e3, ← e2, ← e1]
  have a0 : wb.cell? ⟨g1, 0, none⟩ = some (.int .i64 xkind) := hA 0
  have b0 : wb.cell? ⟨g2, 0, none⟩ = some (.int .i64 xkind) := hB 0
  have a1 : wb.cell? ⟨g1, 1, none⟩ = some (.int .i64 xday) := hA 1
  have b1 : wb.cell? ⟨g2, 1, none⟩ = some (.int .i64 xday) := hB 1
  have a2 : wb.cell? ⟨g1, 2, none⟩ = some (.int .u32 (xkey : Nat)) := hA 2
  have b2 : wb.cell? ⟨g2, 2, none⟩ = some (.int .u32 (xkey : Nat)) := hB 2
  have a3 : wb.cell? ⟨g1, 3, none⟩ = some (.int .i64 xloan) := hA 3
  have b3 : wb.cell? ⟨g2, 3, none⟩ = some (.int .i64 yloan) := hB 3
  have a4 : wb.cell? ⟨g1, 4, none⟩ = some (.int .i64 xamount) := hA 4
  have b4 : wb.cell? ⟨g2, 4, none⟩ = some (.int .i64 yamount) := hB 4
  have a5 : wb.cell? ⟨g1, 5, none⟩ = some (.float .f64 xrate) := hA 5
  have b5 : wb.cell? ⟨g2, 5, none⟩ = some (.float .f64 yrate) := hB 5
  have a6 : wb.cell? ⟨g1, 6, none⟩ = some (.float .f64 xincome) := hA 6
  have b6 : wb.cell? ⟨g2, 6, none⟩ = some (.float .f64 yincome) := hB 6
  have a7 : wb.cell? ⟨g1, 7, none⟩ = some (.bool xsub) := hA 7
  have b7 : wb.cell? ⟨g2, 7, none⟩ = some (.bool ysub) := hB 7
  have a8 : wb.cell? ⟨g1, 8, none⟩ = some (.int .i64 xstatus) := hA 8
  have b8 : wb.cell? ⟨g2, 8, none⟩ = some (.int .i64 ystatus) := hB 8
  have a9 : wb.cell? ⟨g1, 9, none⟩ = some (.int .i64 xplan) := hA 9
  have b9 : wb.cell? ⟨g2, 9, none⟩ = some (.int .i64 yplan) := hB 9
  have a10 : wb.cell? ⟨g1, 10, none⟩ = some (.int .i64 xfamily) := hA 10
  have b10 : wb.cell? ⟨g2, 10, none⟩ = some (.int .i64 yfamily) := hB 10
  clear hA hB e1 e2 e3
  have HB := Lib.hid hb
  clear hb
  go_wp2_with (first | (go_at_call 43; refine (float_same _ _ _).mono ?_; rintro e w' ⟨rfl, rfl⟩))
  go_ret
  exact ⟨rfl, HB.out⟩
end Go.Proofs.Ytcmdonckilajjaa.Event
namespace Go.Proofs.Ytcmdonckilajjaa.Event
open Go.ChangeShapes Go.WideShapes Go.ChangeAt Go.RowKit Fl

set_option maxHeartbeats 2000000 in
theorem keep_amount (xkind : Int) (xday : Int) (xkey : Nat) (xloan : Int) (xamount yamount : Int) (xrate yrate : Nat) (xincome yincome : Nat) (xsub ysub : Bool) (xstatus ystatus : Int) (xplan yplan : Int) (xfamily yfamily : Int) (w : World) (h : ¬ xamount = yamount) :
    Calls Try.prog 15 #[.agg #[.int .i64 xkind, .int .i64 xday, .int .u32 (xkey : Nat), .int .i64 xloan, .int .i64 xamount, .float .f64 xrate, .float .f64 xincome, .bool xsub, .int .i64 xstatus, .int .i64 xplan, .int .i64 xfamily], .agg #[.int .i64 xkind, .int .i64 xday, .int .u32 (xkey : Nat), .int .i64 xloan, .int .i64 yamount, .float .f64 yrate, .float .f64 yincome, .bool ysub, .int .i64 ystatus, .int .i64 yplan, .int .i64 yfamily]] w fun e w' => e = .returned (.bool false) ∧ Below w.heap.size w w' := by
  have d : (xamount == yamount) = false := by rw [beq_eq_false_iff_ne]; exact h
  obtain ⟨g1, g2, wb, e1, e2, e3, hA, hB, hb⟩ := boxed_two w #[.int .i64 xkind, .int .i64 xday, .int .u32 (xkey : Nat), .int .i64 xloan, .int .i64 xamount, .float .f64 xrate, .float .f64 xincome, .bool xsub, .int .i64 xstatus, .int .i64 xplan, .int .i64 xfamily] #[.int .i64 xkind, .int .i64 xday, .int .u32 (xkey : Nat), .int .i64 xloan, .int .i64 yamount, .float .f64 yrate, .float .f64 yincome, .bool ysub, .int .i64 ystatus, .int .i64 yplan, .int .i64 yfamily] 25
  go_enter Try.func15, Try.ntmps15
  go_upto_region 1 with fail
  rw [← e3, ← e2, ← e1]
  have a0 : wb.cell? ⟨g1, 0, none⟩ = some (.int .i64 xkind) := hA 0
  have b0 : wb.cell? ⟨g2, 0, none⟩ = some (.int .i64 xkind) := hB 0
  have a1 : wb.cell? ⟨g1, 1, none⟩ = some (.int .i64 xday) := hA 1
  have b1 : wb.cell? ⟨g2, 1, none⟩ = some (.int .i64 xday) := hB 1
  have a2 : wb.cell? ⟨g1, 2, none⟩ = some (.int .u32 (xkey : Nat)) := hA 2
  have b2 : wb.cell? ⟨g2, 2, none⟩ = some (.int .u32 (xkey : Nat)) := hB 2
  have a3 : wb.cell? ⟨g1, 3, none⟩ = some (.int .i64 xloan) := hA 3
  have b3 : wb.cell? ⟨g2, 3, none⟩ = some (.int .i64 xloan) := hB 3
  have a4 : wb.cell? ⟨g1, 4, none⟩ = some (.int .i64 xamount) := hA 4
  have b4 : wb.cell? ⟨g2, 4, none⟩ = some (.int .i64 yamount) := hB 4
  have a5 : wb.cell? ⟨g1, 5, none⟩ = some (.float .f64 xrate) := hA 5
  have b5 : wb.cell? ⟨g2, 5, none⟩ = some (.float .f64 yrate) := hB 5
  have a6 : wb.cell? ⟨g1, 6, none⟩ = some (.float .f64 xincome) := hA 6
  have b6 : wb.cell? ⟨g2, 6, none⟩ = some (.float .f64 yincome) := hB 6
  have a7 : wb.cell? ⟨g1, 7, none⟩ = some (.bool xsub) := hA 7
  have b7 : wb.cell? ⟨g2, 7, none⟩ = some (.bool ysub) := hB 7
  have a8 : wb.cell? ⟨g1, 8, none⟩ = some (.int .i64 xstatus) := hA 8
  have b8 : wb.cell? ⟨g2, 8, none⟩ = some (.int .i64 ystatus) := hB 8
  have a9 : wb.cell? ⟨g1, 9, none⟩ = some (.int .i64 xplan) := hA 9
  have b9 : wb.cell? ⟨g2, 9, none⟩ = some (.int .i64 yplan) := hB 9
  have a10 : wb.cell? ⟨g1, 10, none⟩ = some (.int .i64 xfamily) := hA 10
  have b10 : wb.cell? ⟨g2, 10, none⟩ = some (.int .i64 yfamily) := hB 10
  clear hA hB e1 e2 e3
  have HB := Lib.hid hb
  clear hb
  go_wp2_with (first | (go_at_call 43; refine (float_same _ _ _).mono ?_; rintro e w' ⟨rfl, rfl⟩))
  go_ret
  exact ⟨rfl, HB.out⟩
set_option maxHeartbeats 2000000 in
theorem keep_rate (xkind : Int) (xday : Int) (xkey : Nat) (xloan : Int) (xamount : Int) (xrate yrate : Nat) (xincome yincome : Nat) (xsub ysub : Bool) (xstatus ystatus : Int) (xplan yplan : Int) (xfamily yfamily : Int) (w : World) (h : ¬ xrate = yrate) :
    Calls Try.prog 15 #[.agg #[.int .i64 xkind, .int .i64 xday, .int .u32 (xkey : Nat), .int .i64 xloan, .int .i64 xamount, .float .f64 xrate, .float .f64 xincome, .bool xsub, .int .i64 xstatus, .int .i64 xplan, .int .i64 xfamily], .agg #[.int .i64 xkind, .int .i64 xday, .int .u32 (xkey : Nat), .int .i64 xloan, .int .i64 xamount, .float .f64 yrate, .float .f64 yincome, .bool ysub, .int .i64 ystatus, .int .i64 yplan, .int .i64 yfamily]] w fun e w' => e = .returned (.bool false) ∧ Below w.heap.size w w' := by
  have d : decide (xrate = yrate) = false := decide_eq_false h
  obtain ⟨g1, g2, wb, e1, e2, e3, hA, hB, hb⟩ := boxed_two w #[.int .i64 xkind, .int .i64 xday, .int .u32 (xkey : Nat), .int .i64 xloan, .int .i64 xamount, .float .f64 xrate, .float .f64 xincome, .bool xsub, .int .i64 xstatus, .int .i64 xplan, .int .i64 xfamily] #[.int .i64 xkind, .int .i64 xday, .int .u32 (xkey : Nat), .int .i64 xloan, .int .i64 xamount, .float .f64 yrate, .float .f64 yincome, .bool ysub, .int .i64 ystatus, .int .i64 yplan, .int .i64 yfamily] 25
  go_enter Try.func15, Try.ntmps15
  go_upto_region 1 with fail
  rw [← e3, ← e2, ← e1]
  have a0 : wb.cell? ⟨g1, 0, none⟩ = some (.int .i64 xkind) := hA 0
  have b0 : wb.cell? ⟨g2, 0, none⟩ = some (.int .i64 xkind) := hB 0
  have a1 : wb.cell? ⟨g1, 1, none⟩ = some (.int .i64 xday) := hA 1
  have b1 : wb.cell? ⟨g2, 1, none⟩ = some (.int .i64 xday) := hB 1
  have a2 : wb.cell? ⟨g1, 2, none⟩ = some (.int .u32 (xkey : Nat)) := hA 2
  have b2 : wb.cell? ⟨g2, 2, none⟩ = some (.int .u32 (xkey : Nat)) := hB 2
  have a3 : wb.cell? ⟨g1, 3, none⟩ = some (.int .i64 xloan) := hA 3
  have b3 : wb.cell? ⟨g2, 3, none⟩ = some (.int .i64 xloan) := hB 3
  have a4 : wb.cell? ⟨g1, 4, none⟩ = some (.int .i64 xamount) := hA 4
  have b4 : wb.cell? ⟨g2, 4, none⟩ = some (.int .i64 xamount) := hB 4
  have a5 : wb.cell? ⟨g1, 5, none⟩ = some (.float .f64 xrate) := hA 5
  have b5 : wb.cell? ⟨g2, 5, none⟩ = some (.float .f64 yrate) := hB 5
  have a6 : wb.cell? ⟨g1, 6, none⟩ = some (.float .f64 xincome) := hA 6
  have b6 : wb.cell? ⟨g2, 6, none⟩ = some (.float .f64 yincome) := hB 6
  have a7 : wb.cell? ⟨g1, 7, none⟩ = some (.bool xsub) := hA 7
  have b7 : wb.cell? ⟨g2, 7, none⟩ = some (.bool ysub) := hB 7
  have a8 : wb.cell? ⟨g1, 8, none⟩ = some (.int .i64 xstatus) := hA 8
  have b8 : wb.cell? ⟨g2, 8, none⟩ = some (.int .i64 ystatus) := hB 8
  have a9 : wb.cell? ⟨g1, 9, none⟩ = some (.int .i64 xplan) := hA 9
  have b9 : wb.cell? ⟨g2, 9, none⟩ = some (.int .i64 yplan) := hB 9
  have a10 : wb.cell? ⟨g1, 10, none⟩ = some (.int .i64 xfamily) := hA 10
  have b10 : wb.cell? ⟨g2, 10, none⟩ = some (.int .i64 yfamily) := hB 10
  clear hA hB e1 e2 e3
  have HB := Lib.hid hb
  clear hb
  go_wp2_with (first | (go_at_call 43; refine (float_same _ _ _).mono ?_; rintro e w' ⟨rfl, rfl⟩))
  go_ret
  exact ⟨rfl, HB.out⟩
set_option maxHeartbeats 2000000 in
theorem keep_income (xkind : Int) (xday : Int) (xkey : Nat) (xloan : Int) (xamount : Int) (xrate : Nat) (xincome yincome : Nat) (xsub ysub : Bool) (xstatus ystatus : Int) (xplan yplan : Int) (xfamily yfamily : Int) (w : World) (h : ¬ xincome = yincome) :
    Calls Try.prog 15 #[.agg #[.int .i64 xkind, .int .i64 xday, .int .u32 (xkey : Nat), .int .i64 xloan, .int .i64 xamount, .float .f64 xrate, .float .f64 xincome, .bool xsub, .int .i64 xstatus, .int .i64 xplan, .int .i64 xfamily], .agg #[.int .i64 xkind, .int .i64 xday, .int .u32 (xkey : Nat), .int .i64 xloan, .int .i64 xamount, .float .f64 xrate, .float .f64 yincome, .bool ysub, .int .i64 ystatus, .int .i64 yplan, .int .i64 yfamily]] w fun e w' => e = .returned (.bool false) ∧ Below w.heap.size w w' := by
  have d : decide (xincome = yincome) = false := decide_eq_false h
  obtain ⟨g1, g2, wb, e1, e2, e3, hA, hB, hb⟩ := boxed_two w #[.int .i64 xkind, .int .i64 xday, .int .u32 (xkey : Nat), .int .i64 xloan, .int .i64 xamount, .float .f64 xrate, .float .f64 xincome, .bool xsub, .int .i64 xstatus, .int .i64 xplan, .int .i64 xfamily] #[.int .i64 xkind, .int .i64 xday, .int .u32 (xkey : Nat), .int .i64 xloan, .int .i64 xamount, .float .f64 xrate, .float .f64 yincome, .bool ysub, .int .i64 ystatus, .int .i64 yplan, .int .i64 yfamily] 25
  go_enter Try.func15, Try.ntmps15
  go_upto_region 1 with fail
  rw [← e3, ← e2, ← e1]
  have a0 : wb.cell? ⟨g1, 0, none⟩ = some (.int .i64 xkind) := hA 0
  have b0 : wb.cell? ⟨g2, 0, none⟩ = some (.int .i64 xkind) := hB 0
  have a1 : wb.cell? ⟨g1, 1, none⟩ = some (.int .i64 xday) := hA 1
  have b1 : wb.cell? ⟨g2, 1, none⟩ = some (.int .i64 xday) := hB 1
  have a2 : wb.cell? ⟨g1, 2, none⟩ = some (.int .u32 (xkey : Nat)) := hA 2
  have b2 : wb.cell? ⟨g2, 2, none⟩ = some (.int .u32 (xkey : Nat)) := hB 2
  have a3 : wb.cell? ⟨g1, 3, none⟩ = some (.int .i64 xloan) := hA 3
  have b3 : wb.cell? ⟨g2, 3, none⟩ = some (.int .i64 xloan) := hB 3
  have a4 : wb.cell? ⟨g1, 4, none⟩ = some (.int .i64 xamount) := hA 4
  have b4 : wb.cell? ⟨g2, 4, none⟩ = some (.int .i64 xamount) := hB 4
  have a5 : wb.cell? ⟨g1, 5, none⟩ = some (.float .f64 xrate) := hA 5
  have b5 : wb.cell? ⟨g2, 5, none⟩ = some (.float .f64 xrate) := hB 5
  have a6 : wb.cell? ⟨g1, 6, none⟩ = some (.float .f64 xincome) := hA 6
  have b6 : wb.cell? ⟨g2, 6, none⟩ = some (.float .f64 yincome) := hB 6
  have a7 : wb.cell? ⟨g1, 7, none⟩ = some (.bool xsub) := hA 7
  have b7 : wb.cell? ⟨g2, 7, none⟩ = some (.bool ysub) := hB 7
  have a8 : wb.cell? ⟨g1, 8, none⟩ = some (.int .i64 xstatus) := hA 8
  have b8 : wb.cell? ⟨g2, 8, none⟩ = some (.int .i64 ystatus) := hB 8
  have a9 : wb.cell? ⟨g1, 9, none⟩ = some (.int .i64 xplan) := hA 9
  have b9 : wb.cell? ⟨g2, 9, none⟩ = some (.int .i64 yplan) := hB 9
  have a10 : wb.cell? ⟨g1, 10, none⟩ = some (.int .i64 xfamily) := hA 10
  have b10 : wb.cell? ⟨g2, 10, none⟩ = some (.int .i64 yfamily) := hB 10
  clear hA hB e1 e2 e3
  have HB := Lib.hid hb
  clear hb
  go_wp2_with (first | (go_at_call 43; refine (float_same _ _ _).mono ?_; rintro e w' ⟨rfl, rfl⟩))
  go_ret
  exact ⟨rfl, HB.out⟩
set_option maxHeartbeats 2000000 in
theorem keep_sub (xkind : Int) (xday : Int) (xkey : Nat) (xloan : Int) (xamount : Int) (xrate : Nat) (xincome : Nat) (xsub ysub : Bool) (xstatus ystatus : Int) (xplan yplan : Int) (xfamily yfamily : Int) (w : World) (h : ¬ xsub = ysub) :
    Calls Try.prog 15 #[.agg #[.int .i64 xkind, .int .i64 xday, .int .u32 (xkey : Nat), .int .i64 xloan, .int .i64 xamount, .float .f64 xrate, .float .f64 xincome, .bool xsub, .int .i64 xstatus, .int .i64 xplan, .int .i64 xfamily], .agg #[.int .i64 xkind, .int .i64 xday, .int .u32 (xkey : Nat), .int .i64 xloan, .int .i64 xamount, .float .f64 xrate, .float .f64 xincome, .bool ysub, .int .i64 ystatus, .int .i64 yplan, .int .i64 yfamily]] w fun e w' => e = .returned (.bool false) ∧ Below w.heap.size w w' := by
  have d : (xsub == ysub) = false := by cases xsub <;> cases ysub <;> simp_all
  obtain ⟨g1, g2, wb, e1, e2, e3, hA, hB, hb⟩ := boxed_two w #[.int .i64 xkind, .int .i64 xday, .int .u32 (xkey : Nat), .int .i64 xloan, .int .i64 xamount, .float .f64 xrate, .float .f64 xincome, .bool xsub, .int .i64 xstatus, .int .i64 xplan, .int .i64 xfamily] #[.int .i64 xkind, .int .i64 xday, .int .u32 (xkey : Nat), .int .i64 xloan, .int .i64 xamount, .float .f64 xrate, .float .f64 xincome, .bool ysub, .int .i64 ystatus, .int .i64 yplan, .int .i64 yfamily] 25
  go_enter Try.func15, Try.ntmps15
  go_upto_region 1 with fail
  rw [← e3, ← e2, ← e1]
  have a0 : wb.cell? ⟨g1, 0, none⟩ = some (.int .i64 xkind) := hA 0
  have b0 : wb.cell? ⟨g2, 0, none⟩ = some (.int .i64 xkind) := hB 0
  have a1 : wb.cell? ⟨g1, 1, none⟩ = some (.int .i64 xday) := hA 1
  have b1 : wb.cell? ⟨g2, 1, none⟩ = some (.int .i64 xday) := hB 1
  have a2 : wb.cell? ⟨g1, 2, none⟩ = some (.int .u32 (xkey : Nat)) := hA 2
  have b2 : wb.cell? ⟨g2, 2, none⟩ = some (.int .u32 (xkey : Nat)) := hB 2
  have a3 : wb.cell? ⟨g1, 3, none⟩ = some (.int .i64 xloan) := hA 3
  have b3 : wb.cell? ⟨g2, 3, none⟩ = some (.int .i64 xloan) := hB 3
  have a4 : wb.cell? ⟨g1, 4, none⟩ = some (.int .i64 xamount) := hA 4
  have b4 : wb.cell? ⟨g2, 4, none⟩ = some (.int .i64 xamount) := hB 4
  have a5 : wb.cell? ⟨g1, 5, none⟩ = some (.float .f64 xrate) := hA 5
  have b5 : wb.cell? ⟨g2, 5, none⟩ = some (.float .f64 xrate) := hB 5
  have a6 : wb.cell? ⟨g1, 6, none⟩ = some (.float .f64 xincome) := hA 6
  have b6 : wb.cell? ⟨g2, 6, none⟩ = some (.float .f64 xincome) := hB 6
  have a7 : wb.cell? ⟨g1, 7, none⟩ = some (.bool xsub) := hA 7
  have b7 : wb.cell? ⟨g2, 7, none⟩ = some (.bool ysub) := hB 7
  have a8 : wb.cell? ⟨g1, 8, none⟩ = some (.int .i64 xstatus) := hA 8
  have b8 : wb.cell? ⟨g2, 8, none⟩ = some (.int .i64 ystatus) := hB 8
  have a9 : wb.cell? ⟨g1, 9, none⟩ = some (.int .i64 xplan) := hA 9
  have b9 : wb.cell? ⟨g2, 9, none⟩ = some (.int .i64 yplan) := hB 9
  have a10 : wb.cell? ⟨g1, 10, none⟩ = some (.int .i64 xfamily) := hA 10
  have b10 : wb.cell? ⟨g2, 10, none⟩ = some (.int .i64 yfamily) := hB 10
  clear hA hB e1 e2 e3
  have HB := Lib.hid hb
  clear hb
  go_wp2_with (first | (go_at_call 43; refine (float_same _ _ _).mono ?_; rintro e w' ⟨rfl, rfl⟩))
  go_ret
  exact ⟨rfl, HB.out⟩
end Go.Proofs.Ytcmdonckilajjaa.Event
namespace Go.Proofs.Ytcmdonckilajjaa.Event
open Go.ChangeShapes Go.WideShapes Go.ChangeAt Go.RowKit Fl

set_option maxHeartbeats 2000000 in
theorem keep_status (xkind : Int) (xday : Int) (xkey : Nat) (xloan : Int) (xamount : Int) (xrate : Nat) (xincome : Nat) (xsub : Bool) (xstatus ystatus : Int) (xplan yplan : Int) (xfamily yfamily : Int) (w : World) (h : ¬ xstatus = ystatus) :
    Calls Try.prog 15 #[.agg #[.int .i64 xkind, .int .i64 xday, .int .u32 (xkey : Nat), .int .i64 xloan, .int .i64 xamount, .float .f64 xrate, .float .f64 xincome, .bool xsub, .int .i64 xstatus, .int .i64 xplan, .int .i64 xfamily], .agg #[.int .i64 xkind, .int .i64 xday, .int .u32 (xkey : Nat), .int .i64 xloan, .int .i64 xamount, .float .f64 xrate, .float .f64 xincome, .bool xsub, .int .i64 ystatus, .int .i64 yplan, .int .i64 yfamily]] w fun e w' => e = .returned (.bool false) ∧ Below w.heap.size w w' := by
  have d : (xstatus == ystatus) = false := by rw [beq_eq_false_iff_ne]; exact h
  obtain ⟨g1, g2, wb, e1, e2, e3, hA, hB, hb⟩ := boxed_two w #[.int .i64 xkind, .int .i64 xday, .int .u32 (xkey : Nat), .int .i64 xloan, .int .i64 xamount, .float .f64 xrate, .float .f64 xincome, .bool xsub, .int .i64 xstatus, .int .i64 xplan, .int .i64 xfamily] #[.int .i64 xkind, .int .i64 xday, .int .u32 (xkey : Nat), .int .i64 xloan, .int .i64 xamount, .float .f64 xrate, .float .f64 xincome, .bool xsub, .int .i64 ystatus, .int .i64 yplan, .int .i64 yfamily] 25
  go_enter Try.func15, Try.ntmps15
  go_upto_region 1 with fail
  rw [← e3, ← e2, ← e1]
  have a0 : wb.cell? ⟨g1, 0, none⟩ = some (.int .i64 xkind) := hA 0
  have b0 : wb.cell? ⟨g2, 0, none⟩ = some (.int .i64 xkind) := hB 0
  have a1 : wb.cell? ⟨g1, 1, none⟩ = some (.int .i64 xday) := hA 1
  have b1 : wb.cell? ⟨g2, 1, none⟩ = some (.int .i64 xday) := hB 1
  have a2 : wb.cell? ⟨g1, 2, none⟩ = some (.int .u32 (xkey : Nat)) := hA 2
  have b2 : wb.cell? ⟨g2, 2, none⟩ = some (.int .u32 (xkey : Nat)) := hB 2
  have a3 : wb.cell? ⟨g1, 3, none⟩ = some (.int .i64 xloan) := hA 3
  have b3 : wb.cell? ⟨g2, 3, none⟩ = some (.int .i64 xloan) := hB 3
  have a4 : wb.cell? ⟨g1, 4, none⟩ = some (.int .i64 xamount) := hA 4
  have b4 : wb.cell? ⟨g2, 4, none⟩ = some (.int .i64 xamount) := hB 4
  have a5 : wb.cell? ⟨g1, 5, none⟩ = some (.float .f64 xrate) := hA 5
  have b5 : wb.cell? ⟨g2, 5, none⟩ = some (.float .f64 xrate) := hB 5
  have a6 : wb.cell? ⟨g1, 6, none⟩ = some (.float .f64 xincome) := hA 6
  have b6 : wb.cell? ⟨g2, 6, none⟩ = some (.float .f64 xincome) := hB 6
  have a7 : wb.cell? ⟨g1, 7, none⟩ = some (.bool xsub) := hA 7
  have b7 : wb.cell? ⟨g2, 7, none⟩ = some (.bool xsub) := hB 7
  have a8 : wb.cell? ⟨g1, 8, none⟩ = some (.int .i64 xstatus) := hA 8
  have b8 : wb.cell? ⟨g2, 8, none⟩ = some (.int .i64 ystatus) := hB 8
  have a9 : wb.cell? ⟨g1, 9, none⟩ = some (.int .i64 xplan) := hA 9
  have b9 : wb.cell? ⟨g2, 9, none⟩ = some (.int .i64 yplan) := hB 9
  have a10 : wb.cell? ⟨g1, 10, none⟩ = some (.int .i64 xfamily) := hA 10
  have b10 : wb.cell? ⟨g2, 10, none⟩ = some (.int .i64 yfamily) := hB 10
  clear hA hB e1 e2 e3
  have HB := Lib.hid hb
  clear hb
  go_wp2_with (first | (go_at_call 43; refine (float_same _ _ _).mono ?_; rintro e w' ⟨rfl, rfl⟩))
  go_ret
  exact ⟨rfl, HB.out⟩
set_option maxHeartbeats 2000000 in
theorem keep_plan (xkind : Int) (xday : Int) (xkey : Nat) (xloan : Int) (xamount : Int) (xrate : Nat) (xincome : Nat) (xsub : Bool) (xstatus : Int) (xplan yplan : Int) (xfamily yfamily : Int) (w : World) (h : ¬ xplan = yplan) :
    Calls Try.prog 15 #[.agg #[.int .i64 xkind, .int .i64 xday, .int .u32 (xkey : Nat), .int .i64 xloan, .int .i64 xamount, .float .f64 xrate, .float .f64 xincome, .bool xsub, .int .i64 xstatus, .int .i64 xplan, .int .i64 xfamily], .agg #[.int .i64 xkind, .int .i64 xday, .int .u32 (xkey : Nat), .int .i64 xloan, .int .i64 xamount, .float .f64 xrate, .float .f64 xincome, .bool xsub, .int .i64 xstatus, .int .i64 yplan, .int .i64 yfamily]] w fun e w' => e = .returned (.bool false) ∧ Below w.heap.size w w' := by
  have d : (xplan == yplan) = false := by rw [beq_eq_false_iff_ne]; exact h
  obtain ⟨g1, g2, wb, e1, e2, e3, hA, hB, hb⟩ := boxed_two w #[.int .i64 xkind, .int .i64 xday, .int .u32 (xkey : Nat), .int .i64 xloan, .int .i64 xamount, .float .f64 xrate, .float .f64 xincome, .bool xsub, .int .i64 xstatus, .int .i64 xplan, .int .i64 xfamily] #[.int .i64 xkind, .int .i64 xday, .int .u32 (xkey : Nat), .int .i64 xloan, .int .i64 xamount, .float .f64 xrate, .float .f64 xincome, .bool xsub, .int .i64 xstatus, .int .i64 yplan, .int .i64 yfamily] 25
  go_enter Try.func15, Try.ntmps15
  go_upto_region 1 with fail
  rw [← e3, ← e2, ← e1]
  have a0 : wb.cell? ⟨g1, 0, none⟩ = some (.int .i64 xkind) := hA 0
  have b0 : wb.cell? ⟨g2, 0, none⟩ = some (.int .i64 xkind) := hB 0
  have a1 : wb.cell? ⟨g1, 1, none⟩ = some (.int .i64 xday) := hA 1
  have b1 : wb.cell? ⟨g2, 1, none⟩ = some (.int .i64 xday) := hB 1
  have a2 : wb.cell? ⟨g1, 2, none⟩ = some (.int .u32 (xkey : Nat)) := hA 2
  have b2 : wb.cell? ⟨g2, 2, none⟩ = some (.int .u32 (xkey : Nat)) := hB 2
  have a3 : wb.cell? ⟨g1, 3, none⟩ = some (.int .i64 xloan) := hA 3
  have b3 : wb.cell? ⟨g2, 3, none⟩ = some (.int .i64 xloan) := hB 3
  have a4 : wb.cell? ⟨g1, 4, none⟩ = some (.int .i64 xamount) := hA 4
  have b4 : wb.cell? ⟨g2, 4, none⟩ = some (.int .i64 xamount) := hB 4
  have a5 : wb.cell? ⟨g1, 5, none⟩ = some (.float .f64 xrate) := hA 5
  have b5 : wb.cell? ⟨g2, 5, none⟩ = some (.float .f64 xrate) := hB 5
  have a6 : wb.cell? ⟨g1, 6, none⟩ = some (.float .f64 xincome) := hA 6
  have b6 : wb.cell? ⟨g2, 6, none⟩ = some (.float .f64 xincome) := hB 6
  have a7 : wb.cell? ⟨g1, 7, none⟩ = some (.bool xsub) := hA 7
  have b7 : wb.cell? ⟨g2, 7, none⟩ = some (.bool xsub) := hB 7
  have a8 : wb.cell? ⟨g1, 8, none⟩ = some (.int .i64 xstatus) := hA 8
  have b8 : wb.cell? ⟨g2, 8, none⟩ = some (.int .i64 xstatus) := hB 8
  have a9 : wb.cell? ⟨g1, 9, none⟩ = some (.int .i64 xplan) := hA 9
  have b9 : wb.cell? ⟨g2, 9, none⟩ = some (.int .i64 yplan) := hB 9
  have a10 : wb.cell? ⟨g1, 10, none⟩ = some (.int .i64 xfamily) := hA 10
  have b10 : wb.cell? ⟨g2, 10, none⟩ = some (.int .i64 yfamily) := hB 10
  clear hA hB e1 e2 e3
  have HB := Lib.hid hb
  clear hb
  go_wp2_with (first | (go_at_call 43; refine (float_same _ _ _).mono ?_; rintro e w' ⟨rfl, rfl⟩))
  go_ret
  exact ⟨rfl, HB.out⟩
set_option maxHeartbeats 2000000 in
theorem keep_family (xkind : Int) (xday : Int) (xkey : Nat) (xloan : Int) (xamount : Int) (xrate : Nat) (xincome : Nat) (xsub : Bool) (xstatus : Int) (xplan : Int) (xfamily yfamily : Int) (w : World) (h : ¬ xfamily = yfamily) :
    Calls Try.prog 15 #[.agg #[.int .i64 xkind, .int .i64 xday, .int .u32 (xkey : Nat), .int .i64 xloan, .int .i64 xamount, .float .f64 xrate, .float .f64 xincome, .bool xsub, .int .i64 xstatus, .int .i64 xplan, .int .i64 xfamily], .agg #[.int .i64 xkind, .int .i64 xday, .int .u32 (xkey : Nat), .int .i64 xloan, .int .i64 xamount, .float .f64 xrate, .float .f64 xincome, .bool xsub, .int .i64 xstatus, .int .i64 xplan, .int .i64 yfamily]] w fun e w' => e = .returned (.bool false) ∧ Below w.heap.size w w' := by
  have d : (xfamily == yfamily) = false := by rw [beq_eq_false_iff_ne]; exact h
  obtain ⟨g1, g2, wb, e1, e2, e3, hA, hB, hb⟩ := boxed_two w #[.int .i64 xkind, .int .i64 xday, .int .u32 (xkey : Nat), .int .i64 xloan, .int .i64 xamount, .float .f64 xrate, .float .f64 xincome, .bool xsub, .int .i64 xstatus, .int .i64 xplan, .int .i64 xfamily] #[.int .i64 xkind, .int .i64 xday, .int .u32 (xkey : Nat), .int .i64 xloan, .int .i64 xamount, .float .f64 xrate, .float .f64 xincome, .bool xsub, .int .i64 xstatus, .int .i64 xplan, .int .i64 yfamily] 25
  go_enter Try.func15, Try.ntmps15
  go_upto_region 1 with fail
  rw [← e3, ← e2, ← e1]
  have a0 : wb.cell? ⟨g1, 0, none⟩ = some (.int .i64 xkind) := hA 0
  have b0 : wb.cell? ⟨g2, 0, none⟩ = some (.int .i64 xkind) := hB 0
  have a1 : wb.cell? ⟨g1, 1, none⟩ = some (.int .i64 xday) := hA 1
  have b1 : wb.cell? ⟨g2, 1, none⟩ = some (.int .i64 xday) := hB 1
  have a2 : wb.cell? ⟨g1, 2, none⟩ = some (.int .u32 (xkey : Nat)) := hA 2
  have b2 : wb.cell? ⟨g2, 2, none⟩ = some (.int .u32 (xkey : Nat)) := hB 2
  have a3 : wb.cell? ⟨g1, 3, none⟩ = some (.int .i64 xloan) := hA 3
  have b3 : wb.cell? ⟨g2, 3, none⟩ = some (.int .i64 xloan) := hB 3
  have a4 : wb.cell? ⟨g1, 4, none⟩ = some (.int .i64 xamount) := hA 4
  have b4 : wb.cell? ⟨g2, 4, none⟩ = some (.int .i64 xamount) := hB 4
  have a5 : wb.cell? ⟨g1, 5, none⟩ = some (.float .f64 xrate) := hA 5
  have b5 : wb.cell? ⟨g2, 5, none⟩ = some (.float .f64 xrate) := hB 5
  have a6 : wb.cell? ⟨g1, 6, none⟩ = some (.float .f64 xincome) := hA 6
  have b6 : wb.cell? ⟨g2, 6, none⟩ = some (.float .f64 xincome) := hB 6
  have a7 : wb.cell? ⟨g1, 7, none⟩ = some (.bool xsub) := hA 7
  have b7 : wb.cell? ⟨g2, 7, none⟩ = some (.bool xsub) := hB 7
  have a8 : wb.cell? ⟨g1, 8, none⟩ = some (.int .i64 xstatus) := hA 8
  have b8 : wb.cell? ⟨g2, 8, none⟩ = some (.int .i64 xstatus) := hB 8
  have a9 : wb.cell? ⟨g1, 9, none⟩ = some (.int .i64 xplan) := hA 9
  have b9 : wb.cell? ⟨g2, 9, none⟩ = some (.int .i64 xplan) := hB 9
  have a10 : wb.cell? ⟨g1, 10, none⟩ = some (.int .i64 xfamily) := hA 10
  have b10 : wb.cell? ⟨g2, 10, none⟩ = some (.int .i64 yfamily) := hB 10
  clear hA hB e1 e2 e3
  have HB := Lib.hid hb
  clear hb
  go_wp2_with (first | (go_at_call 43; refine (float_same _ _ _).mono ?_; rintro e w' ⟨rfl, rfl⟩))
  go_ret
  exact ⟨rfl, HB.out⟩
set_option maxHeartbeats 2000000 in
theorem keep_same (xkind : Int) (xday : Int) (xkey : Nat) (xloan : Int) (xamount : Int) (xrate : Nat) (xincome : Nat) (xsub : Bool) (xstatus : Int) (xplan : Int) (xfamily : Int) (w : World) :
    Calls Try.prog 15 #[.agg #[.int .i64 xkind, .int .i64 xday, .int .u32 (xkey : Nat), .int .i64 xloan, .int .i64 xamount, .float .f64 xrate, .float .f64 xincome, .bool xsub, .int .i64 xstatus, .int .i64 xplan, .int .i64 xfamily], .agg #[.int .i64 xkind, .int .i64 xday, .int .u32 (xkey : Nat), .int .i64 xloan, .int .i64 xamount, .float .f64 xrate, .float .f64 xincome, .bool xsub, .int .i64 xstatus, .int .i64 xplan, .int .i64 xfamily]] w fun e w' => e = .returned (.bool true) ∧ Below w.heap.size w w' := by
  obtain ⟨g1, g2, wb, e1, e2, e3, hA, hB, hb⟩ := boxed_two w #[.int .i64 xkind, .int .i64 xday, .int .u32 (xkey : Nat), .int .i64 xloan, .int .i64 xamount, .float .f64 xrate, .float .f64 xincome, .bool xsub, .int .i64 xstatus, .int .i64 xplan, .int .i64 xfamily] #[.int .i64 xkind, .int .i64 xday, .int .u32 (xkey : Nat), .int .i64 xloan, .int .i64 xamount, .float .f64 xrate, .float .f64 xincome, .bool xsub, .int .i64 xstatus, .int .i64 xplan, .int .i64 xfamily] 25
  go_enter Try.func15, Try.ntmps15
  go_upto_region 1 with fail
  rw [← e3, ← e2, ← e1]
  have a0 : wb.cell? ⟨g1, 0, none⟩ = some (.int .i64 xkind) := hA 0
  have b0 : wb.cell? ⟨g2, 0, none⟩ = some (.int .i64 xkind) := hB 0
  have a1 : wb.cell? ⟨g1, 1, none⟩ = some (.int .i64 xday) := hA 1
  have b1 : wb.cell? ⟨g2, 1, none⟩ = some (.int .i64 xday) := hB 1
  have a2 : wb.cell? ⟨g1, 2, none⟩ = some (.int .u32 (xkey : Nat)) := hA 2
  have b2 : wb.cell? ⟨g2, 2, none⟩ = some (.int .u32 (xkey : Nat)) := hB 2
  have a3 : wb.cell? ⟨g1, 3, none⟩ = some (.int .i64 xloan) := hA 3
  have b3 : wb.cell? ⟨g2, 3, none⟩ = some (.int .i64 xloan) := hB 3
  have a4 : wb.cell? ⟨g1, 4, none⟩ = some (.int .i64 xamount) := hA 4
  have b4 : wb.cell? ⟨g2, 4, none⟩ = some (.int .i64 xamount) := hB 4
  have a5 : wb.cell? ⟨g1, 5, none⟩ = some (.float .f64 xrate) := hA 5
  have b5 : wb.cell? ⟨g2, 5, none⟩ = some (.float .f64 xrate) := hB 5
  have a6 : wb.cell? ⟨g1, 6, none⟩ = some (.float .f64 xincome) := hA 6
  have b6 : wb.cell? ⟨g2, 6, none⟩ = some (.float .f64 xincome) := hB 6
  have a7 : wb.cell? ⟨g1, 7, none⟩ = some (.bool xsub) := hA 7
  have b7 : wb.cell? ⟨g2, 7, none⟩ = some (.bool xsub) := hB 7
  have a8 : wb.cell? ⟨g1, 8, none⟩ = some (.int .i64 xstatus) := hA 8
  have b8 : wb.cell? ⟨g2, 8, none⟩ = some (.int .i64 xstatus) := hB 8
  have a9 : wb.cell? ⟨g1, 9, none⟩ = some (.int .i64 xplan) := hA 9
  have b9 : wb.cell? ⟨g2, 9, none⟩ = some (.int .i64 xplan) := hB 9
  have a10 : wb.cell? ⟨g1, 10, none⟩ = some (.int .i64 xfamily) := hA 10
  have b10 : wb.cell? ⟨g2, 10, none⟩ = some (.int .i64 xfamily) := hB 10
  clear hA hB e1 e2 e3
  have HB := Lib.hid hb
  clear hb
  go_wp2_with (first | (go_at_call 43; refine (float_same _ _ _).mono ?_; rintro e w' ⟨rfl, rfl⟩))
  go_ret
  exact ⟨rfl, HB.out⟩
end Go.Proofs.Ytcmdonckilajjaa.Event
namespace Go.Proofs.Ytcmdonckilajjaa.Event
open Go.ChangeShapes Go.WideShapes Go.ChangeAt Go.RowKit Fl

theorem k_event (a b : Ev) (w : World) :
    Calls Try.prog 15 #[.agg a.cells, .agg b.cells] w fun e w' => e = .returned (.bool (eqE a b)) ∧ Below w.heap.size w w' := by
  obtain ⟨xkind, xday, xkey, xloan, xamount, xrate, xincome, xsub, xstatus, xplan, xfamily⟩ := a
  obtain ⟨ykind, yday, ykey, yloan, yamount, yrate, yincome, ysub, ystatus, yplan, yfamily⟩ := b
  by_cases hkind : xkind = ykind
  case neg =>
    have H : eqE ⟨xkind, xday, xkey, xloan, xamount, xrate, xincome, xsub, xstatus, xplan, xfamily⟩ ⟨ykind, yday, ykey, yloan, yamount, yrate, yincome, ysub, ystatus, yplan, yfamily⟩ = false := decide_eq_false fun h => hkind h.1
    rw [H]
    exact keep_kind  xkind ykind xday yday xkey ykey xloan yloan xamount yamount xrate yrate xincome yincome xsub ysub xstatus ystatus xplan yplan xfamily yfamily w hkind
  subst hkind
  by_cases hday : xday = yday
  case neg =>
    have H : eqE ⟨xkind, xday, xkey, xloan, xamount, xrate, xincome, xsub, xstatus, xplan, xfamily⟩ ⟨xkind, yday, ykey, yloan, yamount, yrate, yincome, ysub, ystatus, yplan, yfamily⟩ = false := decide_eq_false fun h => hday h.2.1
    rw [H]
    exact keep_day xkind xday yday xkey ykey xloan yloan xamount yamount xrate yrate xincome yincome xsub ysub xstatus ystatus xplan yplan xfamily yfamily w hday
  subst hday
  by_cases hkey : xkey = ykey
  case neg =>
    have H : eqE ⟨xkind, xday, xkey, xloan, xamount, xrate, xincome, xsub, xstatus, xplan, xfamily⟩ ⟨xkind, xday, ykey, yloan, yamount, yrate, yincome, ysub, ystatus, yplan, yfamily⟩ = false := decide_eq_false fun h => hkey h.2.2.1
    rw [H]
    exact keep_key xkind xday xkey ykey xloan yloan xamount yamount xrate yrate xincome yincome xsub ysub xstatus ystatus xplan yplan xfamily yfamily w hkey
  subst hkey
  by_cases hloan : xloan = yloan
  case neg =>
    have H : eqE ⟨xkind, xday, xkey, xloan, xamount, xrate, xincome, xsub, xstatus, xplan, xfamily⟩ ⟨xkind, xday, xkey, yloan, yamount, yrate, yincome, ysub, ystatus, yplan, yfamily⟩ = false := decide_eq_false fun h => hloan h.2.2.2.1
    rw [H]
    exact keep_loan xkind xday xkey xloan yloan xamount yamount xrate yrate xincome yincome xsub ysub xstatus ystatus xplan yplan xfamily yfamily w hloan
  subst hloan
  by_cases hamount : xamount = yamount
  case neg =>
    have H : eqE ⟨xkind, xday, xkey, xloan, xamount, xrate, xincome, xsub, xstatus, xplan, xfamily⟩ ⟨xkind, xday, xkey, xloan, yamount, yrate, yincome, ysub, ystatus, yplan, yfamily⟩ = false := decide_eq_false fun h => hamount h.2.2.2.2.1
    rw [H]
    exact keep_amount xkind xday xkey xloan xamount yamount xrate yrate xincome yincome xsub ysub xstatus ystatus xplan yplan xfamily yfamily w hamount
  subst hamount
  by_cases hrate : xrate = yrate
  case neg =>
    have H : eqE ⟨xkind, xday, xkey, xloan, xamount, xrate, xincome, xsub, xstatus, xplan, xfamily⟩ ⟨xkind, xday, xkey, xloan, xamount, yrate, yincome, ysub, ystatus, yplan, yfamily⟩ = false := decide_eq_false fun h => hrate h.2.2.2.2.2.1
    rw [H]
    exact keep_rate xkind xday xkey xloan xamount xrate yrate xincome yincome xsub ysub xstatus ystatus xplan yplan xfamily yfamily w hrate
  subst hrate
  by_cases hincome : xincome = yincome
  case neg =>
    have H : eqE ⟨xkind, xday, xkey, xloan, xamount, xrate, xincome, xsub, xstatus, xplan, xfamily⟩ ⟨xkind, xday, xkey, xloan, xamount, xrate, yincome, ysub, ystatus, yplan, yfamily⟩ = false := decide_eq_false fun h => hincome h.2.2.2.2.2.2.1
    rw [H]
    exact keep_income xkind xday xkey xloan xamount xrate xincome yincome xsub ysub xstatus ystatus xplan yplan xfamily yfamily w hincome
  subst hincome
  by_cases hsub : xsub = ysub
  case neg =>
    have H : eqE ⟨xkind, xday, xkey, xloan, xamount, xrate, xincome, xsub, xstatus, xplan, xfamily⟩ ⟨xkind, xday, xkey, xloan, xamount, xrate, xincome, ysub, ystatus, yplan, yfamily⟩ = false := decide_eq_false fun h => hsub h.2.2.2.2.2.2.2.1
    rw [H]
    exact keep_sub xkind xday xkey xloan xamount xrate xincome xsub ysub xstatus ystatus xplan yplan xfamily yfamily w hsub
  subst hsub
  by_cases hstatus : xstatus = ystatus
  case neg =>
    have H : eqE ⟨xkind, xday, xkey, xloan, xamount, xrate, xincome, xsub, xstatus, xplan, xfamily⟩ ⟨xkind, xday, xkey, xloan, xamount, xrate, xincome, xsub, ystatus, yplan, yfamily⟩ = false := decide_eq_false fun h => hstatus h.2.2.2.2.2.2.2.2.1
    rw [H]
    exact keep_status xkind xday xkey xloan xamount xrate xincome xsub xstatus ystatus xplan yplan xfamily yfamily w hstatus
  subst hstatus
  by_cases hplan : xplan = yplan
  case neg =>
    have H : eqE ⟨xkind, xday, xkey, xloan, xamount, xrate, xincome, xsub, xstatus, xplan, xfamily⟩ ⟨xkind, xday, xkey, xloan, xamount, xrate, xincome, xsub, xstatus, yplan, yfamily⟩ = false := decide_eq_false fun h => hplan h.2.2.2.2.2.2.2.2.2.1
    rw [H]
    exact keep_plan xkind xday xkey xloan xamount xrate xincome xsub xstatus xplan yplan xfamily yfamily w hplan
  subst hplan
  by_cases hfamily : xfamily = yfamily
  case neg =>
    have H : eqE ⟨xkind, xday, xkey, xloan, xamount, xrate, xincome, xsub, xstatus, xplan, xfamily⟩ ⟨xkind, xday, xkey, xloan, xamount, xrate, xincome, xsub, xstatus, xplan, yfamily⟩ = false := decide_eq_false fun h => hfamily h.2.2.2.2.2.2.2.2.2.2
    rw [H]
    exact keep_family xkind xday xkey xloan xamount xrate xincome xsub xstatus xplan xfamily yfamily w hfamily
  subst hfamily
  rw [show eqE _ _ = true from eqE_self _]
  exact keep_same xkind xday xkey xloan xamount xrate xincome xsub xstatus xplan xfamily w
end Go.Proofs.Ytcmdonckilajjaa.Event
namespace Go.Proofs.Ytcmdonckilajjaa.Cal

def longB (y : Int) : Bool := decide ((y % 4 = 0 ∧ ¬ y % 100 = 0) ∨ y % 400 = 0)
/-- How many days a month has; 0 of what is none. -/
def daysI (y m : Int) : Int :=
  if m = 1 ∨ m = 3 ∨ m = 5 ∨ m = 7 ∨ m = 8 ∨ m = 10 ∨ m = 12 then 31
  else if m = 4 ∨ m = 6 ∨ m = 9 ∨ m = 11 then 30
  else if m = 2 then (if longB y = true then 29 else 28) else 0

theorem days_none {y m : Int} (h : m < 1 ∨ 12 < m) : daysI y m = 0 := by
  unfold daysI
  rw [if_neg (by omega), if_neg (by omega), if_neg (by omega)]
theorem days_some {y m : Int} (h : 1 ≤ m ∧ m ≤ 12) : 28 ≤ daysI y m ∧ daysI y m ≤ 31 := by
  unfold daysI
  split
  · omega
  · split
    · omega
    · rw [if_pos (by omega)]
      split <;> omega

/-- The months' lengths, by their numbers from January 1960. -/
def lenM (m : Nat) : Nat := (daysI (1960 + ((m / 12 : Nat) : Int)) (1 + ((m % 12 : Nat) : Int))).toNat
theorem lenM_eq (m : Nat) : daysI (1960 + ((m / 12 : Nat) : Int)) (1 + ((m % 12 : Nat) : Int)) = (lenM m : Nat) := by
  have := days_some (y := 1960 + ((m / 12 : Nat) : Int)) (m := 1 + ((m % 12 : Nat) : Int)) (by omega)
  unfold lenM; omega
theorem lenM_range (m : Nat) : 28 ≤ lenM m ∧ lenM m ≤ 31 := by
  have := days_some (y := 1960 + ((m / 12 : Nat) : Int)) (m := 1 + ((m % 12 : Nat) : Int)) (by omega)
  have := lenM_eq m
  omega

/-- The first day of a month. -/
def st : Nat → Nat
  | 0 => 0
  | m + 1 => st m + lenM m
theorem st_succ (m : Nat) : st (m + 1) = st m + lenM m := rfl
theorem st_lt {m n : Nat} (h : m < n) : st m < st n := by
  induction n with
  | zero => omega
  | succ n ih =>
    have := (lenM_range n).1
    rw [st_succ]
    by_cases he : m = n
    · subst he; omega
    · have := ih (by omega)
      omega
theorem st_mono {m n : Nat} (h : m ≤ n) : st m ≤ st n := by
  by_cases he : m = n
  · subst he; omega
  · exact Nat.le_of_lt (st_lt (by omega))
theorem le_st (m : Nat) : 28 * m ≤ st m := by
  induction m with
  | zero => simp [st]
  | succ m ih =>
    have := (lenM_range m).1
    rw [st_succ]; omega

/-- How many long years there are up to a year. -/
def leaps (y : Nat) : Nat := y / 4 - y / 100 + y / 400
theorem leaps_succ (y : Nat) : leaps (y + 1) = leaps y + (if longB ((y + 1 : Nat) : Int) = true then 1 else 0) := by
  by_cases h : (((y + 1 : Nat) : Int) % 4 = 0 ∧ ¬ ((y + 1 : Nat) : Int) % 100 = 0) ∨ ((y + 1 : Nat) : Int) % 400 = 0
  · rw [if_pos (show longB ((y + 1 : Nat) : Int) = true from decide_eq_true h)]
    unfold leaps; omega
  · rw [if_neg (by unfold longB; rw [decide_eq_true_eq]; exact h)]
    unfold leaps; omega
theorem lenM_at (k j : Nat) (h : j < 12) : lenM (12 * k + j) = (daysI (1960 + (k : Int)) (1 + (j : Int))).toNat := by
  unfold lenM
  rw [show (12 * k + j) / 12 = k by omega, show (12 * k + j) % 12 = j by omega]
theorem st_year_succ (k : Nat) : st (12 * (k + 1)) = st (12 * k) + 365 + (if longB ((1960 + k : Nat) : Int) = true then 1 else 0) := by
  have e : st (12 * k + 12) = st (12 * k) + lenM (12 * k + 0) + lenM (12 * k + 1) + lenM (12 * k + 2) + lenM (12 * k + 3) + lenM (12 * k + 4) + lenM (12 * k + 5) + lenM (12 * k + 6) + lenM (12 * k + 7) + lenM (12 * k + 8) + lenM (12 * k + 9) + lenM (12 * k + 10) + lenM (12 * k + 11) := rfl
  rw [show 12 * (k + 1) = 12 * k + 12 by omega, e, lenM_at k 0 (by omega), lenM_at k 1 (by omega), lenM_at k 2 (by omega), lenM_at k 3 (by omega), lenM_at k 4 (by omega), lenM_at k 5 (by omega), lenM_at k 6 (by omega), lenM_at k 7 (by omega), lenM_at k 8 (by omega), lenM_at k 9 (by omega), lenM_at k 10 (by omega), lenM_at k 11 (by omega)]
  rw [show ((1960 + k : Nat) : Int) = 1960 + (k : Int) by omega]
  unfold daysI
  simp only [show (1 : Int) + ((0 : Nat) : Int) = 1 from rfl, show (1 : Int) + ((1 : Nat) : Int) = 2 from rfl, show (1 : Int) + ((2 : Nat) : Int) = 3 from rfl, show (1 : Int) + ((3 : Nat) : Int) = 4 from rfl, show (1 : Int) + ((4 : Nat) : Int) = 5 from rfl, show (1 : Int) + ((5 : Nat) : Int) = 6 from rfl, show (1 : Int) + ((6 : Nat) : Int) = 7 from rfl, show (1 : Int) + ((7 : Nat) : Int) = 8 from rfl, show (1 : Int) + ((8 : Nat) : Int) = 9 from rfl, show (1 : Int) + ((9 : Nat) : Int) = 10 from rfl, show (1 : Int) + ((10 : Nat) : Int) = 11 from rfl, show (1 : Int) + ((11 : Nat) : Int) = 12 from rfl]
  cases longB (1960 + (k : Int)) <;> simp <;> omega
/-- The first day of a year. -/
theorem st_year (k : Nat) : st (12 * k) + leaps 1959 = 365 * k + leaps (1959 + k) := by
  induction k with
  | zero => simp [st]
  | succ k ih =>
    have h := leaps_succ (1959 + k)
    rw [show 1959 + k + 1 = 1960 + k by omega] at h
    rw [st_year_succ, show 1959 + (k + 1) = 1960 + k by omega, h]
    omega
theorem st_all : st 2880 = 87659 := by
  have h := st_year 240
  rw [show 12 * 240 = 2880 from rfl] at h
  have e1 : leaps 1959 = 474 := by decide
  have e2 : leaps (1959 + 240) = 533 := by decide
  omega

/-- The month in which a day lies. -/
def mo : Nat → Nat
  | 0 => 0
  | n + 1 => if n + 1 < st (mo n + 1) then mo n else mo n + 1
theorem mo_in (n : Nat) : st (mo n) ≤ n ∧ n < st (mo n + 1) := by
  induction n with
  | zero =>
    have := (lenM_range 0).1
    exact ⟨Nat.le_refl _, by show 0 < st 0 + lenM 0; omega⟩
  | succ n ih =>
    unfold mo
    by_cases h : n + 1 < st (mo n + 1)
    · rw [if_pos h]; omega
    · rw [if_neg h]
      have := (lenM_range (mo n + 1)).1
      have e := st_succ (mo n + 1)
      omega
theorem mo_of {m n : Nat} (h1 : st m ≤ n) (h2 : n < st (m + 1)) : mo n = m := by
  obtain ⟨a, b⟩ := mo_in n
  refine Nat.le_antisymm ?_ ?_
  · refine Nat.le_of_not_lt fun hlt => ?_
    have := st_mono (show m + 1 ≤ mo n from hlt)
    omega
  · refine Nat.le_of_not_lt fun hlt => ?_
    have := st_mono (show mo n + 1 ≤ m from hlt)
    omega
theorem mo_mono {m n : Nat} (h : m ≤ n) : mo m ≤ mo n := by
  obtain ⟨a, b⟩ := mo_in n
  obtain ⟨c, d⟩ := mo_in m
  refine Nat.le_of_not_lt fun hlt => ?_
  have := st_mono (show mo n + 1 ≤ mo m from hlt)
  omega
theorem mo_lt {n : Nat} (h : n ≤ 87658) : mo n < 2880 := by
  obtain ⟨a, b⟩ := mo_in n
  refine Nat.lt_of_not_le fun hle => ?_
  have := st_mono hle
  rw [st_all] at this
  omega
/-- The day of the month, from 0. -/
theorem day_lt (n : Nat) : n - st (mo n) < lenM (mo n) := by
  obtain ⟨a, b⟩ := mo_in n
  rw [st_succ] at b
  omega
/-- The next day: the same month's next one, or the next month's first one. -/
theorem mo_next (n : Nat) : (n + 1 < st (mo n + 1) ∧ mo (n + 1) = mo n) ∨ (n + 1 = st (mo n + 1) ∧ mo (n + 1) = mo n + 1) := by
  obtain ⟨a, b⟩ := mo_in n
  by_cases h : n + 1 < st (mo n + 1)
  · exact Or.inl ⟨h, mo_of (by omega) h⟩
  · refine Or.inr ⟨by omega, mo_of (by omega) ?_⟩
    have := (lenM_range (mo n + 1)).1
    rw [st_succ (mo n + 1)]; omega
theorem st_in {m : Nat} (h : m ≤ 2879) : st m ≤ 87658 := by
  have := st_lt (show m < 2880 by omega)
  rw [st_all] at this; omega
end Go.Proofs.Ytcmdonckilajjaa.Cal
namespace Go.Proofs.Ytcmdonckilajjaa.Date
open Go.ChangeShapes Go.WideShapes Go.ChangeAt Go.RowKit Cal

theorem ret_bool {a b : Bool} (h : a = b) : Ending.returned (.bool a) = .returned (.bool b) := by rw [h]
theorem ret_int {k : IntKind} {a b : Int} (h : a = b) : Ending.returned (.int k a) = .returned (.int k b) := by rw [h]
theorem ret_two {j k : IntKind} {a b c d : Int} (h1 : a = c) (h2 : b = d) : Ending.returned (.tuple #[.int j a, .int k b]) = .returned (.tuple #[.int j c, .int k d]) := by rw [h1, h2]

theorem tmod_zero (y k : Int) : (y.tmod k == 0) = decide (y % k = 0) := by
  by_cases h : y % k = 0
  · rw [decide_eq_true h, beq_iff_eq]
    exact Int.tmod_eq_zero_of_dvd (Int.dvd_of_emod_eq_zero h)
  · rw [decide_eq_false h, beq_eq_false_iff_ne]
    exact fun h' => h (Int.emod_eq_zero_of_dvd (Int.dvd_of_tmod_eq_zero h'))

theorem long_tmod (y : Int) : longB y = ((y.tmod 4 == 0) && !(y.tmod 100 == 0) || (y.tmod 400 == 0)) := by
  rw [tmod_zero, tmod_zero, tmod_zero]
  unfold longB
  by_cases a : y % 4 = 0 <;> by_cases b : y % 100 = 0 <;> by_cases c : y % 400 = 0 <;> simp [a, b, c]
def dayB (n : Int) : Bool := decide (0 ≤ n ∧ n ≤ 87658)
theorem rday_any (n : Int) (w : World) : Calls Try.prog 38 #[.int .i64 n] w fun e w' => e = .returned (.bool (dayB n)) ∧ w = w' := by
  by_cases h1 : 0 ≤ n
  · by_cases h2 : n ≤ 87658
    · have H : Hid (dayB n = true) := decide_eq_true ⟨h1, h2⟩
      go_enter Try.func38, Try.ntmps38
      go_wp2
      go_ret
      exact ⟨ret_bool H.out.symm, rfl⟩
    · have H : Hid (dayB n = false) := decide_eq_false (by omega)
      go_enter Try.func38, Try.ntmps38
      go_wp2
      go_ret
      exact ⟨ret_bool H.out.symm, rfl⟩
  · have H : Hid (dayB n = false) := decide_eq_false (by omega)
    go_enter Try.func38, Try.ntmps38
    go_wp2
    go_ret
    exact ⟨ret_bool H.out.symm, rfl⟩
end Go.Proofs.Ytcmdonckilajjaa.Date
