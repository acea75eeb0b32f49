/- The document's own event: has it a form? The tests ahead of its fields. The document's own event: has it a form? Kind 1. The document's own event: has it a form? Kinds 2, 3, 4. The document's own event: has it a form? Kinds 6, 7, 8. The document's own event: has it a form? Kind 5. The document's own event: has it a form? At every event. -/
import Derived.Test.YtcmdonckilajjaaGKeep
import Derived.Test.YtcmdonckilajjaaGFlo
import Derived.Deep.RegionHeld3
import Derived.Deep.DeepCutAuto
namespace Go.Proofs.Ytcmdonckilajjaa.Event
open Go.ChangeShapes Go.WideShapes Go.ChangeAt Go.RowKit Fl Date Cal

def minusB (b : Nat) : Bool := decide (b = 9223372036854775808)
def loanB (n : Int) : Bool := decide (1 ≤ n ∧ n ≤ 1000)
def amountB (n : Int) : Bool := decide (1 ≤ n ∧ n ≤ 1000000000)
def rateB (b : Nat) : Bool := decide (pE b = 0 ∧ pV b ≤ 250000) && !minusB b
def incomeB (b : Nat) : Bool := decide (tE b 100 = 0 ∧ tV b 100 ≤ 1000000000) && !minusB b
def statusB (n : Int) : Bool := decide (1 ≤ n ∧ n ≤ 5)
def familyB (n : Int) : Bool := decide (1 ≤ n ∧ n ≤ 30)
/-- The fields that its kind has are as they may be. -/
def fieldsB (e : Ev) : Bool :=
  if e.kind = 1 then loanB e.loan && amountB e.amount && rateB e.rate else
  if e.kind = 2 then loanB e.loan && statusB e.status else
  if e.kind = 3 then amountB e.amount else
  if e.kind = 4 then loanB e.loan && amountB e.amount else
  if e.kind = 5 then (if e.plan = 4 then incomeB e.income && familyB e.family else decide (1 ≤ e.plan ∧ e.plan ≤ 4)) else
  if e.kind = 7 ∨ e.kind = 8 then loanB e.loan else true
/-- The tests ahead of them. -/
def headB (e : Ev) : Bool := decide (1 ≤ e.kind ∧ e.kind ≤ 8) && dayB e.day && eqE e (onlyE e)
/-- Has an event a form? -/
def goodE (e : Ev) : Bool := headB e && fieldsB e
theorem below_via {a b c : World} (h : Below a.heap.size a b) (k : Below b.heap.size b c) : Below a.heap.size a c := h.trans (k.mono h.size)
theorem below_drew {B : Nat} {a w : World} (h : Below B a w) : Below B a w.drew := ⟨h.os, h.tape, h.output, h.size, h.block⟩
theorem below_drewN {B : Nat} {a w : World} (h : Below B a w) (n : Nat) : Below B a (w.drewN n) := ⟨h.os, h.tape, h.output, h.size, h.block⟩
theorem quiet_left {P : Program} {f : FuncId} {args : Array Value} {w : World} {n : Nat} {v : Value} (h : Calls P f args (w.drewN n) fun e w' => e = .returned v ∧ w.drewN n = w') :
    Calls P f args (w.drewN n) fun e w'' => e = .returned v ∧ ∃ m, w'' = w.drewN m := h.mono fun _ _ ⟨he, hm⟩ => ⟨he, n, hm.symm⟩
set_option maxHeartbeats 4000000 in
theorem good_low (kind day : Int) (key : Nat) (loan amount : Int) (rate income : Nat) (sub : Bool) (status plan family : Int) (w : World) (h : kind < 1) :
    Calls Try.prog 14 #[.agg (Ev.cells ⟨kind, day, key, loan, amount, rate, income, sub, status, plan, family⟩)] w fun e w' => e = .returned (.bool false) ∧ Below w.heap.size w w' := by
  obtain ⟨g, wb, e1, e2, hA, hb⟩ := boxed_one w (Ev.cells ⟨kind, day, key, loan, amount, rate, income, sub, status, plan, family⟩) 25
  have HB := Lib.hid hb
  clear hb
  have t0 := decide_eq_true h
  unfold Ev.cells at *
  go_enter Try.func14, Try.ntmps14
  go_upto_region 1 with fail
  rw [← e2, ← e1]
  clear e1 e2
  have a0 : wb.cell? ⟨g, 0, none⟩ = some (.int .i64 kind) := hA 0
  have a1 : wb.cell? ⟨g, 1, none⟩ = some (.int .i64 day) := hA 1
  clear hA
  go_quiet (fail)
  go_wp2
  go_ret
  exact ⟨rfl, below_drewN HB.out _⟩
set_option maxHeartbeats 4000000 in
theorem good_high (kind day : Int) (key : Nat) (loan amount : Int) (rate income : Nat) (sub : Bool) (status plan family : Int) (w : World) (h0 : ¬ kind < 1) (h : 8 < kind) :
    Calls Try.prog 14 #[.agg (Ev.cells ⟨kind, day, key, loan, amount, rate, income, sub, status, plan, family⟩)] w fun e w' => e = .returned (.bool false) ∧ Below w.heap.size w w' := by
  obtain ⟨g, wb, e1, e2, hA, hb⟩ := boxed_one w (Ev.cells ⟨kind, day, key, loan, amount, rate, income, sub, status, plan, family⟩) 25
  have HB := Lib.hid hb
  clear hb
  have t0 := decide_eq_false h0
  have t1 := decide_eq_true h
  unfold Ev.cells at *
  go_enter Try.func14, Try.ntmps14
  go_upto_region 1 with fail
  rw [← e2, ← e1]
  clear e1 e2
  have a0 : wb.cell? ⟨g, 0, none⟩ = some (.int .i64 kind) := hA 0
  have a1 : wb.cell? ⟨g, 1, none⟩ = some (.int .i64 day) := hA 1
  clear hA
  go_quiet (fail)
  go_wp2
  go_ret
  exact ⟨rfl, below_drewN HB.out _⟩
set_option maxHeartbeats 4000000 in
theorem good_noday (kind day : Int) (key : Nat) (loan amount : Int) (rate income : Nat) (sub : Bool) (status plan family : Int) (w : World) (h0 : ¬ kind < 1) (h : ¬ 8 < kind) (hd : dayB day = false) :
    Calls Try.prog 14 #[.agg (Ev.cells ⟨kind, day, key, loan, amount, rate, income, sub, status, plan, family⟩)] w fun e w' => e = .returned (.bool false) ∧ Below w.heap.size w w' := by
  obtain ⟨g, wb, e1, e2, hA, hb⟩ := boxed_one w (Ev.cells ⟨kind, day, key, loan, amount, rate, income, sub, status, plan, family⟩) 25
  have HB := Lib.hid hb
  clear hb
  have t0 := decide_eq_false h0
  have t1 := decide_eq_false h
  have HD : Hid (∀ W, Calls Try.prog 38 #[.int .i64 day] W fun e w' => e = .returned (.bool false) ∧ W = w') := fun W => hd ▸ rday_any day W
  clear hd
  unfold Ev.cells at *
  go_enter Try.func14, Try.ntmps14
  go_upto_region 1 with fail
  rw [← e2, ← e1]
  clear e1 e2
  have a0 : wb.cell? ⟨g, 0, none⟩ = some (.int .i64 kind) := hA 0
  have a1 : wb.cell? ⟨g, 1, none⟩ = some (.int .i64 day) := hA 1
  clear hA
  go_quiet (exact quiet_left (HD.out _))
  go_wp2
  go_ret
  exact ⟨rfl, below_drewN HB.out _⟩
set_option maxRecDepth 20000 in
set_option maxHeartbeats 4000000 in
theorem good_other (kind day : Int) (key : Nat) (loan amount : Int) (rate income : Nat) (sub : Bool) (status plan family : Int) (w : World) (h0 : ¬ kind < 1) (h : ¬ 8 < kind) (hd : dayB day = true) (he : eqE ⟨kind, day, key, loan, amount, rate, income, sub, status, plan, family⟩ (onlyE ⟨kind, day, key, loan, amount, rate, income, sub, status, plan, family⟩) = false) :
    Calls Try.prog 14 #[.agg (Ev.cells ⟨kind, day, key, loan, amount, rate, income, sub, status, plan, family⟩)] w fun e w' => e = .returned (.bool false) ∧ Below w.heap.size w w' := by
  obtain ⟨g, wb, e1, e2, hA, hb⟩ := boxed_one w (Ev.cells ⟨kind, day, key, loan, amount, rate, income, sub, status, plan, family⟩) 25
  have HB := Lib.hid hb
  clear hb
  have t0 := decide_eq_false h0
  have t1 := decide_eq_false h
  have HD : Hid (∀ W, Calls Try.prog 38 #[.int .i64 day] W fun e w' => e = .returned (.bool true) ∧ W = w') := fun W => hd ▸ rday_any day W
  clear hd
  unfold Ev.cells at *
  go_enter Try.func14, Try.ntmps14
  go_upto_region 1 with fail
  rw [← e2, ← e1]
  clear e1 e2
  have a0 : wb.cell? ⟨g, 0, none⟩ = some (.int .i64 kind) := hA 0
  have a1 : wb.cell? ⟨g, 1, none⟩ = some (.int .i64 day) := hA 1
  have a2 : wb.cell? ⟨g, 2, none⟩ = some (.int .u32 (key : Nat)) := hA 2
  have a3 : wb.cell? ⟨g, 3, none⟩ = some (.int .i64 loan) := hA 3
  have a4 : wb.cell? ⟨g, 4, none⟩ = some (.int .i64 amount) := hA 4
  have a5 : wb.cell? ⟨g, 5, none⟩ = some (.float .f64 rate) := hA 5
  have a6 : wb.cell? ⟨g, 6, none⟩ = some (.float .f64 income) := hA 6
  have a7 : wb.cell? ⟨g, 7, none⟩ = some (.bool sub) := hA 7
  have a8 : wb.cell? ⟨g, 8, none⟩ = some (.int .i64 status) := hA 8
  have a9 : wb.cell? ⟨g, 9, none⟩ = some (.int .i64 plan) := hA 9
  have a10 : wb.cell? ⟨g, 10, none⟩ = some (.int .i64 family) := hA 10
  clear hA
  generalize hO : onlyE ⟨kind, day, key, loan, amount, rate, income, sub, status, plan, family⟩ = O at *
  have HO : Hid (∀ W, Calls Try.prog 24 #[.agg #[.int .i64 kind, .int .i64 day, .int .u32 (key : Nat), .int .i64 loan, .int .i64 amount, .float .f64 rate, .float .f64 income, .bool sub, .int .i64 status, .int .i64 plan, .int .i64 family]] W fun x w' => x = .returned (.agg O.cells) ∧ Below W.heap.size W w') := fun W => hO ▸ r_only ⟨kind, day, key, loan, amount, rate, income, sub, status, plan, family⟩ W
  have HE : Hid (∀ W, Calls Try.prog 15 #[.agg #[.int .i64 kind, .int .i64 day, .int .u32 (key : Nat), .int .i64 loan, .int .i64 amount, .float .f64 rate, .float .f64 income, .bool sub, .int .i64 status, .int .i64 plan, .int .i64 family], .agg O.cells] W fun x w' => x = .returned (.bool false) ∧ Below W.heap.size W w') := fun W => he ▸ k_event ⟨kind, day, key, loan, amount, rate, income, sub, status, plan, family⟩ O W
  clear hO he
  have hlt := World.block_lt_of_cell? wb _ a0
  go_region_held3 (fun w' => w'.cell? ⟨g, 0, none⟩ = some (.int .i64 kind) ∧ w'.cell? ⟨g, 1, none⟩ = some (.int .i64 day) ∧ w'.cell? ⟨g, 2, none⟩ = some (.int .u32 (key : Nat)) ∧ w'.cell? ⟨g, 3, none⟩ = some (.int .i64 loan) ∧ w'.cell? ⟨g, 4, none⟩ = some (.int .i64 amount) ∧ w'.cell? ⟨g, 5, none⟩ = some (.float .f64 rate) ∧ w'.cell? ⟨g, 6, none⟩ = some (.float .f64 income) ∧ w'.cell? ⟨g, 7, none⟩ = some (.bool sub) ∧ w'.cell? ⟨g, 8, none⟩ = some (.int .i64 status) ∧ w'.cell? ⟨g, 9, none⟩ = some (.int .i64 plan) ∧ w'.cell? ⟨g, 10, none⟩ = some (.int .i64 family))
    (first
      | exact ⟨c0, c1, c2, c3, c4, c5, c6, c7, c8, c9, c10⟩
      | exact ⟨b0, b1, b2, b3, b4, b5, b6, b7, b8, b9, b10⟩
      | exact ⟨a0, a1, a2, a3, a4, a5, a6, a7, a8, a9, a10⟩)
    (first
      | (go_at_call 38
         refine (HD.out _).mono ?_
         rintro e w' ⟨rfl, rfl⟩)
      | (go_at_call 24
         have hcc := HO.out wb.drew
         refine hcc.mono ?_
         clear hcc
         rintro e y1 ⟨rfl, hb⟩
         have HB1 := Lib.hid (below_via HB.out (below_via (below_drew (Below.refl _ _)) hb))
         have b0 := (hb.cell (p := ⟨g, 0, none⟩) hlt).trans a0
         have b1 := (hb.cell (p := ⟨g, 1, none⟩) hlt).trans a1
         have b2 := (hb.cell (p := ⟨g, 2, none⟩) hlt).trans a2
         have b3 := (hb.cell (p := ⟨g, 3, none⟩) hlt).trans a3
         have b4 := (hb.cell (p := ⟨g, 4, none⟩) hlt).trans a4
         have b5 := (hb.cell (p := ⟨g, 5, none⟩) hlt).trans a5
         have b6 := (hb.cell (p := ⟨g, 6, none⟩) hlt).trans a6
         have b7 := (hb.cell (p := ⟨g, 7, none⟩) hlt).trans a7
         have b8 := (hb.cell (p := ⟨g, 8, none⟩) hlt).trans a8
         have b9 := (hb.cell (p := ⟨g, 9, none⟩) hlt).trans a9
         have b10 := (hb.cell (p := ⟨g, 10, none⟩) hlt).trans a10
         clear hb)
      | (go_at_call 15
         have hcc := HE.out y1
         refine hcc.mono ?_
         clear hcc
         rintro e y2 ⟨rfl, hb⟩
         have HB2 := Lib.hid (below_via HB1.out hb)
         have hlt1 := World.block_lt_of_cell? y1 _ b0
         have c0 := (hb.cell (p := ⟨g, 0, none⟩) hlt1).trans b0
         have c1 := (hb.cell (p := ⟨g, 1, none⟩) hlt1).trans b1
         have c2 := (hb.cell (p := ⟨g, 2, none⟩) hlt1).trans b2
         have c3 := (hb.cell (p := ⟨g, 3, none⟩) hlt1).trans b3
         have c4 := (hb.cell (p := ⟨g, 4, none⟩) hlt1).trans b4
         have c5 := (hb.cell (p := ⟨g, 5, none⟩) hlt1).trans b5
         have c6 := (hb.cell (p := ⟨g, 6, none⟩) hlt1).trans b6
         have c7 := (hb.cell (p := ⟨g, 7, none⟩) hlt1).trans b7
         have c8 := (hb.cell (p := ⟨g, 8, none⟩) hlt1).trans b8
         have c9 := (hb.cell (p := ⟨g, 9, none⟩) hlt1).trans b9
         have c10 := (hb.cell (p := ⟨g, 10, none⟩) hlt1).trans b10
         clear hb))
  go_wp2
  go_ret
  exact ⟨rfl, HB2.out⟩
/-- The cells of an event, from place o of block b on. -/
def EvAt (w : World) (b o : Nat) (e : Ev) : Prop := ∀ i, i < 11 → w.cell? ⟨b, o + i, none⟩ = e.cells[i]?
theorem evAt_of {w : World} {b : Nat} {e : Ev} (h0 : w.cell? ⟨b, 0, none⟩ = some (.int .i64 e.kind)) (h1 : w.cell? ⟨b, 1, none⟩ = some (.int .i64 e.day)) (h2 : w.cell? ⟨b, 2, none⟩ = some (.int .u32 (e.key : Nat))) (h3 : w.cell? ⟨b, 3, none⟩ = some (.int .i64 e.loan)) (h4 : w.cell? ⟨b, 4, none⟩ = some (.int .i64 e.amount)) (h5 : w.cell? ⟨b, 5, none⟩ = some (.float .f64 e.rate)) (h6 : w.cell? ⟨b, 6, none⟩ = some (.float .f64 e.income)) (h7 : w.cell? ⟨b, 7, none⟩ = some (.bool e.sub)) (h8 : w.cell? ⟨b, 8, none⟩ = some (.int .i64 e.status)) (h9 : w.cell? ⟨b, 9, none⟩ = some (.int .i64 e.plan)) (h10 : w.cell? ⟨b, 10, none⟩ = some (.int .i64 e.family)) : EvAt w b 0 e := fun i hi => by
  rw [Nat.zero_add]
  match i, hi with
  | 0, _ => exact h0
  | 1, _ => exact h1
  | 2, _ => exact h2
  | 3, _ => exact h3
  | 4, _ => exact h4
  | 5, _ => exact h5
  | 6, _ => exact h6
  | 7, _ => exact h7
  | 8, _ => exact h8
  | 9, _ => exact h9
  | 10, _ => exact h10
theorem r_minus (b : Nat) (w : World) (hb : b < 18446744073709551616) (hg : goodF b = true) : Calls Try.prog 41 #[.float .f64 b] w fun e w' => e = .returned (.bool (minusB b)) ∧ w = w' := by
  have hz := eq_zero b hg
  have hg' := of_decide_eq_true hg
  by_cases h : b = 0 ∨ b = 9223372036854775808
  · rw [decide_eq_true h] at hz
    have H : Hid (minusB b = decide (9223372036854775808 ≤ b)) := show _ = _ by unfold minusB; rw [decide_eq_decide]; omega
    clear hg' h hg
    go_enter Try.func41, Try.ntmps41
    go_wp2_with (go_at_call 66; refine (sign_any _ _ hb).mono ?_; rintro e w' ⟨rfl, rfl⟩)
    go_ret
    exact ⟨ret_bool H.out.symm, rfl⟩
  · rw [decide_eq_false h] at hz
    have H : Hid (minusB b = false) := show _ = _ by unfold minusB; rw [decide_eq_false_iff_not]; omega
    clear hg' h hg
    rw [H.out]
    go_enter Try.func41, Try.ntmps41
    go_wp2_with (go_at_call 66; refine (sign_any _ _ hb).mono ?_; rintro e w' ⟨rfl, rfl⟩)
    go_ret
    exact ⟨rfl, rfl⟩
theorem good_of_tE {b : Nat} {k : Int} (h : tE b k = 0) : goodF b = true := by
  cases hg : goodF b with
  | true => rfl
  | false => rw [tE_bad hg] at h; cases h
theorem good_of_pE {b : Nat} (h : pE b = 0) : goodF b = true := by
  unfold pE at h
  split at h
  · exact good_of_tE ‹_›
  · exact good_of_tE h
end Go.Proofs.Ytcmdonckilajjaa.Event
namespace Go.Proofs.Ytcmdonckilajjaa.Event
open Go.ChangeShapes Go.WideShapes Go.ChangeAt Go.RowKit Fl Date Cal

set_option maxRecDepth 20000 in
set_option maxHeartbeats 4000000 in
theorem good_k1y (day : Int) (key : Nat) (loan amount : Int) (rate income : Nat) (sub : Bool) (status plan family : Int) (w : World) (hd : dayB day = true) (he : eqE ⟨1, day, key, loan, amount, rate, income, sub, status, plan, family⟩ (onlyE ⟨1, day, key, loan, amount, rate, income, sub, status, plan, family⟩) = true) (hr : rate < 18446744073709551616) (hx : pE rate = 0) :
    Calls Try.prog 14 #[.agg (Ev.cells ⟨1, day, key, loan, amount, rate, income, sub, status, plan, family⟩)] w fun e w' => e = .returned (.bool (fieldsB ⟨1, day, key, loan, amount, rate, income, sub, status, plan, family⟩)) ∧ Below w.heap.size w w' := by
  have HP : Hid (∀ W, Calls Try.prog 40 #[.float .f64 rate] W fun x w' => x = .returned (.tuple #[.int .i64 (pV rate), .int .i64 0]) ∧ Below W.heap.size W w') := fun W => hx ▸ rppm_any rate W hr
  have HM : Hid (∀ W, Calls Try.prog 41 #[.float .f64 rate] W fun x w' => x = .returned (.bool (minusB rate)) ∧ W = w') := fun W => r_minus rate W hr (good_of_pE hx)
  rw [show fieldsB ⟨1, day, key, loan, amount, rate, income, sub, status, plan, family⟩ = (loanB loan && amountB amount && (decide (pV rate ≤ 250000) && !minusB rate)) by unfold fieldsB rateB; simp [hx]]
  clear hx hr
  generalize pV rate = v at *
  generalize minusB rate = m at *
  obtain ⟨g, wb, e1, e2, hA, hb⟩ := boxed_one w (Ev.cells ⟨1, day, key, loan, amount, rate, income, sub, status, plan, family⟩) 25
  have HB := Lib.hid hb
  clear hb
  have HD : Hid (∀ W, Calls Try.prog 38 #[.int .i64 day] W fun e w' => e = .returned (.bool true) ∧ W = w') := fun W => hd ▸ rday_any day W
  clear hd
  unfold Ev.cells at *
  go_enter Try.func14, Try.ntmps14
  go_upto_region 1 with fail
  rw [← e2, ← e1]
  clear e1 e2
  go_cut [30] (fun s wx => s = .bool false ∧ Hid (EvAt wx g 0 ⟨1, day, key, loan, amount, rate, income, sub, status, plan, family⟩) ∧ Hid (Below w.heap.size w wx))
  case first =>
    as_aux_lemma =>
      have a0 : wb.cell? ⟨g, 0, none⟩ = some (.int .i64 1) := hA 0
      have a1 : wb.cell? ⟨g, 1, none⟩ = some (.int .i64 day) := hA 1
      have a2 : wb.cell? ⟨g, 2, none⟩ = some (.int .u32 (key : Nat)) := hA 2
      have a3 : wb.cell? ⟨g, 3, none⟩ = some (.int .i64 loan) := hA 3
      have a4 : wb.cell? ⟨g, 4, none⟩ = some (.int .i64 amount) := hA 4
      have a5 : wb.cell? ⟨g, 5, none⟩ = some (.float .f64 rate) := hA 5
      have a6 : wb.cell? ⟨g, 6, none⟩ = some (.float .f64 income) := hA 6
      have a7 : wb.cell? ⟨g, 7, none⟩ = some (.bool sub) := hA 7
      have a8 : wb.cell? ⟨g, 8, none⟩ = some (.int .i64 status) := hA 8
      have a9 : wb.cell? ⟨g, 9, none⟩ = some (.int .i64 plan) := hA 9
      have a10 : wb.cell? ⟨g, 10, none⟩ = some (.int .i64 family) := hA 10
      clear hA
      generalize hO : onlyE ⟨1, day, key, loan, amount, rate, income, sub, status, plan, family⟩ = O at *
      have HO : Hid (∀ W, Calls Try.prog 24 #[.agg #[.int .i64 1, .int .i64 day, .int .u32 (key : Nat), .int .i64 loan, .int .i64 amount, .float .f64 rate, .float .f64 income, .bool sub, .int .i64 status, .int .i64 plan, .int .i64 family]] W fun x w' => x = .returned (.agg O.cells) ∧ Below W.heap.size W w') := fun W => hO ▸ r_only ⟨1, day, key, loan, amount, rate, income, sub, status, plan, family⟩ W
      have HE : Hid (∀ W, Calls Try.prog 15 #[.agg #[.int .i64 1, .int .i64 day, .int .u32 (key : Nat), .int .i64 loan, .int .i64 amount, .float .f64 rate, .float .f64 income, .bool sub, .int .i64 status, .int .i64 plan, .int .i64 family], .agg O.cells] W fun x w' => x = .returned (.bool true) ∧ Below W.heap.size W w') := fun W => he ▸ k_event ⟨1, day, key, loan, amount, rate, income, sub, status, plan, family⟩ O W
      clear hO he
      have hlt := World.block_lt_of_cell? wb _ a0
      go_region_held3 (fun w' => w'.cell? ⟨g, 0, none⟩ = some (.int .i64 1) ∧ w'.cell? ⟨g, 1, none⟩ = some (.int .i64 day) ∧ w'.cell? ⟨g, 2, none⟩ = some (.int .u32 (key : Nat)) ∧ w'.cell? ⟨g, 3, none⟩ = some (.int .i64 loan) ∧ w'.cell? ⟨g, 4, none⟩ = some (.int .i64 amount) ∧ w'.cell? ⟨g, 5, none⟩ = some (.float .f64 rate) ∧ w'.cell? ⟨g, 6, none⟩ = some (.float .f64 income) ∧ w'.cell? ⟨g, 7, none⟩ = some (.bool sub) ∧ w'.cell? ⟨g, 8, none⟩ = some (.int .i64 status) ∧ w'.cell? ⟨g, 9, none⟩ = some (.int .i64 plan) ∧ w'.cell? ⟨g, 10, none⟩ = some (.int .i64 family))
        (first
          | exact ⟨c0, c1, c2, c3, c4, c5, c6, c7, c8, c9, c10⟩
          | exact ⟨b0, b1, b2, b3, b4, b5, b6, b7, b8, b9, b10⟩
          | exact ⟨a0, a1, a2, a3, a4, a5, a6, a7, a8, a9, a10⟩)
        (first
          | (go_at_call 38
             refine (HD.out _).mono ?_
             rintro e w' ⟨rfl, rfl⟩)
          | (go_at_call 24
             have hcc := HO.out wb.drew
             refine hcc.mono ?_
             clear hcc
             rintro e y1 ⟨rfl, hb⟩
             have HB1 := Lib.hid (below_via HB.out (below_via (below_drew (Below.refl _ _)) hb))
             have b0 := (hb.cell (p := ⟨g, 0, none⟩) hlt).trans a0
             have b1 := (hb.cell (p := ⟨g, 1, none⟩) hlt).trans a1
             have b2 := (hb.cell (p := ⟨g, 2, none⟩) hlt).trans a2
             have b3 := (hb.cell (p := ⟨g, 3, none⟩) hlt).trans a3
             have b4 := (hb.cell (p := ⟨g, 4, none⟩) hlt).trans a4
             have b5 := (hb.cell (p := ⟨g, 5, none⟩) hlt).trans a5
             have b6 := (hb.cell (p := ⟨g, 6, none⟩) hlt).trans a6
             have b7 := (hb.cell (p := ⟨g, 7, none⟩) hlt).trans a7
             have b8 := (hb.cell (p := ⟨g, 8, none⟩) hlt).trans a8
             have b9 := (hb.cell (p := ⟨g, 9, none⟩) hlt).trans a9
             have b10 := (hb.cell (p := ⟨g, 10, none⟩) hlt).trans a10
             clear hb)
          | (go_at_call 15
             have hcc := HE.out y1
             refine hcc.mono ?_
             clear hcc
             rintro e y2 ⟨rfl, hb⟩
             have HB2 := Lib.hid (below_via HB1.out hb)
             have hlt1 := World.block_lt_of_cell? y1 _ b0
             have c0 := (hb.cell (p := ⟨g, 0, none⟩) hlt1).trans b0
             have c1 := (hb.cell (p := ⟨g, 1, none⟩) hlt1).trans b1
             have c2 := (hb.cell (p := ⟨g, 2, none⟩) hlt1).trans b2
             have c3 := (hb.cell (p := ⟨g, 3, none⟩) hlt1).trans b3
             have c4 := (hb.cell (p := ⟨g, 4, none⟩) hlt1).trans b4
             have c5 := (hb.cell (p := ⟨g, 5, none⟩) hlt1).trans b5
             have c6 := (hb.cell (p := ⟨g, 6, none⟩) hlt1).trans b6
             have c7 := (hb.cell (p := ⟨g, 7, none⟩) hlt1).trans b7
             have c8 := (hb.cell (p := ⟨g, 8, none⟩) hlt1).trans b8
             have c9 := (hb.cell (p := ⟨g, 9, none⟩) hlt1).trans b9
             have c10 := (hb.cell (p := ⟨g, 10, none⟩) hlt1).trans b10
             clear hb))
      go_wp2_with fail
      go_meet
      exact ⟨rfl, evAt_of c0 c1 c2 c3 c4 c5 c6 c7 c8 c9 c10, HB2.out⟩
  case rest =>
    obtain ⟨rfl, HA, HW⟩ := hcut
    have a0 : wc.cell? ⟨g, 0, none⟩ = some (.int .i64 1) := HA.out 0 (by decide)
    have a1 : wc.cell? ⟨g, 1, none⟩ = some (.int .i64 day) := HA.out 1 (by decide)
    have a2 : wc.cell? ⟨g, 2, none⟩ = some (.int .u32 (key : Nat)) := HA.out 2 (by decide)
    have a3 : wc.cell? ⟨g, 3, none⟩ = some (.int .i64 loan) := HA.out 3 (by decide)
    have a4 : wc.cell? ⟨g, 4, none⟩ = some (.int .i64 amount) := HA.out 4 (by decide)
    have a5 : wc.cell? ⟨g, 5, none⟩ = some (.float .f64 rate) := HA.out 5 (by decide)
    have a6 : wc.cell? ⟨g, 6, none⟩ = some (.float .f64 income) := HA.out 6 (by decide)
    have a7 : wc.cell? ⟨g, 7, none⟩ = some (.bool sub) := HA.out 7 (by decide)
    have a8 : wc.cell? ⟨g, 8, none⟩ = some (.int .i64 status) := HA.out 8 (by decide)
    have a9 : wc.cell? ⟨g, 9, none⟩ = some (.int .i64 plan) := HA.out 9 (by decide)
    have a10 : wc.cell? ⟨g, 10, none⟩ = some (.int .i64 family) := HA.out 10 (by decide)
    clear HA hA he HD HB
    have hlt := World.block_lt_of_cell? wc _ a0
    go_wp2_with (first | (go_at_call 39; refine (r_has _ _).mono ?_; rintro e w' ⟨rfl, rfl⟩))
    rw [show hasS 1 = ⟨#[76, 65, 82, 83]⟩ from rfl]
    refine wp_loop_rounds 5 ?_
    repeat any_goals (rw [rounds_succ]; go_wp2_with (first
      | (go_at_call 40
         refine (HP.out wc).mono ?_
         rintro e y1 ⟨rfl, hb⟩
         have HW1 := Lib.hid (below_via HW.out hb)
         have b5 := (hb.cell (p := ⟨g, 5, none⟩) hlt).trans a5
         clear hb)
      | (go_at_call 41
         refine (HM.out _).mono ?_
         rintro e w' ⟨rfl, rfl⟩)))
    all_goals go_ret
    all_goals refine ⟨ret_bool ?_, by first | exact HW1.out | exact HW.out⟩
    all_goals (simp_all [loanB, amountB] <;> omega)
set_option maxRecDepth 20000 in
set_option maxHeartbeats 4000000 in
theorem good_k1n (day : Int) (key : Nat) (loan amount : Int) (rate income : Nat) (sub : Bool) (status plan family : Int) (w : World) (hd : dayB day = true) (he : eqE ⟨1, day, key, loan, amount, rate, income, sub, status, plan, family⟩ (onlyE ⟨1, day, key, loan, amount, rate, income, sub, status, plan, family⟩) = true) (hr : rate < 18446744073709551616) (hx : ¬ pE rate = 0) :
    Calls Try.prog 14 #[.agg (Ev.cells ⟨1, day, key, loan, amount, rate, income, sub, status, plan, family⟩)] w fun e w' => e = .returned (.bool (fieldsB ⟨1, day, key, loan, amount, rate, income, sub, status, plan, family⟩)) ∧ Below w.heap.size w w' := by
  have HP : Hid (∀ W, Calls Try.prog 40 #[.float .f64 rate] W fun x w' => x = .returned (.tuple #[.int .i64 (pV rate), .int .i64 (pE rate)]) ∧ Below W.heap.size W w') := fun W => rppm_any rate W hr
  rw [show fieldsB ⟨1, day, key, loan, amount, rate, income, sub, status, plan, family⟩ = false by unfold fieldsB rateB; simp [hx]]
  generalize pV rate = v at *
  generalize pE rate = x at *
  have hx0 : (x == 0) = false := by rw [beq_eq_false_iff_ne]; exact hx
  clear hr
  obtain ⟨g, wb, e1, e2, hA, hb⟩ := boxed_one w (Ev.cells ⟨1, day, key, loan, amount, rate, income, sub, status, plan, family⟩) 25
  have HB := Lib.hid hb
  clear hb
  have HD : Hid (∀ W, Calls Try.prog 38 #[.int .i64 day] W fun e w' => e = .returned (.bool true) ∧ W = w') := fun W => hd ▸ rday_any day W
  clear hd
  unfold Ev.cells at *
  go_enter Try.func14, Try.ntmps14
  go_upto_region 1 with fail
  rw [← e2, ← e1]
  clear e1 e2
  go_cut [30] (fun s wx => s = .bool false ∧ Hid (EvAt wx g 0 ⟨1, day, key, loan, amount, rate, income, sub, status, plan, family⟩) ∧ Hid (Below w.heap.size w wx))
  case first =>
    as_aux_lemma =>
      have a0 : wb.cell? ⟨g, 0, none⟩ = some (.int .i64 1) := hA 0
      have a1 : wb.cell? ⟨g, 1, none⟩ = some (.int .i64 day) := hA 1
      have a2 : wb.cell? ⟨g, 2, none⟩ = some (.int .u32 (key : Nat)) := hA 2
      have a3 : wb.cell? ⟨g, 3, none⟩ = some (.int .i64 loan) := hA 3
      have a4 : wb.cell? ⟨g, 4, none⟩ = some (.int .i64 amount) := hA 4
      have a5 : wb.cell? ⟨g, 5, none⟩ = some (.float .f64 rate) := hA 5
      have a6 : wb.cell? ⟨g, 6, none⟩ = some (.float .f64 income) := hA 6
      have a7 : wb.cell? ⟨g, 7, none⟩ = some (.bool sub) := hA 7
      have a8 : wb.cell? ⟨g, 8, none⟩ = some (.int .i64 status) := hA 8
      have a9 : wb.cell? ⟨g, 9, none⟩ = some (.int .i64 plan) := hA 9
      have a10 : wb.cell? ⟨g, 10, none⟩ = some (.int .i64 family) := hA 10
      clear hA
      generalize hO : onlyE ⟨1, day, key, loan, amount, rate, income, sub, status, plan, family⟩ = O at *
      have HO : Hid (∀ W, Calls Try.prog 24 #[.agg #[.int .i64 1, .int .i64 day, .int .u32 (key : Nat), .int .i64 loan, .int .i64 amount, .float .f64 rate, .float .f64 income, .bool sub, .int .i64 status, .int .i64 plan, .int .i64 family]] W fun x w' => x = .returned (.agg O.cells) ∧ Below W.heap.size W w') := fun W => hO ▸ r_only ⟨1, day, key, loan, amount, rate, income, sub, status, plan, family⟩ W
      have HE : Hid (∀ W, Calls Try.prog 15 #[.agg #[.int .i64 1, .int .i64 day, .int .u32 (key : Nat), .int .i64 loan, .int .i64 amount, .float .f64 rate, .float .f64 income, .bool sub, .int .i64 status, .int .i64 plan, .int .i64 family], .agg O.cells] W fun x w' => x = .returned (.bool true) ∧ Below W.heap.size W w') := fun W => he ▸ k_event ⟨1, day, key, loan, amount, rate, income, sub, status, plan, family⟩ O W
      clear hO he
      have hlt := World.block_lt_of_cell? wb _ a0
      go_region_held3 (fun w' => w'.cell? ⟨g, 0, none⟩ = some (.int .i64 1) ∧ w'.cell? ⟨g, 1, none⟩ = some (.int .i64 day) ∧ w'.cell? ⟨g, 2, none⟩ = some (.int .u32 (key : Nat)) ∧ w'.cell? ⟨g, 3, none⟩ = some (.int .i64 loan) ∧ w'.cell? ⟨g, 4, none⟩ = some (.int .i64 amount) ∧ w'.cell? ⟨g, 5, none⟩ = some (.float .f64 rate) ∧ w'.cell? ⟨g, 6, none⟩ = some (.float .f64 income) ∧ w'.cell? ⟨g, 7, none⟩ = some (.bool sub) ∧ w'.cell? ⟨g, 8, none⟩ = some (.int .i64 status) ∧ w'.cell? ⟨g, 9, none⟩ = some (.int .i64 plan) ∧ w'.cell? ⟨g, 10, none⟩ = some (.int .i64 family))
        (first
          | exact ⟨c0, c1, c2, c3, c4, c5, c6, c7, c8, c9, c10⟩
          | exact ⟨b0, b1, b2, b3, b4, b5, b6, b7, b8, b9, b10⟩
          | exact ⟨a0, a1, a2, a3, a4, a5, a6, a7, a8, a9, a10⟩)
        (first
          | (go_at_call 38
             refine (HD.out _).mono ?_
             rintro e w' ⟨rfl, rfl⟩)
          | (go_at_call 24
             have hcc := HO.out wb.drew
             refine hcc.mono ?_
             clear hcc
             rintro e y1 ⟨rfl, hb⟩
             have HB1 := Lib.hid (below_via HB.out (below_via (below_drew (Below.refl _ _)) hb))
             have b0 := (hb.cell (p := ⟨g, 0, none⟩) hlt).trans a0
             have b1 := (hb.cell (p := ⟨g, 1, none⟩) hlt).trans a1
             have b2 := (hb.cell (p := ⟨g, 2, none⟩) hlt).trans a2
             have b3 := (hb.cell (p := ⟨g, 3, none⟩) hlt).trans a3
             have b4 := (hb.cell (p := ⟨g, 4, none⟩) hlt).trans a4
             have b5 := (hb.cell (p := ⟨g, 5, none⟩) hlt).trans a5
             have b6 := (hb.cell (p := ⟨g, 6, none⟩) hlt).trans a6
             have b7 := (hb.cell (p := ⟨g, 7, none⟩) hlt).trans a7
             have b8 := (hb.cell (p := ⟨g, 8, none⟩) hlt).trans a8
             have b9 := (hb.cell (p := ⟨g, 9, none⟩) hlt).trans a9
             have b10 := (hb.cell (p := ⟨g, 10, none⟩) hlt).trans a10
             clear hb)
          | (go_at_call 15
             have hcc := HE.out y1
             refine hcc.mono ?_
             clear hcc
             rintro e y2 ⟨rfl, hb⟩
             have HB2 := Lib.hid (below_via HB1.out hb)
             have hlt1 := World.block_lt_of_cell? y1 _ b0
             have c0 := (hb.cell (p := ⟨g, 0, none⟩) hlt1).trans b0
             have c1 := (hb.cell (p := ⟨g, 1, none⟩) hlt1).trans b1
             have c2 := (hb.cell (p := ⟨g, 2, none⟩) hlt1).trans b2
             have c3 := (hb.cell (p := ⟨g, 3, none⟩) hlt1).trans b3
             have c4 := (hb.cell (p := ⟨g, 4, none⟩) hlt1).trans b4
             have c5 := (hb.cell (p := ⟨g, 5, none⟩) hlt1).trans b5
             have c6 := (hb.cell (p := ⟨g, 6, none⟩) hlt1).trans b6
             have c7 := (hb.cell (p := ⟨g, 7, none⟩) hlt1).trans b7
             have c8 := (hb.cell (p := ⟨g, 8, none⟩) hlt1).trans b8
             have c9 := (hb.cell (p := ⟨g, 9, none⟩) hlt1).trans b9
             have c10 := (hb.cell (p := ⟨g, 10, none⟩) hlt1).trans b10
             clear hb))
      go_wp2_with fail
      go_meet
      exact ⟨rfl, evAt_of c0 c1 c2 c3 c4 c5 c6 c7 c8 c9 c10, HB2.out⟩
  case rest =>
    obtain ⟨rfl, HA, HW⟩ := hcut
    have a0 : wc.cell? ⟨g, 0, none⟩ = some (.int .i64 1) := HA.out 0 (by decide)
    have a1 : wc.cell? ⟨g, 1, none⟩ = some (.int .i64 day) := HA.out 1 (by decide)
    have a2 : wc.cell? ⟨g, 2, none⟩ = some (.int .u32 (key : Nat)) := HA.out 2 (by decide)
    have a3 : wc.cell? ⟨g, 3, none⟩ = some (.int .i64 loan) := HA.out 3 (by decide)
    have a4 : wc.cell? ⟨g, 4, none⟩ = some (.int .i64 amount) := HA.out 4 (by decide)
    have a5 : wc.cell? ⟨g, 5, none⟩ = some (.float .f64 rate) := HA.out 5 (by decide)
    have a6 : wc.cell? ⟨g, 6, none⟩ = some (.float .f64 income) := HA.out 6 (by decide)
    have a7 : wc.cell? ⟨g, 7, none⟩ = some (.bool sub) := HA.out 7 (by decide)
    have a8 : wc.cell? ⟨g, 8, none⟩ = some (.int .i64 status) := HA.out 8 (by decide)
    have a9 : wc.cell? ⟨g, 9, none⟩ = some (.int .i64 plan) := HA.out 9 (by decide)
    have a10 : wc.cell? ⟨g, 10, none⟩ = some (.int .i64 family) := HA.out 10 (by decide)
    clear HA hA he HD HB
    have hlt := World.block_lt_of_cell? wc _ a0
    go_wp2_with (first | (go_at_call 39; refine (r_has _ _).mono ?_; rintro e w' ⟨rfl, rfl⟩))
    rw [show hasS 1 = ⟨#[76, 65, 82, 83]⟩ from rfl]
    refine wp_loop_rounds 5 ?_
    repeat any_goals (rw [rounds_succ]; go_wp2_with (first
      | (go_at_call 40
         refine (HP.out wc).mono ?_
         rintro e y1 ⟨rfl, hb⟩
         have HW1 := Lib.hid (below_via HW.out hb)
         have b5 := (hb.cell (p := ⟨g, 5, none⟩) hlt).trans a5
         clear hb)))
    all_goals go_ret
    all_goals refine ⟨ret_bool ?_, by first | exact HW1.out | exact HW.out⟩
    all_goals first | rfl | (simp_all; done)
end Go.Proofs.Ytcmdonckilajjaa.Event
namespace Go.Proofs.Ytcmdonckilajjaa.Event
open Go.ChangeShapes Go.WideShapes Go.ChangeAt Go.RowKit Fl Date Cal

set_option maxRecDepth 20000 in
set_option maxHeartbeats 4000000 in
theorem good_k2 (day : Int) (key : Nat) (loan amount : Int) (rate income : Nat) (sub : Bool) (status plan family : Int) (w : World) (hd : dayB day = true) (he : eqE ⟨2, day, key, loan, amount, rate, income, sub, status, plan, family⟩ (onlyE ⟨2, day, key, loan, amount, rate, income, sub, status, plan, family⟩) = true) :
    Calls Try.prog 14 #[.agg (Ev.cells ⟨2, day, key, loan, amount, rate, income, sub, status, plan, family⟩)] w fun e w' => e = .returned (.bool (fieldsB ⟨2, day, key, loan, amount, rate, income, sub, status, plan, family⟩)) ∧ Below w.heap.size w w' := by
  rw [show fieldsB ⟨2, day, key, loan, amount, rate, income, sub, status, plan, family⟩ = (loanB loan && statusB status) by unfold fieldsB; simp]
  obtain ⟨g, wb, e1, e2, hA, hb⟩ := boxed_one w (Ev.cells ⟨2, day, key, loan, amount, rate, income, sub, status, plan, family⟩) 25
  have HB := Lib.hid hb
  clear hb
  have HD : Hid (∀ W, Calls Try.prog 38 #[.int .i64 day] W fun e w' => e = .returned (.bool true) ∧ W = w') := fun W => hd ▸ rday_any day W
  clear hd
  unfold Ev.cells at *
  go_enter Try.func14, Try.ntmps14
  go_upto_region 1 with fail
  rw [← e2, ← e1]
  clear e1 e2
  go_cut [30] (fun s wx => s = .bool false ∧ Hid (EvAt wx g 0 ⟨2, day, key, loan, amount, rate, income, sub, status, plan, family⟩) ∧ Hid (Below w.heap.size w wx))
  case first =>
    as_aux_lemma =>
      have a0 : wb.cell? ⟨g, 0, none⟩ = some (.int .i64 2) := hA 0
      have a1 : wb.cell? ⟨g, 1, none⟩ = some (.int .i64 day) := hA 1
      have a2 : wb.cell? ⟨g, 2, none⟩ = some (.int .u32 (key : Nat)) := hA 2
      have a3 : wb.cell? ⟨g, 3, none⟩ = some (.int .i64 loan) := hA 3
      have a4 : wb.cell? ⟨g, 4, none⟩ = some (.int .i64 amount) := hA 4
      have a5 : wb.cell? ⟨g, 5, none⟩ = some (.float .f64 rate) := hA 5
      have a6 : wb.cell? ⟨g, 6, none⟩ = some (.float .f64 income) := hA 6
      have a7 : wb.cell? ⟨g, 7, none⟩ = some (.bool sub) := hA 7
      have a8 : wb.cell? ⟨g, 8, none⟩ = some (.int .i64 status) := hA 8
      have a9 : wb.cell? ⟨g, 9, none⟩ = some (.int .i64 plan) := hA 9
      have a10 : wb.cell? ⟨g, 10, none⟩ = some (.int .i64 family) := hA 10
      clear hA
      generalize hO : onlyE ⟨2, day, key, loan, amount, rate, income, sub, status, plan, family⟩ = O at *
      have HO : Hid (∀ W, Calls Try.prog 24 #[.agg #[.int .i64 2, .int .i64 day, .int .u32 (key : Nat), .int .i64 loan, .int .i64 amount, .float .f64 rate, .float .f64 income, .bool sub, .int .i64 status, .int .i64 plan, .int .i64 family]] W fun x w' => x = .returned (.agg O.cells) ∧ Below W.heap.size W w') := fun W => hO ▸ r_only ⟨2, day, key, loan, amount, rate, income, sub, status, plan, family⟩ W
      have HE : Hid (∀ W, Calls Try.prog 15 #[.agg #[.int .i64 2, .int .i64 day, .int .u32 (key : Nat), .int .i64 loan, .int .i64 amount, .float .f64 rate, .float .f64 income, .bool sub, .int .i64 status, .int .i64 plan, .int .i64 family], .agg O.cells] W fun x w' => x = .returned (.bool true) ∧ Below W.heap.size W w') := fun W => he ▸ k_event ⟨2, day, key, loan, amount, rate, income, sub, status, plan, family⟩ O W
      clear hO he
      have hlt := World.block_lt_of_cell? wb _ a0
      go_region_held3 (fun w' => w'.cell? ⟨g, 0, none⟩ = some (.int .i64 2) ∧ w'.cell? ⟨g, 1, none⟩ = some (.int .i64 day) ∧ w'.cell? ⟨g, 2, none⟩ = some (.int .u32 (key : Nat)) ∧ w'.cell? ⟨g, 3, none⟩ = some (.int .i64 loan) ∧ w'.cell? ⟨g, 4, none⟩ = some (.int .i64 amount) ∧ w'.cell? ⟨g, 5, none⟩ = some (.float .f64 rate) ∧ w'.cell? ⟨g, 6, none⟩ = some (.float .f64 income) ∧ w'.cell? ⟨g, 7, none⟩ = some (.bool sub) ∧ w'.cell? ⟨g, 8, none⟩ = some (.int .i64 status) ∧ w'.cell? ⟨g, 9, none⟩ = some (.int .i64 plan) ∧ w'.cell? ⟨g, 10, none⟩ = some (.int .i64 family))
        (first
          | exact ⟨c0, c1, c2, c3, c4, c5, c6, c7, c8, c9, c10⟩
          | exact ⟨b0, b1, b2, b3, b4, b5, b6, b7, b8, b9, b10⟩
          | exact ⟨a0, a1, a2, a3, a4, a5, a6, a7, a8, a9, a10⟩)
        (first
          | (go_at_call 38
             refine (HD.out _).mono ?_
             rintro e w' ⟨rfl, rfl⟩)
          | (go_at_call 24
             have hcc := HO.out wb.drew
             refine hcc.mono ?_
             clear hcc
             rintro e y1 ⟨rfl, hb⟩
             have HB1 := Lib.hid (below_via HB.out (below_via (below_drew (Below.refl _ _)) hb))
             have b0 := (hb.cell (p := ⟨g, 0, none⟩) hlt).trans a0
             have b1 := (hb.cell (p := ⟨g, 1, none⟩) hlt).trans a1
             have b2 := (hb.cell (p := ⟨g, 2, none⟩) hlt).trans a2
             have b3 := (hb.cell (p := ⟨g, 3, none⟩) hlt).trans a3
             have b4 := (hb.cell (p := ⟨g, 4, none⟩) hlt).trans a4
             have b5 := (hb.cell (p := ⟨g, 5, none⟩) hlt).trans a5
             have b6 := (hb.cell (p := ⟨g, 6, none⟩) hlt).trans a6
             have b7 := (hb.cell (p := ⟨g, 7, none⟩) hlt).trans a7
             have b8 := (hb.cell (p := ⟨g, 8, none⟩) hlt).trans a8
             have b9 := (hb.cell (p := ⟨g, 9, none⟩) hlt).trans a9
             have b10 := (hb.cell (p := ⟨g, 10, none⟩) hlt).trans a10
             clear hb)
          | (go_at_call 15
             have hcc := HE.out y1
             refine hcc.mono ?_
             clear hcc
             rintro e y2 ⟨rfl, hb⟩
             have HB2 := Lib.hid (below_via HB1.out hb)
             have hlt1 := World.block_lt_of_cell? y1 _ b0
             have c0 := (hb.cell (p := ⟨g, 0, none⟩) hlt1).trans b0
             have c1 := (hb.cell (p := ⟨g, 1, none⟩) hlt1).trans b1
             have c2 := (hb.cell (p := ⟨g, 2, none⟩) hlt1).trans b2
             have c3 := (hb.cell (p := ⟨g, 3, none⟩) hlt1).trans b3
             have c4 := (hb.cell (p := ⟨g, 4, none⟩) hlt1).trans b4
             have c5 := (hb.cell (p := ⟨g, 5, none⟩) hlt1).trans b5
             have c6 := (hb.cell (p := ⟨g, 6, none⟩) hlt1).trans b6
             have c7 := (hb.cell (p := ⟨g, 7, none⟩) hlt1).trans b7
             have c8 := (hb.cell (p := ⟨g, 8, none⟩) hlt1).trans b8
             have c9 := (hb.cell (p := ⟨g, 9, none⟩) hlt1).trans b9
             have c10 := (hb.cell (p := ⟨g, 10, none⟩) hlt1).trans b10
             clear hb))
      go_wp2_with fail
      go_meet
      exact ⟨rfl, evAt_of c0 c1 c2 c3 c4 c5 c6 c7 c8 c9 c10, HB2.out⟩
  case rest =>
    obtain ⟨rfl, HA, HW⟩ := hcut
    have a0 : wc.cell? ⟨g, 0, none⟩ = some (.int .i64 2) := HA.out 0 (by decide)
    have a1 : wc.cell? ⟨g, 1, none⟩ = some (.int .i64 day) := HA.out 1 (by decide)
    have a2 : wc.cell? ⟨g, 2, none⟩ = some (.int .u32 (key : Nat)) := HA.out 2 (by decide)
    have a3 : wc.cell? ⟨g, 3, none⟩ = some (.int .i64 loan) := HA.out 3 (by decide)
    have a4 : wc.cell? ⟨g, 4, none⟩ = some (.int .i64 amount) := HA.out 4 (by decide)
    have a5 : wc.cell? ⟨g, 5, none⟩ = some (.float .f64 rate) := HA.out 5 (by decide)
    have a6 : wc.cell? ⟨g, 6, none⟩ = some (.float .f64 income) := HA.out 6 (by decide)
    have a7 : wc.cell? ⟨g, 7, none⟩ = some (.bool sub) := HA.out 7 (by decide)
    have a8 : wc.cell? ⟨g, 8, none⟩ = some (.int .i64 status) := HA.out 8 (by decide)
    have a9 : wc.cell? ⟨g, 9, none⟩ = some (.int .i64 plan) := HA.out 9 (by decide)
    have a10 : wc.cell? ⟨g, 10, none⟩ = some (.int .i64 family) := HA.out 10 (by decide)
    clear HA hA he HD HB
    go_wp2_with (first | (go_at_call 39; refine (r_has _ _).mono ?_; rintro e w' ⟨rfl, rfl⟩))
    rw [show hasS 2 = ⟨#[76, 84]⟩ from rfl]
    refine wp_loop_rounds 5 ?_
    repeat any_goals (rw [rounds_succ]; go_wp2_with fail)
    all_goals go_ret
    all_goals refine ⟨ret_bool ?_, HW.out⟩
    all_goals (simp_all [loanB, statusB] <;> omega)
set_option maxRecDepth 20000 in
set_option maxHeartbeats 4000000 in
theorem good_k3 (day : Int) (key : Nat) (loan amount : Int) (rate income : Nat) (sub : Bool) (status plan family : Int) (w : World) (hd : dayB day = true) (he : eqE ⟨3, day, key, loan, amount, rate, income, sub, status, plan, family⟩ (onlyE ⟨3, day, key, loan, amount, rate, income, sub, status, plan, family⟩) = true) :
    Calls Try.prog 14 #[.agg (Ev.cells ⟨3, day, key, loan, amount, rate, income, sub, status, plan, family⟩)] w fun e w' => e = .returned (.bool (fieldsB ⟨3, day, key, loan, amount, rate, income, sub, status, plan, family⟩)) ∧ Below w.heap.size w w' := by
  rw [show fieldsB ⟨3, day, key, loan, amount, rate, income, sub, status, plan, family⟩ = (amountB amount) by unfold fieldsB; simp]
  obtain ⟨g, wb, e1, e2, hA, hb⟩ := boxed_one w (Ev.cells ⟨3, day, key, loan, amount, rate, income, sub, status, plan, family⟩) 25
  have HB := Lib.hid hb
  clear hb
  have HD : Hid (∀ W, Calls Try.prog 38 #[.int .i64 day] W fun e w' => e = .returned (.bool true) ∧ W = w') := fun W => hd ▸ rday_any day W
  clear hd
  unfold Ev.cells at *
  go_enter Try.func14, Try.ntmps14
  go_upto_region 1 with fail
  rw [← e2, ← e1]
  clear e1 e2
  go_cut [30] (fun s wx => s = .bool false ∧ Hid (EvAt wx g 0 ⟨3, day, key, loan, amount, rate, income, sub, status, plan, family⟩) ∧ Hid (Below w.heap.size w wx))
  case first =>
    as_aux_lemma =>
      have a0 : wb.cell? ⟨g, 0, none⟩ = some (.int .i64 3) := hA 0
      have a1 : wb.cell? ⟨g, 1, none⟩ = some (.int .i64 day) := hA 1
      have a2 : wb.cell? ⟨g, 2, none⟩ = some (.int .u32 (key : Nat)) := hA 2
      have a3 : wb.cell? ⟨g, 3, none⟩ = some (.int .i64 loan) := hA 3
      have a4 : wb.cell? ⟨g, 4, none⟩ = some (.int .i64 amount) := hA 4
      have a5 : wb.cell? ⟨g, 5, none⟩ = some (.float .f64 rate) := hA 5
      have a6 : wb.cell? ⟨g, 6, none⟩ = some (.float .f64 income) := hA 6
      have a7 : wb.cell? ⟨g, 7, none⟩ = some (.bool sub) := hA 7
      have a8 : wb.cell? ⟨g, 8, none⟩ = some (.int .i64 status) := hA 8
      have a9 : wb.cell? ⟨g, 9, none⟩ = some (.int .i64 plan) := hA 9
      have a10 : wb.cell? ⟨g, 10, none⟩ = some (.int .i64 family) := hA 10
      clear hA
      generalize hO : onlyE ⟨3, day, key, loan, amount, rate, income, sub, status, plan, family⟩ = O at *
      have HO : Hid (∀ W, Calls Try.prog 24 #[.agg #[.int .i64 3, .int .i64 day, .int .u32 (key : Nat), .int .i64 loan, .int .i64 amount, .float .f64 rate, .float .f64 income, .bool sub, .int .i64 status, .int .i64 plan, .int .i64 family]] W fun x w' => x = .returned (.agg O.cells) ∧ Below W.heap.size W w') := fun W => hO ▸ r_only ⟨3, day, key, loan, amount, rate, income, sub, status, plan, family⟩ W
      have HE : Hid (∀ W, Calls Try.prog 15 #[.agg #[.int .i64 3, .int .i64 day, .int .u32 (key : Nat), .int .i64 loan, .int .i64 amount, .float .f64 rate, .float .f64 income, .bool sub, .int .i64 status, .int .i64 plan, .int .i64 family], .agg O.cells] W fun x w' => x = .returned (.bool true) ∧ Below W.heap.size W w') := fun W => he ▸ k_event ⟨3, day, key, loan, amount, rate, income, sub, status, plan, family⟩ O W
      clear hO he
      have hlt := World.block_lt_of_cell? wb _ a0
      go_region_held3 (fun w' => w'.cell? ⟨g, 0, none⟩ = some (.int .i64 3) ∧ w'.cell? ⟨g, 1, none⟩ = some (.int .i64 day) ∧ w'.cell? ⟨g, 2, none⟩ = some (.int .u32 (key : Nat)) ∧ w'.cell? ⟨g, 3, none⟩ = some (.int .i64 loan) ∧ w'.cell? ⟨g, 4, none⟩ = some (.int .i64 amount) ∧ w'.cell? ⟨g, 5, none⟩ = some (.float .f64 rate) ∧ w'.cell? ⟨g, 6, none⟩ = some (.float .f64 income) ∧ w'.cell? ⟨g, 7, none⟩ = some (.bool sub) ∧ w'.cell? ⟨g, 8, none⟩ = some (.int .i64 status) ∧ w'.cell? ⟨g, 9, none⟩ = some (.int .i64 plan) ∧ w'.cell? ⟨g, 10, none⟩ = some (.int .i64 family))
        (first
          | exact ⟨c0, c1, c2, c3, c4, c5, c6, c7, c8, c9, c10⟩
          | exact ⟨b0, b1, b2, b3, b4, b5, b6, b7, b8, b9, b10⟩
          | exact ⟨a0, a1, a2, a3, a4, a5, a6, a7, a8, a9, a10⟩)
        (first
          | (go_at_call 38
             refine (HD.out _).mono ?_
             rintro e w' ⟨rfl, rfl⟩)
          | (go_at_call 24
             have hcc := HO.out wb.drew
             refine hcc.mono ?_
             clear hcc
             rintro e y1 ⟨rfl, hb⟩
             have HB1 := Lib.hid (below_via HB.out (below_via (below_drew (Below.refl _ _)) hb))
             have b0 := (hb.cell (p := ⟨g, 0, none⟩) hlt).trans a0
             have b1 := (hb.cell (p := ⟨g, 1, none⟩) hlt).trans a1
             have b2 := (hb.cell (p := ⟨g, 2, none⟩) hlt).trans a2
             have b3 := (hb.cell (p := ⟨g, 3, none⟩) hlt).trans a3
             have b4 := (hb.cell (p := ⟨g, 4, none⟩) hlt).trans a4
             have b5 := (hb.cell (p := ⟨g, 5, none⟩) hlt).trans a5
             have b6 := (hb.cell (p := ⟨g, 6, none⟩) hlt).trans a6
             have b7 := (hb.cell (p := ⟨g, 7, none⟩) hlt).trans a7
             have b8 := (hb.cell (p := ⟨g, 8, none⟩) hlt).trans a8
             have b9 := (hb.cell (p := ⟨g, 9, none⟩) hlt).trans a9
             have b10 := (hb.cell (p := ⟨g, 10, none⟩) hlt).trans a10
             clear hb)
          | (go_at_call 15
             have hcc := HE.out y1
             refine hcc.mono ?_
             clear hcc
             rintro e y2 ⟨rfl, hb⟩
             have HB2 := Lib.hid (below_via HB1.out hb)
             have hlt1 := World.block_lt_of_cell? y1 _ b0
             have c0 := (hb.cell (p := ⟨g, 0, none⟩) hlt1).trans b0
             have c1 := (hb.cell (p := ⟨g, 1, none⟩) hlt1).trans b1
             have c2 := (hb.cell (p := ⟨g, 2, none⟩) hlt1).trans b2
             have c3 := (hb.cell (p := ⟨g, 3, none⟩) hlt1).trans b3
             have c4 := (hb.cell (p := ⟨g, 4, none⟩) hlt1).trans b4
             have c5 := (hb.cell (p := ⟨g, 5, none⟩) hlt1).trans b5
             have c6 := (hb.cell (p := ⟨g, 6, none⟩) hlt1).trans b6
             have c7 := (hb.cell (p := ⟨g, 7, none⟩) hlt1).trans b7
             have c8 := (hb.cell (p := ⟨g, 8, none⟩) hlt1).trans b8
             have c9 := (hb.cell (p := ⟨g, 9, none⟩) hlt1).trans b9
             have c10 := (hb.cell (p := ⟨g, 10, none⟩) hlt1).trans b10
             clear hb))
      go_wp2_with fail
      go_meet
      exact ⟨rfl, evAt_of c0 c1 c2 c3 c4 c5 c6 c7 c8 c9 c10, HB2.out⟩
  case rest =>
    obtain ⟨rfl, HA, HW⟩ := hcut
    have a0 : wc.cell? ⟨g, 0, none⟩ = some (.int .i64 3) := HA.out 0 (by decide)
    have a1 : wc.cell? ⟨g, 1, none⟩ = some (.int .i64 day) := HA.out 1 (by decide)
    have a2 : wc.cell? ⟨g, 2, none⟩ = some (.int .u32 (key : Nat)) := HA.out 2 (by decide)
    have a3 : wc.cell? ⟨g, 3, none⟩ = some (.int .i64 loan) := HA.out 3 (by decide)
    have a4 : wc.cell? ⟨g, 4, none⟩ = some (.int .i64 amount) := HA.out 4 (by decide)
    have a5 : wc.cell? ⟨g, 5, none⟩ = some (.float .f64 rate) := HA.out 5 (by decide)
    have a6 : wc.cell? ⟨g, 6, none⟩ = some (.float .f64 income) := HA.out 6 (by decide)
    have a7 : wc.cell? ⟨g, 7, none⟩ = some (.bool sub) := HA.out 7 (by decide)
    have a8 : wc.cell? ⟨g, 8, none⟩ = some (.int .i64 status) := HA.out 8 (by decide)
    have a9 : wc.cell? ⟨g, 9, none⟩ = some (.int .i64 plan) := HA.out 9 (by decide)
    have a10 : wc.cell? ⟨g, 10, none⟩ = some (.int .i64 family) := HA.out 10 (by decide)
    clear HA hA he HD HB
    go_wp2_with (first | (go_at_call 39; refine (r_has _ _).mono ?_; rintro e w' ⟨rfl, rfl⟩))
    rw [show hasS 3 = ⟨#[65]⟩ from rfl]
    refine wp_loop_rounds 5 ?_
    repeat any_goals (rw [rounds_succ]; go_wp2_with fail)
    all_goals go_ret
    all_goals refine ⟨ret_bool ?_, HW.out⟩
    all_goals (simp_all [amountB] <;> omega)
set_option maxRecDepth 20000 in
set_option maxHeartbeats 4000000 in
theorem good_k4 (day : Int) (key : Nat) (loan amount : Int) (rate income : Nat) (sub : Bool) (status plan family : Int) (w : World) (hd : dayB day = true) (he : eqE ⟨4, day, key, loan, amount, rate, income, sub, status, plan, family⟩ (onlyE ⟨4, day, key, loan, amount, rate, income, sub, status, plan, family⟩) = true) :
    Calls Try.prog 14 #[.agg (Ev.cells ⟨4, day, key, loan, amount, rate, income, sub, status, plan, family⟩)] w fun e w' => e = .returned (.bool (fieldsB ⟨4, day, key, loan, amount, rate, income, sub, status, plan, family⟩)) ∧ Below w.heap.size w w' := by
  rw [show fieldsB ⟨4, day, key, loan, amount, rate, income, sub, status, plan, family⟩ = (loanB loan && amountB amount) by unfold fieldsB; simp]
  obtain ⟨g, wb, e1, e2, hA, hb⟩ := boxed_one w (Ev.cells ⟨4, day, key, loan, amount, rate, income, sub, status, plan, family⟩) 25
  have HB := Lib.hid hb
  clear hb
  have HD : Hid (∀ W, Calls Try.prog 38 #[.int .i64 day] W fun e w' => e = .returned (.bool true) ∧ W = w') := fun W => hd ▸ rday_any day W
  clear hd
  unfold Ev.cells at *
  go_enter Try.func14, Try.ntmps14
  go_upto_region 1 with fail
  rw [← e2, ← e1]
  clear e1 e2
  go_cut [30] (fun s wx => s = .bool false ∧ Hid (EvAt wx g 0 ⟨4, day, key, loan, amount, rate, income, sub, status, plan, family⟩) ∧ Hid (Below w.heap.size w wx))
  case first =>
    as_aux_lemma =>
      have a0 : wb.cell? ⟨g, 0, none⟩ = some (.int .i64 4) := hA 0
      have a1 : wb.cell? ⟨g, 1, none⟩ = some (.int .i64 day) := hA 1
      have a2 : wb.cell? ⟨g, 2, none⟩ = some (.int .u32 (key : Nat)) := hA 2
      have a3 : wb.cell? ⟨g, 3, none⟩ = some (.int .i64 loan) := hA 3
      have a4 : wb.cell? ⟨g, 4, none⟩ = some (.int .i64 amount) := hA 4
      have a5 : wb.cell? ⟨g, 5, none⟩ = some (.float .f64 rate) := hA 5
      have a6 : wb.cell? ⟨g, 6, none⟩ = some (.float .f64 income) := hA 6
      have a7 : wb.cell? ⟨g, 7, none⟩ = some (.bool sub) := hA 7
      have a8 : wb.cell? ⟨g, 8, none⟩ = some (.int .i64 status) := hA 8
      have a9 : wb.cell? ⟨g, 9, none⟩ = some (.int .i64 plan) := hA 9
      have a10 : wb.cell? ⟨g, 10, none⟩ = some (.int .i64 family) := hA 10
      clear hA
      generalize hO : onlyE ⟨4, day, key, loan, amount, rate, income, sub, status, plan, family⟩ = O at *
      have HO : Hid (∀ W, Calls Try.prog 24 #[.agg #[.int .i64 4, .int .i64 day, .int .u32 (key : Nat), .int .i64 loan, .int .i64 amount, .float .f64 rate, .float .f64 income, .bool sub, .int .i64 status, .int .i64 plan, .int .i64 family]] W fun x w' => x = .returned (.agg O.cells) ∧ Below W.heap.size W w') := fun W => hO ▸ r_only ⟨4, day, key, loan, amount, rate, income, sub, status, plan, family⟩ W
      have HE : Hid (∀ W, Calls Try.prog 15 #[.agg #[.int .i64 4, .int .i64 day, .int .u32 (key : Nat), .int .i64 loan, .int .i64 amount, .float .f64 rate, .float .f64 income, .bool sub, .int .i64 status, .int .i64 plan, .int .i64 family], .agg O.cells] W fun x w' => x = .returned (.bool true) ∧ Below W.heap.size W w') := fun W => he ▸ k_event ⟨4, day, key, loan, amount, rate, income, sub, status, plan, family⟩ O W
      clear hO he
      have hlt := World.block_lt_of_cell? wb _ a0
      go_region_held3 (fun w' => w'.cell? ⟨g, 0, none⟩ = some (.int .i64 4) ∧ w'.cell? ⟨g, 1, none⟩ = some (.int .i64 day) ∧ w'.cell? ⟨g, 2, none⟩ = some (.int .u32 (key : Nat)) ∧ w'.cell? ⟨g, 3, none⟩ = some (.int .i64 loan) ∧ w'.cell? ⟨g, 4, none⟩ = some (.int .i64 amount) ∧ w'.cell? ⟨g, 5, none⟩ = some (.float .f64 rate) ∧ w'.cell? ⟨g, 6, none⟩ = some (.float .f64 income) ∧ w'.cell? ⟨g, 7, none⟩ = some (.bool sub) ∧ w'.cell? ⟨g, 8, none⟩ = some (.int .i64 status) ∧ w'.cell? ⟨g, 9, none⟩ = some (.int .i64 plan) ∧ w'.cell? ⟨g, 10, none⟩ = some (.int .i64 family))
        (first
          | exact ⟨c0, c1, c2, c3, c4, c5, c6, c7, c8, c9, c10⟩
          | exact ⟨b0, b1, b2, b3, b4, b5, b6, b7, b8, b9, b10⟩
          | exact ⟨a0, a1, a2, a3, a4, a5, a6, a7, a8, a9, a10⟩)
        (first
          | (go_at_call 38
             refine (HD.out _).mono ?_
             rintro e w' ⟨rfl, rfl⟩)
          | (go_at_call 24
             have hcc := HO.out wb.drew
             refine hcc.mono ?_
             clear hcc
             rintro e y1 ⟨rfl, hb⟩
             have HB1 := Lib.hid (below_via HB.out (below_via (below_drew (Below.refl _ _)) hb))
             have b0 := (hb.cell (p := ⟨g, 0, none⟩) hlt).trans a0
             have b1 := (hb.cell (p := ⟨g, 1, none⟩) hlt).trans a1
             have b2 := (hb.cell (p := ⟨g, 2, none⟩) hlt).trans a2
             have b3 := (hb.cell (p := ⟨g, 3, none⟩) hlt).trans a3
             have b4 := (hb.cell (p := ⟨g, 4, none⟩) hlt).trans a4
             have b5 := (hb.cell (p := ⟨g, 5, none⟩) hlt).trans a5
             have b6 := (hb.cell (p := ⟨g, 6, none⟩) hlt).trans a6
             have b7 := (hb.cell (p := ⟨g, 7, none⟩) hlt).trans a7
             have b8 := (hb.cell (p := ⟨g, 8, none⟩) hlt).trans a8
             have b9 := (hb.cell (p := ⟨g, 9, none⟩) hlt).trans a9
             have b10 := (hb.cell (p := ⟨g, 10, none⟩) hlt).trans a10
             clear hb)
          | (go_at_call 15
             have hcc := HE.out y1
             refine hcc.mono ?_
             clear hcc
             rintro e y2 ⟨rfl, hb⟩
             have HB2 := Lib.hid (below_via HB1.out hb)
             have hlt1 := World.block_lt_of_cell? y1 _ b0
             have c0 := (hb.cell (p := ⟨g, 0, none⟩) hlt1).trans b0
             have c1 := (hb.cell (p := ⟨g, 1, none⟩) hlt1).trans b1
             have c2 := (hb.cell (p := ⟨g, 2, none⟩) hlt1).trans b2
             have c3 := (hb.cell (p := ⟨g, 3, none⟩) hlt1).trans b3
             have c4 := (hb.cell (p := ⟨g, 4, none⟩) hlt1).trans b4
             have c5 := (hb.cell (p := ⟨g, 5, none⟩) hlt1).trans b5
             have c6 := (hb.cell (p := ⟨g, 6, none⟩) hlt1).trans b6
             have c7 := (hb.cell (p := ⟨g, 7, none⟩) hlt1).trans b7
             have c8 := (hb.cell (p := ⟨g, 8, none⟩) hlt1).trans b8
             have c9 := (hb.cell (p := ⟨g, 9, none⟩) hlt1).trans b9
             have c10 := (hb.cell (p := ⟨g, 10, none⟩) hlt1).trans b10
             clear hb))
      go_wp2_with fail
      go_meet
      exact ⟨rfl, evAt_of c0 c1 c2 c3 c4 c5 c6 c7 c8 c9 c10, HB2.out⟩
  case rest =>
    obtain ⟨rfl, HA, HW⟩ := hcut
    have a0 : wc.cell? ⟨g, 0, none⟩ = some (.int .i64 4) := HA.out 0 (by decide)
    have a1 : wc.cell? ⟨g, 1, none⟩ = some (.int .i64 day) := HA.out 1 (by decide)
    have a2 : wc.cell? ⟨g, 2, none⟩ = some (.int .u32 (key : Nat)) := HA.out 2 (by decide)
    have a3 : wc.cell? ⟨g, 3, none⟩ = some (.int .i64 loan) := HA.out 3 (by decide)
    have a4 : wc.cell? ⟨g, 4, none⟩ = some (.int .i64 amount) := HA.out 4 (by decide)
    have a5 : wc.cell? ⟨g, 5, none⟩ = some (.float .f64 rate) := HA.out 5 (by decide)
    have a6 : wc.cell? ⟨g, 6, none⟩ = some (.float .f64 income) := HA.out 6 (by decide)
    have a7 : wc.cell? ⟨g, 7, none⟩ = some (.bool sub) := HA.out 7 (by decide)
    have a8 : wc.cell? ⟨g, 8, none⟩ = some (.int .i64 status) := HA.out 8 (by decide)
    have a9 : wc.cell? ⟨g, 9, none⟩ = some (.int .i64 plan) := HA.out 9 (by decide)
    have a10 : wc.cell? ⟨g, 10, none⟩ = some (.int .i64 family) := HA.out 10 (by decide)
    clear HA hA he HD HB
    go_wp2_with (first | (go_at_call 39; refine (r_has _ _).mono ?_; rintro e w' ⟨rfl, rfl⟩))
    rw [show hasS 4 = ⟨#[76, 65]⟩ from rfl]
    refine wp_loop_rounds 5 ?_
    repeat any_goals (rw [rounds_succ]; go_wp2_with fail)
    all_goals go_ret
    all_goals refine ⟨ret_bool ?_, HW.out⟩
    all_goals (simp_all [loanB, amountB] <;> omega)
end Go.Proofs.Ytcmdonckilajjaa.Event
namespace Go.Proofs.Ytcmdonckilajjaa.Event
open Go.ChangeShapes Go.WideShapes Go.ChangeAt Go.RowKit Fl Date Cal

set_option maxRecDepth 20000 in
set_option maxHeartbeats 4000000 in
theorem good_k6 (day : Int) (key : Nat) (loan amount : Int) (rate income : Nat) (sub : Bool) (status plan family : Int) (w : World) (hd : dayB day = true) (he : eqE ⟨6, day, key, loan, amount, rate, income, sub, status, plan, family⟩ (onlyE ⟨6, day, key, loan, amount, rate, income, sub, status, plan, family⟩) = true) :
    Calls Try.prog 14 #[.agg (Ev.cells ⟨6, day, key, loan, amount, rate, income, sub, status, plan, family⟩)] w fun e w' => e = .returned (.bool (fieldsB ⟨6, day, key, loan, amount, rate, income, sub, status, plan, family⟩)) ∧ Below w.heap.size w w' := by
  rw [show fieldsB ⟨6, day, key, loan, amount, rate, income, sub, status, plan, family⟩ = (true) by unfold fieldsB; simp]
  obtain ⟨g, wb, e1, e2, hA, hb⟩ := boxed_one w (Ev.cells ⟨6, day, key, loan, amount, rate, income, sub, status, plan, family⟩) 25
  have HB := Lib.hid hb
  clear hb
  have HD : Hid (∀ W, Calls Try.prog 38 #[.int .i64 day] W fun e w' => e = .returned (.bool true) ∧ W = w') := fun W => hd ▸ rday_any day W
  clear hd
  unfold Ev.cells at *
  go_enter Try.func14, Try.ntmps14
  go_upto_region 1 with fail
  rw [← e2, ← e1]
  clear e1 e2
  go_cut [30] (fun s wx => s = .bool false ∧ Hid (EvAt wx g 0 ⟨6, day, key, loan, amount, rate, income, sub, status, plan, family⟩) ∧ Hid (Below w.heap.size w wx))
  case first =>
    as_aux_lemma =>
      have a0 : wb.cell? ⟨g, 0, none⟩ = some (.int .i64 6) := hA 0
      have a1 : wb.cell? ⟨g, 1, none⟩ = some (.int .i64 day) := hA 1
      have a2 : wb.cell? ⟨g, 2, none⟩ = some (.int .u32 (key : Nat)) := hA 2
      have a3 : wb.cell? ⟨g, 3, none⟩ = some (.int .i64 loan) := hA 3
      have a4 : wb.cell? ⟨g, 4, none⟩ = some (.int .i64 amount) := hA 4
      have a5 : wb.cell? ⟨g, 5, none⟩ = some (.float .f64 rate) := hA 5
      have a6 : wb.cell? ⟨g, 6, none⟩ = some (.float .f64 income) := hA 6
      have a7 : wb.cell? ⟨g, 7, none⟩ = some (.bool sub) := hA 7
      have a8 : wb.cell? ⟨g, 8, none⟩ = some (.int .i64 status) := hA 8
      have a9 : wb.cell? ⟨g, 9, none⟩ = some (.int .i64 plan) := hA 9
      have a10 : wb.cell? ⟨g, 10, none⟩ = some (.int .i64 family) := hA 10
      clear hA
      generalize hO : onlyE ⟨6, day, key, loan, amount, rate, income, sub, status, plan, family⟩ = O at *
      have HO : Hid (∀ W, Calls Try.prog 24 #[.agg #[.int .i64 6, .int .i64 day, .int .u32 (key : Nat), .int .i64 loan, .int .i64 amount, .float .f64 rate, .float .f64 income, .bool sub, .int .i64 status, .int .i64 plan, .int .i64 family]] W fun x w' => x = .returned (.agg O.cells) ∧ Below W.heap.size W w') := fun W => hO ▸ r_only ⟨6, day, key, loan, amount, rate, income, sub, status, plan, family⟩ W
      have HE : Hid (∀ W, Calls Try.prog 15 #[.agg #[.int .i64 6, .int .i64 day, .int .u32 (key : Nat), .int .i64 loan, .int .i64 amount, .float .f64 rate, .float .f64 income, .bool sub, .int .i64 status, .int .i64 plan, .int .i64 family], .agg O.cells] W fun x w' => x = .returned (.bool true) ∧ Below W.heap.size W w') := fun W => he ▸ k_event ⟨6, day, key, loan, amount, rate, income, sub, status, plan, family⟩ O W
      clear hO he
      have hlt := World.block_lt_of_cell? wb _ a0
      go_region_held3 (fun w' => w'.cell? ⟨g, 0, none⟩ = some (.int .i64 6) ∧ w'.cell? ⟨g, 1, none⟩ = some (.int .i64 day) ∧ w'.cell? ⟨g, 2, none⟩ = some (.int .u32 (key : Nat)) ∧ w'.cell? ⟨g, 3, none⟩ = some (.int .i64 loan) ∧ w'.cell? ⟨g, 4, none⟩ = some (.int .i64 amount) ∧ w'.cell? ⟨g, 5, none⟩ = some (.float .f64 rate) ∧ w'.cell? ⟨g, 6, none⟩ = some (.float .f64 income) ∧ w'.cell? ⟨g, 7, none⟩ = some (.bool sub) ∧ w'.cell? ⟨g, 8, none⟩ = some (.int .i64 status) ∧ w'.cell? ⟨g, 9, none⟩ = some (.int .i64 plan) ∧ w'.cell? ⟨g, 10, none⟩ = some (.int .i64 family))
        (first
          | exact ⟨c0, c1, c2, c3, c4, c5, c6, c7, c8, c9, c10⟩
          | exact ⟨b0, b1, b2, b3, b4, b5, b6, b7, b8, b9, b10⟩
          | exact ⟨a0, a1, a2, a3, a4, a5, a6, a7, a8, a9, a10⟩)
        (first
          | (go_at_call 38
             refine (HD.out _).mono ?_
             rintro e w' ⟨rfl, rfl⟩)
          | (go_at_call 24
             have hcc := HO.out wb.drew
             refine hcc.mono ?_
             clear hcc
             rintro e y1 ⟨rfl, hb⟩
             have HB1 := Lib.hid (below_via HB.out (below_via (below_drew (Below.refl _ _)) hb))
             have b0 := (hb.cell (p := ⟨g, 0, none⟩) hlt).trans a0
             have b1 := (hb.cell (p := ⟨g, 1, none⟩) hlt).trans a1
             have b2 := (hb.cell (p := ⟨g, 2, none⟩) hlt).trans a2
             have b3 := (hb.cell (p := ⟨g, 3, none⟩) hlt).trans a3
             have b4 := (hb.cell (p := ⟨g, 4, none⟩) hlt).trans a4
             have b5 := (hb.cell (p := ⟨g, 5, none⟩) hlt).trans a5
             have b6 := (hb.cell (p := ⟨g, 6, none⟩) hlt).trans a6
             have b7 := (hb.cell (p := ⟨g, 7, none⟩) hlt).trans a7
             have b8 := (hb.cell (p := ⟨g, 8, none⟩) hlt).trans a8
             have b9 := (hb.cell (p := ⟨g, 9, none⟩) hlt).trans a9
             have b10 := (hb.cell (p := ⟨g, 10, none⟩) hlt).trans a10
             clear hb)
          | (go_at_call 15
             have hcc := HE.out y1
             refine hcc.mono ?_
             clear hcc
             rintro e y2 ⟨rfl, hb⟩
             have HB2 := Lib.hid (below_via HB1.out hb)
             have hlt1 := World.block_lt_of_cell? y1 _ b0
             have c0 := (hb.cell (p := ⟨g, 0, none⟩) hlt1).trans b0
             have c1 := (hb.cell (p := ⟨g, 1, none⟩) hlt1).trans b1
             have c2 := (hb.cell (p := ⟨g, 2, none⟩) hlt1).trans b2
             have c3 := (hb.cell (p := ⟨g, 3, none⟩) hlt1).trans b3
             have c4 := (hb.cell (p := ⟨g, 4, none⟩) hlt1).trans b4
             have c5 := (hb.cell (p := ⟨g, 5, none⟩) hlt1).trans b5
             have c6 := (hb.cell (p := ⟨g, 6, none⟩) hlt1).trans b6
             have c7 := (hb.cell (p := ⟨g, 7, none⟩) hlt1).trans b7
             have c8 := (hb.cell (p := ⟨g, 8, none⟩) hlt1).trans b8
             have c9 := (hb.cell (p := ⟨g, 9, none⟩) hlt1).trans b9
             have c10 := (hb.cell (p := ⟨g, 10, none⟩) hlt1).trans b10
             clear hb))
      go_wp2_with fail
      go_meet
      exact ⟨rfl, evAt_of c0 c1 c2 c3 c4 c5 c6 c7 c8 c9 c10, HB2.out⟩
  case rest =>
    obtain ⟨rfl, HA, HW⟩ := hcut
    have a0 : wc.cell? ⟨g, 0, none⟩ = some (.int .i64 6) := HA.out 0 (by decide)
    have a1 : wc.cell? ⟨g, 1, none⟩ = some (.int .i64 day) := HA.out 1 (by decide)
    have a2 : wc.cell? ⟨g, 2, none⟩ = some (.int .u32 (key : Nat)) := HA.out 2 (by decide)
    have a3 : wc.cell? ⟨g, 3, none⟩ = some (.int .i64 loan) := HA.out 3 (by decide)
    have a4 : wc.cell? ⟨g, 4, none⟩ = some (.int .i64 amount) := HA.out 4 (by decide)
    have a5 : wc.cell? ⟨g, 5, none⟩ = some (.float .f64 rate) := HA.out 5 (by decide)
    have a6 : wc.cell? ⟨g, 6, none⟩ = some (.float .f64 income) := HA.out 6 (by decide)
    have a7 : wc.cell? ⟨g, 7, none⟩ = some (.bool sub) := HA.out 7 (by decide)
    have a8 : wc.cell? ⟨g, 8, none⟩ = some (.int .i64 status) := HA.out 8 (by decide)
    have a9 : wc.cell? ⟨g, 9, none⟩ = some (.int .i64 plan) := HA.out 9 (by decide)
    have a10 : wc.cell? ⟨g, 10, none⟩ = some (.int .i64 family) := HA.out 10 (by decide)
    clear HA hA he HD HB
    go_wp2_with (first | (go_at_call 39; refine (r_has _ _).mono ?_; rintro e w' ⟨rfl, rfl⟩))
    rw [show hasS 6 = ⟨#[]⟩ from rfl]
    refine wp_loop_rounds 5 ?_
    repeat any_goals (rw [rounds_succ]; go_wp2_with fail)
    all_goals go_ret
    all_goals refine ⟨ret_bool ?_, HW.out⟩
    all_goals (simp_all [] <;> omega)
set_option maxRecDepth 20000 in
set_option maxHeartbeats 4000000 in
theorem good_k7 (day : Int) (key : Nat) (loan amount : Int) (rate income : Nat) (sub : Bool) (status plan family : Int) (w : World) (hd : dayB day = true) (he : eqE ⟨7, day, key, loan, amount, rate, income, sub, status, plan, family⟩ (onlyE ⟨7, day, key, loan, amount, rate, income, sub, status, plan, family⟩) = true) :
    Calls Try.prog 14 #[.agg (Ev.cells ⟨7, day, key, loan, amount, rate, income, sub, status, plan, family⟩)] w fun e w' => e = .returned (.bool (fieldsB ⟨7, day, key, loan, amount, rate, income, sub, status, plan, family⟩)) ∧ Below w.heap.size w w' := by
  rw [show fieldsB ⟨7, day, key, loan, amount, rate, income, sub, status, plan, family⟩ = (loanB loan) by unfold fieldsB; simp]
  obtain ⟨g, wb, e1, e2, hA, hb⟩ := boxed_one w (Ev.cells ⟨7, day, key, loan, amount, rate, income, sub, status, plan, family⟩) 25
  have HB := Lib.hid hb
  clear hb
  have HD : Hid (∀ W, Calls Try.prog 38 #[.int .i64 day] W fun e w' => e = .returned (.bool true) ∧ W = w') := fun W => hd ▸ rday_any day W
  clear hd
  unfold Ev.cells at *
  go_enter Try.func14, Try.ntmps14
  go_upto_region 1 with fail
  rw [← e2, ← e1]
  clear e1 e2
  go_cut [30] (fun s wx => s = .bool false ∧ Hid (EvAt wx g 0 ⟨7, day, key, loan, amount, rate, income, sub, status, plan, family⟩) ∧ Hid (Below w.heap.size w wx))
  case first =>
    as_aux_lemma =>
      have a0 : wb.cell? ⟨g, 0, none⟩ = some (.int .i64 7) := hA 0
      have a1 : wb.cell? ⟨g, 1, none⟩ = some (.int .i64 day) := hA 1
      have a2 : wb.cell? ⟨g, 2, none⟩ = some (.int .u32 (key : Nat)) := hA 2
      have a3 : wb.cell? ⟨g, 3, none⟩ = some (.int .i64 loan) := hA 3
      have a4 : wb.cell? ⟨g, 4, none⟩ = some (.int .i64 amount) := hA 4
      have a5 : wb.cell? ⟨g, 5, none⟩ = some (.float .f64 rate) := hA 5
      have a6 : wb.cell? ⟨g, 6, none⟩ = some (.float .f64 income) := hA 6
      have a7 : wb.cell? ⟨g, 7, none⟩ = some (.bool sub) := hA 7
      have a8 : wb.cell? ⟨g, 8, none⟩ = some (.int .i64 status) := hA 8
      have a9 : wb.cell? ⟨g, 9, none⟩ = some (.int .i64 plan) := hA 9
      have a10 : wb.cell? ⟨g, 10, none⟩ = some (.int .i64 family) := hA 10
      clear hA
      generalize hO : onlyE ⟨7, day, key, loan, amount, rate, income, sub, status, plan, family⟩ = O at *
      have HO : Hid (∀ W, Calls Try.prog 24 #[.agg #[.int .i64 7, .int .i64 day, .int .u32 (key : Nat), .int .i64 loan, .int .i64 amount, .float .f64 rate, .float .f64 income, .bool sub, .int .i64 status, .int .i64 plan, .int .i64 family]] W fun x w' => x = .returned (.agg O.cells) ∧ Below W.heap.size W w') := fun W => hO ▸ r_only ⟨7, day, key, loan, amount, rate, income, sub, status, plan, family⟩ W
      have HE : Hid (∀ W, Calls Try.prog 15 #[.agg #[.int .i64 7, .int .i64 day, .int .u32 (key : Nat), .int .i64 loan, .int .i64 amount, .float .f64 rate, .float .f64 income, .bool sub, .int .i64 status, .int .i64 plan, .int .i64 family], .agg O.cells] W fun x w' => x = .returned (.bool true) ∧ Below W.heap.size W w') := fun W => he ▸ k_event ⟨7, day, key, loan, amount, rate, income, sub, status, plan, family⟩ O W
      clear hO he
      have hlt := World.block_lt_of_cell? wb _ a0
      go_region_held3 (fun w' => w'.cell? ⟨g, 0, none⟩ = some (.int .i64 7) ∧ w'.cell? ⟨g, 1, none⟩ = some (.int .i64 day) ∧ w'.cell? ⟨g, 2, none⟩ = some (.int .u32 (key : Nat)) ∧ w'.cell? ⟨g, 3, none⟩ = some (.int .i64 loan) ∧ w'.cell? ⟨g, 4, none⟩ = some (.int .i64 amount) ∧ w'.cell? ⟨g, 5, none⟩ = some (.float .f64 rate) ∧ w'.cell? ⟨g, 6, none⟩ = some (.float .f64 income) ∧ w'.cell? ⟨g, 7, none⟩ = some (.bool sub) ∧ w'.cell? ⟨g, 8, none⟩ = some (.int .i64 status) ∧ w'.cell? ⟨g, 9, none⟩ = some (.int .i64 plan) ∧ w'.cell? ⟨g, 10, none⟩ = some (.int .i64 family))
        (first
          | exact ⟨c0, c1, c2, c3, c4, c5, c6, c7, c8, c9, c10⟩
          | exact ⟨b0, b1, b2, b3, b4, b5, b6, b7, b8, b9, b10⟩
          | exact ⟨a0, a1, a2, a3, a4, a5, a6, a7, a8, a9, a10⟩)
        (first
          | (go_at_call 38
             refine (HD.out _).mono ?_
             rintro e w' ⟨rfl, rfl⟩)
          | (go_at_call 24
             have hcc := HO.out wb.drew
             refine hcc.mono ?_
             clear hcc
             rintro e y1 ⟨rfl, hb⟩
             have HB1 := Lib.hid (below_via HB.out (below_via (below_drew (Below.refl _ _)) hb))
             have b0 := (hb.cell (p := ⟨g, 0, none⟩) hlt).trans a0
             have b1 := (hb.cell (p := ⟨g, 1, none⟩) hlt).trans a1
             have b2 := (hb.cell (p := ⟨g, 2, none⟩) hlt).trans a2
             have b3 := (hb.cell (p := ⟨g, 3, none⟩) hlt).trans a3
             have b4 := (hb.cell (p := ⟨g, 4, none⟩) hlt).trans a4
             have b5 := (hb.cell (p := ⟨g, 5, none⟩) hlt).trans a5
             have b6 := (hb.cell (p := ⟨g, 6, none⟩) hlt).trans a6
             have b7 := (hb.cell (p := ⟨g, 7, none⟩) hlt).trans a7
             have b8 := (hb.cell (p := ⟨g, 8, none⟩) hlt).trans a8
             have b9 := (hb.cell (p := ⟨g, 9, none⟩) hlt).trans a9
             have b10 := (hb.cell (p := ⟨g, 10, none⟩) hlt).trans a10
             clear hb)
          | (go_at_call 15
             have hcc := HE.out y1
             refine hcc.mono ?_
             clear hcc
             rintro e y2 ⟨rfl, hb⟩
             have HB2 := Lib.hid (below_via HB1.out hb)
             have hlt1 := World.block_lt_of_cell? y1 _ b0
             have c0 := (hb.cell (p := ⟨g, 0, none⟩) hlt1).trans b0
             have c1 := (hb.cell (p := ⟨g, 1, none⟩) hlt1).trans b1
             have c2 := (hb.cell (p := ⟨g, 2, none⟩) hlt1).trans b2
             have c3 := (hb.cell (p := ⟨g, 3, none⟩) hlt1).trans b3
             have c4 := (hb.cell (p := ⟨g, 4, none⟩) hlt1).trans b4
             have c5 := (hb.cell (p := ⟨g, 5, none⟩) hlt1).trans b5
             have c6 := (hb.cell (p := ⟨g, 6, none⟩) hlt1).trans b6
             have c7 := (hb.cell (p := ⟨g, 7, none⟩) hlt1).trans b7
             have c8 := (hb.cell (p := ⟨g, 8, none⟩) hlt1).trans b8
             have c9 := (hb.cell (p := ⟨g, 9, none⟩) hlt1).trans b9
             have c10 := (hb.cell (p := ⟨g, 10, none⟩) hlt1).trans b10
             clear hb))
      go_wp2_with fail
      go_meet
      exact ⟨rfl, evAt_of c0 c1 c2 c3 c4 c5 c6 c7 c8 c9 c10, HB2.out⟩
  case rest =>
    obtain ⟨rfl, HA, HW⟩ := hcut
    have a0 : wc.cell? ⟨g, 0, none⟩ = some (.int .i64 7) := HA.out 0 (by decide)
    have a1 : wc.cell? ⟨g, 1, none⟩ = some (.int .i64 day) := HA.out 1 (by decide)
    have a2 : wc.cell? ⟨g, 2, none⟩ = some (.int .u32 (key : Nat)) := HA.out 2 (by decide)
    have a3 : wc.cell? ⟨g, 3, none⟩ = some (.int .i64 loan) := HA.out 3 (by decide)
    have a4 : wc.cell? ⟨g, 4, none⟩ = some (.int .i64 amount) := HA.out 4 (by decide)
    have a5 : wc.cell? ⟨g, 5, none⟩ = some (.float .f64 rate) := HA.out 5 (by decide)
    have a6 : wc.cell? ⟨g, 6, none⟩ = some (.float .f64 income) := HA.out 6 (by decide)
    have a7 : wc.cell? ⟨g, 7, none⟩ = some (.bool sub) := HA.out 7 (by decide)
    have a8 : wc.cell? ⟨g, 8, none⟩ = some (.int .i64 status) := HA.out 8 (by decide)
    have a9 : wc.cell? ⟨g, 9, none⟩ = some (.int .i64 plan) := HA.out 9 (by decide)
    have a10 : wc.cell? ⟨g, 10, none⟩ = some (.int .i64 family) := HA.out 10 (by decide)
    clear HA hA he HD HB
    go_wp2_with (first | (go_at_call 39; refine (r_has _ _).mono ?_; rintro e w' ⟨rfl, rfl⟩))
    rw [show hasS 7 = ⟨#[76]⟩ from rfl]
    refine wp_loop_rounds 5 ?_
    repeat any_goals (rw [rounds_succ]; go_wp2_with fail)
    all_goals go_ret
    all_goals refine ⟨ret_bool ?_, HW.out⟩
    all_goals (simp_all [loanB] <;> omega)
set_option maxRecDepth 20000 in
set_option maxHeartbeats 4000000 in
theorem good_k8 (day : Int) (key : Nat) (loan amount : Int) (rate income : Nat) (sub : Bool) (status plan family : Int) (w : World) (hd : dayB day = true) (he : eqE ⟨8, day, key, loan, amount, rate, income, sub, status, plan, family⟩ (onlyE ⟨8, day, key, loan, amount, rate, income, sub, status, plan, family⟩) = true) :
    Calls Try.prog 14 #[.agg (Ev.cells ⟨8, day, key, loan, amount, rate, income, sub, status, plan, family⟩)] w fun e w' => e = .returned (.bool (fieldsB ⟨8, day, key, loan, amount, rate, income, sub, status, plan, family⟩)) ∧ Below w.heap.size w w' := by
  rw [show fieldsB ⟨8, day, key, loan, amount, rate, income, sub, status, plan, family⟩ = (loanB loan) by unfold fieldsB; simp]
  obtain ⟨g, wb, e1, e2, hA, hb⟩ := boxed_one w (Ev.cells ⟨8, day, key, loan, amount, rate, income, sub, status, plan, family⟩) 25
  have HB := Lib.hid hb
  clear hb
  have HD : Hid (∀ W, Calls Try.prog 38 #[.int .i64 day] W fun e w' => e = .returned (.bool true) ∧ W = w') := fun W => hd ▸ rday_any day W
  clear hd
  unfold Ev.cells at *
  go_enter Try.func14, Try.ntmps14
  go_upto_region 1 with fail
  rw [← e2, ← e1]
  clear e1 e2
  go_cut [30] (fun s wx => s = .bool false ∧ Hid (EvAt wx g 0 ⟨8, day, key, loan, amount, rate, income, sub, status, plan, family⟩) ∧ Hid (Below w.heap.size w wx))
  case first =>
    as_aux_lemma =>
      have a0 : wb.cell? ⟨g, 0, none⟩ = some (.int .i64 8) := hA 0
      have a1 : wb.cell? ⟨g, 1, none⟩ = some (.int .i64 day) := hA 1
      have a2 : wb.cell? ⟨g, 2, none⟩ = some (.int .u32 (key : Nat)) := hA 2
      have a3 : wb.cell? ⟨g, 3, none⟩ = some (.int .i64 loan) := hA 3
      have a4 : wb.cell? ⟨g, 4, none⟩ = some (.int .i64 amount) := hA 4
      have a5 : wb.cell? ⟨g, 5, none⟩ = some (.float .f64 rate) := hA 5
      have a6 : wb.cell? ⟨g, 6, none⟩ = some (.float .f64 income) := hA 6
      have a7 : wb.cell? ⟨g, 7, none⟩ = some (.bool sub) := hA 7
      have a8 : wb.cell? ⟨g, 8, none⟩ = some (.int .i64 status) := hA 8
      have a9 : wb.cell? ⟨g, 9, none⟩ = some (.int .i64 plan) := hA 9
      have a10 : wb.cell? ⟨g, 10, none⟩ = some (.int .i64 family) := hA 10
      clear hA
      generalize hO : onlyE ⟨8, day, key, loan, amount, rate, income, sub, status, plan, family⟩ = O at *
      have HO : Hid (∀ W, Calls Try.prog 24 #[.agg #[.int .i64 8, .int .i64 day, .int .u32 (key : Nat), .int .i64 loan, .int .i64 amount, .float .f64 rate, .float .f64 income, .bool sub, .int .i64 status, .int .i64 plan, .int .i64 family]] W fun x w' => x = .returned (.agg O.cells) ∧ Below W.heap.size W w') := fun W => hO ▸ r_only ⟨8, day, key, loan, amount, rate, income, sub, status, plan, family⟩ W
      have HE : Hid (∀ W, Calls Try.prog 15 #[.agg #[.int .i64 8, .int .i64 day, .int .u32 (key : Nat), .int .i64 loan, .int .i64 amount, .float .f64 rate, .float .f64 income, .bool sub, .int .i64 status, .int .i64 plan, .int .i64 family], .agg O.cells] W fun x w' => x = .returned (.bool true) ∧ Below W.heap.size W w') := fun W => he ▸ k_event ⟨8, day, key, loan, amount, rate, income, sub, status, plan, family⟩ O W
      clear hO he
      have hlt := World.block_lt_of_cell? wb _ a0
      go_region_held3 (fun w' => w'.cell? ⟨g, 0, none⟩ = some (.int .i64 8) ∧ w'.cell? ⟨g, 1, none⟩ = some (.int .i64 day) ∧ w'.cell? ⟨g, 2, none⟩ = some (.int .u32 (key : Nat)) ∧ w'.cell? ⟨g, 3, none⟩ = some (.int .i64 loan) ∧ w'.cell? ⟨g, 4, none⟩ = some (.int .i64 amount) ∧ w'.cell? ⟨g, 5, none⟩ = some (.float .f64 rate) ∧ w'.cell? ⟨g, 6, none⟩ = some (.float .f64 income) ∧ w'.cell? ⟨g, 7, none⟩ = some (.bool sub) ∧ w'.cell? ⟨g, 8, none⟩ = some (.int .i64 status) ∧ w'.cell? ⟨g, 9, none⟩ = some (.int .i64 plan) ∧ w'.cell? ⟨g, 10, none⟩ = some (.int .i64 family))
        (first
          | exact ⟨c0, c1, c2, c3, c4, c5, c6, c7, c8, c9, c10⟩
          | exact ⟨b0, b1, b2, b3, b4, b5, b6, b7, b8, b9, b10⟩
          | exact ⟨a0, a1, a2, a3, a4, a5, a6, a7, a8, a9, a10⟩)
        (first
          | (go_at_call 38
             refine (HD.out _).mono ?_
             rintro e w' ⟨rfl, rfl⟩)
          | (go_at_call 24
             have hcc := HO.out wb.drew
             refine hcc.mono ?_
             clear hcc
             rintro e y1 ⟨rfl, hb⟩
             have HB1 := Lib.hid (below_via HB.out (below_via (below_drew (Below.refl _ _)) hb))
             have b0 := (hb.cell (p := ⟨g, 0, none⟩) hlt).trans a0
             have b1 := (hb.cell (p := ⟨g, 1, none⟩) hlt).trans a1
             have b2 := (hb.cell (p := ⟨g, 2, none⟩) hlt).trans a2
             have b3 := (hb.cell (p := ⟨g, 3, none⟩) hlt).trans a3
             have b4 := (hb.cell (p := ⟨g, 4, none⟩) hlt).trans a4
             have b5 := (hb.cell (p := ⟨g, 5, none⟩) hlt).trans a5
             have b6 := (hb.cell (p := ⟨g, 6, none⟩) hlt).trans a6
             have b7 := (hb.cell (p := ⟨g, 7, none⟩) hlt).trans a7
             have b8 := (hb.cell (p := ⟨g, 8, none⟩) hlt).trans a8
             have b9 := (hb.cell (p := ⟨g, 9, none⟩) hlt).trans a9
             have b10 := (hb.cell (p := ⟨g, 10, none⟩) hlt).trans a10
             clear hb)
          | (go_at_call 15
             have hcc := HE.out y1
             refine hcc.mono ?_
             clear hcc
             rintro e y2 ⟨rfl, hb⟩
             have HB2 := Lib.hid (below_via HB1.out hb)
             have hlt1 := World.block_lt_of_cell? y1 _ b0
             have c0 := (hb.cell (p := ⟨g, 0, none⟩) hlt1).trans b0
             have c1 := (hb.cell (p := ⟨g, 1, none⟩) hlt1).trans b1
             have c2 := (hb.cell (p := ⟨g, 2, none⟩) hlt1).trans b2
             have c3 := (hb.cell (p := ⟨g, 3, none⟩) hlt1).trans b3
             have c4 := (hb.cell (p := ⟨g, 4, none⟩) hlt1).trans b4
             have c5 := (hb.cell (p := ⟨g, 5, none⟩) hlt1).trans b5
             have c6 := (hb.cell (p := ⟨g, 6, none⟩) hlt1).trans b6
             have c7 := (hb.cell (p := ⟨g, 7, none⟩) hlt1).trans b7
             have c8 := (hb.cell (p := ⟨g, 8, none⟩) hlt1).trans b8
             have c9 := (hb.cell (p := ⟨g, 9, none⟩) hlt1).trans b9
             have c10 := (hb.cell (p := ⟨g, 10, none⟩) hlt1).trans b10
             clear hb))
      go_wp2_with fail
      go_meet
      exact ⟨rfl, evAt_of c0 c1 c2 c3 c4 c5 c6 c7 c8 c9 c10, HB2.out⟩
  case rest =>
    obtain ⟨rfl, HA, HW⟩ := hcut
    have a0 : wc.cell? ⟨g, 0, none⟩ = some (.int .i64 8) := HA.out 0 (by decide)
    have a1 : wc.cell? ⟨g, 1, none⟩ = some (.int .i64 day) := HA.out 1 (by decide)
    have a2 : wc.cell? ⟨g, 2, none⟩ = some (.int .u32 (key : Nat)) := HA.out 2 (by decide)
    have a3 : wc.cell? ⟨g, 3, none⟩ = some (.int .i64 loan) := HA.out 3 (by decide)
    have a4 : wc.cell? ⟨g, 4, none⟩ = some (.int .i64 amount) := HA.out 4 (by decide)
    have a5 : wc.cell? ⟨g, 5, none⟩ = some (.float .f64 rate) := HA.out 5 (by decide)
    have a6 : wc.cell? ⟨g, 6, none⟩ = some (.float .f64 income) := HA.out 6 (by decide)
    have a7 : wc.cell? ⟨g, 7, none⟩ = some (.bool sub) := HA.out 7 (by decide)
    have a8 : wc.cell? ⟨g, 8, none⟩ = some (.int .i64 status) := HA.out 8 (by decide)
    have a9 : wc.cell? ⟨g, 9, none⟩ = some (.int .i64 plan) := HA.out 9 (by decide)
    have a10 : wc.cell? ⟨g, 10, none⟩ = some (.int .i64 family) := HA.out 10 (by decide)
    clear HA hA he HD HB
    go_wp2_with (first | (go_at_call 39; refine (r_has _ _).mono ?_; rintro e w' ⟨rfl, rfl⟩))
    rw [show hasS 8 = ⟨#[76]⟩ from rfl]
    refine wp_loop_rounds 5 ?_
    repeat any_goals (rw [rounds_succ]; go_wp2_with fail)
    all_goals go_ret
    all_goals refine ⟨ret_bool ?_, HW.out⟩
    all_goals (simp_all [loanB] <;> omega)
end Go.Proofs.Ytcmdonckilajjaa.Event
namespace Go.Proofs.Ytcmdonckilajjaa.Event
open Go.ChangeShapes Go.WideShapes Go.ChangeAt Go.RowKit Fl Date Cal

set_option maxRecDepth 20000 in
set_option maxHeartbeats 4000000 in
theorem good_k5y (day : Int) (key : Nat) (loan amount : Int) (rate income : Nat) (sub : Bool) (status plan family : Int) (w : World) (hd : dayB day = true) (he : eqE ⟨5, day, key, loan, amount, rate, income, sub, status, plan, family⟩ (onlyE ⟨5, day, key, loan, amount, rate, income, sub, status, plan, family⟩) = true) (hp : plan = 4) (hr : income < 18446744073709551616) (hx : tE income 100 = 0) :
    Calls Try.prog 14 #[.agg (Ev.cells ⟨5, day, key, loan, amount, rate, income, sub, status, plan, family⟩)] w fun e w' => e = .returned (.bool (fieldsB ⟨5, day, key, loan, amount, rate, income, sub, status, plan, family⟩)) ∧ Below w.heap.size w w' := by
  subst hp
  have HP : Hid (∀ W, Calls Try.prog 42 #[.float .f64 income] W fun x w' => x = .returned (.tuple #[.int .i64 (tV income 100), .int .i64 0]) ∧ Below W.heap.size W w') := fun W => hx ▸ rcents_any income W hr
  have HM : Hid (∀ W, Calls Try.prog 41 #[.float .f64 income] W fun x w' => x = .returned (.bool (minusB income)) ∧ W = w') := fun W => r_minus income W hr (good_of_tE hx)
  rw [show fieldsB ⟨5, day, key, loan, amount, rate, income, sub, status, 4, family⟩ = ((decide (tV income 100 ≤ 1000000000) && !minusB income) && familyB family) by unfold fieldsB incomeB; simp [hx]]
  clear hx hr
  generalize tV income 100 = v at *
  generalize minusB income = m at *
  obtain ⟨g, wb, e1, e2, hA, hb⟩ := boxed_one w (Ev.cells ⟨5, day, key, loan, amount, rate, income, sub, status, 4, family⟩) 25
  have HB := Lib.hid hb
  clear hb
  have HD : Hid (∀ W, Calls Try.prog 38 #[.int .i64 day] W fun e w' => e = .returned (.bool true) ∧ W = w') := fun W => hd ▸ rday_any day W
  clear hd
  unfold Ev.cells at *
  go_enter Try.func14, Try.ntmps14
  go_upto_region 1 with fail
  rw [← e2, ← e1]
  clear e1 e2
  go_cut [30] (fun s wx => s = .bool false ∧ Hid (EvAt wx g 0 ⟨5, day, key, loan, amount, rate, income, sub, status, 4, family⟩) ∧ Hid (Below w.heap.size w wx))
  case first =>
    as_aux_lemma =>
      have a0 : wb.cell? ⟨g, 0, none⟩ = some (.int .i64 5) := hA 0
      have a1 : wb.cell? ⟨g, 1, none⟩ = some (.int .i64 day) := hA 1
      have a2 : wb.cell? ⟨g, 2, none⟩ = some (.int .u32 (key : Nat)) := hA 2
      have a3 : wb.cell? ⟨g, 3, none⟩ = some (.int .i64 loan) := hA 3
      have a4 : wb.cell? ⟨g, 4, none⟩ = some (.int .i64 amount) := hA 4
      have a5 : wb.cell? ⟨g, 5, none⟩ = some (.float .f64 rate) := hA 5
      have a6 : wb.cell? ⟨g, 6, none⟩ = some (.float .f64 income) := hA 6
      have a7 : wb.cell? ⟨g, 7, none⟩ = some (.bool sub) := hA 7
      have a8 : wb.cell? ⟨g, 8, none⟩ = some (.int .i64 status) := hA 8
      have a9 : wb.cell? ⟨g, 9, none⟩ = some (.int .i64 4) := hA 9
      have a10 : wb.cell? ⟨g, 10, none⟩ = some (.int .i64 family) := hA 10
      clear hA
      generalize hO : onlyE ⟨5, day, key, loan, amount, rate, income, sub, status, 4, family⟩ = O at *
      have HO : Hid (∀ W, Calls Try.prog 24 #[.agg #[.int .i64 5, .int .i64 day, .int .u32 (key : Nat), .int .i64 loan, .int .i64 amount, .float .f64 rate, .float .f64 income, .bool sub, .int .i64 status, .int .i64 4, .int .i64 family]] W fun x w' => x = .returned (.agg O.cells) ∧ Below W.heap.size W w') := fun W => hO ▸ r_only ⟨5, day, key, loan, amount, rate, income, sub, status, 4, family⟩ W
      have HE : Hid (∀ W, Calls Try.prog 15 #[.agg #[.int .i64 5, .int .i64 day, .int .u32 (key : Nat), .int .i64 loan, .int .i64 amount, .float .f64 rate, .float .f64 income, .bool sub, .int .i64 status, .int .i64 4, .int .i64 family], .agg O.cells] W fun x w' => x = .returned (.bool true) ∧ Below W.heap.size W w') := fun W => he ▸ k_event ⟨5, day, key, loan, amount, rate, income, sub, status, 4, family⟩ O W
      clear hO he
      have hlt := World.block_lt_of_cell? wb _ a0
      go_region_held3 (fun w' => w'.cell? ⟨g, 0, none⟩ = some (.int .i64 5) ∧ w'.cell? ⟨g, 1, none⟩ = some (.int .i64 day) ∧ w'.cell? ⟨g, 2, none⟩ = some (.int .u32 (key : Nat)) ∧ w'.cell? ⟨g, 3, none⟩ = some (.int .i64 loan) ∧ w'.cell? ⟨g, 4, none⟩ = some (.int .i64 amount) ∧ w'.cell? ⟨g, 5, none⟩ = some (.float .f64 rate) ∧ w'.cell? ⟨g, 6, none⟩ = some (.float .f64 income) ∧ w'.cell? ⟨g, 7, none⟩ = some (.bool sub) ∧ w'.cell? ⟨g, 8, none⟩ = some (.int .i64 status) ∧ w'.cell? ⟨g, 9, none⟩ = some (.int .i64 4) ∧ w'.cell? ⟨g, 10, none⟩ = some (.int .i64 family))
        (first
          | exact ⟨c0, c1, c2, c3, c4, c5, c6, c7, c8, c9, c10⟩
          | exact ⟨b0, b1, b2, b3, b4, b5, b6, b7, b8, b9, b10⟩
          | exact ⟨a0, a1, a2, a3, a4, a5, a6, a7, a8, a9, a10⟩)
        (first
          | (go_at_call 38
             refine (HD.out _).mono ?_
             rintro e w' ⟨rfl, rfl⟩)
          | (go_at_call 24
             have hcc := HO.out wb.drew
             refine hcc.mono ?_
             clear hcc
             rintro e y1 ⟨rfl, hb⟩
             have HB1 := Lib.hid (below_via HB.out (below_via (below_drew (Below.refl _ _)) hb))
             have b0 := (hb.cell (p := ⟨g, 0, none⟩) hlt).trans a0
             have b1 := (hb.cell (p := ⟨g, 1, none⟩) hlt).trans a1
             have b2 := (hb.cell (p := ⟨g, 2, none⟩) hlt).trans a2
             have b3 := (hb.cell (p := ⟨g, 3, none⟩) hlt).trans a3
             have b4 := (hb.cell (p := ⟨g, 4, none⟩) hlt).trans a4
             have b5 := (hb.cell (p := ⟨g, 5, none⟩) hlt).trans a5
             have b6 := (hb.cell (p := ⟨g, 6, none⟩) hlt).trans a6
             have b7 := (hb.cell (p := ⟨g, 7, none⟩) hlt).trans a7
             have b8 := (hb.cell (p := ⟨g, 8, none⟩) hlt).trans a8
             have b9 := (hb.cell (p := ⟨g, 9, none⟩) hlt).trans a9
             have b10 := (hb.cell (p := ⟨g, 10, none⟩) hlt).trans a10
             clear hb)
          | (go_at_call 15
             have hcc := HE.out y1
             refine hcc.mono ?_
             clear hcc
             rintro e y2 ⟨rfl, hb⟩
             have HB2 := Lib.hid (below_via HB1.out hb)
             have hlt1 := World.block_lt_of_cell? y1 _ b0
             have c0 := (hb.cell (p := ⟨g, 0, none⟩) hlt1).trans b0
             have c1 := (hb.cell (p := ⟨g, 1, none⟩) hlt1).trans b1
             have c2 := (hb.cell (p := ⟨g, 2, none⟩) hlt1).trans b2
             have c3 := (hb.cell (p := ⟨g, 3, none⟩) hlt1).trans b3
             have c4 := (hb.cell (p := ⟨g, 4, none⟩) hlt1).trans b4
             have c5 := (hb.cell (p := ⟨g, 5, none⟩) hlt1).trans b5
             have c6 := (hb.cell (p := ⟨g, 6, none⟩) hlt1).trans b6
             have c7 := (hb.cell (p := ⟨g, 7, none⟩) hlt1).trans b7
             have c8 := (hb.cell (p := ⟨g, 8, none⟩) hlt1).trans b8
             have c9 := (hb.cell (p := ⟨g, 9, none⟩) hlt1).trans b9
             have c10 := (hb.cell (p := ⟨g, 10, none⟩) hlt1).trans b10
             clear hb))
      go_wp2_with fail
      go_meet
      exact ⟨rfl, evAt_of c0 c1 c2 c3 c4 c5 c6 c7 c8 c9 c10, HB2.out⟩
  case rest =>
    obtain ⟨rfl, HA, HW⟩ := hcut
    have a0 : wc.cell? ⟨g, 0, none⟩ = some (.int .i64 5) := HA.out 0 (by decide)
    have a1 : wc.cell? ⟨g, 1, none⟩ = some (.int .i64 day) := HA.out 1 (by decide)
    have a2 : wc.cell? ⟨g, 2, none⟩ = some (.int .u32 (key : Nat)) := HA.out 2 (by decide)
    have a3 : wc.cell? ⟨g, 3, none⟩ = some (.int .i64 loan) := HA.out 3 (by decide)
    have a4 : wc.cell? ⟨g, 4, none⟩ = some (.int .i64 amount) := HA.out 4 (by decide)
    have a5 : wc.cell? ⟨g, 5, none⟩ = some (.float .f64 rate) := HA.out 5 (by decide)
    have a6 : wc.cell? ⟨g, 6, none⟩ = some (.float .f64 income) := HA.out 6 (by decide)
    have a7 : wc.cell? ⟨g, 7, none⟩ = some (.bool sub) := HA.out 7 (by decide)
    have a8 : wc.cell? ⟨g, 8, none⟩ = some (.int .i64 status) := HA.out 8 (by decide)
    have a9 : wc.cell? ⟨g, 9, none⟩ = some (.int .i64 4) := HA.out 9 (by decide)
    have a10 : wc.cell? ⟨g, 10, none⟩ = some (.int .i64 family) := HA.out 10 (by decide)
    clear HA hA he HD HB
    have hlt := World.block_lt_of_cell? wc _ a0
    go_wp2_with (first | (go_at_call 39; refine (r_has _ _).mono ?_; rintro e w' ⟨rfl, rfl⟩))
    rw [show hasS 5 = ⟨#[80]⟩ from rfl]
    refine wp_loop_rounds 5 ?_
    repeat any_goals (rw [rounds_succ]; go_wp2_with (first
      | (go_at_call 42
         refine (HP.out wc).mono ?_
         rintro e y1 ⟨rfl, hb⟩
         have HW1 := Lib.hid (below_via HW.out hb)
         have b6 := (hb.cell (p := ⟨g, 6, none⟩) hlt).trans a6
         have b10 := (hb.cell (p := ⟨g, 10, none⟩) hlt).trans a10
         clear hb)
      | (go_at_call 41
         refine (HM.out _).mono ?_
         rintro e w' ⟨rfl, rfl⟩)))
    all_goals go_ret
    all_goals refine ⟨ret_bool ?_, by first | exact HW1.out | exact HW.out⟩
    all_goals (simp_all [familyB] <;> omega)
set_option maxRecDepth 20000 in
set_option maxHeartbeats 4000000 in
theorem good_k5n (day : Int) (key : Nat) (loan amount : Int) (rate income : Nat) (sub : Bool) (status plan family : Int) (w : World) (hd : dayB day = true) (he : eqE ⟨5, day, key, loan, amount, rate, income, sub, status, plan, family⟩ (onlyE ⟨5, day, key, loan, amount, rate, income, sub, status, plan, family⟩) = true) (hp : plan = 4) (hr : income < 18446744073709551616) (hx : ¬ tE income 100 = 0) :
    Calls Try.prog 14 #[.agg (Ev.cells ⟨5, day, key, loan, amount, rate, income, sub, status, plan, family⟩)] w fun e w' => e = .returned (.bool (fieldsB ⟨5, day, key, loan, amount, rate, income, sub, status, plan, family⟩)) ∧ Below w.heap.size w w' := by
  subst hp
  have HP : Hid (∀ W, Calls Try.prog 42 #[.float .f64 income] W fun x w' => x = .returned (.tuple #[.int .i64 (tV income 100), .int .i64 (tE income 100)]) ∧ Below W.heap.size W w') := fun W => rcents_any income W hr
  rw [show fieldsB ⟨5, day, key, loan, amount, rate, income, sub, status, 4, family⟩ = false by unfold fieldsB incomeB; simp [hx]]
  generalize tV income 100 = v at *
  generalize tE income 100 = x at *
  have hx0 : (x == 0) = false := by rw [beq_eq_false_iff_ne]; exact hx
  clear hr
  obtain ⟨g, wb, e1, e2, hA, hb⟩ := boxed_one w (Ev.cells ⟨5, day, key, loan, amount, rate, income, sub, status, 4, family⟩) 25
  have HB := Lib.hid hb
  clear hb
  have HD : Hid (∀ W, Calls Try.prog 38 #[.int .i64 day] W fun e w' => e = .returned (.bool true) ∧ W = w') := fun W => hd ▸ rday_any day W
  clear hd
  unfold Ev.cells at *
  go_enter Try.func14, Try.ntmps14
  go_upto_region 1 with fail
  rw [← e2, ← e1]
  clear e1 e2
  go_cut [30] (fun s wx => s = .bool false ∧ Hid (EvAt wx g 0 ⟨5, day, key, loan, amount, rate, income, sub, status, 4, family⟩) ∧ Hid (Below w.heap.size w wx))
  case first =>
    as_aux_lemma =>
      have a0 : wb.cell? ⟨g, 0, none⟩ = some (.int .i64 5) := hA 0
      have a1 : wb.cell? ⟨g, 1, none⟩ = some (.int .i64 day) := hA 1
      have a2 : wb.cell? ⟨g, 2, none⟩ = some (.int .u32 (key : Nat)) := hA 2
      have a3 : wb.cell? ⟨g, 3, none⟩ = some (.int .i64 loan) := hA 3
      have a4 : wb.cell? ⟨g, 4, none⟩ = some (.int .i64 amount) := hA 4
      have a5 : wb.cell? ⟨g, 5, none⟩ = some (.float .f64 rate) := hA 5
      have a6 : wb.cell? ⟨g, 6, none⟩ = some (.float .f64 income) := hA 6
      have a7 : wb.cell? ⟨g, 7, none⟩ = some (.bool sub) := hA 7
      have a8 : wb.cell? ⟨g, 8, none⟩ = some (.int .i64 status) := hA 8
      have a9 : wb.cell? ⟨g, 9, none⟩ = some (.int .i64 4) := hA 9
      have a10 : wb.cell? ⟨g, 10, none⟩ = some (.int .i64 family) := hA 10
      clear hA
      generalize hO : onlyE ⟨5, day, key, loan, amount, rate, income, sub, status, 4, family⟩ = O at *
      have HO : Hid (∀ W, Calls Try.prog 24 #[.agg #[.int .i64 5, .int .i64 day, .int .u32 (key : Nat), .int .i64 loan, .int .i64 amount, .float .f64 rate, .float .f64 income, .bool sub, .int .i64 status, .int .i64 4, .int .i64 family]] W fun x w' => x = .returned (.agg O.cells) ∧ Below W.heap.size W w') := fun W => hO ▸ r_only ⟨5, day, key, loan, amount, rate, income, sub, status, 4, family⟩ W
      have HE : Hid (∀ W, Calls Try.prog 15 #[.agg #[.int .i64 5, .int .i64 day, .int .u32 (key : Nat), .int .i64 loan, .int .i64 amount, .float .f64 rate, .float .f64 income, .bool sub, .int .i64 status, .int .i64 4, .int .i64 family], .agg O.cells] W fun x w' => x = .returned (.bool true) ∧ Below W.heap.size W w') := fun W => he ▸ k_event ⟨5, day, key, loan, amount, rate, income, sub, status, 4, family⟩ O W
      clear hO he
      have hlt := World.block_lt_of_cell? wb _ a0
      go_region_held3 (fun w' => w'.cell? ⟨g, 0, none⟩ = some (.int .i64 5) ∧ w'.cell? ⟨g, 1, none⟩ = some (.int .i64 day) ∧ w'.cell? ⟨g, 2, none⟩ = some (.int .u32 (key : Nat)) ∧ w'.cell? ⟨g, 3, none⟩ = some (.int .i64 loan) ∧ w'.cell? ⟨g, 4, none⟩ = some (.int .i64 amount) ∧ w'.cell? ⟨g, 5, none⟩ = some (.float .f64 rate) ∧ w'.cell? ⟨g, 6, none⟩ = some (.float .f64 income) ∧ w'.cell? ⟨g, 7, none⟩ = some (.bool sub) ∧ w'.cell? ⟨g, 8, none⟩ = some (.int .i64 status) ∧ w'.cell? ⟨g, 9, none⟩ = some (.int .i64 4) ∧ w'.cell? ⟨g, 10, none⟩ = some (.int .i64 family))
        (first
          | exact ⟨c0, c1, c2, c3, c4, c5, c6, c7, c8, c9, c10⟩
          | exact ⟨b0, b1, b2, b3, b4, b5, b6, b7, b8, b9, b10⟩
          | exact ⟨a0, a1, a2, a3, a4, a5, a6, a7, a8, a9, a10⟩)
        (first
          | (go_at_call 38
             refine (HD.out _).mono ?_
             rintro e w' ⟨rfl, rfl⟩)
          | (go_at_call 24
             have hcc := HO.out wb.drew
             refine hcc.mono ?_
             clear hcc
             rintro e y1 ⟨rfl, hb⟩
             have HB1 := Lib.hid (below_via HB.out (below_via (below_drew (Below.refl _ _)) hb))
             have b0 := (hb.cell (p := ⟨g, 0, none⟩) hlt).trans a0
             have b1 := (hb.cell (p := ⟨g, 1, none⟩) hlt).trans a1
             have b2 := (hb.cell (p := ⟨g, 2, none⟩) hlt).trans a2
             have b3 := (hb.cell (p := ⟨g, 3, none⟩) hlt).trans a3
             have b4 := (hb.cell (p := ⟨g, 4, none⟩) hlt).trans a4
             have b5 := (hb.cell (p := ⟨g, 5, none⟩) hlt).trans a5
             have b6 := (hb.cell (p := ⟨g, 6, none⟩) hlt).trans a6
             have b7 := (hb.cell (p := ⟨g, 7, none⟩) hlt).trans a7
             have b8 := (hb.cell (p := ⟨g, 8, none⟩) hlt).trans a8
             have b9 := (hb.cell (p := ⟨g, 9, none⟩) hlt).trans a9
             have b10 := (hb.cell (p := ⟨g, 10, none⟩) hlt).trans a10
             clear hb)
          | (go_at_call 15
             have hcc := HE.out y1
             refine hcc.mono ?_
             clear hcc
             rintro e y2 ⟨rfl, hb⟩
             have HB2 := Lib.hid (below_via HB1.out hb)
             have hlt1 := World.block_lt_of_cell? y1 _ b0
             have c0 := (hb.cell (p := ⟨g, 0, none⟩) hlt1).trans b0
             have c1 := (hb.cell (p := ⟨g, 1, none⟩) hlt1).trans b1
             have c2 := (hb.cell (p := ⟨g, 2, none⟩) hlt1).trans b2
             have c3 := (hb.cell (p := ⟨g, 3, none⟩) hlt1).trans b3
             have c4 := (hb.cell (p := ⟨g, 4, none⟩) hlt1).trans b4
             have c5 := (hb.cell (p := ⟨g, 5, none⟩) hlt1).trans b5
             have c6 := (hb.cell (p := ⟨g, 6, none⟩) hlt1).trans b6
             have c7 := (hb.cell (p := ⟨g, 7, none⟩) hlt1).trans b7
             have c8 := (hb.cell (p := ⟨g, 8, none⟩) hlt1).trans b8
             have c9 := (hb.cell (p := ⟨g, 9, none⟩) hlt1).trans b9
             have c10 := (hb.cell (p := ⟨g, 10, none⟩) hlt1).trans b10
             clear hb))
      go_wp2_with fail
      go_meet
      exact ⟨rfl, evAt_of c0 c1 c2 c3 c4 c5 c6 c7 c8 c9 c10, HB2.out⟩
  case rest =>
    obtain ⟨rfl, HA, HW⟩ := hcut
    have a0 : wc.cell? ⟨g, 0, none⟩ = some (.int .i64 5) := HA.out 0 (by decide)
    have a1 : wc.cell? ⟨g, 1, none⟩ = some (.int .i64 day) := HA.out 1 (by decide)
    have a2 : wc.cell? ⟨g, 2, none⟩ = some (.int .u32 (key : Nat)) := HA.out 2 (by decide)
    have a3 : wc.cell? ⟨g, 3, none⟩ = some (.int .i64 loan) := HA.out 3 (by decide)
    have a4 : wc.cell? ⟨g, 4, none⟩ = some (.int .i64 amount) := HA.out 4 (by decide)
    have a5 : wc.cell? ⟨g, 5, none⟩ = some (.float .f64 rate) := HA.out 5 (by decide)
    have a6 : wc.cell? ⟨g, 6, none⟩ = some (.float .f64 income) := HA.out 6 (by decide)
    have a7 : wc.cell? ⟨g, 7, none⟩ = some (.bool sub) := HA.out 7 (by decide)
    have a8 : wc.cell? ⟨g, 8, none⟩ = some (.int .i64 status) := HA.out 8 (by decide)
    have a9 : wc.cell? ⟨g, 9, none⟩ = some (.int .i64 4) := HA.out 9 (by decide)
    have a10 : wc.cell? ⟨g, 10, none⟩ = some (.int .i64 family) := HA.out 10 (by decide)
    clear HA hA he HD HB
    have hlt := World.block_lt_of_cell? wc _ a0
    go_wp2_with (first | (go_at_call 39; refine (r_has _ _).mono ?_; rintro e w' ⟨rfl, rfl⟩))
    rw [show hasS 5 = ⟨#[80]⟩ from rfl]
    refine wp_loop_rounds 5 ?_
    repeat any_goals (rw [rounds_succ]; go_wp2_with (first
      | (go_at_call 42
         refine (HP.out wc).mono ?_
         rintro e y1 ⟨rfl, hb⟩
         have HW1 := Lib.hid (below_via HW.out hb)
         have b6 := (hb.cell (p := ⟨g, 6, none⟩) hlt).trans a6
         have b10 := (hb.cell (p := ⟨g, 10, none⟩) hlt).trans a10
         clear hb)))
    all_goals go_ret
    all_goals refine ⟨ret_bool ?_, by first | exact HW1.out | exact HW.out⟩
    all_goals first | rfl | (simp_all; done)
set_option maxRecDepth 20000 in
set_option maxHeartbeats 4000000 in
theorem good_k5o (day : Int) (key : Nat) (loan amount : Int) (rate income : Nat) (sub : Bool) (status plan family : Int) (w : World) (hd : dayB day = true) (he : eqE ⟨5, day, key, loan, amount, rate, income, sub, status, plan, family⟩ (onlyE ⟨5, day, key, loan, amount, rate, income, sub, status, plan, family⟩) = true) (hp : ¬ plan = 4) :
    Calls Try.prog 14 #[.agg (Ev.cells ⟨5, day, key, loan, amount, rate, income, sub, status, plan, family⟩)] w fun e w' => e = .returned (.bool (fieldsB ⟨5, day, key, loan, amount, rate, income, sub, status, plan, family⟩)) ∧ Below w.heap.size w w' := by
  rw [show fieldsB ⟨5, day, key, loan, amount, rate, income, sub, status, plan, family⟩ = decide (1 ≤ plan ∧ plan ≤ 4) by unfold fieldsB; simp [hp]]
  have d1 : (plan == 4) = false := by rw [beq_eq_false_iff_ne]; exact hp
  obtain ⟨g, wb, e1, e2, hA, hb⟩ := boxed_one w (Ev.cells ⟨5, day, key, loan, amount, rate, income, sub, status, plan, family⟩) 25
  have HB := Lib.hid hb
  clear hb
  have HD : Hid (∀ W, Calls Try.prog 38 #[.int .i64 day] W fun e w' => e = .returned (.bool true) ∧ W = w') := fun W => hd ▸ rday_any day W
  clear hd
  unfold Ev.cells at *
  go_enter Try.func14, Try.ntmps14
  go_upto_region 1 with fail
  rw [← e2, ← e1]
  clear e1 e2
  go_cut [30] (fun s wx => s = .bool false ∧ Hid (EvAt wx g 0 ⟨5, day, key, loan, amount, rate, income, sub, status, plan, family⟩) ∧ Hid (Below w.heap.size w wx))
  case first =>
    as_aux_lemma =>
      have a0 : wb.cell? ⟨g, 0, none⟩ = some (.int .i64 5) := hA 0
      have a1 : wb.cell? ⟨g, 1, none⟩ = some (.int .i64 day) := hA 1
      have a2 : wb.cell? ⟨g, 2, none⟩ = some (.int .u32 (key : Nat)) := hA 2
      have a3 : wb.cell? ⟨g, 3, none⟩ = some (.int .i64 loan) := hA 3
      have a4 : wb.cell? ⟨g, 4, none⟩ = some (.int .i64 amount) := hA 4
      have a5 : wb.cell? ⟨g, 5, none⟩ = some (.float .f64 rate) := hA 5
      have a6 : wb.cell? ⟨g, 6, none⟩ = some (.float .f64 income) := hA 6
      have a7 : wb.cell? ⟨g, 7, none⟩ = some (.bool sub) := hA 7
      have a8 : wb.cell? ⟨g, 8, none⟩ = some (.int .i64 status) := hA 8
      have a9 : wb.cell? ⟨g, 9, none⟩ = some (.int .i64 plan) := hA 9
      have a10 : wb.cell? ⟨g, 10, none⟩ = some (.int .i64 family) := hA 10
      clear hA
      generalize hO : onlyE ⟨5, day, key, loan, amount, rate, income, sub, status, plan, family⟩ = O at *
      have HO : Hid (∀ W, Calls Try.prog 24 #[.agg #[.int .i64 5, .int .i64 day, .int .u32 (key : Nat), .int .i64 loan, .int .i64 amount, .float .f64 rate, .float .f64 income, .bool sub, .int .i64 status, .int .i64 plan, .int .i64 family]] W fun x w' => x = .returned (.agg O.cells) ∧ Below W.heap.size W w') := fun W => hO ▸ r_only ⟨5, day, key, loan, amount, rate, income, sub, status, plan, family⟩ W
      have HE : Hid (∀ W, Calls Try.prog 15 #[.agg #[.int .i64 5, .int .i64 day, .int .u32 (key : Nat), .int .i64 loan, .int .i64 amount, .float .f64 rate, .float .f64 income, .bool sub, .int .i64 status, .int .i64 plan, .int .i64 family], .agg O.cells] W fun x w' => x = .returned (.bool true) ∧ Below W.heap.size W w') := fun W => he ▸ k_event ⟨5, day, key, loan, amount, rate, income, sub, status, plan, family⟩ O W
      clear hO he
      have hlt := World.block_lt_of_cell? wb _ a0
      go_region_held3 (fun w' => w'.cell? ⟨g, 0, none⟩ = some (.int .i64 5) ∧ w'.cell? ⟨g, 1, none⟩ = some (.int .i64 day) ∧ w'.cell? ⟨g, 2, none⟩ = some (.int .u32 (key : Nat)) ∧ w'.cell? ⟨g, 3, none⟩ = some (.int .i64 loan) ∧ w'.cell? ⟨g, 4, none⟩ = some (.int .i64 amount) ∧ w'.cell? ⟨g, 5, none⟩ = some (.float .f64 rate) ∧ w'.cell? ⟨g, 6, none⟩ = some (.float .f64 income) ∧ w'.cell? ⟨g, 7, none⟩ = some (.bool sub) ∧ w'.cell? ⟨g, 8, none⟩ = some (.int .i64 status) ∧ w'.cell? ⟨g, 9, none⟩ = some (.int .i64 plan) ∧ w'.cell? ⟨g, 10, none⟩ = some (.int .i64 family))
        (first
          | exact ⟨c0, c1, c2, c3, c4, c5, c6, c7, c8, c9, c10⟩
          | exact ⟨b0, b1, b2, b3, b4, b5, b6, b7, b8, b9, b10⟩
          | exact ⟨a0, a1, a2, a3, a4, a5, a6, a7, a8, a9, a10⟩)
        (first
          | (go_at_call 38
             refine (HD.out _).mono ?_
             rintro e w' ⟨rfl, rfl⟩)
          | (go_at_call 24
             have hcc := HO.out wb.drew
             refine hcc.mono ?_
             clear hcc
             rintro e y1 ⟨rfl, hb⟩
             have HB1 := Lib.hid (below_via HB.out (below_via (below_drew (Below.refl _ _)) hb))
             have b0 := (hb.cell (p := ⟨g, 0, none⟩) hlt).trans a0
             have b1 := (hb.cell (p := ⟨g, 1, none⟩) hlt).trans a1
             have b2 := (hb.cell (p := ⟨g, 2, none⟩) hlt).trans a2
             have b3 := (hb.cell (p := ⟨g, 3, none⟩) hlt).trans a3
             have b4 := (hb.cell (p := ⟨g, 4, none⟩) hlt).trans a4
             have b5 := (hb.cell (p := ⟨g, 5, none⟩) hlt).trans a5
             have b6 := (hb.cell (p := ⟨g, 6, none⟩) hlt).trans a6
             have b7 := (hb.cell (p := ⟨g, 7, none⟩) hlt).trans a7
             have b8 := (hb.cell (p := ⟨g, 8, none⟩) hlt).trans a8
             have b9 := (hb.cell (p := ⟨g, 9, none⟩) hlt).trans a9
             have b10 := (hb.cell (p := ⟨g, 10, none⟩) hlt).trans a10
             clear hb)
          | (go_at_call 15
             have hcc := HE.out y1
             refine hcc.mono ?_
             clear hcc
             rintro e y2 ⟨rfl, hb⟩
             have HB2 := Lib.hid (below_via HB1.out hb)
             have hlt1 := World.block_lt_of_cell? y1 _ b0
             have c0 := (hb.cell (p := ⟨g, 0, none⟩) hlt1).trans b0
             have c1 := (hb.cell (p := ⟨g, 1, none⟩) hlt1).trans b1
             have c2 := (hb.cell (p := ⟨g, 2, none⟩) hlt1).trans b2
             have c3 := (hb.cell (p := ⟨g, 3, none⟩) hlt1).trans b3
             have c4 := (hb.cell (p := ⟨g, 4, none⟩) hlt1).trans b4
             have c5 := (hb.cell (p := ⟨g, 5, none⟩) hlt1).trans b5
             have c6 := (hb.cell (p := ⟨g, 6, none⟩) hlt1).trans b6
             have c7 := (hb.cell (p := ⟨g, 7, none⟩) hlt1).trans b7
             have c8 := (hb.cell (p := ⟨g, 8, none⟩) hlt1).trans b8
             have c9 := (hb.cell (p := ⟨g, 9, none⟩) hlt1).trans b9
             have c10 := (hb.cell (p := ⟨g, 10, none⟩) hlt1).trans b10
             clear hb))
      go_wp2_with fail
      go_meet
      exact ⟨rfl, evAt_of c0 c1 c2 c3 c4 c5 c6 c7 c8 c9 c10, HB2.out⟩
  case rest =>
    obtain ⟨rfl, HA, HW⟩ := hcut
    have a0 : wc.cell? ⟨g, 0, none⟩ = some (.int .i64 5) := HA.out 0 (by decide)
    have a1 : wc.cell? ⟨g, 1, none⟩ = some (.int .i64 day) := HA.out 1 (by decide)
    have a2 : wc.cell? ⟨g, 2, none⟩ = some (.int .u32 (key : Nat)) := HA.out 2 (by decide)
    have a3 : wc.cell? ⟨g, 3, none⟩ = some (.int .i64 loan) := HA.out 3 (by decide)
    have a4 : wc.cell? ⟨g, 4, none⟩ = some (.int .i64 amount) := HA.out 4 (by decide)
    have a5 : wc.cell? ⟨g, 5, none⟩ = some (.float .f64 rate) := HA.out 5 (by decide)
    have a6 : wc.cell? ⟨g, 6, none⟩ = some (.float .f64 income) := HA.out 6 (by decide)
    have a7 : wc.cell? ⟨g, 7, none⟩ = some (.bool sub) := HA.out 7 (by decide)
    have a8 : wc.cell? ⟨g, 8, none⟩ = some (.int .i64 status) := HA.out 8 (by decide)
    have a9 : wc.cell? ⟨g, 9, none⟩ = some (.int .i64 plan) := HA.out 9 (by decide)
    have a10 : wc.cell? ⟨g, 10, none⟩ = some (.int .i64 family) := HA.out 10 (by decide)
    clear HA hA he HD HB
    go_wp2_with (first | (go_at_call 39; refine (r_has _ _).mono ?_; rintro e w' ⟨rfl, rfl⟩))
    rw [show hasS 5 = ⟨#[80]⟩ from rfl]
    refine wp_loop_rounds 5 ?_
    repeat any_goals (rw [rounds_succ]; go_wp2_with fail)
    all_goals go_ret
    all_goals refine ⟨ret_bool ?_, HW.out⟩
    all_goals (simp_all <;> omega)
end Go.Proofs.Ytcmdonckilajjaa.Event
namespace Go.Proofs.Ytcmdonckilajjaa.Event
open Go.ChangeShapes Go.WideShapes Go.ChangeAt Go.RowKit Fl Date Cal

theorem r_good (e : Ev) (w : World) (hf : e.Fit) :
    Calls Try.prog 14 #[.agg e.cells] w fun x w' => x = .returned (.bool (goodE e)) ∧ Below w.heap.size w w' := by
  have hr := hf.rate
  have hi := hf.income
  clear hf
  obtain ⟨kind, day, key, loan, amount, rate, income, sub, status, plan, family⟩ := e
  have no : ∀ {b : Bool}, b = false → (b && fieldsB ⟨kind, day, key, loan, amount, rate, income, sub, status, plan, family⟩) = false := fun h => by rw [h]; rfl
  by_cases h0 : kind < 1
  · rw [show goodE ⟨kind, day, key, loan, amount, rate, income, sub, status, plan, family⟩ = false from no (by unfold headB; simp; omega)]
    exact good_low kind day key loan amount rate income sub status plan family w h0
  by_cases h8 : 8 < kind
  · rw [show goodE ⟨kind, day, key, loan, amount, rate, income, sub, status, plan, family⟩ = false from no (by unfold headB; simp; omega)]
    exact good_high kind day key loan amount rate income sub status plan family w h0 h8
  cases hd : dayB day with
  | false =>
    rw [show goodE ⟨kind, day, key, loan, amount, rate, income, sub, status, plan, family⟩ = false from no (by unfold headB; simp [hd])]
    exact good_noday kind day key loan amount rate income sub status plan family w h0 h8 hd
  | true =>
    cases he : eqE ⟨kind, day, key, loan, amount, rate, income, sub, status, plan, family⟩ (onlyE ⟨kind, day, key, loan, amount, rate, income, sub, status, plan, family⟩) with
    | false =>
      rw [show goodE ⟨kind, day, key, loan, amount, rate, income, sub, status, plan, family⟩ = false from no (by unfold headB; simp [he])]
      exact good_other kind day key loan amount rate income sub status plan family w h0 h8 hd he
    | true =>
      rw [show goodE ⟨kind, day, key, loan, amount, rate, income, sub, status, plan, family⟩ = fieldsB ⟨kind, day, key, loan, amount, rate, income, sub, status, plan, family⟩ by unfold goodE headB; rw [he, hd]; simp; omega]
      by_cases h1 : kind = 1
      · subst h1
        by_cases hx : pE rate = 0
        · exact good_k1y day key loan amount rate income sub status plan family w hd he hr hx
        · exact good_k1n day key loan amount rate income sub status plan family w hd he hr hx
      by_cases h2 : kind = 2
      · subst h2
        exact good_k2 day key loan amount rate income sub status plan family w hd he
      by_cases h3 : kind = 3
      · subst h3
        exact good_k3 day key loan amount rate income sub status plan family w hd he
      by_cases h4 : kind = 4
      · subst h4
        exact good_k4 day key loan amount rate income sub status plan family w hd he
      by_cases h5 : kind = 5
      · subst h5
        by_cases hp : plan = 4
        · by_cases hx : tE income 100 = 0
          · exact good_k5y day key loan amount rate income sub status plan family w hd he hp hi hx
          · exact good_k5n day key loan amount rate income sub status plan family w hd he hp hi hx
        · exact good_k5o day key loan amount rate income sub status plan family w hd he hp
      by_cases h6 : kind = 6
      · subst h6
        exact good_k6 day key loan amount rate income sub status plan family w hd he
      by_cases h7 : kind = 7
      · subst h7
        exact good_k7 day key loan amount rate income sub status plan family w hd he
      obtain rfl : kind = 8 := by omega
      exact good_k8 day key loan amount rate income sub status plan family w hd he
end Go.Proofs.Ytcmdonckilajjaa.Event
