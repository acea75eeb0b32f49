/- The program's own Packer: put, and the panic that is kept within. -/
import Derived.Test.YtndmimmkjccgmaaPackOwn2
import Derived.Test.YtndmimmkjccgmaaByHand
namespace Go.Proofs.Ytndmimmkjccgmaa.Pack
open Go.ChangeShapes Go.WideShapes Go.ChangeAt Go.RowKit

theorem assert_none (w : World) : (Instr.typeAssert .nilIface 20 27 true).run Try.prog w = .ok (.tuple #[.int .i64 0, .bool false]) w := by kernel_rfl
theorem assert_some (e : Int) (w : World) : (Instr.typeAssert (.iface 27 (.int .i64 e)) 20 27 true).run Try.prog w = .ok (.tuple #[.int .i64 e, .bool true]) w := by kernel_rfl
theorem catch_idle (q : Addr) (w : World) :
    CallsD Try.prog 38 #[.pointer (some q)] .returning w fun e u' w' => e = .returned (.tuple #[]) ∧ u' = .returning ∧ w' = w := by
  refine callsD_of_wpS Try.func38 rfl fun c₀ cs hu => ?_
  have ha := assert_none w
  apply wpS_seq
  apply wpS_region
  simp [wpOpsS, go_sem, recoverD, hu, Try.ntmps38, Exit.thenS, ha]
  apply wpS_seq
  apply wpS_region
  simp [wpOpsS, go_sem, Array.replicate]
  refine wpS_cond (t := false) (by simp [Act.eval]) ?_
  simp only [Bool.false_eq_true, if_false]
  refine wpS_of_wp (wp_skip ?_)
  cases c₀
  simp_all [bodyPostS, results, Try.results38]
theorem catch_panicking (q : Addr) (g : Nat) (f : Nat → Value) (x : Int) (older : List PanicEntry) (w : World) (hq : w.cell? q = some (.pointer (some ⟨g, 0, none⟩))) (hr : w.rowIs g 29 3 f) :
    CallsD Try.prog 38 #[.pointer (some q)] (.panicking ({ v := .iface 27 (.int .i64 x), recovered := false } :: older)) w fun e u' w' =>
      e = .returned (.tuple #[]) ∧ u' = .panicking ({ v := .iface 27 (.int .i64 x), recovered := true } :: older) ∧ w' = ((w.setCell ⟨g, 0, none⟩ (.pointer none)).setCell ⟨g, 1, none⟩ (.int .i64 0)).setCell ⟨g, 2, none⟩ (.int .i64 x) := by
  refine callsD_of_wpS Try.func38 rfl fun c₀ cs hu => ?_
  have ha := assert_some x w
  have c0 := hr.cell (i := 0) (by omega)
  have c1 := hr.cell (i := 1) (by omega)
  have c2 := hr.cell (i := 2) (by omega)
  have f0 := hr.frozen 0
  have f1 := hr.frozen 1
  have f2 := hr.frozen 2
  apply wpS_seq
  apply wpS_region
  simp [wpOpsS, go_sem, recoverD, hu, Try.ntmps38, Exit.thenS, ha]
  apply wpS_seq
  apply wpS_region
  simp [wpOpsS, go_sem, Array.replicate]
  refine wpS_cond (t := true) (by simp [Act.eval]) ?_
  simp only [if_true]
  apply wpS_region
  simp [wpOpsS, go_sem, hq, c0, c1, c2, f0, f1, f2, bodyPostS, results, Try.results38]
/-- What a closure tells, in every world in which what it holds is as it was. -/
def Tells (Fn : FuncId) (cap : Array Value) (w : World) (b : ByteArray) : Prop := ∀ W, Below w.heap.size w W → Calls Try.prog Fn cap W fun e W' => e = .returned (.string b) ∧ Below W.heap.size W W'
/-- The error with which it panics. -/
def Fails (Fn : FuncId) (cap : Array Value) (w : World) (x : Int) : Prop := ∀ W, Below w.heap.size w W → Calls Try.prog Fn cap W fun e W' => e = .panicked (errP x) ∧ Below W.heap.size W W'
theorem make_fn (fn : Fn) (first cap : Array Value) (w : World) : (Instr.makeFunc fn first cap).run Try.prog w = .ok (.func fn first cap) w := rfl
theorem below_one (w : World) (o : Obj) : Below w.heap.size w (w.alloc o) := (Below.refl _ _).alloc (Nat.le_refl _) _
theorem only_new {F : Nat → Prop} {w w' : World} (h : Below w.heap.size w w') : Only F w w' := ⟨h.os, h.tape, h.output, h.size, fun i hi _ => h.block i hi⟩
theorem pk_new {F : Nat → Prop} {g : Nat} {p : PSt} {w w' : World} (hp : PkAt w F g p) (h : Below w.heap.size w w') : PkAt w' F g p := hp.keep h.size fun i hi => h.block i (hp.lt i hi)
theorem put_nil (Fn : Value) (w : World) :
    Calls Try.prog 24 #[.pointer none, Fn] w fun e w' => e = .returned (.tuple #[]) ∧ Below w.heap.size w w' := by
  go_enter_defers Try.func24, Try.ntmps24
  go_wp2_with fail
  simp [bodyPostD, Leaves, results, Try.results24]
  exact below_one w _
theorem put_spoilt (Fn : Value) (p : PSt) (g : Nat) (F : Nat → Prop) (w : World) (hp : PkAt w F g p) (he : p.e ≠ 0) :
    Calls Try.prog 24 #[.pointer (some ⟨g, 0, none⟩), Fn] w fun e w' => e = .returned (.tuple #[]) ∧ ∃ F', PkAt w' F' g p ∧ Only F w w' ∧ (∀ i, F' i → F i ∨ w.heap.size ≤ i) := by
  have HP := Lib.hid hp
  obtain ⟨h1, h2, L, n, h3, -⟩ := hp
  have c2 : w.cell? ⟨g, 2, none⟩ = some (.int .i64 p.e) := h3.cell (i := 2) (by omega)
  have hg := h2 g h1
  have b1 : (p.e != 0) = true := by rw [bne_iff_ne]; exact he
  clear h1 h2 h3
  go_enter_defers Try.func24, Try.ntmps24
  go_wp2_with fail
  simp [bodyPostD, Leaves, results, Try.results24]
  exact ⟨F, pk_new HP.out (below_one w _), only_new (below_one w _), fun i hi => Or.inl hi⟩
theorem only_cell {F : Nat → Prop} {w w' : World} (h : Only F w w') {k o : Nat} (hk : k < w.heap.size) (hf : ¬ F k) : w'.cell? ⟨k, o, none⟩ = w.cell? ⟨k, o, none⟩ := by
  have e := h.block k hk hf
  have e2 : w'.heap[k]? = w.heap[k]? := e
  unfold World.cell?
  simp only [e2]
theorem below_drew {n : Nat} {a b : World} (h : Below n a b.drew) : Below n a b := ⟨h.os, h.tape, h.output, h.size, h.block⟩
theorem drew_below {n : Nat} {a b : World} (h : Below n a.drew b) : Below n a b := ⟨h.os, h.tape, h.output, h.size, h.block⟩
theorem below_drewn {n : Nat} {a b : World} (h : Below n a b) : Below n a b.drew := ⟨h.os, h.tape, h.output, h.size, h.block⟩
theorem Only.after {F : Nat → Prop} {w w1 w2 : World} (h : Only F w1 w2) (hb : Below w.heap.size w w1) : Only F w w2 :=
  ⟨h.os.trans hb.os, h.tape.trans hb.tape, h.output.trans hb.output, Nat.le_trans hb.size h.size, fun i hi hf => (h.block i (Nat.lt_of_lt_of_le hi hb.size) hf).trans (hb.block i hi)⟩
theorem p_put_ok (Fn : FuncId) (cap : Array Value) (b : ByteArray) (p : PSt) (g : Nat) (F : Nat → Prop) (w : World) (hF : ∀ (args : Array Value) (w : World), (callFunc Fn args).run Try.prog w = .ok (.enter Fn args) w)
    (H : Tells Fn cap w b) (hp : PkAt w F g p) (he : p.e = 0) (hb0 : 0 < b.size) (hl : p.s.size + b.size ≤ 60000) :
    Calls Try.prog 24 #[.pointer (some ⟨g, 0, none⟩), .func (.func Fn) #[] cap] w fun e w' => e = .returned (.tuple #[]) ∧ ∃ F', PkAt w' F' g ⟨p.s ++ b, 0⟩ ∧ Only F w w' ∧ (∀ i, F' i → F i ∨ w.heap.size ≤ i) := by
  have HP := Lib.hid hp
  obtain ⟨h1, h2, L, n, h3, -⟩ := hp
  have c2 : w.cell? ⟨g, 2, none⟩ = some (.int .i64 p.e) := h3.cell (i := 2) (by omega)
  have hg := h2 g h1
  have b1 : (p.e != 0) = false := by rw [he]; rfl
  have hmf := make_fn
  have HH := Lib.hid H
  clear h1 h2 h3 H
  go_enter_defers Try.func24, Try.ntmps24
  go_wp2_with fail
  have hw0 : ∃ W0, W0 = w.alloc (.cells #[.pointer (some ⟨g, 0, none⟩)] 25) := ⟨_, rfl⟩
  obtain ⟨W0, hw0⟩ := hw0
  rw [← hw0]
  have q0 : W0.cell? ⟨w.heap.size, 0, none⟩ = some (.pointer (some ⟨g, 0, none⟩)) := by rw [hw0]; simp [go_sem]
  have B0 := Lib.hid (show Below w.heap.size w W0 by rw [hw0]; exact below_one w _)
  have Z0 : Hid (w.heap.size < W0.heap.size) := show _ < _ by rw [hw0]; simp
  clear hw0 c2
  go_region_held3 (fun w' => w'.cell? ⟨w.heap.size, 0, none⟩ = some (.pointer (some ⟨g, 0, none⟩)))
    (first | exact q2 | exact q1 | exact q0)
    (first
      | (go_at_call 39
         have hcc := p_add b p g F _ (pk_new HP.out B1.out) he hb0 hl
         refine hcc.mono ?_
         clear hcc
         rintro e w2 ⟨rfl, F', r1, r2, r3⟩
         have q2 : w2.cell? ⟨w.heap.size, 0, none⟩ = some (.pointer (some ⟨g, 0, none⟩)) := (only_cell r2 Z1.out (fun hf => absurd (HP.out.lt _ hf) (Nat.lt_irrefl _))).trans q1
         have R1 := Lib.hid r1
         have R2 := Lib.hid r2
         have R3 := Lib.hid r3
         clear r1 r2 r3)
      | (have hcc := HH.out W0.drew ⟨B0.out.os, B0.out.tape, B0.out.output, B0.out.size, B0.out.block⟩
         refine hcc.mono ?_
         clear hcc
         rintro e w1 ⟨rfl, hb⟩
         have B1 : Hid (Below w.heap.size w w1) := show Below _ _ _ from B0.out.trans ((drew_below hb).mono (Nat.le_of_lt Z0.out))
         have Z1 : Hid (w.heap.size < w1.heap.size) := show _ < _ from Nat.lt_of_lt_of_le Z0.out hb.size
         have q1 : w1.cell? ⟨w.heap.size, 0, none⟩ = some (.pointer (some ⟨g, 0, none⟩)) := (hb.cell (p := ⟨w.heap.size, 0, none⟩) Z0.out).trans q0
         clear hb))
  go_wp2_with fail
  refine leaves_cons (f := 38) (args := #[.pointer (some ⟨w.heap.size, 0, none⟩)]) (by simp) (by simp [go_sem]) ?_
  refine (catch_idle ⟨w.heap.size, 0, none⟩ _).mono ?_
  rintro e u' w'' ⟨rfl, rfl, rfl⟩
  simp [Leaves, settle, results, Try.results24]
  exact ⟨F', R1.out, R2.out.after B1.out, fun i hi => (R3.out i hi).imp id (Nat.le_trans B1.out.size)⟩
/-- A packer that tells an error from now on. -/
theorem pk_failed {F : Nat → Prop} {g : Nat} {p : PSt} {w : World} {x : Int} (hp : PkAt w F g p) (hx : x ≠ 0) :
    PkAt (((w.setCell ⟨g, 0, none⟩ (.pointer none)).setCell ⟨g, 1, none⟩ (.int .i64 0)).setCell ⟨g, 2, none⟩ (.int .i64 x)) F g ⟨p.s, x⟩ ∧ Only F w (((w.setCell ⟨g, 0, none⟩ (.pointer none)).setCell ⟨g, 1, none⟩ (.int .i64 0)).setCell ⟨g, 2, none⟩ (.int .i64 x)) := by
  obtain ⟨h1, h2, L, n, h3, -⟩ := hp
  have hsz : (((w.setCell ⟨g, 0, none⟩ (.pointer none)).setCell ⟨g, 1, none⟩ (.int .i64 0)).setCell ⟨g, 2, none⟩ (.int .i64 x)).heap.size = w.heap.size := by simp [World.setCell]
  refine ⟨⟨h1, fun i hi => by rw [hsz]; exact h2 i hi, none, 0, (((h3.set 0 _).set 1 _).set 2 _).congr fun i hi => by
      match i, hi with
      | 0, _ | 1, _ | 2, _ => rfl, fun he => absurd he hx⟩, ⟨rfl, rfl, rfl, by rw [hsz]; exact Nat.le_refl _, fun i hi hf => ?_⟩⟩
  have hne : i ≠ g := fun e => hf (e ▸ h1)
  exact (Below.heap_setCell _ ⟨g, 2, none⟩ _ i hne).trans ((Below.heap_setCell _ ⟨g, 1, none⟩ _ i hne).trans (Below.heap_setCell w ⟨g, 0, none⟩ _ i hne))
/-- What stands when put panics. -/
def Broke (D : List Deferred) (k g : Nat) (w : World) (x : Int) (e : Exit) (a : Act) (W : World) : Prop :=
  match e with
  | .panic c => c = errP x ∧ a.defers = D ∧ Below w.heap.size w W ∧ W.cell? ⟨k, 0, none⟩ = some (.pointer (some ⟨g, 0, none⟩))
  | _ => False
theorem broke_leaves {g : Nat} {p : PSt} {F : Nat → Prop} {w : World} {x : Int} (hp : PkAt w F g p) (hx : x ≠ 0) : ∀ (e : Exit) (a : Act) (W : World),
    Broke [{ target := .fn (.func 38) #[.pointer (some ⟨w.heap.size, 0, none⟩)], args := #[] }] w.heap.size g w x e a W →
    bodyPostD Try.prog Try.f24 (fun e w' => e = .returned (.tuple #[]) ∧ ∃ F', PkAt w' F' g ⟨p.s, x⟩ ∧ Only F w w' ∧ (∀ i, F' i → F i ∨ w.heap.size ≤ i)) e a W := by
  intro e a W h
  cases e with
  | panic c =>
    obtain ⟨rfl, hd, hb, hq⟩ := h
    show Leaves _ _ _ _ _ _ _
    rw [hd]
    have hp2 := pk_new hp hb
    obtain ⟨-, -, L, n, hr, -⟩ := id hp2
    refine leaves_cons (f := 38) (args := #[.pointer (some ⟨w.heap.size, 0, none⟩)]) (by simp) (by simp [go_sem]) ?_
    refine (catch_panicking ⟨w.heap.size, 0, none⟩ g _ x [] W hq hr).mono ?_
    rintro e u' w'' ⟨rfl, rfl, rfl⟩
    obtain ⟨K1, K2⟩ := pk_failed hp2 hx
    simp [Leaves, settle, results, Try.results24]
    exact ⟨F, K1, K2.after hb, fun i hi => Or.inl hi⟩
  | _ => exact h.elim
theorem put_long (Fn : FuncId) (cap : Array Value) (b : ByteArray) (p : PSt) (g : Nat) (F : Nat → Prop) (w : World) (hF : ∀ (args : Array Value) (w : World), (callFunc Fn args).run Try.prog w = .ok (.enter Fn args) w)
    (H : Tells Fn cap w b) (hp : PkAt w F g p) (he : p.e = 0) (hb : b.size ≤ 200000) (hl : 60000 < p.s.size + b.size) :
    Calls Try.prog 24 #[.pointer (some ⟨g, 0, none⟩), .func (.func Fn) #[] cap] w fun e w' => e = .returned (.tuple #[]) ∧ ∃ F', PkAt w' F' g ⟨p.s, 2⟩ ∧ Only F w w' ∧ (∀ i, F' i → F i ∨ w.heap.size ≤ i) := by
  have HP := Lib.hid hp
  obtain ⟨h1, h2, L, n, h3, -⟩ := hp
  have c2 : w.cell? ⟨g, 2, none⟩ = some (.int .i64 p.e) := h3.cell (i := 2) (by omega)
  have hg := h2 g h1
  have b1 : (p.e != 0) = false := by rw [he]; rfl
  have hmf := make_fn
  have HH := Lib.hid H
  clear h1 h2 h3 H
  go_enter_defers Try.func24, Try.ntmps24
  go_wp2_with fail
  refine Code.wp_mono (broke_leaves HP.out (by decide)) ?_
  have hw0 : ∃ W0, W0 = w.alloc (.cells #[.pointer (some ⟨g, 0, none⟩)] 25) := ⟨_, rfl⟩
  obtain ⟨W0, hw0⟩ := hw0
  rw [← hw0]
  have q0 : W0.cell? ⟨w.heap.size, 0, none⟩ = some (.pointer (some ⟨g, 0, none⟩)) := by rw [hw0]; simp [go_sem]
  have B0 := Lib.hid (show Below w.heap.size w W0 by rw [hw0]; exact below_one w _)
  have Z0 : Hid (w.heap.size < W0.heap.size) := show _ < _ by rw [hw0]; simp
  clear hw0 c2
  refine wp_region_held_drew (S := fun w' => w'.cell? ⟨w.heap.size, 0, none⟩ = some (.pointer (some ⟨g, 0, none⟩))) (by kernel_rfl) q0 (fun hHeld => ?_)
  refine ByHand.take_yes (v := ?_) 1 15 rfl rfl (by kernel_rfl) (by kernel_rfl) (by kernel_rfl) (fun _ _ _ h => h) (by rfl) ?_ (by assumption) ?_
  rotate_left
  · intro w' hSw
    (try dsimp only at hSw)
    go_simp
    all_goals with_reducible rfl
  (try simp only [Act.put, List.setIfInBounds_toArray, List.set_cons_zero, List.set_cons_succ])
  refine ByHand.take_yes (v := ?_) 0 14 rfl rfl (by kernel_rfl) (by kernel_rfl) (by kernel_rfl) (fun _ _ _ h => h) (by rfl) ?_ (by assumption) ?_
  rotate_left
  · intro w' hSw
    (try dsimp only at hSw)
    go_simp
    all_goals with_reducible rfl
  (try simp only [Act.put, List.setIfInBounds_toArray, List.set_cons_zero, List.set_cons_succ])
  refine wpAnyH_ready (rs := [2]) (by kernel_rfl) (by simp) (AllReadyH.cons rfl (fun K hK => ?_) AllReadyH.nil)
  go_simp
  have hcc := HH.out W0.drew (below_drewn B0.out)
  refine hcc.mono ?_
  clear hcc
  rintro e w1 ⟨rfl, hb1⟩
  have B1 : Hid (Below w.heap.size w w1) := show Below _ _ _ from B0.out.trans ((drew_below hb1).mono (Nat.le_of_lt Z0.out))
  have q1 : w1.cell? ⟨w.heap.size, 0, none⟩ = some (.pointer (some ⟨g, 0, none⟩)) := (hb1.cell (p := ⟨w.heap.size, 0, none⟩) Z0.out).trans q0
  clear hb1
  go_wp2_with fail
  refine hK.out _ _ ?_ (fun hHeld => ?_)
  · exact q1
  clear hK K
  (try simp only [Act.put, List.setIfInBounds_toArray, List.set_cons_zero, List.set_cons_succ])
  refine wpAnyH_ready (rs := [3]) (by kernel_rfl) (by simp) (AllReadyH.cons rfl (fun K hK => ?_) AllReadyH.nil)
  go_simp
  have hcc := p_add_bad b p g F w1 (pk_new HP.out B1.out) he hb hl
  refine hcc.mono ?_
  clear hcc
  rintro e w2 ⟨rfl, rfl⟩
  exact ⟨rfl, rfl, B1.out, q1⟩
theorem put_fails (Fn : FuncId) (cap : Array Value) (x : Int) (p : PSt) (g : Nat) (F : Nat → Prop) (w : World) (hF : ∀ (args : Array Value) (w : World), (callFunc Fn args).run Try.prog w = .ok (.enter Fn args) w)
    (H : Fails Fn cap w x) (hx : x ≠ 0) (hp : PkAt w F g p) (he : p.e = 0) :
    Calls Try.prog 24 #[.pointer (some ⟨g, 0, none⟩), .func (.func Fn) #[] cap] w fun e w' => e = .returned (.tuple #[]) ∧ ∃ F', PkAt w' F' g ⟨p.s, x⟩ ∧ Only F w w' ∧ (∀ i, F' i → F i ∨ w.heap.size ≤ i) := by
  have HP := Lib.hid hp
  obtain ⟨h1, h2, L, n, h3, -⟩ := hp
  have c2 : w.cell? ⟨g, 2, none⟩ = some (.int .i64 p.e) := h3.cell (i := 2) (by omega)
  have hg := h2 g h1
  have b1 : (p.e != 0) = false := by rw [he]; rfl
  have hmf := make_fn
  have HH := Lib.hid H
  clear h1 h2 h3 H
  go_enter_defers Try.func24, Try.ntmps24
  go_wp2_with fail
  refine Code.wp_mono (broke_leaves HP.out hx) ?_
  have hw0 : ∃ W0, W0 = w.alloc (.cells #[.pointer (some ⟨g, 0, none⟩)] 25) := ⟨_, rfl⟩
  obtain ⟨W0, hw0⟩ := hw0
  rw [← hw0]
  have q0 : W0.cell? ⟨w.heap.size, 0, none⟩ = some (.pointer (some ⟨g, 0, none⟩)) := by rw [hw0]; simp [go_sem]
  have B0 := Lib.hid (show Below w.heap.size w W0 by rw [hw0]; exact below_one w _)
  have Z0 : Hid (w.heap.size < W0.heap.size) := show _ < _ by rw [hw0]; simp
  clear hw0 c2
  refine wp_region_held_drew (S := fun w' => w'.cell? ⟨w.heap.size, 0, none⟩ = some (.pointer (some ⟨g, 0, none⟩))) (by kernel_rfl) q0 (fun hHeld => ?_)
  refine ByHand.take_yes (v := ?_) 1 15 rfl rfl (by kernel_rfl) (by kernel_rfl) (by kernel_rfl) (fun _ _ _ h => h) (by rfl) ?_ (by assumption) ?_
  rotate_left
  · intro w' hSw
    (try dsimp only at hSw)
    go_simp
    all_goals with_reducible rfl
  (try simp only [Act.put, List.setIfInBounds_toArray, List.set_cons_zero, List.set_cons_succ])
  refine ByHand.take_yes (v := ?_) 0 14 rfl rfl (by kernel_rfl) (by kernel_rfl) (by kernel_rfl) (fun _ _ _ h => h) (by rfl) ?_ (by assumption) ?_
  rotate_left
  · intro w' hSw
    (try dsimp only at hSw)
    go_simp
    all_goals with_reducible rfl
  (try simp only [Act.put, List.setIfInBounds_toArray, List.set_cons_zero, List.set_cons_succ])
  refine wpAnyH_ready (rs := [2]) (by kernel_rfl) (by simp) (AllReadyH.cons rfl (fun K hK => ?_) AllReadyH.nil)
  go_simp
  have hcc := HH.out W0.drew (below_drewn B0.out)
  refine hcc.mono ?_
  clear hcc
  rintro e w1 ⟨rfl, hb1⟩
  exact ⟨rfl, rfl, B0.out.trans ((drew_below hb1).mono (Nat.le_of_lt Z0.out)), (hb1.cell (p := ⟨w.heap.size, 0, none⟩) Z0.out).trans q0⟩
end Go.Proofs.Ytndmimmkjccgmaa.Pack
