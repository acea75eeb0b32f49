/- The document's own event: its bytes. Of no one law: a command as its cells are; when two are alike. annuitykeep.Command: two are alike just if all fields are. The document's own Encode, Fine, Pack. An event's bytes and back, in plain values: what is decoded of any bytes; what was encoded is decoded as it was; what was decoded is encoded as it stood. What an opener tells that is asked for an event's numbers, one behind the other: in plain values. -/
import Derived.Test.YtcmdonckilajjaaGGood
import Derived.Test.YtcmdonckilajjaaGPack
import Derived.Deep.RegionHeld3
import Derived.Deep.DeepCutAuto
import Derived.Deep.OwnRows
import Derived.StillTailTactics
import Derived.Test.YtcmdonckilajjaaGKeep
import Derived.Deep.MidRow
import Derived.BigFrame
namespace Go.Proofs.Ytcmdonckilajjaa.Event
open Go.ChangeShapes Go.WideShapes Go.ChangeAt Go.RowKit Fl Date Cal Pack

/-- What an event's fields are, if it has a form. -/
structure Ranged (e : Ev) : Prop where
  kind : 1 ≤ e.kind ∧ e.kind ≤ 8
  day : 0 ≤ e.day ∧ e.day ≤ 87658
  key : e.key < 4294967296
  loan : 0 ≤ e.loan ∧ e.loan ≤ 1000
  amount : 0 ≤ e.amount ∧ e.amount ≤ 1000000000
  rate : e.rate < 9218868437227405312
  income : e.income < 9218868437227405312
  status : 0 ≤ e.status ∧ e.status ≤ 5
  plan : 0 ≤ e.plan ∧ e.plan ≤ 4
  family : 0 ≤ e.family ∧ e.family ≤ 30
theorem rate_small {b : Nat} (h : rateB b = true) : b < 9218868437227405312 := by
  unfold rateB minusB at h
  simp at h
  have hg := of_decide_eq_true (good_of_pE h.1.1)
  omega
theorem income_small {b : Nat} (h : incomeB b = true) : b < 9218868437227405312 := by
  unfold incomeB minusB at h
  simp at h
  have hg := of_decide_eq_true (good_of_tE h.1.1)
  omega
theorem ranged_of {e : Ev} (hf : e.Fit) (h : goodE e = true) : Ranged e := by
  have hkey := hf.key
  obtain ⟨kind, day, key, loan, amount, rate, income, sub, status, plan, family⟩ := e
  unfold goodE headB at h
  simp only [Bool.and_eq_true, decide_eq_true_iff] at h
  obtain ⟨⟨⟨hk, hd⟩, he⟩, hF⟩ := h
  have he := eqE_iff.1 he
  have hd : 0 ≤ day ∧ day ≤ 87658 := of_decide_eq_true hd
  by_cases h1 : kind = 1
  · subst h1
    simp [onlyE] at he
    unfold fieldsB at hF
    simp only [if_pos, Bool.and_eq_true] at hF
    have l := of_decide_eq_true hF.1.1
    have a := of_decide_eq_true hF.1.2
    have r := rate_small hF.2
    clear hF
    constructor <;> dsimp only <;> first | omega | (simp_all; done)
  by_cases h2 : kind = 2
  · subst h2
    simp [onlyE] at he
    unfold fieldsB at hF
    simp [loanB, statusB] at hF
    constructor <;> dsimp only <;> first | omega | (simp_all; done)
  by_cases h3 : kind = 3
  · subst h3
    simp [onlyE] at he
    unfold fieldsB at hF
    simp [amountB] at hF
    constructor <;> dsimp only <;> first | omega | (simp_all; done)
  by_cases h4 : kind = 4
  · subst h4
    simp [onlyE] at he
    unfold fieldsB at hF
    simp [loanB, amountB] at hF
    constructor <;> dsimp only <;> first | omega | (simp_all; done)
  by_cases h5 : kind = 5
  · subst h5
    unfold fieldsB at hF
    by_cases hp : plan = 4
    · subst hp
      simp [onlyE] at he
      simp only [if_pos] at hF
      simp at hF
      have f := of_decide_eq_true hF.2
      have r := income_small hF.1
      clear hF
      constructor <;> dsimp only <;> first | omega | (simp_all; done)
    · simp [onlyE, hp] at he
      simp [hp] at hF
      constructor <;> dsimp only <;> first | omega | (simp_all; done)
  by_cases h6 : kind = 6
  · subst h6
    simp [onlyE] at he
    unfold fieldsB at hF
    constructor <;> dsimp only <;> first | omega | (simp_all; done)
  by_cases h7 : kind = 7
  · subst h7
    simp [onlyE] at he
    unfold fieldsB at hF
    simp [loanB] at hF
    constructor <;> dsimp only <;> first | omega | (simp_all; done)
  obtain rfl : kind = 8 := by omega
  simp [onlyE] at he
  unfold fieldsB at hF
  simp [loanB] at hF
  constructor <;> dsimp only <;> first | omega | (simp_all; done)
/-- A list of numbers and their sizes, as bytes. -/
def catS : List (Nat × Nat) → ByteArray
  | [] => ⟨#[]⟩
  | x :: l => lowS x.1 x.2 ++ catS l
theorem catS_append : ∀ (a b : List (Nat × Nat)), catS (a ++ b) = catS a ++ catS b
  | [], b => by show catS b = ⟨#[]⟩ ++ catS b; exact (ByteArray.empty_append ..).symm
  | x :: a, b => by
    show lowS x.1 x.2 ++ catS (a ++ b) = (lowS x.1 x.2 ++ catS a) ++ catS b
    rw [catS_append a b, ByteArray.append_assoc]
theorem catS_one (x : Nat × Nat) : catS [x] = lowS x.1 x.2 := by show lowS x.1 x.2 ++ ⟨#[]⟩ = _; exact ByteArray.append_empty ..
/-- An event's numbers, and their sizes. -/
def numE (e : Ev) : List Nat := [e.kind.toNat, e.day.toNat, e.key, e.loan.toNat, e.amount.toNat, e.rate, e.income, e.sub.toNat, e.status.toNat, e.plan.toNat, e.family.toNat]
def sizeL : List Nat := [1, 4, 4, 2, 8, 8, 8, 1, 1, 1, 1]
def numz (e : Ev) : List (Nat × Nat) := (numE e).zip sizeL
/-- The bytes of an event. -/
def encS (e : Ev) : ByteArray := catS (numz e)
theorem numz_at (e : Ev) {j : Nat} (h : j < 11) : (numz e).getD j (0, 0) = ((numE e).getD j 0, sizeL.getD j 0) := by
  match j, h with
  | 0, _ => rfl
  | 1, _ => rfl
  | 2, _ => rfl
  | 3, _ => rfl
  | 4, _ => rfl
  | 5, _ => rfl
  | 6, _ => rfl
  | 7, _ => rfl
  | 8, _ => rfl
  | 9, _ => rfl
  | 10, _ => rfl
theorem cat_next {l : List (Nat × Nat)} {j : Nat} (h : j < l.length) : catS (l.take (j + 1)) = catS (l.take j) ++ lowS (l.getD j (0, 0)).1 (l.getD j (0, 0)).2 := by
  rw [List.take_add_one, List.getElem?_eq_getElem h, List.getD_eq_getElem?_getD, List.getElem?_eq_getElem h]
  show catS (l.take j ++ [l[j]]) = _
  rw [catS_append, catS_one]; rfl
theorem size_le (j : Nat) : sizeL.getD j 0 ≤ 8 := by
  match j with
  | 0 | 1 | 2 | 3 | 4 | 5 | 6 | 7 | 8 | 9 | 10 => decide
  | j + 11 => show (0 : Nat) ≤ 8; decide
theorem cat_size (e : Ev) : ∀ j, j ≤ 11 → (catS ((numz e).take j)).size ≤ 8 * j
  | 0, _ => by show (0 : Nat) ≤ _; omega
  | j + 1, h => by
    have ih := cat_size e j (by omega)
    have h1 := size_le j
    rw [cat_next (by show j < 11; omega), ByteArray.size_append, low_size, numz_at e (by omega)]
    omega
theorem num_lt {e : Ev} (h : Ranged e) : ∀ j, j < 11 → (numE e).getD j 0 < 18446744073709551616
  | 0, _ => by have := h.kind; show e.kind.toNat < _; omega
  | 1, _ => by have := h.day; show e.day.toNat < _; omega
  | 2, _ => by have := h.key; show e.key < _; omega
  | 3, _ => by have := h.loan; show e.loan.toNat < _; omega
  | 4, _ => by have := h.amount; show e.amount.toNat < _; omega
  | 5, _ => by have := h.rate; show e.rate < _; omega
  | 6, _ => by have := h.income; show e.income < _; omega
  | 7, _ => by show e.sub.toNat < _; cases e.sub <;> decide
  | 8, _ => by have := h.status; show e.status.toNat < _; omega
  | 9, _ => by have := h.plan; show e.plan.toNat < _; omega
  | 10, _ => by have := h.family; show e.family.toNat < _; omega
theorem bits_small {b : Nat} (h : b < 9218868437227405312) : bitsF b = b := by
  unfold bitsF
  rw [if_pos ⟨decide_eq_true (Or.inl h), by omega⟩]
theorem r_flag (b : Bool) (w : World) : Calls Try.prog 48 #[.bool b] w fun e w' => e = .returned (.int .u64 (b.toNat : Nat)) ∧ w = w' := by
  cases b <;>
  · go_enter Try.func48, Try.ntmps48
    go_wp2
    go_ret
    exact ⟨rfl, rfl⟩
/-- A row of numbers of a kind, that a slice literal makes. -/
def Nums (w : World) (g : Nat) (k : IntKind) (l : List Nat) : Prop := g < w.heap.size ∧ ∀ i, i < l.length → w.cell? ⟨g, i, none⟩ = some (.int k (l.getD i 0 : Nat))
theorem Nums.below {w w' : World} {g : Nat} {k : IntKind} {l : List Nat} (h : Nums w g k l) (hb : Below w.heap.size w w') : Nums w' g k l :=
  ⟨Nat.lt_of_lt_of_le h.1 hb.size, fun i hi => (hb.cell (p := ⟨g, i, none⟩) h.1).trans (h.2 i hi)⟩
theorem nums_new (w : World) (C : Array Value) (T : TypeId) (k : IntKind) (l : List Nat) (hC : ∀ i, i < l.length → C[i]? = some (.int k (l.getD i 0 : Nat))) : Nums (w.alloc (.cells C T)) w.heap.size k l := by
  refine ⟨by rw [Deep.nblk_alloc]; omega, fun i hi => ?_⟩
  rw [World.cell?_alloc_new]
  exact hC i hi
theorem size_row : ∀ i, i < sizeL.length → (#[Value.int .i64 1, .int .i64 4, .int .i64 4, .int .i64 2, .int .i64 8, .int .i64 8, .int .i64 8, .int .i64 1, .int .i64 1, .int .i64 1, .int .i64 1])[i]? = some (.int .i64 (sizeL.getD i 0 : Nat))
  | 0, _ => rfl
  | 1, _ => rfl
  | 2, _ => rfl
  | 3, _ => rfl
  | 4, _ => rfl
  | 5, _ => rfl
  | 6, _ => rfl
  | 7, _ => rfl
  | 8, _ => rfl
  | 9, _ => rfl
  | 10, _ => rfl
theorem r_sizes (w : World) : Calls Try.prog 31 #[] w fun e w' => ∃ g c, e = .returned (.slice (some ⟨g, 0, none⟩) 11 c) ∧ Nums w' g .i64 sizeL ∧ Below w.heap.size w w' ∧ w.heap.size ≤ g := by
  go_enter Try.func31, Try.ntmps31
  go_wp2
  go_ret
  exact ⟨_, _, rfl, nums_new w _ _ .i64 sizeL size_row, (Below.refl _ w).alloc (Nat.le_refl _) _, Nat.le_refl _⟩
theorem num_row (e : Ev) (K D L A S P F : Nat) (B : Int) (hK : e.kind.toNat = K) (hD : e.day.toNat = D) (hL : e.loan.toNat = L) (hA : e.amount.toNat = A) (hB : (e.sub.toNat : Int) = B) (hS : e.status.toNat = S) (hP : e.plan.toNat = P) (hF : e.family.toNat = F) :
    ∀ i, i < (numE e).length → (#[Value.int .u64 (K : Nat), .int .u64 (D : Nat), .int .u64 (e.key : Nat), .int .u64 (L : Nat), .int .u64 (A : Nat), .int .u64 (e.rate : Nat), .int .u64 (e.income : Nat), .int .u64 B, .int .u64 (S : Nat), .int .u64 (P : Nat), .int .u64 (F : Nat)])[i]? = some (.int .u64 ((numE e).getD i 0 : Nat)) := by
  subst hK hD hL hA hB hS hP hF
  intro i hi
  match i, hi with
  | 0, _ => rfl
  | 1, _ => rfl
  | 2, _ => rfl
  | 3, _ => rfl
  | 4, _ => rfl
  | 5, _ => rfl
  | 6, _ => rfl
  | 7, _ => rfl
  | 8, _ => rfl
  | 9, _ => rfl
  | 10, _ => rfl
theorem still_of {P : Program} {f : FuncId} {args : Array Value} {w : World} {v : Value} (h : Calls P f args w fun e w' => e = .returned v ∧ w = w') : Calls P f args w fun e w' => e = .returned v ∧ w' = w := h.mono fun _ _ ⟨h, k⟩ => ⟨h, k.symm⟩
theorem below_new {a b : World} (h : Below a.heap.size a b) (o : Obj) : Below a.heap.size a (b.alloc o) := h.alloc h.size o
theorem run_eleven (a b c d e f g h i j k : Int) (w : World) :
    (Instr.buildSlice 68 11 #[(0, .int .u64 a), (1, .int .u64 b), (2, .int .u64 c), (3, .int .u64 d), (4, .int .u64 e), (5, .int .u64 f), (6, .int .u64 g), (7, .int .u64 h), (8, .int .u64 i), (9, .int .u64 j), (10, .int .u64 k)]).run Try.prog w
      = .ok (.slice (some ⟨w.heap.size, 0, none⟩) 11 11) (w.alloc (.cells #[.int .u64 a, .int .u64 b, .int .u64 c, .int .u64 d, .int .u64 e, .int .u64 f, .int .u64 g, .int .u64 h, .int .u64 i, .int .u64 j, .int .u64 k] 69)) := by kernel_rfl
theorem wpList_slice {P : Program} {ops : Array Oper} {rest : List Oper} {o : Oper} {a : Act} {w w' : World} {Q : Exit → Act → World → Prop} (hgd : o.guard = none) (t : TypeId) (n : Nat) (ps : Array (Nat × Operand)) (ho : o.op = .buildSlice t n ps) (v : Value) (qs : Array (Nat × Value)) (hq : (ps.map fun x => (x.fst, a.eval x.snd)) = qs)
    (hr : (Instr.buildSlice t n qs).run P w = .ok v w')
    (h : wpList P ops Q rest (a.put o.dst v) w') : wpList P ops Q (o :: rest) a w :=
  wpList_plain hgd fun _ hK => by
    unfold Oper.wp execOp
    simp only [ho, Sem.run_bind, Sem.run_pure]
    rw [hq, hr]
    exact hK _ _ h
theorem nat_of {n b : Int} (h : 0 ≤ n ∧ n ≤ b) (hb : b ≤ 9223372036854775807) : ∃ N : Nat, n = N ∧ (N : Int) ≤ 9223372036854775807 := ⟨n.toNat, by omega, by omega⟩
theorem mod_u64 {N : Nat} (h : (N : Int) ≤ 9223372036854775807) : IntKind.u64.wrap (N : Int) = N := by rw [IntKind.wrap_u64]; omega
theorem key_u64 {N : Nat} (h : N < 4294967296) : IntKind.u64.wrap (N : Int) = N := by rw [IntKind.wrap_u64]; omega
set_option maxRecDepth 20000 in
set_option maxHeartbeats 4000000 in
theorem r_ebytes (e : Ev) (w : World) (h : Ranged e) :
    Calls Try.prog 27 #[.agg e.cells] w fun x w' => x = .returned (.string (encS e)) ∧ Below w.heap.size w w' := by
  obtain ⟨E, hE⟩ : ∃ E, e = E := ⟨_, rfl⟩
  have hX : encS e = encS E := by rw [hE]
  rw [hX]
  clear hX
  have HNL := Lib.hid (num_lt (hE ▸ h))
  have HSZ := Lib.hid (cat_size E)
  have bs1 := bits_small h.rate
  have bs2 := bits_small h.income
  have hrow0 := num_row e
  obtain ⟨hk, hd, hkey, hl, ha, hr, hi, hs, hp, hf⟩ := h
  obtain ⟨kind, day, key, loan, amount, rate, income, sub, status, plan, family⟩ := e
  dsimp only at *
  obtain ⟨K, rfl, k0⟩ := nat_of (b := 8) ⟨by omega, hk.2⟩ (by decide)
  obtain ⟨D, rfl, k1⟩ := nat_of hd (by decide)
  obtain ⟨L, rfl, k2⟩ := nat_of hl (by decide)
  obtain ⟨A, rfl, k3⟩ := nat_of ha (by decide)
  obtain ⟨S, rfl, k4⟩ := nat_of hs (by decide)
  obtain ⟨P, rfl, k5⟩ := nat_of hp (by decide)
  obtain ⟨F, rfl, k6⟩ := nat_of hf (by decide)
  obtain ⟨B, hB⟩ : ∃ B : Int, (sub.toNat : Int) = B := ⟨_, rfl⟩
  have hrow := hrow0 K D L A S P F B rfl rfl rfl rfl hB rfl rfl rfl
  have m0 := mod_u64 k0
  have m1 := mod_u64 k1
  have m2 := mod_u64 k2
  have m3 := mod_u64 k3
  have m4 := mod_u64 k4
  have m5 := mod_u64 k5
  have m6 := mod_u64 k6
  have m7 := key_u64 hkey
  have HR1 : Hid (∀ W, Calls Try.prog 52 #[.float .f64 rate] W fun x w' => x = .returned (.int .u64 (rate : Nat)) ∧ W = w') := fun W => by have := rbits_any rate W (by omega); rwa [bs1] at this
  have HR2 : Hid (∀ W, Calls Try.prog 52 #[.float .f64 income] W fun x w' => x = .returned (.int .u64 (income : Nat)) ∧ W = w') := fun W => by have := rbits_any income W (by omega); rwa [bs2] at this
  have HFL : Hid (∀ W, Calls Try.prog 48 #[.bool sub] W fun x w' => x = .returned (.int .u64 B) ∧ W = w') := fun W => hB ▸ r_flag sub W
  clear hrow0 bs1 bs2 hk hd hkey hl ha hr hi hs hp hf hB k0 k1 k2 k3 k4 k5 k6
  rw [hE] at hrow
  have HROW := Lib.hid hrow
  clear hrow
  obtain ⟨g, wb, e1, e2, hA, hb⟩ := boxed_one w (Ev.cells ⟨(K : Int), (D : Int), key, (L : Int), (A : Int), rate, income, sub, (S : Int), (P : Int), (F : Int)⟩) 25
  have HB := Lib.hid hb
  clear hb
  unfold Ev.cells at *
  go_enter Try.func27, Try.ntmps27
  go_upto_region 1 with fail
  rw [← e2, ← e1]
  clear e1 e2 hE
  go_cut [3] (fun s wx => ∃ g1, s = .slice (some ⟨g1, 0, none⟩) 11 11 ∧ Hid (Nums wx g1 .u64 (numE E)) ∧ Hid (Below w.heap.size w wx))
  case first =>
    as_aux_lemma =>
      have a0 : wb.cell? ⟨g, 0, none⟩ = some (.int .i64 (K : Int)) := hA 0
      have a1 : wb.cell? ⟨g, 1, none⟩ = some (.int .i64 (D : Int)) := hA 1
      have a2 : wb.cell? ⟨g, 2, none⟩ = some (.int .u32 (key : Nat)) := hA 2
      have a3 : wb.cell? ⟨g, 3, none⟩ = some (.int .i64 (L : Int)) := hA 3
      have a4 : wb.cell? ⟨g, 4, none⟩ = some (.int .i64 (A : Int)) := hA 4
      have a5 : wb.cell? ⟨g, 5, none⟩ = some (.float .f64 rate) := hA 5
      have a6 : wb.cell? ⟨g, 6, none⟩ = some (.float .f64 income) := hA 6
      have a7 : wb.cell? ⟨g, 7, none⟩ = some (.bool sub) := hA 7
      have a8 : wb.cell? ⟨g, 8, none⟩ = some (.int .i64 (S : Int)) := hA 8
      have a9 : wb.cell? ⟨g, 9, none⟩ = some (.int .i64 (P : Int)) := hA 9
      have a10 : wb.cell? ⟨g, 10, none⟩ = some (.int .i64 (F : Int)) := hA 10
      clear hA
      refine wp_region_still_tail 33 (by kernel_rfl) (by kernel_rfl) ?_
      simp only [List.take_succ_cons, List.take_zero, List.drop_succ_cons, List.drop_zero]
      repeat still_step
      still_call (still_of (HR1.out _))
      repeat still_step
      still_call (still_of (HR2.out _))
      repeat still_step
      still_call (still_of (HFL.out _))
      repeat still_step
      refine wpStill_nil ?_
      have HBD := Lib.hid (below_drew HB.out)
      change wpList _ _ _ _ _ wb.drew
      generalize wb.drew = w2 at *
      refine wpList_slice rfl _ _ _ rfl _ _ (by simp [Act.eval]) (run_eleven (K : Int) (D : Int) (key : Int) (L : Int) (A : Int) (rate : Int) (income : Int) B (S : Int) (P : Int) (F : Int) w2) ?_
      go_wp2_with fail
      go_meet
      refine ⟨_, rfl, ?_, below_new HBD.out _⟩
      show Nums _ _ _ _
      exact nums_new w2 _ _ .u64 (numE E) HROW.out
  case rest =>
    obtain ⟨g1, rfl, HNR, HW⟩ := hcut
    clear hA HB HR1 HR2 HFL HROW m0 m1 m2 m3 m4 m5 m6 m7
    go_wp2_with fail
    refine (r_sizes wc).mono ?_
    rintro e w2 ⟨g2, c2, rfl, hn2, hb2, -⟩
    have HN1 := Lib.hid (HNR.out.below hb2)
    have HN2 := Lib.hid hn2
    have HW2 := Lib.hid (below_via HW.out hb2)
    clear hn2 hb2 HNR HW
    go_wp2_with fail
    go_loopw [5, 6] (fun s t wr => ∃ j : Nat, j ≤ 11 ∧ t = .int .i64 j ∧ s = .string (catS ((numz E).take j)) ∧ Hid (Nums wr g1 .u64 (numE E)) ∧ Hid (Nums wr g2 .i64 sizeL) ∧ Hid (Below w.heap.size w wr)) (fun _ t _ => 11 - (intOf t).toNat)
    case atStart => exact ⟨0, by omega, rfl, rfl, HN1, HN2, HW2⟩
    case round =>
      obtain ⟨j, hj, rfl, rfl, R1, R2, RW⟩ := hrel
      by_cases hlt : j < 11
      · have j0 : (0 : Int) ≤ j := by omega
        have j1 : (j : Int) < 11 := by omega
        have hnext := cat_next (l := numz E) (j := j) hlt
        rw [numz_at E hlt] at hnext
        have hv := HNL.out j hlt
        have hs := size_le j
        have c1 := R1.out.2 j hlt
        have c2 := R2.out.2 j hlt
        have hz := HSZ.out j hj
        obtain ⟨v, hv0⟩ : ∃ v, (numE E).getD j 0 = v := ⟨_, rfl⟩
        obtain ⟨n, hn0⟩ : ∃ n, sizeL.getD j 0 = n := ⟨_, rfl⟩
        rw [hv0] at hnext hv c1
        rw [hn0] at hnext hs c2
        have HNX := Lib.hid hnext
        obtain ⟨b, hb0⟩ : ∃ b, catS ((numz E).take j) = b := ⟨_, rfl⟩
        rw [hb0] at hz HNX ⊢
        have hlong : ¬ (9223372036854775807 < b.size + (lowS v n).size) := by rw [low_size]; omega
        have HV := Lib.hid hv
        have HS := Lib.hid hs
        clear hv0 hn0 hnext hv hs hb0 hz
        have HWD := Lib.hid (below_drew RW.out)
        go_wp2_with fail
        go_region_held3 (fun w' => w'.cell? ⟨g1, j, none⟩ = some (.int .u64 (v : Int)) ∧ w'.cell? ⟨g2, j, none⟩ = some (.int .i64 (n : Int)))
          (first
            | exact ⟨c1, c2⟩
            | exact ⟨d1, d2⟩)
          (first
            | (go_at_call 47
               have hcc := r_bytes v n wr.drew HV.out HS.out
               refine hcc.mono ?_
               clear hcc
               rintro e y1 ⟨rfl, hb⟩
               have hbb : Below wr.heap.size wr y1 := (below_drew (Below.refl _ wr)).trans hb
               have d1 := (hbb.cell (p := ⟨g1, j, none⟩) R1.out.1).trans c1
               have d2 := (hbb.cell (p := ⟨g2, j, none⟩) R2.out.1).trans c2
               have R1' := Lib.hid (R1.out.below hbb)
               have R2' := Lib.hid (R2.out.below hbb)
               have RW' := Lib.hid (RW.out.trans (hbb.mono RW.out.size))
               clear hb hbb))
        go_wp2_with fail
        go_roundw
        case rel => exact ⟨j + 1, by omega, by go_num, by rw [HNX.out], R1', R2', RW'⟩
        case measure => simp [intOf]; omega
      · obtain rfl : j = 11 := by omega
        go_wp2_with fail
        go_ret
        exact ⟨rfl, RW.out⟩
end Go.Proofs.Ytcmdonckilajjaa.Event
namespace Go.Proofs.Ytcmdonckilajjaa.Event
open Go.ChangeShapes Go.WideShapes Go.ChangeAt Go.RowKit

/-- A command. -/
structure Cm where
  undo : Bool
  key : Nat
  e : Ev
  of_ : Nat
def cm0 : Cm := ⟨false, 0, ev0, 0⟩
/-- Its cells. -/
def Cm.cells (c : Cm) : Array Value := #[.bool c.undo, .int .u32 (c.key : Nat), .int .i64 c.e.kind, .int .i64 c.e.day, .int .u32 (c.e.key : Nat), .int .i64 c.e.loan, .int .i64 c.e.amount, .float .f64 c.e.rate, .float .f64 c.e.income, .bool c.e.sub, .int .i64 c.e.status, .int .i64 c.e.plan, .int .i64 c.e.family, .int .u32 (c.of_ : Nat)]
structure Cm.Fit (c : Cm) : Prop where
  key : c.key < 4294967296
  e : c.e.Fit
  of_ : c.of_ < 4294967296
/-- Are all fields alike? -/
def eqC (a b : Cm) : Bool := decide (a.undo = b.undo) && (decide (a.key = b.key) && (eqE a.e b.e && decide (a.of_ = b.of_)))
theorem eqC_iff {a b : Cm} : eqC a b = true ↔ a = b := by
  unfold eqC
  simp only [Bool.and_eq_true, decide_eq_true_iff, eqE_iff]
  constructor
  · intro h
    cases a; cases b
    simp only [Cm.mk.injEq]
    exact h
  · rintro rfl
    exact ⟨rfl, rfl, rfl, rfl⟩
theorem eqC_self (a : Cm) : eqC a a = true := eqC_iff.2 rfl
theorem eqC_not {a b : Cm} (h : a ≠ b) : eqC a b = false := by
  rw [Bool.eq_false_iff]
  exact fun h2 => h (eqC_iff.1 h2)
end Go.Proofs.Ytcmdonckilajjaa.Event
namespace Go.Proofs.Ytcmdonckilajjaa.Event
open Go.ChangeShapes Go.WideShapes Go.ChangeAt Go.RowKit Fl

set_option maxRecDepth 20000 in
set_option maxHeartbeats 4000000 in
theorem cmd_undo (X Y : Ev) (xu yu : Bool) (xk yk xo yo : Nat) (w : World) (h : ¬ xu = yu) :
    Calls Try.prog 23 #[.agg (Cm.cells ⟨xu, xk, X, xo⟩), .agg (Cm.cells ⟨yu, yk, Y, yo⟩)] w fun e w' => e = .returned (.bool false) ∧ Below w.heap.size w w' := by
  have d : (xu == yu) = false := by cases xu <;> cases yu <;> simp_all
  obtain ⟨xkind, xday, xkey, xloan, xamount, xrate, xincome, xsub, xstatus, xplan, xfamily⟩ := X
  obtain ⟨ykind, yday, ykey, yloan, yamount, yrate, yincome, ysub, ystatus, yplan, yfamily⟩ := Y
  obtain ⟨g1, g2, wb, e1, e2, e3, hA, hB, hb⟩ := boxed_two w (Cm.cells ⟨xu, xk, ⟨xkind, xday, xkey, xloan, xamount, xrate, xincome, xsub, xstatus, xplan, xfamily⟩, xo⟩) (Cm.cells ⟨yu, yk, ⟨ykind, yday, ykey, yloan, yamount, yrate, yincome, ysub, ystatus, yplan, yfamily⟩, yo⟩) 40
  have HB := Lib.hid hb
  clear hb
  unfold Cm.cells at *
  dsimp only at *
  go_enter Try.func23, Try.ntmps23
  go_upto_region 1 with fail
  rw [← e3, ← e2, ← e1]
  clear e1 e2 e3
  have a0 : wb.cell? ⟨g1, 0, none⟩ = some (.bool xu) := hA 0
  have b0 : wb.cell? ⟨g2, 0, none⟩ = some (.bool yu) := hB 0
  have a1 : wb.cell? ⟨g1, 1, none⟩ = some (.int .u32 (xk : Nat)) := hA 1
  have b1 : wb.cell? ⟨g2, 1, none⟩ = some (.int .u32 (yk : Nat)) := hB 1
  clear hA hB
  go_wp2_with fail
  go_ret
  exact ⟨rfl, HB.out⟩
set_option maxRecDepth 20000 in
set_option maxHeartbeats 4000000 in
theorem cmd_key (X Y : Ev) (xu : Bool) (xk yk xo yo : Nat) (w : World) (h : ¬ xk = yk) :
    Calls Try.prog 23 #[.agg (Cm.cells ⟨xu, xk, X, xo⟩), .agg (Cm.cells ⟨xu, yk, Y, yo⟩)] w fun e w' => e = .returned (.bool false) ∧ Below w.heap.size w w' := by
  have d : ((xk : Int) == (yk : Int)) = false := by rw [beq_eq_false_iff_ne]; omega
  obtain ⟨xkind, xday, xkey, xloan, xamount, xrate, xincome, xsub, xstatus, xplan, xfamily⟩ := X
  obtain ⟨ykind, yday, ykey, yloan, yamount, yrate, yincome, ysub, ystatus, yplan, yfamily⟩ := Y
  obtain ⟨g1, g2, wb, e1, e2, e3, hA, hB, hb⟩ := boxed_two w (Cm.cells ⟨xu, xk, ⟨xkind, xday, xkey, xloan, xamount, xrate, xincome, xsub, xstatus, xplan, xfamily⟩, xo⟩) (Cm.cells ⟨xu, yk, ⟨ykind, yday, ykey, yloan, yamount, yrate, yincome, ysub, ystatus, yplan, yfamily⟩, yo⟩) 40
  have HB := Lib.hid hb
  clear hb
  unfold Cm.cells at *
  dsimp only at *
  go_enter Try.func23, Try.ntmps23
  go_upto_region 1 with fail
  rw [← e3, ← e2, ← e1]
  clear e1 e2 e3
  have a0 : wb.cell? ⟨g1, 0, none⟩ = some (.bool xu) := hA 0
  have b0 : wb.cell? ⟨g2, 0, none⟩ = some (.bool xu) := hB 0
  have a1 : wb.cell? ⟨g1, 1, none⟩ = some (.int .u32 (xk : Nat)) := hA 1
  have b1 : wb.cell? ⟨g2, 1, none⟩ = some (.int .u32 (yk : Nat)) := hB 1
  clear hA hB
  go_wp2_with fail
  go_ret
  exact ⟨rfl, HB.out⟩
set_option maxRecDepth 20000 in
set_option maxHeartbeats 4000000 in
theorem cmd_event (X Y : Ev) (xu : Bool) (xk xo yo : Nat) (w : World) (h : eqE X Y = false) :
    Calls Try.prog 23 #[.agg (Cm.cells ⟨xu, xk, X, xo⟩), .agg (Cm.cells ⟨xu, xk, Y, yo⟩)] w fun e w' => e = .returned (.bool false) ∧ Below w.heap.size w w' := by
  have HE : Hid (∀ W, Calls Try.prog 15 #[.agg X.cells, .agg Y.cells] W fun x w' => x = .returned (.bool false) ∧ Below W.heap.size W w') := fun W => h ▸ k_event X Y W
  clear h
  obtain ⟨xkind, xday, xkey, xloan, xamount, xrate, xincome, xsub, xstatus, xplan, xfamily⟩ := X
  obtain ⟨ykind, yday, ykey, yloan, yamount, yrate, yincome, ysub, ystatus, yplan, yfamily⟩ := Y
  obtain ⟨g1, g2, wb, e1, e2, e3, hA, hB, hb⟩ := boxed_two w (Cm.cells ⟨xu, xk, ⟨xkind, xday, xkey, xloan, xamount, xrate, xincome, xsub, xstatus, xplan, xfamily⟩, xo⟩) (Cm.cells ⟨xu, xk, ⟨ykind, yday, ykey, yloan, yamount, yrate, yincome, ysub, ystatus, yplan, yfamily⟩, yo⟩) 40
  have HB := Lib.hid hb
  clear hb
  unfold Cm.cells at *
  unfold Ev.cells at *
  dsimp only at *
  go_enter Try.func23, Try.ntmps23
  go_upto_region 1 with fail
  rw [← e3, ← e2, ← e1]
  clear e1 e2 e3
  have a0 : wb.cell? ⟨g1, 0, none⟩ = some (.bool xu) := hA 0
  have b0 : wb.cell? ⟨g2, 0, none⟩ = some (.bool xu) := hB 0
  have a1 : wb.cell? ⟨g1, 1, none⟩ = some (.int .u32 (xk : Nat)) := hA 1
  have b1 : wb.cell? ⟨g2, 1, none⟩ = some (.int .u32 (xk : Nat)) := hB 1
  have a2 : wb.cell? ⟨g1, 2, none⟩ = some (.int .i64 xkind) := hA 2
  have b2 : wb.cell? ⟨g2, 2, none⟩ = some (.int .i64 ykind) := hB 2
  have a3 : wb.cell? ⟨g1, 3, none⟩ = some (.int .i64 xday) := hA 3
  have b3 : wb.cell? ⟨g2, 3, none⟩ = some (.int .i64 yday) := hB 3
  have a4 : wb.cell? ⟨g1, 4, none⟩ = some (.int .u32 (xkey : Nat)) := hA 4
  have b4 : wb.cell? ⟨g2, 4, none⟩ = some (.int .u32 (ykey : Nat)) := hB 4
  have a5 : wb.cell? ⟨g1, 5, none⟩ = some (.int .i64 xloan) := hA 5
  have b5 : wb.cell? ⟨g2, 5, none⟩ = some (.int .i64 yloan) := hB 5
  have a6 : wb.cell? ⟨g1, 6, none⟩ = some (.int .i64 xamount) := hA 6
  have b6 : wb.cell? ⟨g2, 6, none⟩ = some (.int .i64 yamount) := hB 6
  have a7 : wb.cell? ⟨g1, 7, none⟩ = some (.float .f64 xrate) := hA 7
  have b7 : wb.cell? ⟨g2, 7, none⟩ = some (.float .f64 yrate) := hB 7
  have a8 : wb.cell? ⟨g1, 8, none⟩ = some (.float .f64 xincome) := hA 8
  have b8 : wb.cell? ⟨g2, 8, none⟩ = some (.float .f64 yincome) := hB 8
  have a9 : wb.cell? ⟨g1, 9, none⟩ = some (.bool xsub) := hA 9
  have b9 : wb.cell? ⟨g2, 9, none⟩ = some (.bool ysub) := hB 9
  have a10 : wb.cell? ⟨g1, 10, none⟩ = some (.int .i64 xstatus) := hA 10
  have b10 : wb.cell? ⟨g2, 10, none⟩ = some (.int .i64 ystatus) := hB 10
  have a11 : wb.cell? ⟨g1, 11, none⟩ = some (.int .i64 xplan) := hA 11
  have b11 : wb.cell? ⟨g2, 11, none⟩ = some (.int .i64 yplan) := hB 11
  have a12 : wb.cell? ⟨g1, 12, none⟩ = some (.int .i64 xfamily) := hA 12
  have b12 : wb.cell? ⟨g2, 12, none⟩ = some (.int .i64 yfamily) := hB 12
  have a13 : wb.cell? ⟨g1, 13, none⟩ = some (.int .u32 (xo : Nat)) := hA 13
  have b13 : wb.cell? ⟨g2, 13, none⟩ = some (.int .u32 (yo : Nat)) := hB 13
  clear hA hB
  have l1 := World.block_lt_of_cell? wb _ a0
  have l2 := World.block_lt_of_cell? wb _ b0
  go_wp2_with fail
  refine (HE.out wb).mono ?_
  rintro e y1 ⟨rfl, hb⟩
  have HB1 := Lib.hid (HB.out.trans (hb.mono HB.out.size))
  have c1 := (hb.cell (p := ⟨g1, 13, none⟩) l1).trans a13
  have c2 := (hb.cell (p := ⟨g2, 13, none⟩) l2).trans b13
  clear hb a0 a1 a2 a3 a4 a5 a6 a7 a8 a9 a10 a11 a12 a13 b0 b1 b2 b3 b4 b5 b6 b7 b8 b9 b10 b11 b12 b13 l1 l2
  go_wp2_with fail
  go_ret
  exact ⟨rfl, HB1.out⟩
set_option maxRecDepth 20000 in
set_option maxHeartbeats 4000000 in
theorem cmd_of (X Y : Ev) (xu : Bool) (xk xo yo : Nat) (w : World) (h : eqE X Y = true) (h2 : ¬ xo = yo) :
    Calls Try.prog 23 #[.agg (Cm.cells ⟨xu, xk, X, xo⟩), .agg (Cm.cells ⟨xu, xk, Y, yo⟩)] w fun e w' => e = .returned (.bool false) ∧ Below w.heap.size w w' := by
  have d : ((xo : Int) == (yo : Int)) = false := by rw [beq_eq_false_iff_ne]; omega
  have HE : Hid (∀ W, Calls Try.prog 15 #[.agg X.cells, .agg Y.cells] W fun x w' => x = .returned (.bool true) ∧ Below W.heap.size W w') := fun W => h ▸ k_event X Y W
  clear h
  obtain ⟨xkind, xday, xkey, xloan, xamount, xrate, xincome, xsub, xstatus, xplan, xfamily⟩ := X
  obtain ⟨ykind, yday, ykey, yloan, yamount, yrate, yincome, ysub, ystatus, yplan, yfamily⟩ := Y
  obtain ⟨g1, g2, wb, e1, e2, e3, hA, hB, hb⟩ := boxed_two w (Cm.cells ⟨xu, xk, ⟨xkind, xday, xkey, xloan, xamount, xrate, xincome, xsub, xstatus, xplan, xfamily⟩, xo⟩) (Cm.cells ⟨xu, xk, ⟨ykind, yday, ykey, yloan, yamount, yrate, yincome, ysub, ystatus, yplan, yfamily⟩, yo⟩) 40
  have HB := Lib.hid hb
  clear hb
  unfold Cm.cells at *
  unfold Ev.cells at *
  dsimp only at *
  go_enter Try.func23, Try.ntmps23
  go_upto_region 1 with fail
  rw [← e3, ← e2, ← e1]
  clear e1 e2 e3
  have a0 : wb.cell? ⟨g1, 0, none⟩ = some (.bool xu) := hA 0
  have b0 : wb.cell? ⟨g2, 0, none⟩ = some (.bool xu) := hB 0
  have a1 : wb.cell? ⟨g1, 1, none⟩ = some (.int .u32 (xk : Nat)) := hA 1
  have b1 : wb.cell? ⟨g2, 1, none⟩ = some (.int .u32 (xk : Nat)) := hB 1
  have a2 : wb.cell? ⟨g1, 2, none⟩ = some (.int .i64 xkind) := hA 2
  have b2 : wb.cell? ⟨g2, 2, none⟩ = some (.int .i64 ykind) := hB 2
  have a3 : wb.cell? ⟨g1, 3, none⟩ = some (.int .i64 xday) := hA 3
  have b3 : wb.cell? ⟨g2, 3, none⟩ = some (.int .i64 yday) := hB 3
  have a4 : wb.cell? ⟨g1, 4, none⟩ = some (.int .u32 (xkey : Nat)) := hA 4
  have b4 : wb.cell? ⟨g2, 4, none⟩ = some (.int .u32 (ykey : Nat)) := hB 4
  have a5 : wb.cell? ⟨g1, 5, none⟩ = some (.int .i64 xloan) := hA 5
  have b5 : wb.cell? ⟨g2, 5, none⟩ = some (.int .i64 yloan) := hB 5
  have a6 : wb.cell? ⟨g1, 6, none⟩ = some (.int .i64 xamount) := hA 6
  have b6 : wb.cell? ⟨g2, 6, none⟩ = some (.int .i64 yamount) := hB 6
  have a7 : wb.cell? ⟨g1, 7, none⟩ = some (.float .f64 xrate) := hA 7
  have b7 : wb.cell? ⟨g2, 7, none⟩ = some (.float .f64 yrate) := hB 7
  have a8 : wb.cell? ⟨g1, 8, none⟩ = some (.float .f64 xincome) := hA 8
  have b8 : wb.cell? ⟨g2, 8, none⟩ = some (.float .f64 yincome) := hB 8
  have a9 : wb.cell? ⟨g1, 9, none⟩ = some (.bool xsub) := hA 9
  have b9 : wb.cell? ⟨g2, 9, none⟩ = some (.bool ysub) := hB 9
  have a10 : wb.cell? ⟨g1, 10, none⟩ = some (.int .i64 xstatus) := hA 10
  have b10 : wb.cell? ⟨g2, 10, none⟩ = some (.int .i64 ystatus) := hB 10
  have a11 : wb.cell? ⟨g1, 11, none⟩ = some (.int .i64 xplan) := hA 11
  have b11 : wb.cell? ⟨g2, 11, none⟩ = some (.int .i64 yplan) := hB 11
  have a12 : wb.cell? ⟨g1, 12, none⟩ = some (.int .i64 xfamily) := hA 12
  have b12 : wb.cell? ⟨g2, 12, none⟩ = some (.int .i64 yfamily) := hB 12
  have a13 : wb.cell? ⟨g1, 13, none⟩ = some (.int .u32 (xo : Nat)) := hA 13
  have b13 : wb.cell? ⟨g2, 13, none⟩ = some (.int .u32 (yo : Nat)) := hB 13
  clear hA hB
  have l1 := World.block_lt_of_cell? wb _ a0
  have l2 := World.block_lt_of_cell? wb _ b0
  go_wp2_with fail
  refine (HE.out wb).mono ?_
  rintro e y1 ⟨rfl, hb⟩
  have HB1 := Lib.hid (HB.out.trans (hb.mono HB.out.size))
  have c1 := (hb.cell (p := ⟨g1, 13, none⟩) l1).trans a13
  have c2 := (hb.cell (p := ⟨g2, 13, none⟩) l2).trans b13
  clear hb a0 a1 a2 a3 a4 a5 a6 a7 a8 a9 a10 a11 a12 a13 b0 b1 b2 b3 b4 b5 b6 b7 b8 b9 b10 b11 b12 b13 l1 l2
  go_wp2_with fail
  go_ret
  exact ⟨rfl, HB1.out⟩
set_option maxRecDepth 20000 in
set_option maxHeartbeats 4000000 in
theorem cmd_same (X Y : Ev) (xu : Bool) (xk xo : Nat) (w : World) (h : eqE X Y = true) :
    Calls Try.prog 23 #[.agg (Cm.cells ⟨xu, xk, X, xo⟩), .agg (Cm.cells ⟨xu, xk, Y, xo⟩)] w fun e w' => e = .returned (.bool true) ∧ Below w.heap.size w w' := by
  have HE : Hid (∀ W, Calls Try.prog 15 #[.agg X.cells, .agg Y.cells] W fun x w' => x = .returned (.bool true) ∧ Below W.heap.size W w') := fun W => h ▸ k_event X Y W
  clear h
  obtain ⟨xkind, xday, xkey, xloan, xamount, xrate, xincome, xsub, xstatus, xplan, xfamily⟩ := X
  obtain ⟨ykind, yday, ykey, yloan, yamount, yrate, yincome, ysub, ystatus, yplan, yfamily⟩ := Y
  obtain ⟨g1, g2, wb, e1, e2, e3, hA, hB, hb⟩ := boxed_two w (Cm.cells ⟨xu, xk, ⟨xkind, xday, xkey, xloan, xamount, xrate, xincome, xsub, xstatus, xplan, xfamily⟩, xo⟩) (Cm.cells ⟨xu, xk, ⟨ykind, yday, ykey, yloan, yamount, yrate, yincome, ysub, ystatus, yplan, yfamily⟩, xo⟩) 40
  have HB := Lib.hid hb
  clear hb
  unfold Cm.cells at *
  unfold Ev.cells at *
  dsimp only at *
  go_enter Try.func23, Try.ntmps23
  go_upto_region 1 with fail
  rw [← e3, ← e2, ← e1]
  clear e1 e2 e3
  have a0 : wb.cell? ⟨g1, 0, none⟩ = some (.bool xu) := hA 0
  have b0 : wb.cell? ⟨g2, 0, none⟩ = some (.bool xu) := hB 0
  have a1 : wb.cell? ⟨g1, 1, none⟩ = some (.int .u32 (xk : Nat)) := hA 1
  have b1 : wb.cell? ⟨g2, 1, none⟩ = some (.int .u32 (xk : Nat)) := hB 1
  have a2 : wb.cell? ⟨g1, 2, none⟩ = some (.int .i64 xkind) := hA 2
  have b2 : wb.cell? ⟨g2, 2, none⟩ = some (.int .i64 ykind) := hB 2
  have a3 : wb.cell? ⟨g1, 3, none⟩ = some (.int .i64 xday) := hA 3
  have b3 : wb.cell? ⟨g2, 3, none⟩ = some (.int .i64 yday) := hB 3
  have a4 : wb.cell? ⟨g1, 4, none⟩ = some (.int .u32 (xkey : Nat)) := hA 4
  have b4 : wb.cell? ⟨g2, 4, none⟩ = some (.int .u32 (ykey : Nat)) := hB 4
  have a5 : wb.cell? ⟨g1, 5, none⟩ = some (.int .i64 xloan) := hA 5
  have b5 : wb.cell? ⟨g2, 5, none⟩ = some (.int .i64 yloan) := hB 5
  have a6 : wb.cell? ⟨g1, 6, none⟩ = some (.int .i64 xamount) := hA 6
  have b6 : wb.cell? ⟨g2, 6, none⟩ = some (.int .i64 yamount) := hB 6
  have a7 : wb.cell? ⟨g1, 7, none⟩ = some (.float .f64 xrate) := hA 7
  have b7 : wb.cell? ⟨g2, 7, none⟩ = some (.float .f64 yrate) := hB 7
  have a8 : wb.cell? ⟨g1, 8, none⟩ = some (.float .f64 xincome) := hA 8
  have b8 : wb.cell? ⟨g2, 8, none⟩ = some (.float .f64 yincome) := hB 8
  have a9 : wb.cell? ⟨g1, 9, none⟩ = some (.bool xsub) := hA 9
  have b9 : wb.cell? ⟨g2, 9, none⟩ = some (.bool ysub) := hB 9
  have a10 : wb.cell? ⟨g1, 10, none⟩ = some (.int .i64 xstatus) := hA 10
  have b10 : wb.cell? ⟨g2, 10, none⟩ = some (.int .i64 ystatus) := hB 10
  have a11 : wb.cell? ⟨g1, 11, none⟩ = some (.int .i64 xplan) := hA 11
  have b11 : wb.cell? ⟨g2, 11, none⟩ = some (.int .i64 yplan) := hB 11
  have a12 : wb.cell? ⟨g1, 12, none⟩ = some (.int .i64 xfamily) := hA 12
  have b12 : wb.cell? ⟨g2, 12, none⟩ = some (.int .i64 yfamily) := hB 12
  have a13 : wb.cell? ⟨g1, 13, none⟩ = some (.int .u32 (xo : Nat)) := hA 13
  have b13 : wb.cell? ⟨g2, 13, none⟩ = some (.int .u32 (xo : Nat)) := hB 13
  clear hA hB
  have l1 := World.block_lt_of_cell? wb _ a0
  have l2 := World.block_lt_of_cell? wb _ b0
  go_wp2_with fail
  refine (HE.out wb).mono ?_
  rintro e y1 ⟨rfl, hb⟩
  have HB1 := Lib.hid (HB.out.trans (hb.mono HB.out.size))
  have c1 := (hb.cell (p := ⟨g1, 13, none⟩) l1).trans a13
  have c2 := (hb.cell (p := ⟨g2, 13, none⟩) l2).trans b13
  clear hb a0 a1 a2 a3 a4 a5 a6 a7 a8 a9 a10 a11 a12 a13 b0 b1 b2 b3 b4 b5 b6 b7 b8 b9 b10 b11 b12 b13 l1 l2
  go_wp2_with fail
  go_ret
  exact ⟨rfl, HB1.out⟩
theorem k_command (a b : Cm) (w : World) :
    Calls Try.prog 23 #[.agg a.cells, .agg b.cells] w fun e w' => e = .returned (.bool (eqC a b)) ∧ Below w.heap.size w w' := by
  obtain ⟨xu, xk, X, xo⟩ := a
  obtain ⟨yu, yk, Y, yo⟩ := b
  by_cases h1 : xu = yu
  case neg =>
    rw [show eqC ⟨xu, xk, X, xo⟩ ⟨yu, yk, Y, yo⟩ = false by unfold eqC; simp [h1]]
    exact cmd_undo X Y xu yu xk yk xo yo w h1
  subst h1
  by_cases h2 : xk = yk
  case neg =>
    rw [show eqC ⟨xu, xk, X, xo⟩ ⟨xu, yk, Y, yo⟩ = false by unfold eqC; simp [h2]]
    exact cmd_key X Y xu xk yk xo yo w h2
  subst h2
  cases h3 : eqE X Y with
  | false =>
    rw [show eqC ⟨xu, xk, X, xo⟩ ⟨xu, xk, Y, yo⟩ = false by unfold eqC; simp [h3]]
    exact cmd_event X Y xu xk xo yo w h3
  | true =>
    by_cases h4 : xo = yo
    case neg =>
      rw [show eqC ⟨xu, xk, X, xo⟩ ⟨xu, xk, Y, yo⟩ = false by unfold eqC; simp [h4]]
      exact cmd_of X Y xu xk xo yo w h3 h4
    subst h4
    rw [show eqC ⟨xu, xk, X, xo⟩ ⟨xu, xk, Y, xo⟩ = true by unfold eqC; simp [h3]]
    exact cmd_same X Y xu xk xo w h3
end Go.Proofs.Ytcmdonckilajjaa.Event
namespace Go.Proofs.Ytcmdonckilajjaa.Event
open Go.ChangeShapes Go.WideShapes Go.ChangeAt Go.RowKit Fl Date Cal Pack

theorem ev_info (e : Ev) : (Try.prog.info? 25).map (·.size) = some e.cells.size := by
  show _ = some 11
  kernel_rfl
theorem ev_info' (e : Ev) : (Try.prog.info? 25).map (·.size) = some e.cells.toList.length := by
  show _ = some 11
  kernel_rfl
theorem cm_info (c : Cm) : (Try.prog.info? 40).map (·.size) = some c.cells.size := by
  show _ = some 14
  kernel_rfl
/-- Block g holds these cells. -/
def Boxd (w : World) (g : Nat) (C : Array Value) (T : TypeId) : Prop := w.heap[g]? = some (.cells C T (0, 0))
theorem Boxd.below {w w' : World} {g : Nat} {C : Array Value} {T : TypeId} (h : Boxd w g C T) (hb : Below w.heap.size w w') : Boxd w' g C T :=
  (hb.block g (by
    rcases Nat.lt_or_ge g w.heap.size with hlt | hge
    · exact hlt
    · unfold Boxd at h; rw [Array.getElem?_eq_none hge] at h; cases h)).trans h
theorem boxd_new (w : World) (C : Array Value) (T : TypeId) : ∃ g wb, g = w.heap.size ∧ wb = w.alloc (.cells C T) ∧ Boxd wb g C T ∧ Below w.heap.size w wb :=
  ⟨_, _, rfl, rfl, heap_alloc_last _ _, (Below.refl _ w).alloc (Nat.le_refl _) _⟩
theorem Boxd.cell {w : World} {g i : Nat} {C : Array Value} {T : TypeId} (h : Boxd w g C T) : w.cell? ⟨g, i, none⟩ = C[i]? := by
  simp only [World.cell?]
  rw [h]
  rfl
theorem ev_mid {w : World} {g : Nat} {c : Cm} {T : TypeId} (h : Boxd w g c.cells T) : w.rangeAt g 2 c.e.cells.toList := by
  intro j v hj
  rw [h.cell]
  obtain ⟨u, k, ⟨a0, a1, a2, a3, a4, a5, a6, a7, a8, a9, a10⟩, o⟩ := c
  match j, hj with
  | 0, hj | 1, hj | 2, hj | 3, hj | 4, hj | 5, hj | 6, hj | 7, hj | 8, hj | 9, hj | 10, hj => exact hj
  | j + 11, hj => simp [Ev.cells] at hj
theorem load_mid_want {P : Program} {ops : Array Oper} {rest : List Oper} {op : Oper} {a : Act} {w : World} {Q : Exit → Act → World → Prop} (hw : Region.wanted op (yielded ops a.tmps) = true) (ty : TypeId) (x : Operand) (ho : op.op = .load ty x)
    (b o : Nat) (hx : a.eval x = .pointer (some ⟨b, o, none⟩)) (cs : Array Value) (d : TypeDesc) (hc : w.rangeAt b o cs.toList)
    (hu : P.underlying ty = some d) (hd : d.isRow = true) (hi : (P.info? ty).map (·.size) = some cs.toList.length)
    (h : wpList P ops Q rest (a.put op.dst (.agg cs)) w) : wpList P ops Q (op :: rest) a w :=
  BigFrame.wpList_want hw fun _ hK => wp_load_mid ty x ho b o hx cs.toList d hc hu hd hi (hK _ _ (by simpa using h))
def encT (e : Ev) : ByteArray := if goodE e = true then encS e else ⟨#[]⟩
def encX (e : Ev) : Int := if goodE e = true then 0 else 11
set_option maxHeartbeats 1000000 in
theorem r_encode (e : Ev) (w : World) (hf : e.Fit) :
    Calls Try.prog 10 #[.agg e.cells] w fun x w' => x = .returned (.tuple #[.string (encT e), .int .i64 (encX e)]) ∧ Below w.heap.size w w' := by
  cases hg : goodE e with
  | false =>
    have HG : Hid (∀ W, Calls Try.prog 14 #[.agg e.cells] W fun x w' => x = .returned (.bool false) ∧ Below W.heap.size W w') := fun W => hg ▸ r_good e W hf
    have HS := Lib.hid (ev_info e)
    rw [show encT e = ⟨#[]⟩ by unfold encT; simp [hg], show encX e = 11 by unfold encX; simp [hg]]
    clear hf hg
    generalize e.cells = C at *
    obtain ⟨g, wb, e1, e2, hB, hb⟩ := boxd_new w C 25
    have HB := Lib.hid hB
    have HW := Lib.hid hb
    clear hB hb
    go_enter Try.func10, Try.ntmps10
    go_upto_region 1 with fail
    rw [← e2, ← e1]
    clear e1 e2
    go_wp2_with (first
      | (refine wpList_load_row rfl 25 _ rfl _ rfl _ _ _ _ HB.out Try.underlying25 rfl HS.out ?_)
      | (go_at_call 14
         refine (HG.out wb).mono ?_
         rintro e y1 ⟨rfl, hb⟩
         have HW1 := Lib.hid (below_via HW.out hb)
         clear hb))
    go_ret2
    exact ⟨rfl, HW1.out⟩
  | true =>
    have HG : Hid (∀ W, Calls Try.prog 14 #[.agg e.cells] W fun x w' => x = .returned (.bool true) ∧ Below W.heap.size W w') := fun W => hg ▸ r_good e W hf
    have HE : Hid (∀ W, Calls Try.prog 27 #[.agg e.cells] W fun x w' => x = .returned (.string (encS e)) ∧ Below W.heap.size W w') := fun W => r_ebytes e W (ranged_of hf hg)
    have HS := Lib.hid (ev_info e)
    rw [show encT e = encS e by unfold encT; simp [hg], show encX e = 0 by unfold encX; simp [hg]]
    clear hf hg
    generalize e.cells = C at *
    generalize encS e = s at *
    obtain ⟨g, wb, e1, e2, hB, hb⟩ := boxd_new w C 25
    have HB := Lib.hid hB
    have HW := Lib.hid hb
    clear hB hb
    go_enter Try.func10, Try.ntmps10
    go_upto_region 1 with fail
    rw [← e2, ← e1]
    clear e1 e2
    go_wp2_with (first
      | (refine wpList_load_row rfl 25 _ rfl _ rfl _ _ _ _ HB1.out Try.underlying25 rfl HS.out ?_)
      | (refine wpList_load_row rfl 25 _ rfl _ rfl _ _ _ _ HB.out Try.underlying25 rfl HS.out ?_)
      | (go_at_call 14
         refine (HG.out wb).mono ?_
         rintro e y1 ⟨rfl, hb⟩
         have HW1 := Lib.hid (below_via HW.out hb)
         have HB1 := Lib.hid (HB.out.below hb)
         clear hb)
      | (go_at_call 27
         refine (HE.out y1).mono ?_
         rintro e y2 ⟨rfl, hb⟩
         have HW2 := Lib.hid (below_via HW1.out hb)
         clear hb))
    go_ret2
    exact ⟨rfl, HW2.out⟩
/-- Has a command a form? -/
def fineC (c : Cm) : Bool := if c.undo = true then eqE c.e ev0 else decide (c.of_ = 0) && (goodE c.e && decide (c.e.key = c.key))
theorem ev0_cells : ev0.cells = #[.int .i64 0, .int .i64 0, .int .u32 0, .int .i64 0, .int .i64 0, .float .f64 0, .float .f64 0, .bool false, .int .i64 0, .int .i64 0, .int .i64 0] := rfl
theorem key_cell (e : Ev) : e.cells.toList[2]? = some (.int .u32 (e.key : Nat)) := rfl
def FineOpen (c : Cm) (w : World) (b : Bool) : Prop :=
  Calls Try.prog 22 #[.agg c.cells] w fun x w' => x = .returned (.bool b) ∧ Below w.heap.size w w'
set_option maxHeartbeats 1000000 in
theorem fine_undo (c : Cm) (w : World) (h : c.undo = true) : FineOpen c w (eqE c.e ev0) := by
  unfold FineOpen
  have HE : Hid (∀ W, Calls Try.prog 15 #[.agg c.e.cells, .agg ev0.cells] W fun x w' => x = .returned (.bool (eqE c.e ev0)) ∧ Below W.heap.size W w') := fun W => k_event c.e ev0 W
  generalize eqE c.e ev0 = r at *
  obtain ⟨g, wb, e1, e2, hB, hb⟩ := boxd_new w c.cells 40
  have HS := Lib.hid (ev_info' c.e)
  have a0 : wb.cell? ⟨g, 0, none⟩ = some (.bool true) := by rw [hB.cell, ← h]; rfl
  have HM := Lib.hid (ev_mid hB)
  have HW := Lib.hid hb
  clear hB hb h
  rw [ev0_cells] at HE
  generalize c.cells = C at *
  go_enter Try.func22, Try.ntmps22
  go_upto_region 1 with fail
  rw [← e2, ← e1]
  clear e1 e2
  go_wp2_with (first
    | (refine load_mid_want (by rfl) 25 _ rfl _ _ rfl c.e.cells _ HM.out Try.underlying25 rfl HS.out ?_)
    | (go_at_call 15
       refine (HE.out wb).mono ?_
       rintro e y1 ⟨rfl, hb⟩
       have HW1 := Lib.hid (below_via HW.out hb)
       clear hb))
  go_ret
  exact ⟨rfl, HW1.out⟩
set_option maxHeartbeats 1000000 in
theorem fine_of (c : Cm) (w : World) (h : c.undo = false) (h2 : ¬ c.of_ = 0) : FineOpen c w false := by
  unfold FineOpen
  have d : ((c.of_ : Int) == 0) = false := by rw [beq_eq_false_iff_ne]; omega
  obtain ⟨g, wb, e1, e2, hB, hb⟩ := boxd_new w c.cells 40
  have a0 : wb.cell? ⟨g, 0, none⟩ = some (.bool false) := by rw [hB.cell, ← h]; rfl
  have a13 : wb.cell? ⟨g, 13, none⟩ = some (.int .u32 (c.of_ : Nat)) := by rw [hB.cell]; rfl
  have HW := Lib.hid hb
  clear hB hb h h2
  generalize c.cells = C at *
  generalize c.of_ = o at *
  go_enter Try.func22, Try.ntmps22
  go_upto_region 1 with fail
  rw [← e2, ← e1]
  clear e1 e2
  go_wp2_with fail
  go_ret
  exact ⟨rfl, HW.out⟩
set_option maxHeartbeats 1000000 in
theorem fine_bad (c : Cm) (w : World) (h : c.undo = false) (h2 : c.of_ = 0) (hf : c.e.Fit) (hg : goodE c.e = false) : FineOpen c w false := by
  unfold FineOpen
  have HG : Hid (∀ W, Calls Try.prog 14 #[.agg c.e.cells] W fun x w' => x = .returned (.bool false) ∧ Below W.heap.size W w') := fun W => hg ▸ r_good c.e W hf
  obtain ⟨g, wb, e1, e2, hB, hb⟩ := boxd_new w c.cells 40
  have HS := Lib.hid (ev_info' c.e)
  have a0 : wb.cell? ⟨g, 0, none⟩ = some (.bool false) := by rw [hB.cell, ← h]; rfl
  have a13 : wb.cell? ⟨g, 13, none⟩ = some (.int .u32 0) := by rw [hB.cell]; show some (Value.int .u32 (c.of_ : Nat)) = _; rw [h2]; rfl
  have HM := Lib.hid (ev_mid hB)
  have HW := Lib.hid hb
  clear hB hb h h2 hf hg
  generalize c.cells = C at *
  go_enter Try.func22, Try.ntmps22
  go_upto_region 1 with fail
  rw [← e2, ← e1]
  clear e1 e2
  go_wp2_with (first
    | (refine load_mid_want (by rfl) 25 _ rfl _ _ rfl c.e.cells _ HM.out Try.underlying25 rfl HS.out ?_)
    | (go_at_call 14
       refine (HG.out wb).mono ?_
       rintro e y1 ⟨rfl, hb⟩
       have HW1 := Lib.hid (below_via HW.out hb)
       clear hb))
  go_ret
  exact ⟨rfl, HW1.out⟩
set_option maxHeartbeats 1000000 in
theorem fine_key (c : Cm) (w : World) (h : c.undo = false) (h2 : c.of_ = 0) (hf : c.e.Fit) (hg : goodE c.e = true) : FineOpen c w (decide (c.e.key = c.key)) := by
  unfold FineOpen
  have HG : Hid (∀ W, Calls Try.prog 14 #[.agg c.e.cells] W fun x w' => x = .returned (.bool true) ∧ Below W.heap.size W w') := fun W => hg ▸ r_good c.e W hf
  obtain ⟨g, wb, e1, e2, hB, hb⟩ := boxd_new w c.cells 40
  have HS := Lib.hid (ev_info' c.e)
  have a0 : wb.cell? ⟨g, 0, none⟩ = some (.bool false) := by rw [hB.cell, ← h]; rfl
  have a1 : wb.cell? ⟨g, 1, none⟩ = some (.int .u32 (c.key : Nat)) := by rw [hB.cell]; rfl
  have a4 : wb.cell? ⟨g, 4, none⟩ = some (.int .u32 (c.e.key : Nat)) := by rw [hB.cell]; rfl
  have a13 : wb.cell? ⟨g, 13, none⟩ = some (.int .u32 0) := by rw [hB.cell]; show some (Value.int .u32 (c.of_ : Nat)) = _; rw [h2]; rfl
  have HM := Lib.hid (ev_mid hB)
  have HW := Lib.hid hb
  have HR : Hid (decide (c.e.key = c.key) = ((c.e.key : Int) == (c.key : Int))) := show _ = _ by
    by_cases hk : c.e.key = c.key
    · rw [decide_eq_true hk, hk]; simp
    · rw [decide_eq_false hk]; symm; rw [beq_eq_false_iff_ne]; omega
  rw [HR.out]
  have l := World.block_lt_of_cell? wb _ a0
  clear hB hb h h2 hf hg HR
  generalize c.cells = C at *
  generalize c.e.key = k1 at *
  generalize c.key = k2 at *
  go_enter Try.func22, Try.ntmps22
  go_upto_region 1 with fail
  rw [← e2, ← e1]
  clear e1 e2
  go_wp2_with (first
    | (refine load_mid_want (by rfl) 25 _ rfl _ _ rfl c.e.cells _ HM.out Try.underlying25 rfl HS.out ?_)
    | (go_at_call 14
       refine (HG.out wb).mono ?_
       rintro e y1 ⟨rfl, hb⟩
       have HW1 := Lib.hid (below_via HW.out hb)
       have c1 := (hb.cell (p := ⟨g, 1, none⟩) l).trans a1
       have c4 := (hb.cell (p := ⟨g, 4, none⟩) l).trans a4
       clear hb))
  go_ret
  exact ⟨rfl, HW1.out⟩
theorem r_fine (c : Cm) (w : World) (hf : c.e.Fit) :
    Calls Try.prog 22 #[.agg c.cells] w fun x w' => x = .returned (.bool (fineC c)) ∧ Below w.heap.size w w' := by
  cases h : c.undo with
  | true =>
    rw [show fineC c = eqE c.e ev0 by unfold fineC; rw [if_pos h]]
    exact fine_undo c w h
  | false =>
    by_cases h2 : c.of_ = 0
    · cases hg : goodE c.e with
      | false =>
        rw [show fineC c = false by unfold fineC; simp [h, hg]]
        exact fine_bad c w h h2 hf hg
      | true =>
        rw [show fineC c = decide (c.e.key = c.key) by unfold fineC; simp [h, h2, hg]]
        exact fine_key c w h h2 hf hg
    · rw [show fineC c = false by unfold fineC; simp [h, h2]]
      exact fine_of c w h h2
/-- The bytes of a command. -/
def cmdS (c : Cm) : ByteArray := (lowS c.undo.toNat 1 ++ lowS c.key 4) ++ (if c.undo = true then lowS c.of_ 4 else encS c.e)
def packT (c : Cm) : ByteArray := if fineC c = true then cmdS c else ⟨#[]⟩
def packX (c : Cm) : Int := if fineC c = true then 0 else 11
theorem held_call {P : Program} {f : FuncId} {args : Array Value} {v a b : Value} {w W : World} {g : Nat}
    (hS : W.cell? ⟨g, 0, none⟩ = some a ∧ W.cell? ⟨g, 1, none⟩ = some b ∧ Below w.heap.size w W) (hc : Calls P f args W fun e w' => e = .returned v ∧ Below W.heap.size W w') :
    Calls P f args W fun e w' => e = .returned v ∧ (w'.cell? ⟨g, 0, none⟩ = some a ∧ w'.cell? ⟨g, 1, none⟩ = some b ∧ Below w.heap.size w w') ∧ Below W.heap.size W w' := by
  have l := World.block_lt_of_cell? W _ hS.1
  exact hc.mono fun e w' ⟨he, hb⟩ => ⟨he, ⟨(hb.cell (p := ⟨g, 0, none⟩) l).trans hS.1, (hb.cell (p := ⟨g, 1, none⟩) l).trans hS.2.1, hS.2.2.trans (hb.mono hS.2.2.size)⟩, hb⟩
set_option maxHeartbeats 1000000 in
theorem pack_no (c : Cm) (w : World) (hf : c.e.Fit) (h : fineC c = false) :
    Calls Try.prog 18 #[.agg c.cells] w fun x w' => x = .returned (.tuple #[.string ⟨#[]⟩, .int .i64 11]) ∧ Below w.heap.size w w' := by
  have HG : Hid (∀ W, Calls Try.prog 22 #[.agg c.cells] W fun x w' => x = .returned (.bool false) ∧ Below W.heap.size W w') := fun W => h ▸ r_fine c W hf
  have HS := Lib.hid (cm_info c)
  clear hf h
  generalize c.cells = C at *
  obtain ⟨g, wb, e1, e2, hB, hb⟩ := boxd_new w C 40
  have HB := Lib.hid hB
  have HW := Lib.hid hb
  clear hB hb
  go_enter Try.func18, Try.ntmps18
  go_upto_region 1 with fail
  rw [← e2, ← e1]
  clear e1 e2
  go_wp2_with (first
    | (refine wpList_load_row rfl 40 _ rfl _ rfl _ _ _ _ HB.out Try.underlying40 rfl HS.out ?_)
    | (go_at_call 22
       refine (HG.out wb).mono ?_
       rintro e y1 ⟨rfl, hb⟩
       have HW1 := Lib.hid (below_via HW.out hb)
       clear hb))
  go_ret2
  exact ⟨rfl, HW1.out⟩
theorem ranged_fine {c : Cm} (hf : c.e.Fit) (h : fineC c = true) (hu : c.undo = false) : Ranged c.e := by
  unfold fineC at h
  rw [hu] at h
  simp at h
  exact ranged_of hf h.2.1
set_option maxRecDepth 20000 in
set_option maxHeartbeats 2000000 in
theorem pack_yes (c : Cm) (w : World) (hf : c.Fit) (h : fineC c = true) :
    Calls Try.prog 18 #[.agg c.cells] w fun x w' => x = .returned (.tuple #[.string (cmdS c), .int .i64 0]) ∧ Below w.heap.size w w' := by
  have HG : Hid (∀ W, Calls Try.prog 22 #[.agg c.cells] W fun x w' => x = .returned (.bool true) ∧ Below W.heap.size W w') := fun W => h ▸ r_fine c W hf.e
  have HS := Lib.hid (cm_info c)
  have HSE := Lib.hid (ev_info' c.e)
  obtain ⟨g, wb, e1, e2, hB, hb⟩ := boxd_new w c.cells 40
  have a0 : wb.cell? ⟨g, 0, none⟩ = some (.bool c.undo) := by rw [hB.cell]; rfl
  have a1 : wb.cell? ⟨g, 1, none⟩ = some (.int .u32 (c.key : Nat)) := by rw [hB.cell]; rfl
  have a13 : wb.cell? ⟨g, 13, none⟩ = some (.int .u32 (c.of_ : Nat)) := by rw [hB.cell]; rfl
  have HM := Lib.hid (ev_mid hB)
  have HB := Lib.hid hB
  have HW := Lib.hid hb
  have HFL : Hid (∀ W, Calls Try.prog 48 #[.bool c.undo] W fun x w' => x = .returned (.int .u64 (c.undo.toNat : Nat)) ∧ W = w') := fun W => r_flag c.undo W
  have hu1 : c.undo.toNat < 18446744073709551616 := by cases c.undo <;> decide
  have HB1 : Hid (∀ W, Calls Try.prog 47 #[.int .u64 (c.undo.toNat : Nat), .int .i64 1] W fun x w' => x = .returned (.string (lowS c.undo.toNat 1)) ∧ Below W.heap.size W w') := fun W => r_bytes c.undo.toNat 1 W hu1 (by decide)
  have hk := hf.key
  have ho := hf.of_
  have HB4 : Hid (∀ W, Calls Try.prog 47 #[.int .u64 (c.key : Nat), .int .i64 4] W fun x w' => x = .returned (.string (lowS c.key 4)) ∧ Below W.heap.size W w') := fun W => r_bytes c.key 4 W (by omega) (by decide)
  have HO4 : Hid (∀ W, Calls Try.prog 47 #[.int .u64 (c.of_ : Nat), .int .i64 4] W fun x w' => x = .returned (.string (lowS c.of_ 4)) ∧ Below W.heap.size W w') := fun W => r_bytes c.of_ 4 W (by omega) (by decide)
  have m0 := key_u64 hk
  have m1 := key_u64 ho
  have HE : Hid (c.undo = false → ∀ W, Calls Try.prog 27 #[.agg c.e.cells] W fun x w' => x = .returned (.string (encS c.e)) ∧ Below W.heap.size W w') := fun hu W => r_ebytes c.e W (ranged_fine hf.e h hu)
  have s1 : (lowS c.undo.toNat 1).size = 1 := low_size _ _
  have s2 : (lowS c.key 4).size = 4 := low_size _ _
  have s3 : (lowS c.of_ 4).size = 4 := low_size _ _
  have s4 : (encS c.e).size ≤ 88 := by
    have := cat_size c.e 11 (by decide)
    rwa [show (numz c.e).take 11 = numz c.e from rfl] at this
  have hX : cmdS c = (lowS c.undo.toNat 1 ++ lowS c.key 4) ++ (if c.undo = true then lowS c.of_ 4 else encS c.e) := rfl
  rw [hX]
  clear hX
  have l := World.block_lt_of_cell? wb _ a0
  clear hB hb hf h hk ho hu1
  generalize c.cells = C at *
  generalize c.e.cells = D at *
  generalize lowS c.undo.toNat 1 = t1 at *
  generalize lowS c.key 4 = t2 at *
  generalize lowS c.of_ 4 = t3 at *
  generalize encS c.e = t4 at *
  generalize c.key = k at *
  generalize c.of_ = o at *
  generalize (c.undo.toNat : Int) = n1 at *
  have z1 : ¬ (9223372036854775807 < t1.size + t2.size) := by omega
  have z2 : (t1 ++ t2).size = 5 := by rw [ByteArray.size_append]; omega
  have z3 : ¬ (9223372036854775807 < (t1 ++ t2).size + t3.size) := by omega
  have z4 : ¬ (9223372036854775807 < (t1 ++ t2).size + t4.size) := by omega
  have Z3 := Lib.hid z3
  have Z4 := Lib.hid z4
  clear s1 s2 s3 s4 z2 z3 z4
  cases hu : c.undo with
  | true =>
    rw [hu] at a0 HFL HE
    rw [if_pos rfl]
    go_enter Try.func18, Try.ntmps18
    go_upto_region 1 with fail
    rw [← e2, ← e1]
    clear e1 e2
    go_wp2_with (first
      | (refine wpList_load_row rfl 40 _ rfl _ rfl _ _ _ _ HB.out Try.underlying40 rfl HS.out ?_)
      | (go_at_call 22
         refine (HG.out wb).mono ?_
         rintro e y1 ⟨rfl, hb⟩
         have HW1 := Lib.hid (below_via HW.out hb)
         have f0 := (hb.cell (p := ⟨g, 0, none⟩) l).trans a0
         have f1 := (hb.cell (p := ⟨g, 1, none⟩) l).trans a1
         have f13 := (hb.cell (p := ⟨g, 13, none⟩) l).trans a13
         have HM1 : Hid (y1.rangeAt g 2 D.toList) := fun j v hj => (hb.cell (p := ⟨g, 2 + j, none⟩) l).trans (HM.out j v hj)
         have l1 := World.block_lt_of_cell? y1 _ f0
         clear hb a0 a1 a13 HM HB HG HW))
    have hS0 : y1.drew.cell? ⟨g, 0, none⟩ = some (.bool true) ∧ y1.drew.cell? ⟨g, 1, none⟩ = some (.int .u32 (k : Nat)) ∧ Below y1.heap.size y1 y1.drew := ⟨f0, f1, below_drew (Below.refl _ _)⟩
    go_region_held3 (fun w' => w'.cell? ⟨g, 0, none⟩ = some (.bool true) ∧ w'.cell? ⟨g, 1, none⟩ = some (.int .u32 (k : Nat)) ∧ Below y1.heap.size y1 w')
      (first
        | assumption)
      (first
        | (go_at_call 48
           refine (HFL.out _).mono ?_
           rintro e w' ⟨rfl, rfl⟩)
        | (go_at_call 47
           with_reducible refine (held_call (by assumption) (HB1.out _)).mono ?_
           rintro e y2 ⟨rfl, hS2, hb2⟩)
        | (go_at_call 47
           with_reducible refine (held_call (by assumption) (HB4.out _)).mono ?_
           rintro e y3 ⟨rfl, hS3, hb3⟩))
    obtain ⟨q0, -, hbf⟩ := hS3
    have q13 := (hbf.cell (p := ⟨g, 13, none⟩) l1).trans f13
    have HM3 : Hid (y3.rangeAt g 2 D.toList) := fun j v hj => (hbf.cell (p := ⟨g, 2 + j, none⟩) l1).trans (HM1.out j v hj)
    have HW3 := Lib.hid (HW1.out.trans (hbf.mono HW1.out.size))
    have z3 := Z3.out
    have z4 := Z4.out
    clear hbf hS0 hS2 hb2 hb3 f0 f1 f13 HM1 l1 HW1 HFL HB1 HB4
    go_wp2_with fail
    refine (HO4.out y3).mono ?_
    rintro e y4 ⟨rfl, hb⟩
    have HW4 := Lib.hid (below_via HW3.out hb)
    go_wp2_with fail
    go_ret2
    exact ⟨rfl, HW4.out⟩
  | false =>
    rw [hu] at a0 HFL HE
    have HEF := Lib.hid (HE.out rfl)
    clear HE
    rw [if_neg (by decide)]
    go_enter Try.func18, Try.ntmps18
    go_upto_region 1 with fail
    rw [← e2, ← e1]
    clear e1 e2
    go_wp2_with (first
      | (refine wpList_load_row rfl 40 _ rfl _ rfl _ _ _ _ HB.out Try.underlying40 rfl HS.out ?_)
      | (go_at_call 22
         refine (HG.out wb).mono ?_
         rintro e y1 ⟨rfl, hb⟩
         have HW1 := Lib.hid (below_via HW.out hb)
         have f0 := (hb.cell (p := ⟨g, 0, none⟩) l).trans a0
         have f1 := (hb.cell (p := ⟨g, 1, none⟩) l).trans a1
         have f13 := (hb.cell (p := ⟨g, 13, none⟩) l).trans a13
         have HM1 : Hid (y1.rangeAt g 2 D.toList) := fun j v hj => (hb.cell (p := ⟨g, 2 + j, none⟩) l).trans (HM.out j v hj)
         have l1 := World.block_lt_of_cell? y1 _ f0
         clear hb a0 a1 a13 HM HB HG HW))
    have hS0 : y1.drew.cell? ⟨g, 0, none⟩ = some (.bool false) ∧ y1.drew.cell? ⟨g, 1, none⟩ = some (.int .u32 (k : Nat)) ∧ Below y1.heap.size y1 y1.drew := ⟨f0, f1, below_drew (Below.refl _ _)⟩
    go_region_held3 (fun w' => w'.cell? ⟨g, 0, none⟩ = some (.bool false) ∧ w'.cell? ⟨g, 1, none⟩ = some (.int .u32 (k : Nat)) ∧ Below y1.heap.size y1 w')
      (first
        | assumption)
      (first
        | (go_at_call 48
           refine (HFL.out _).mono ?_
           rintro e w' ⟨rfl, rfl⟩)
        | (go_at_call 47
           with_reducible refine (held_call (by assumption) (HB1.out _)).mono ?_
           rintro e y2 ⟨rfl, hS2, hb2⟩)
        | (go_at_call 47
           with_reducible refine (held_call (by assumption) (HB4.out _)).mono ?_
           rintro e y3 ⟨rfl, hS3, hb3⟩))
    obtain ⟨q0, -, hbf⟩ := hS3
    have q13 := (hbf.cell (p := ⟨g, 13, none⟩) l1).trans f13
    have HM3 : Hid (y3.rangeAt g 2 D.toList) := fun j v hj => (hbf.cell (p := ⟨g, 2 + j, none⟩) l1).trans (HM1.out j v hj)
    have HW3 := Lib.hid (HW1.out.trans (hbf.mono HW1.out.size))
    have z3 := Z3.out
    have z4 := Z4.out
    clear hbf hS0 hS2 hb2 hb3 f0 f1 f13 HM1 l1 HW1 HFL HB1 HB4
    go_wp2_with (first
      | (refine load_mid_want (by rfl) 25 _ rfl _ _ rfl D _ HM3.out Try.underlying25 rfl HSE.out ?_)
      | (go_at_call 27
         refine (HEF.out y3).mono ?_
         rintro e y4 ⟨rfl, hb⟩
         have HW4 := Lib.hid (below_via HW3.out hb)
         clear hb))
    go_ret2
    exact ⟨rfl, HW4.out⟩
theorem r_pack (c : Cm) (w : World) (hf : c.Fit) :
    Calls Try.prog 18 #[.agg c.cells] w fun x w' => x = .returned (.tuple #[.string (packT c), .int .i64 (packX c)]) ∧ Below w.heap.size w w' := by
  cases h : fineC c with
  | false =>
    rw [show packT c = ⟨#[]⟩ by unfold packT; simp [h], show packX c = 11 by unfold packX; simp [h]]
    exact pack_no c w hf.e h
  | true =>
    rw [show packT c = cmdS c by unfold packT; simp [h], show packX c = 0 by unfold packX; simp [h]]
    exact pack_yes c w hf h
end Go.Proofs.Ytcmdonckilajjaa.Event
namespace Go.Proofs.Ytcmdonckilajjaa.Event
open Fl Date Cal Pack

/-- Numbers of these sizes, one behind the other, from place a of a text on. -/
def vals (b : ByteArray) (a : Nat) : List Nat → List (Nat × Nat)
  | [] => []
  | n :: l => (valN b a n, n) :: vals b (a + n) l
theorem val_byte (b : ByteArray) : ∀ (n a i : Nat), i < n → valN b a n / 256 ^ i % 256 = byteN b (a + i)
  | n + 1, a, 0, _ => by
    have := byteN_lt b a
    show (byteN b a + 256 * valN b (a + 1) n) / 256 ^ 0 % 256 = byteN b a
    rw [Nat.pow_zero, Nat.div_one]
    omega
  | n + 1, a, i + 1, h => by
    have h1 := byteN_lt b a
    have h2 := val_byte b n (a + 1) i (by omega)
    show (byteN b a + 256 * valN b (a + 1) n) / 256 ^ (i + 1) % 256 = byteN b (a + (i + 1))
    rw [Nat.pow_succ, Nat.mul_comm (256 ^ i), ← Nat.div_div_eq_div_mul, show (byteN b a + 256 * valN b (a + 1) n) / 256 = valN b (a + 1) n by omega, h2]
    congr 1
    omega
theorem byte_ext {a b : ByteArray} (hs : a.size = b.size) (h : ∀ i, i < a.size → byteN a i = byteN b i) : a = b := by
  apply ByteArray.ext
  apply Array.ext
  · exact hs
  · intro i h1 h2
    have := h i h1
    unfold byteN at this
    rw [Array.getD_eq_getD_getElem?, Array.getD_eq_getD_getElem?, Array.getElem?_eq_getElem h1, Array.getElem?_eq_getElem h2] at this
    exact UInt8.toNat_inj.1 this
theorem byteN_ext (b : ByteArray) {a e i : Nat} (he : e ≤ b.size) (hi : a + i < e) : byteN (b.extract a e) i = byteN b (a + i) := by
  unfold byteN
  rw [ByteArray.data_extract, Array.getD_eq_getD_getElem?, Array.getD_eq_getD_getElem?, Array.getElem?_extract]
  rw [if_pos (by show i < min e b.data.size - a; have : b.data.size = b.size := rfl; omega)]
theorem size_ext (b : ByteArray) {a e : Nat} (he : e ≤ b.size) : (b.extract a e).size = e - a := by
  rw [ByteArray.size_extract]
  omega
theorem low_val (b : ByteArray) {a n : Nat} (h : a + n ≤ b.size) : lowS (valN b a n) n = b.extract a (a + n) := by
  have h1 := size_ext b (a := a) h
  refine byte_ext (by rw [low_size, h1]; omega) fun i hi => ?_
  rw [low_size] at hi
  rw [byteN_low hi, val_byte b n a i hi, byteN_ext b h (by omega)]
theorem cat_vals (b : ByteArray) : ∀ (l : List Nat) (a : Nat), a + l.sum ≤ b.size → catS (vals b a l) = b.extract a (a + l.sum)
  | [], a, _ => by
    show (⟨#[]⟩ : ByteArray) = b.extract a (a + 0)
    apply ByteArray.ext
    rw [ByteArray.data_extract, Nat.add_zero]
    exact (Array.extract_empty_of_stop_le_start (Nat.le_refl a)).symm
  | n :: l, a, h => by
    rw [List.sum_cons] at h
    show lowS (valN b a n) n ++ catS (vals b (a + n) l) = _
    rw [cat_vals b l (a + n) (by omega), low_val b (by omega), List.sum_cons]
    have h1 := size_ext b (a := a) (e := a + n) (by omega)
    have h2 := size_ext b (a := a + n) (e := a + n + l.sum) (by omega)
    have h3 := size_ext b (a := a) (e := a + (n + l.sum)) (by omega)
    refine byte_ext (by rw [ByteArray.size_append, h1, h2, h3]; omega) fun i hi => ?_
    rw [ByteArray.size_append, h1, h2] at hi
    rw [byteN_ext b (by omega) (by omega)]
    by_cases hn : i < n
    · rw [byteN_left _ _ (by rw [h1]; omega), byteN_ext b (by omega) (by omega)]
    · obtain ⟨k, rfl⟩ : ∃ k, i = n + k := ⟨i - n, by omega⟩
      have e : n = (b.extract a (a + n)).size := by rw [h1]; omega
      conv => lhs; rw [show n + k = (b.extract a (a + n)).size + k by rw [← e]]
      rw [byteN_right, byteN_ext b (by omega) (by omega)]
      congr 1
      omega
/-- What stands behind other bytes. -/
theorem val_behind (p s : ByteArray) (a n : Nat) : valN (p ++ s) (p.size + a) n = valN s a n := by
  induction n generalizing a with
  | zero => rfl
  | succ n ih =>
    show byteN (p ++ s) (p.size + a) + 256 * valN (p ++ s) (p.size + a + 1) n = byteN s a + 256 * valN s (a + 1) n
    rw [byteN_right, Nat.add_assoc, ih (a + 1)]
theorem vals_behind (p s : ByteArray) : ∀ (l : List Nat) (a : Nat), vals (p ++ s) (p.size + a) l = vals s a l
  | [], _ => rfl
  | n :: l, a => by
    show (valN (p ++ s) (p.size + a) n, n) :: vals (p ++ s) (p.size + a + n) l = (valN s a n, n) :: vals s (a + n) l
    rw [val_behind, Nat.add_assoc, vals_behind p s l (a + n)]
theorem vals_cat : ∀ (l : List (Nat × Nat)), (∀ x ∈ l, x.1 < 256 ^ x.2) → vals (catS l) 0 (l.map (·.2)) = l
  | [], _ => rfl
  | x :: l, h => by
    show (valN (lowS x.1 x.2 ++ catS l) 0 x.2, x.2) :: vals (lowS x.1 x.2 ++ catS l) (0 + x.2) (l.map (·.2)) = x :: l
    have hx := h x (List.mem_cons_self ..)
    have h1 : valN (lowS x.1 x.2 ++ catS l) 0 x.2 = x.1 := by
      rw [val_of x.2 0 x.1 (fun i hi => by rw [Nat.zero_add, byteN_left _ _ (by rw [low_size]; exact hi), byteN_low hi]), Nat.mod_eq_of_lt hx]
    have h2 := vals_behind (lowS x.1 x.2) (catS l) (l.map (·.2)) 0
    rw [low_size, Nat.add_zero] at h2
    rw [h1, Nat.zero_add, h2, vals_cat l (fun y hy => h y (List.mem_cons_of_mem _ hy))]
theorem cat_length : ∀ (l : List (Nat × Nat)), (catS l).size = (l.map (·.2)).sum
  | [] => rfl
  | x :: l => by
    show (lowS x.1 x.2 ++ catS l).size = _
    rw [ByteArray.size_append, low_size, cat_length l, List.map_cons, List.sum_cons]
theorem numz_sizes (e : Ev) : (numz e).map (·.2) = sizeL := rfl
/-- Every event has 39 bytes. -/
theorem enc_size (e : Ev) : (encS e).size = 39 := by
  unfold encS
  rw [cat_length, numz_sizes]
  decide
theorem numz_lt {e : Ev} (h : Ranged e) : ∀ x ∈ numz e, x.1 < 256 ^ x.2 := by
  intro x hx
  have h1 := h.kind; have h2 := h.day; have h3 := h.key; have h4 := h.loan; have h5 := h.amount; have h6 := h.rate; have h7 := h.income; have h8 := h.status; have h9 := h.plan; have h10 := h.family
  have hs : e.sub.toNat < 256 := by cases e.sub <;> decide
  simp only [numz, numE, sizeL, List.zip_cons_cons, List.zip_nil_right, List.mem_cons, List.not_mem_nil, or_false] at hx
  rcases hx with rfl | rfl | rfl | rfl | rfl | rfl | rfl | rfl | rfl | rfl | rfl <;> simp <;> omega
/-- The fields of the bytes. -/
def fld (b : ByteArray) (j : Nat) : Nat := ((vals b 0 sizeL).getD j (0, 0)).1
theorem fld_enc {e : Ev} (h : Ranged e) (j : Nat) : fld (encS e) j = ((numz e).getD j (0, 0)).1 := by
  unfold fld encS
  rw [← numz_sizes e, vals_cat _ (numz_lt h)]
/-- The event of the bytes, if they are one's. -/
def evD (b : ByteArray) : Ev := ⟨(fld b 0 : Nat), (fld b 1 : Nat), fld b 2, (fld b 3 : Nat), (fld b 4 : Nat), ofF (fld b 5), ofF (fld b 6), decide (fld b 7 = 1), (fld b 8 : Nat), (fld b 9 : Nat), (fld b 10 : Nat)⟩
/-- Are they? -/
def okD (b : ByteArray) : Bool := decide (b.size = 39) && (decide (fld b 4 ≤ 1000000000) && (ofB (fld b 5) && (ofB (fld b 6) && (decide (fld b 7 ≤ 1) && goodE (evD b)))))
def decE (b : ByteArray) : Ev := if okD b = true then evD b else ev0
def decX (b : ByteArray) : Int := if okD b = true then 0 else 11
theorem of_small {u : Nat} (h : u < 9218868437227405312) : ofF u = u ∧ ofB u = true := by
  unfold ofF ofB
  exact ⟨if_pos h, decide_eq_true h⟩
/-- What was encoded is decoded as it was. -/
theorem dec_enc {e : Ev} (hf : e.Fit) (hg : goodE e = true) : okD (encS e) = true ∧ evD (encS e) = e := by
  have h := ranged_of hf hg
  have hE : evD (encS e) = e := by
    unfold evD
    simp only [fld_enc h]
    have h1 := h.kind; have h2 := h.day; have h4 := h.loan; have h5 := h.amount; have h8 := h.status; have h9 := h.plan; have h10 := h.family
    have r5 := (of_small h.rate).1
    have r6 := (of_small h.income).1
    obtain ⟨kind, day, key, loan, amount, rate, income, sub, status, plan, family⟩ := e
    simp only [numz, numE, sizeL, List.zip_cons_cons, List.zip_nil_right, List.getD_cons_zero, List.getD_cons_succ, Ev.mk.injEq] at *
    refine ⟨by omega, by omega, trivial, by omega, by omega, r5, r6, by cases sub <;> decide, by omega, by omega, by omega⟩
  refine ⟨?_, hE⟩
  unfold okD
  rw [enc_size, hE, hg]
  simp only [fld_enc h]
  have h5 := h.amount
  have hs : e.sub.toNat ≤ 1 := by cases e.sub <;> decide
  have r5 := (of_small h.rate).2
  have r6 := (of_small h.income).2
  simp only [numz, numE, sizeL, List.zip_cons_cons, List.zip_nil_right, List.getD_cons_zero, List.getD_cons_succ]
  rw [r5, r6]
  simp
  omega
theorem of_yes {u : Nat} (h : ofB u = true) : ofF u = u := by
  unfold ofB at h
  unfold ofF
  rw [if_pos (of_decide_eq_true h)]
/-- What was decoded is encoded as it stood. -/
theorem enc_dec {b : ByteArray} (h : okD b = true) : encS (evD b) = b := by
  unfold okD at h
  simp only [Bool.and_eq_true, decide_eq_true_iff] at h
  obtain ⟨hs, -, h5, h6, h7, -⟩ := h
  have r5 := of_yes h5
  have r6 := of_yes h6
  have r7 : (decide (fld b 7 = 1)).toNat = fld b 7 := by
    by_cases h : fld b 7 = 1
    · rw [h]; rfl
    · rw [decide_eq_false h]; show 0 = fld b 7; omega
  have e : numz (evD b) = vals b 0 sizeL := by
    have : numE (evD b) = [fld b 0, fld b 1, fld b 2, fld b 3, fld b 4, fld b 5, fld b 6, fld b 7, fld b 8, fld b 9, fld b 10] := by
      unfold numE evD
      dsimp only
      rw [r5, r6, r7]
      simp only [Int.toNat_natCast]
    unfold numz
    rw [this]
    rfl
  unfold encS
  rw [e, cat_vals b sizeL 0 (by rw [hs]; decide)]
  have h1 := size_ext b (a := 0) (e := 0 + sizeL.sum) (by rw [hs]; decide)
  refine byte_ext (by rw [h1, hs]; decide) fun i hi => ?_
  rw [h1] at hi
  rw [byteN_ext b (by rw [hs]; decide) (by omega), Nat.zero_add]
theorem good_dec {b : ByteArray} (h : okD b = true) : goodE (evD b) = true := by
  unfold okD at h
  simp only [Bool.and_eq_true] at h
  exact h.2.2.2.2.2
/-- No two events that differ have the same bytes. -/
theorem enc_inj {e f : Ev} (he : e.Fit) (hf : f.Fit) (ge : goodE e = true) (gf : goodE f = true) (h : encS e = encS f) : e = f := by
  rw [← (dec_enc he ge).2, h, (dec_enc hf gf).2]
/-- The command of the bytes, if they are one's. -/
def tailB (b : ByteArray) : ByteArray := b.extract 5 b.size
def cmD (b : ByteArray) : Cm := if valN b 0 1 = 1 then ⟨true, valN b 1 4, ev0, valN b 5 4⟩ else ⟨false, valN b 1 4, evD (tailB b), 0⟩
def okC (b : ByteArray) : Bool := decide (5 ≤ b.size) && (decide (valN b 0 1 ≤ 1) && (if valN b 0 1 = 1 then decide (b.size = 9) else okD (tailB b) && decide ((evD (tailB b)).key = valN b 1 4)))
def opnE (b : ByteArray) : Cm := if okC b = true then cmD b else cm0
def opnX (b : ByteArray) : Int := if okC b = true then 0 else 11
theorem cmd_undo_yes {c : Cm} (h : c.undo = true) : cmdS c = catS [(1, 1), (c.key, 4), (c.of_, 4)] := by
  unfold cmdS
  rw [h, if_pos rfl]
  show (lowS 1 1 ++ lowS c.key 4) ++ lowS c.of_ 4 = lowS 1 1 ++ (lowS c.key 4 ++ (lowS c.of_ 4 ++ ⟨#[]⟩))
  rw [show lowS c.of_ 4 ++ (⟨#[]⟩ : ByteArray) = lowS c.of_ 4 from ByteArray.append_empty .., ByteArray.append_assoc]
theorem cmd_undo_no {c : Cm} (h : c.undo = false) : cmdS c = catS [(0, 1), (c.key, 4)] ++ encS c.e := by
  unfold cmdS
  rw [h, if_neg (by decide)]
  show (lowS 0 1 ++ lowS c.key 4) ++ encS c.e = (lowS 0 1 ++ (lowS c.key 4 ++ ⟨#[]⟩)) ++ encS c.e
  rw [show lowS c.key 4 ++ (⟨#[]⟩ : ByteArray) = lowS c.key 4 from ByteArray.append_empty ..]
theorem cmd_size (c : Cm) : (cmdS c).size = if c.undo = true then 9 else 44 := by
  cases h : c.undo with
  | true => rw [cmd_undo_yes h, cat_length]; rfl
  | false => rw [cmd_undo_no h, ByteArray.size_append, cat_length, enc_size]; rfl
theorem vals_left (p s : ByteArray) : ∀ (l : List Nat) (a : Nat), a + l.sum ≤ p.size → vals (p ++ s) a l = vals p a l
  | [], _, _ => rfl
  | n :: l, a, h => by
    rw [List.sum_cons] at h
    have h1 : ∀ m c, c + m ≤ p.size → valN (p ++ s) c m = valN p c m := by
      intro m
      induction m with
      | zero => intro c _; rfl
      | succ m ih =>
        intro c hc
        show byteN (p ++ s) c + 256 * valN (p ++ s) (c + 1) m = byteN p c + 256 * valN p (c + 1) m
        rw [byteN_left _ _ (by omega), ih (c + 1) (by omega)]
    show (valN (p ++ s) a n, n) :: vals (p ++ s) (a + n) l = (valN p a n, n) :: vals p (a + n) l
    rw [h1 n a (by omega), vals_left p s l (a + n) (by omega)]
theorem tail_cat (p s : ByteArray) (h : p.size = 5) : tailB (p ++ s) = s := by
  unfold tailB
  have h1 := size_ext (p ++ s) (a := 5) (e := (p ++ s).size) (Nat.le_refl _)
  have h2 := ByteArray.size_append (a := p) (b := s)
  refine byte_ext (by rw [h1, h2]; omega) fun i hi => ?_
  rw [h1, h2] at hi
  rw [byteN_ext _ (Nat.le_refl _) (by rw [h2]; omega), show 5 + i = p.size + i by rw [h], byteN_right]
/-- What was packed is opened as it was. -/
theorem opn_pack {c : Cm} (hf : c.Fit) (hg : fineC c = true) : okC (cmdS c) = true ∧ cmD (cmdS c) = c := by
  have hk := hf.key
  have ho := hf.of_
  cases h : c.undo with
  | true =>
    have hv := vals_cat [(1, 1), (c.key, 4), (c.of_, 4)] (by simp; omega)
    rw [← cmd_undo_yes h] at hv
    have hz : (cmdS c).size = 9 := by rw [cmd_size, h]; rfl
    injection hv with v0 hv
    injection hv with v1 hv
    injection hv with v2 hv
    have v0 : valN (cmdS c) 0 1 = 1 := congrArg Prod.fst v0
    have v1 : valN (cmdS c) 1 4 = c.key := congrArg Prod.fst v1
    have v2 : valN (cmdS c) 5 4 = c.of_ := congrArg Prod.fst v2
    have he : c.e = ev0 := by
      unfold fineC at hg
      rw [if_pos h] at hg
      exact eqE_iff.1 hg
    refine ⟨by unfold okC; rw [v0, hz]; rfl, ?_⟩
    unfold cmD
    rw [if_pos v0, v1, v2, ← he, ← h]
  | false =>
    have hp : (catS [(0, 1), (c.key, 4)]).size = 5 := by rw [cat_length]; rfl
    have hv := vals_cat [(0, 1), (c.key, 4)] (by simp; omega)
    rw [← vals_left (catS [(0, 1), (c.key, 4)]) (encS c.e) _ 0 (by rw [hp]; exact (by decide : 0 + [1, 4].sum ≤ 5)), ← cmd_undo_no h] at hv
    have hz : (cmdS c).size = 44 := by rw [cmd_size, h]; rfl
    have ht : tailB (cmdS c) = encS c.e := by rw [cmd_undo_no h]; exact tail_cat _ _ hp
    injection hv with v0 hv
    injection hv with v1 hv
    have v0 : valN (cmdS c) 0 1 = 0 := congrArg Prod.fst v0
    have v1 : valN (cmdS c) 1 4 = c.key := congrArg Prod.fst v1
    unfold fineC at hg
    rw [if_neg (by rw [h]; decide)] at hg
    simp only [Bool.and_eq_true, decide_eq_true_iff] at hg
    obtain ⟨d1, d2⟩ := dec_enc hf.e hg.2.1
    refine ⟨?_, ?_⟩
    · unfold okC
      rw [v0, v1, ht, hz, d1, d2, hg.2.2]
      simp
    · unfold cmD
      rw [v0, if_neg (by decide), v1, ht, d2, ← hg.1, ← h]
/-- What was opened is packed as it stood, and has a form. -/
theorem pack_opn {b : ByteArray} (h : okC b = true) : cmdS (cmD b) = b ∧ fineC (cmD b) = true := by
  unfold okC at h
  simp only [Bool.and_eq_true, decide_eq_true_iff] at h
  obtain ⟨h5, h1, h2⟩ := h
  unfold cmD
  by_cases hu : valN b 0 1 = 1
  · rw [if_pos hu] at h2 ⊢
    have hz := of_decide_eq_true h2
    refine ⟨?_, by unfold fineC; rw [if_pos rfl]; exact eqE_self _⟩
    rw [cmd_undo_yes rfl]
    show catS [(1, 1), (valN b 1 4, 4), (valN b 5 4, 4)] = b
    have e : [(1, 1), (valN b 1 4, 4), (valN b 5 4, 4)] = vals b 0 [1, 4, 4] := by
      show _ = [(valN b 0 1, 1), (valN b 1 4, 4), (valN b 5 4, 4)]
      rw [hu]
    rw [e, cat_vals b [1, 4, 4] 0 (by rw [hz]; decide)]
    have h1 := size_ext b (a := 0) (e := 0 + [1, 4, 4].sum) (by rw [hz]; decide)
    refine byte_ext (by rw [h1, hz]; decide) fun i hi => ?_
    rw [h1] at hi
    rw [byteN_ext b (by rw [hz]; decide) (by omega), Nat.zero_add]
  · rw [if_neg hu] at h2 ⊢
    simp only [Bool.and_eq_true, decide_eq_true_iff] at h2
    refine ⟨?_, ?_⟩
    · rw [cmd_undo_no rfl]
      show catS [(0, 1), (valN b 1 4, 4)] ++ encS (evD (tailB b)) = b
      rw [enc_dec h2.1]
      have e : [(0, 1), (valN b 1 4, 4)] = vals b 0 [1, 4] := by
        show _ = [(valN b 0 1, 1), (valN b 1 4, 4)]
        rw [show valN b 0 1 = 0 by omega]
      rw [e, cat_vals b [1, 4] 0 h5]
      unfold tailB
      have z1 := size_ext b (a := 0) (e := 0 + [1, 4].sum) h5
      have z2 := size_ext b (a := 5) (e := b.size) (Nat.le_refl _)
      have z0 : 0 + [1, 4].sum = 5 := rfl
      refine byte_ext (by rw [ByteArray.size_append, z1, z2]; omega) fun i hi => ?_
      rw [ByteArray.size_append, z1, z2] at hi
      by_cases h3 : i < 5
      · rw [byteN_left _ _ (by rw [z1]; omega), byteN_ext b (a := 0) (e := 0 + [1, 4].sum) h5 (by omega), Nat.zero_add]
      · obtain ⟨k, rfl⟩ : ∃ k, i = 5 + k := ⟨i - 5, by omega⟩
        conv => lhs; rw [show 5 + k = (b.extract 0 (0 + [1, 4].sum)).size + k by rw [z1]; rfl]
        rw [byteN_right, byteN_ext b (Nat.le_refl _) (by omega)]
    · unfold fineC
      rw [if_neg (by exact (by decide : ¬ false = true))]
      show (decide (0 = 0) && (goodE (evD (tailB b)) && decide ((evD (tailB b)).key = valN b 1 4))) = true
      rw [good_dec h2.1, h2.2]
      simp
/-- No two commands that differ have the same bytes. -/
theorem cmd_inj {c d : Cm} (hc : c.Fit) (hd : d.Fit) (fc : fineC c = true) (fd : fineC d = true) (h : cmdS c = cmdS d) : c = d := by
  rw [← (opn_pack hc fc).2, h, (opn_pack hd fd).2]
end Go.Proofs.Ytcmdonckilajjaa.Event
namespace Go.Proofs.Ytcmdonckilajjaa.Event
open Fl Date Cal Pack

/-- The opener behind j numbers; the number that it tells then. -/
def ost (b : ByteArray) : Nat → OSt
  | 0 => ⟨b, 0, false⟩
  | j + 1 => ((ost b j).num ((sizeL.getD j 0 : Nat) : Int)).2
def ovl (b : ByteArray) (j : Nat) : Nat := ((ost b j).num ((sizeL.getD j 0 : Nat) : Int)).1
def offN (j : Nat) : Nat := (sizeL.take j).sum
theorem off_next {j : Nat} (h : j < 11) : offN (j + 1) = offN j + sizeL.getD j 0 := by
  match j, h with
  | 0, _ | 1, _ | 2, _ | 3, _ | 4, _ | 5, _ | 6, _ | 7, _ | 8, _ | 9, _ | 10, _ => rfl
theorem size_is {j : Nat} (h : j < 11) : sizedB ((sizeL.getD j 0 : Nat) : Int) = true := by
  match j, h with
  | 0, _ | 1, _ | 2, _ | 3, _ | 4, _ | 5, _ | 6, _ | 7, _ | 8, _ | 9, _ | 10, _ => rfl
theorem off_le {j : Nat} (h : j ≤ 11) : offN j ≤ 39 := by
  match j, h with
  | 0, _ | 1, _ | 2, _ | 3, _ | 4, _ | 5, _ | 6, _ | 7, _ | 8, _ | 9, _ | 10, _ | 11, _ => decide
theorem ost_next (b : ByteArray) {j : Nat} (h : j < 11) (hs : (ost b j).s = b) :
    ((ost b j).bad = false ∧ sizeL.getD j 0 + (ost b j).at_ ≤ b.size → ost b (j + 1) = ⟨b, (ost b j).at_ + sizeL.getD j 0, false⟩ ∧ ovl b j = valN b (ost b j).at_ (sizeL.getD j 0)) ∧
    (¬ ((ost b j).bad = false ∧ sizeL.getD j 0 + (ost b j).at_ ≤ b.size) → ost b (j + 1) = ⟨b, (ost b j).at_, true⟩ ∧ ovl b j = 0) := by
  have hz := size_is h
  constructor
  · rintro ⟨h1, h2⟩
    have hn : (ost b j).hasNum ((sizeL.getD j 0 : Nat) : Int) = true := by
      unfold OSt.hasNum
      rw [h1, hz, hs]
      simp only [Bool.not_false, Bool.true_and, decide_eq_true_iff]
      omega
    constructor
    · show ((ost b j).num _).2 = _
      unfold OSt.num
      rw [if_pos hn, Int.toNat_natCast, hs]
    · show ((ost b j).num _).1 = _
      unfold OSt.num
      rw [if_pos hn, Int.toNat_natCast, hs]
  · intro h1
    have hn : ¬ (ost b j).hasNum ((sizeL.getD j 0 : Nat) : Int) = true := by
      unfold OSt.hasNum
      rw [hz, hs]
      intro h2
      simp only [Bool.and_true, Bool.and_eq_true, Bool.not_eq_true', decide_eq_true_iff] at h2
      exact h1 ⟨h2.1, by omega⟩
    constructor
    · show ((ost b j).num _).2 = _
      unfold OSt.num OSt.spoil
      rw [if_neg hn, hs]
    · show ((ost b j).num _).1 = _
      unfold OSt.num
      rw [if_neg hn]
theorem ost_s (b : ByteArray) : ∀ j, j ≤ 11 → (ost b j).s = b
  | 0, _ => rfl
  | j + 1, h => by
    have ih := ost_s b j (by omega)
    have := ost_next b (j := j) (by omega) ih
    by_cases hc : (ost b j).bad = false ∧ sizeL.getD j 0 + (ost b j).at_ ≤ b.size
    · rw [(this.1 hc).1]
    · rw [(this.2 hc).1]
theorem ost_ok {b : ByteArray} (hb : 39 ≤ b.size) : ∀ j, j ≤ 11 → ost b j = ⟨b, offN j, false⟩
  | 0, _ => rfl
  | j + 1, h => by
    have ih := ost_ok hb j (by omega)
    have h1 := off_next (j := j) (by omega)
    have h2 := off_le (j := j + 1) h
    have := (ost_next b (j := j) (by omega) (by rw [ih])).1 ⟨by rw [ih], by rw [ih]; show sizeL.getD j 0 + offN j ≤ _; omega⟩
    rw [this.1, ih]
    show OSt.mk b (offN j + sizeL.getD j 0) false = _
    rw [h1]
theorem fld_at (b : ByteArray) {j : Nat} (h : j < 11) : fld b j = valN b (offN j) (sizeL.getD j 0) := by
  match j, h with
  | 0, _ | 1, _ | 2, _ | 3, _ | 4, _ | 5, _ | 6, _ | 7, _ | 8, _ | 9, _ | 10, _ => rfl
theorem ovl_ok {b : ByteArray} (hb : 39 ≤ b.size) {j : Nat} (h : j < 11) : ovl b j = fld b j := by
  have h0 := ost_ok hb j (by omega)
  have h1 := off_next h
  have h2 := off_le (j := j + 1) (by omega)
  have := (ost_next b h (by rw [h0])).1 ⟨by rw [h0], by rw [h0]; show sizeL.getD j 0 + offN j ≤ _; omega⟩
  rw [this.2, h0, fld_at b h]
theorem ost_at (b : ByteArray) : ∀ j, j ≤ 11 → (ost b j).bad = false → (ost b j).at_ = offN j ∧ offN j ≤ b.size
  | 0, _, _ => ⟨rfl, Nat.zero_le _⟩
  | j + 1, h, hb => by
    have hn := ost_next b (j := j) (by omega) (ost_s b j (by omega))
    have h1 := off_next (j := j) (by omega)
    by_cases hc : (ost b j).bad = false ∧ sizeL.getD j 0 + (ost b j).at_ ≤ b.size
    · obtain ⟨i1, -⟩ := ost_at b j (by omega) hc.1
      rw [(hn.1 hc).1]
      refine ⟨?_, ?_⟩
      · show (ost b j).at_ + sizeL.getD j 0 = _
        omega
      · have := hc.2
        omega
    · rw [(hn.2 hc).1] at hb
      cases hb
/-- It is at its end, and not spoilt, just if there were 39 bytes. -/
theorem ost_done (b : ByteArray) : (!(ost b 11).bad && decide ((ost b 11).at_ = (ost b 11).s.size)) = decide (b.size = 39) := by
  rw [ost_s b 11 (Nat.le_refl _)]
  cases hb : (ost b 11).bad with
  | true =>
    have : ¬ 39 ≤ b.size := fun h => by
      have := ost_ok h 11 (Nat.le_refl _)
      rw [this] at hb
      cases hb
    rw [decide_eq_false (show ¬ b.size = 39 by omega)]
    rfl
  | false =>
    obtain ⟨h1, -⟩ := ost_at b 11 (Nat.le_refl _) hb
    rw [h1, show offN 11 = 39 from rfl]
    simp only [Bool.not_false, Bool.true_and, decide_eq_decide]
    exact eq_comm
theorem ovl_lt (b : ByteArray) (j : Nat) : ovl b j < 18446744073709551616 := by
  show ((ost b j).num _).1 < _
  unfold OSt.num
  split
  · rw [Int.toNat_natCast]
    exact Nat.lt_of_lt_of_le (valN_lt ..) (Nat.le_trans (Nat.pow_le_pow_right (by decide) (size_le j)) (by decide))
  · exact (by decide : (0 : Nat) < 18446744073709551616)
end Go.Proofs.Ytcmdonckilajjaa.Event
