/- When bills fall due, in plain numbers: the months of a stretch, in time, late, years on, whole months; what follows. Of no one law. The document's own Months, InTime, Late, Year, Whole, at every input. The document's own InTime, Late, Year, Whole, at every input; two lists of ints that are one are told alike. -/
import Derived.Test.YtjjbdemhccpllaaDoorGCal
import Derived.Test.YtjjbdemhccpllaaDoorGA
namespace Go.Proofs.YtjjbdemhccpllaaDoor.Due
open Cal Date

/-- How many months' first days are not above x. -/
def cnt (x : Int) : Nat := if x < 0 then 0 else mo x.toNat + 1
theorem lt_cnt (x : Int) (m : Nat) : m < cnt x ↔ ((st m : Nat) : Int) ≤ x := by
  unfold cnt
  by_cases h : x < 0
  · rw [if_pos h]; omega
  · rw [if_neg h]
    obtain ⟨h1, h2⟩ := mo_in x.toNat
    constructor
    · intro hm
      have := st_mono (show m ≤ mo x.toNat by omega)
      omega
    · intro hm
      refine Nat.lt_of_not_le fun hge => ?_
      have := st_mono (show mo x.toNat + 1 ≤ m from hge)
      omega
theorem cnt_mono {x y : Int} (h : x ≤ y) : cnt x ≤ cnt y := by
  refine Nat.le_of_not_lt fun hlt => ?_
  have := (lt_cnt x (cnt y)).1 hlt
  have h2 : ¬ ((st (cnt y) : Nat) : Int) ≤ y := fun h => Nat.lt_irrefl _ ((lt_cnt y (cnt y)).2 h)
  omega
theorem cnt_le {x : Int} (h : x ≤ 87658) : cnt x ≤ 2880 := by
  unfold cnt
  split
  · omega
  · have := mo_lt (n := x.toNat) (by omega)
    omega
theorem cnt_nat (n : Nat) : cnt (n : Int) = mo n + 1 := by
  unfold cnt
  rw [if_neg (by omega), Int.toNat_natCast]

/-- So many numbers from p on. -/
def seqL (p n : Nat) : List Int := (List.range n).map fun i => ((p + i : Nat) : Int)
theorem seq_len (p n : Nat) : (seqL p n).length = n := by unfold seqL; simp
theorem seq_succ (p n : Nat) : seqL p (n + 1) = seqL p n ++ [((p + n : Nat) : Int)] := by
  unfold seqL; rw [List.range_succ, List.map_append]; rfl
theorem seq_add (p n m : Nat) : seqL p (n + m) = seqL p n ++ seqL (p + n) m := by
  induction m with
  | zero => simp [seqL]
  | succ m ih => rw [← Nat.add_assoc, seq_succ, ih, seq_succ, List.append_assoc, Nat.add_assoc]
def monOK (a b : Int) : Bool := decide (-1 ≤ a ∧ a ≤ b ∧ 0 ≤ b ∧ b ≤ 87658)
/-- The months whose first day is above a and not above b. -/
def monL (a b : Int) : List Int := if monOK a b = true then seqL (cnt a) (cnt b - cnt a) else []
theorem mon_no {a b : Int} (h : ¬ (-1 ≤ a ∧ a ≤ b ∧ 0 ≤ b ∧ b ≤ 87658)) : monL a b = [] := by
  unfold monL
  rw [show monOK a b = false from decide_eq_false h]; rfl
theorem mon_yes {a b : Int} (h : -1 ≤ a ∧ a ≤ b ∧ 0 ≤ b ∧ b ≤ 87658) : monL a b = seqL (cnt a) (cnt b - cnt a) := by
  unfold monL
  rw [show monOK a b = true from decide_eq_true h]; rfl
theorem mon_len (a b : Int) : (monL a b).length ≤ 2880 := by
  by_cases h : -1 ≤ a ∧ a ≤ b ∧ 0 ≤ b ∧ b ≤ 87658
  · rw [mon_yes h, seq_len]
    have := cnt_le h.2.2.2
    omega
  · rw [mon_no h]; simp
/-- The months of two stretches that follow each other. -/
theorem mon_parts {a b c : Int} (h0 : -1 ≤ a) (h1 : a ≤ b) (h2 : b ≤ c) (hb : 0 ≤ b) (hc : c ≤ 87658) : monL a c = monL a b ++ monL b c := by
  rw [mon_yes (by omega), mon_yes (by omega), mon_yes (by omega)]
  have m1 := cnt_mono h1
  have m2 := cnt_mono h2
  have := seq_add (cnt a) (cnt b - cnt a) (cnt c - cnt b)
  rw [show cnt b - cnt a + (cnt c - cnt b) = cnt c - cnt a by omega, show cnt a + (cnt b - cnt a) = cnt b by omega] at this
  exact this
theorem mo_st (m : Nat) : mo (st m) = m := by
  have := (lenM_range m).1
  exact mo_of (Nat.le_refl _) (by rw [st_succ]; omega)
/-- A month alone. -/
theorem mon_one (m : Nat) (h : m ≤ 2879) : monL ((st m : Nat) - 1) (st m : Nat) = [(m : Int)] := by
  have hs := st_in h
  rw [mon_yes (by omega), cnt_nat, mo_st]
  have e : cnt ((st m : Nat) - 1) = m := by
    cases m with
    | zero => rfl
    | succ k =>
      have h2 := (lenM_range k).1
      have h3 := st_succ k
      rw [show ((st (k + 1) : Nat) : Int) - 1 = ((st (k + 1) - 1 : Nat) : Int) by omega, cnt_nat, mo_of (m := k) (by omega) (by omega)]
  rw [e, show m + 1 - m = 1 by omega]
  rfl

/-! In time, late. -/
def monB (m : Int) : Bool := decide (0 ≤ m ∧ m ≤ 2879)
def inB (m d : Int) : Bool := monB m && dayB d && decide (d ≤ firV m + 15)
def lateV (m d : Int) : Int := if (monB m && dayB d) = true then max 0 (d - firV m - 15) else 0
theorem firE_mon (m : Int) : firE m = if monB m = true then 0 else 15 := by unfold firE monB; simp
theorem firV_range (m : Int) : 0 ≤ firV m ∧ firV m ≤ 87658 := by
  unfold firV
  split
  · have := st_in (m := m.toNat) (by omega)
    omega
  · omega
theorem in_late {m d : Int} (hm : monB m = true) (hd : dayB d = true) : inB m d = (lateV m d == 0) := by
  unfold inB lateV
  rw [hm, hd]
  simp only [Bool.and_self, Bool.true_and, if_true]
  by_cases h : d ≤ firV m + 15
  · rw [decide_eq_true h, Int.max_eq_left (by omega)]; rfl
  · rw [decide_eq_false h, Int.max_eq_right (by omega)]
    symm
    rw [beq_eq_false_iff_ne]; omega
theorem due_edge (m : Nat) (h : m ≤ 2878) : inB m ((st m : Nat) + 15) = true ∧ inB m ((st m : Nat) + 16) = false ∧ lateV m ((st m : Nat) + 15) = 0 ∧ lateV m ((st m : Nat) + 18) = 3 ∧ firE m = 0 ∧ firV m = (st m : Nat) := by
  have h1 := (lenM_range m).1
  have h2 := st_succ m
  have h3 := st_in (show m + 1 ≤ 2879 by omega)
  have hm : monB (m : Int) = true := decide_eq_true (by omega)
  have d1 : dayB ((st m : Nat) + 15) = true := decide_eq_true (by omega)
  have d2 : dayB ((st m : Nat) + 16) = true := decide_eq_true (by omega)
  have d3 : dayB ((st m : Nat) + 18) = true := decide_eq_true (by omega)
  have hf : firV (m : Int) = (st m : Nat) := by unfold firV; rw [if_pos (by omega)]; rfl
  unfold inB lateV
  rw [hm, d1, d2, d3, hf]
  refine ⟨?_, ?_, ?_, ?_, ?_, rfl⟩
  · rw [decide_eq_true (by omega)]; rfl
  · rw [decide_eq_false (by omega)]; rfl
  · rw [Bool.and_self, if_pos rfl, Int.max_eq_left (by omega)]
  · rw [Bool.and_self, if_pos rfl, Int.max_eq_right (by omega)]; omega
  · rw [firE_mon, hm]; rfl

/-! Years on, whole months. -/
def yrB (n : Int) : Bool := decide (0 ≤ n ∧ n ≤ 240)
def yrV (d n : Int) : Int := if yrB n = true then addV d (12 * n) else 0
def yrE (d n : Int) : Int := if yrB n = true then addE d (12 * n) else 1
def whoB (a b : Int) : Bool := dayB a && dayB b && decide (a ≤ b)
/-- How many months' numbers lie between. -/
def gap (a b : Int) : Int := (mo b.toNat : Int) - (mo a.toNat : Int)
def whoV (a b : Int) : Int := if whoB a b = true then (if b < addV a (gap a b) then gap a b - 1 else gap a b) else 0
theorem who_no {a b : Int} (h : whoB a b = false) : whoV a b = 0 := by unfold whoV; rw [h]; rfl
theorem whoB_nat {x y : Nat} (hx : x ≤ y) (hy : y ≤ 87658) : whoB (x : Int) (y : Int) = true := by
  unfold whoB
  rw [show dayB (x : Int) = true from decide_eq_true (by omega), show dayB (y : Int) = true from decide_eq_true (by omega), decide_eq_true (by omega)]; rfl
theorem who_yes {x y : Nat} (hx : x ≤ y) (hy : y ≤ 87658) : whoV x y = if (y : Int) < addV x ((mo y : Int) - mo x) then (mo y : Int) - mo x - 1 else (mo y : Int) - mo x := by
  unfold whoV
  rw [whoB_nat hx hy]
  rfl
theorem add_zero' (x : Nat) (h : x ≤ 87658) : addV x 0 = x ∧ addE x 0 = 0 := by
  obtain ⟨e, a, ha, h1, h2, h3⟩ := add_in (x := x) (T := mo x) (k := 0) h (by omega) (by have := mo_lt h; omega)
  refine ⟨?_, e⟩
  have d1 := day_is a
  have d2 := day_is x
  have d3 := dy_len x
  rw [h2, h3, Int.min_eq_left d3.2] at d1
  rw [ha]; omega
/-- Whole months: so many on is not above the day, one more is. -/
theorem who_is {x y : Nat} (hx : x ≤ y) (hy : y ≤ 87658) : 0 ≤ whoV x y ∧ whoV x y ≤ 2879 ∧ addE x (whoV x y) = 0 ∧ addV x (whoV x y) ≤ y ∧ ¬ (addE x (whoV x y + 1) = 0 ∧ addV x (whoV x y + 1) ≤ y) := by
  have hm := mo_mono hx
  have hl := mo_lt hy
  have hy1 := (mo_in y)
  rw [who_yes hx hy]
  obtain ⟨e0, a, ha, ha1, ha2, -⟩ := add_in (x := x) (T := mo y) (k := (mo y : Int) - mo x) (by omega) (by omega) (by omega)
  by_cases hc : (y : Int) < addV x ((mo y : Int) - mo x)
  · rw [if_pos hc]
    have hne : mo x < mo y := by
      refine Nat.lt_of_le_of_ne hm fun he => ?_
      rw [he, Int.sub_self, (add_zero' x (by omega)).1] at hc
      omega
    obtain ⟨e1, b, hb, hb1, hb2, -⟩ := add_in (x := x) (T := mo y - 1) (k := (mo y : Int) - mo x - 1) (by omega) (by omega) (by omega)
    have hb3 := (mo_in b).2
    rw [hb2, show mo y - 1 + 1 = mo y by omega] at hb3
    refine ⟨by omega, by omega, e1, by rw [hb]; omega, ?_⟩
    rw [show (mo y : Int) - mo x - 1 + 1 = (mo y : Int) - mo x by omega]
    omega
  · rw [if_neg hc]
    refine ⟨by omega, by omega, e0, by omega, ?_⟩
    rintro ⟨f0, f1⟩
    by_cases hlast : mo y + 1 ≤ 2879
    · obtain ⟨-, b, hb, hb1, hb2, -⟩ := add_in (x := x) (T := mo y + 1) (k := (mo y : Int) - mo x + 1) (by omega) (by omega) hlast
      have hb3 := (mo_in b).1
      rw [hb2] at hb3
      rw [hb] at f1
      omega
    · have := (add_out (x := x) (k := (mo y : Int) - mo x + 1) (by omega)).1
      omega
/-- So many years on are twelve times as many whole months. -/
theorem who_years {x k : Nat} (hx : x ≤ 87658) (h : addE x (12 * (k : Int)) = 0) : whoV x (addV x (12 * (k : Int))) = 12 * (k : Int) := by
  have hin : 0 ≤ (mo x : Int) + 12 * (k : Int) ∧ (mo x : Int) + 12 * (k : Int) ≤ 2879 := by
    refine Classical.byContradiction fun hn => ?_
    have := (add_out hn).1
    omega
  obtain ⟨-, a, ha, ha1, ha2, ha3⟩ := add_in (x := x) (T := mo x + 12 * k) (k := 12 * (k : Int)) hx (by omega) (by omega)
  have hxa : x ≤ a := by
    have d1 := day_is a
    have d2 := day_is x
    by_cases hk : k = 0
    · subst hk
      have := (add_zero' x hx).1
      rw [show (12 : Int) * ((0 : Nat) : Int) = 0 from rfl, this] at ha
      omega
    · have h1 := (mo_in a).1
      have h2 := (mo_in x).2
      have h3 := st_mono (show mo x + 1 ≤ mo a by omega)
      omega
  rw [ha, who_yes hxa ha1, ha2, show ((mo x + 12 * k : Nat) : Int) - (mo x : Int) = 12 * (k : Int) by omega, ha, if_neg (by omega)]
end Go.Proofs.YtjjbdemhccpllaaDoor.Due
namespace Go.Proofs.YtjjbdemhccpllaaDoor.Due
open Go.ChangeShapes Go.WideShapes Go.ChangeAt Go.RowKit Cal Date Slice

theorem int_info : (Tryd.prog.info? 3).map (fun i => (i.zero, i.size, i.bytes)) = some (some (.int .i64 0), 1, 8) := by kernel_rfl
/-- The document's Months ahead of month j. -/
def MRun (a : Int) (w : World) (j : Nat) (u : Value) (wr : World) : Prop :=
  Below w.heap.size w wr ∧ wr.ownsRow w.heap.size 3 1 u (j - cnt a) ((seqL (cnt a) (j - cnt a)).map (Value.int .i64))
theorem mRun_skip {a : Int} {w wr : World} {j : Nat} {u : Value} (h : MRun a w j u wr) (hj : j < cnt a) : MRun a w (j + 1) u wr := by
  unfold MRun at *
  rw [show j - cnt a = 0 by omega] at h
  rw [show j + 1 - cnt a = 0 by omega]
  exact h
theorem mRun_step {a : Int} {w wr w3 : World} {j : Nat} {u v : Value} (h : MRun a w j u wr) (hj : ¬ j < cnt a)
    (ho : w3.ownsRow w.heap.size 3 1 v (j - cnt a + 1) ((seqL (cnt a) (j - cnt a)).map (Value.int .i64) ++ [.int .i64 (j : Int)])) (hg : wr.grownBy w3 u.ownBlock) : MRun a w (j + 1) v w3 := by
  unfold MRun at *
  obtain ⟨hb, hu⟩ := h
  refine ⟨hb.grown hg (by have := hb.size; omega) (fun g hg => (hu.lt g hg).1), ?_⟩
  rw [show j + 1 - cnt a = j - cnt a + 1 by omega, seq_succ, List.map_append, show cnt a + (j - cnt a) = j by omega]
  exact ho
theorem mRun_ints {a : Int} {w wr : World} {j : Nat} {u : Value} (h : MRun a w j u wr) : Ints wr wr.heap.size .i64 u (seqL (cnt a) (j - cnt a)) :=
  Ints.of_own (by rw [seq_len]) h.2
end Go.Proofs.YtjjbdemhccpllaaDoor.Due
namespace Go.Proofs.YtjjbdemhccpllaaDoor.Due
open Go.ChangeShapes Go.WideShapes Go.ChangeAt Go.RowKit Cal Date Slice

theorem firE_yes {m : Int} (h : monB m = true) : firE m = 0 := by rw [firE_mon, h]; rfl
theorem firE_no {m : Int} (h : monB m = false) : firE m = 15 := by rw [firE_mon, h]; rfl
set_option maxHeartbeats 400000 in
/-- Two lists that are one are told alike. -/
theorem ints_same (zs : List Int) (v u : Value) (B : Nat) (w : World) (hv : Ints w B .i64 v zs) (hu : Ints w B .i64 u zs) :
    Calls Tryd.prog 26 #[v, u] w fun e w' => e = .returned (.bool true) ∧ ∃ n, w' = w.drewN n := by
  obtain ⟨A, c, rfl, hl, -, hcell⟩ := hv
  obtain ⟨A', c', rfl, -, -, hcell'⟩ := hu
  have HC := Lib.hid hcell
  have HC' := Lib.hid hcell'
  clear hcell hcell'
  go_enter Tryd.func26, Tryd.ntmps26
  go_wp2_with fail
  go_loopw [5] (fun t wr => ∃ j : Nat, j ≤ zs.length ∧ t = .int .i64 j ∧ ∃ n, wr = w.drewN n) (fun t _ => zs.length - (intOf t).toNat)
  case atStart => exact ⟨0, Nat.zero_le _, rfl, 0, rfl⟩
  case round =>
    obtain ⟨j, hj, rfl, n, rfl⟩ := hrel
    by_cases hlt : j < zs.length
    · obtain ⟨b, off, rfl, hb, hcell⟩ := HC.out (by omega)
      obtain ⟨b', off', rfl, hb', hcell'⟩ := HC'.out (by omega)
      have hx := hcell j hlt
      have hx' := hcell' j hlt
      clear hcell hcell'
      generalize zs.getD j 0 = x at *
      have h0 : (0 : Int) ≤ j := by omega
      go_wp2_with fail
      go_quiet (fail)
      go_wp2_with fail
      go_roundw
      case rel => exact ⟨j + 1, by omega, by go_num, _, rfl⟩
      case measure => simp [intOf]; omega
    · go_wp2_with fail
      go_ret
      exact ⟨rfl, _, rfl⟩
end Go.Proofs.YtjjbdemhccpllaaDoor.Due
