/- When bills fall due, in plain numbers: the months of a stretch, in time, late, years on, whole months; what follows. Of no one law. The program's own package due: Months, InTime, Late, Year, Whole, at every input, where the lengths of the months lie as listed. -/
import Derived.Test.YtkddiaiohnbjpaaGreatDoorGCal
import Derived.Test.YtkddiaiohnbjpaaGreatDoorGA
import Derived.Test.YtkddiaiohnbjpaaGreatDoorGDate
namespace Go.Proofs.YtkddiaiohnbjpaaGreatDoor.Due
open Cal Date

/-- How many months' first days are not above x. -/
def cnt (x : Int) : Nat := if x < 0 then 0 else mo x.toNat + 1
theorem lt_cnt (x : Int) (m : Nat) : m < cnt x ↔ ((st m : Nat) : Int) ≤ x := by
  unfold cnt
  by_cases h : x < 0
  · rw [if_pos h]; omega
  · rw [if_neg h]
    obtain ⟨h1, h2⟩ := mo_in x.toNat
    constructor
    · intro hm
      have := st_mono (show m ≤ mo x.toNat by omega)
      omega
    · intro hm
      refine Nat.lt_of_not_le fun hge => ?_
      have := st_mono (show mo x.toNat + 1 ≤ m from hge)
      omega
theorem cnt_mono {x y : Int} (h : x ≤ y) : cnt x ≤ cnt y := by
  refine Nat.le_of_not_lt fun hlt => ?_
  have := (lt_cnt x (cnt y)).1 hlt
  have h2 : ¬ ((st (cnt y) : Nat) : Int) ≤ y := fun h => Nat.lt_irrefl _ ((lt_cnt y (cnt y)).2 h)
  omega
theorem cnt_le {x : Int} (h : x ≤ 87658) : cnt x ≤ 2880 := by
  unfold cnt
  split
  · omega
  · have := mo_lt (n := x.toNat) (by omega)
    omega
theorem cnt_nat (n : Nat) : cnt (n : Int) = mo n + 1 := by
  unfold cnt
  rw [if_neg (by omega), Int.toNat_natCast]

/-- So many numbers from p on. -/
def seqL (p n : Nat) : List Int := (List.range n).map fun i => ((p + i : Nat) : Int)
theorem seq_len (p n : Nat) : (seqL p n).length = n := by unfold seqL; simp
theorem seq_succ (p n : Nat) : seqL p (n + 1) = seqL p n ++ [((p + n : Nat) : Int)] := by
  unfold seqL; rw [List.range_succ, List.map_append]; rfl
theorem seq_add (p n m : Nat) : seqL p (n + m) = seqL p n ++ seqL (p + n) m := by
  induction m with
  | zero => simp [seqL]
  | succ m ih => rw [← Nat.add_assoc, seq_succ, ih, seq_succ, List.append_assoc, Nat.add_assoc]
def monOK (a b : Int) : Bool := decide (-1 ≤ a ∧ a ≤ b ∧ 0 ≤ b ∧ b ≤ 87658)
/-- The months whose first day is above a and not above b. -/
def monL (a b : Int) : List Int := if monOK a b = true then seqL (cnt a) (cnt b - cnt a) else []
theorem mon_no {a b : Int} (h : ¬ (-1 ≤ a ∧ a ≤ b ∧ 0 ≤ b ∧ b ≤ 87658)) : monL a b = [] := by
  unfold monL
  rw [show monOK a b = false from decide_eq_false h]; rfl
theorem mon_yes {a b : Int} (h : -1 ≤ a ∧ a ≤ b ∧ 0 ≤ b ∧ b ≤ 87658) : monL a b = seqL (cnt a) (cnt b - cnt a) := by
  unfold monL
  rw [show monOK a b = true from decide_eq_true h]; rfl
theorem mon_len (a b : Int) : (monL a b).length ≤ 2880 := by
  by_cases h : -1 ≤ a ∧ a ≤ b ∧ 0 ≤ b ∧ b ≤ 87658
  · rw [mon_yes h, seq_len]
    have := cnt_le h.2.2.2
    omega
  · rw [mon_no h]; simp
/-- The months of two stretches that follow each other. -/
theorem mon_parts {a b c : Int} (h0 : -1 ≤ a) (h1 : a ≤ b) (h2 : b ≤ c) (hb : 0 ≤ b) (hc : c ≤ 87658) : monL a c = monL a b ++ monL b c := by
  rw [mon_yes (by omega), mon_yes (by omega), mon_yes (by omega)]
  have m1 := cnt_mono h1
  have m2 := cnt_mono h2
  have := seq_add (cnt a) (cnt b - cnt a) (cnt c - cnt b)
  rw [show cnt b - cnt a + (cnt c - cnt b) = cnt c - cnt a by omega, show cnt a + (cnt b - cnt a) = cnt b by omega] at this
  exact this
theorem mo_st (m : Nat) : mo (st m) = m := by
  have := (lenM_range m).1
  exact mo_of (Nat.le_refl _) (by rw [st_succ]; omega)
/-- A month alone. -/
theorem mon_one (m : Nat) (h : m ≤ 2879) : monL ((st m : Nat) - 1) (st m : Nat) = [(m : Int)] := by
  have hs := st_in h
  rw [mon_yes (by omega), cnt_nat, mo_st]
  have e : cnt ((st m : Nat) - 1) = m := by
    cases m with
    | zero => rfl
    | succ k =>
      have h2 := (lenM_range k).1
      have h3 := st_succ k
      rw [show ((st (k + 1) : Nat) : Int) - 1 = ((st (k + 1) - 1 : Nat) : Int) by omega, cnt_nat, mo_of (m := k) (by omega) (by omega)]
  rw [e, show m + 1 - m = 1 by omega]
  rfl

/-! In time, late. -/
def monB (m : Int) : Bool := decide (0 ≤ m ∧ m ≤ 2879)
def inB (m d : Int) : Bool := monB m && dayB d && decide (d ≤ firV m + 15)
def lateV (m d : Int) : Int := if (monB m && dayB d) = true then max 0 (d - firV m - 15) else 0
theorem firE_mon (m : Int) : firE m = if monB m = true then 0 else 15 := by unfold firE monB; simp
theorem firV_range (m : Int) : 0 ≤ firV m ∧ firV m ≤ 87658 := by
  unfold firV
  split
  · have := st_in (m := m.toNat) (by omega)
    omega
  · omega
theorem in_late {m d : Int} (hm : monB m = true) (hd : dayB d = true) : inB m d = (lateV m d == 0) := by
  unfold inB lateV
  rw [hm, hd]
  simp only [Bool.and_self, Bool.true_and, if_true]
  by_cases h : d ≤ firV m + 15
  · rw [decide_eq_true h, Int.max_eq_left (by omega)]; rfl
  · rw [decide_eq_false h, Int.max_eq_right (by omega)]
    symm
    rw [beq_eq_false_iff_ne]; omega
theorem due_edge (m : Nat) (h : m ≤ 2878) : inB m ((st m : Nat) + 15) = true ∧ inB m ((st m : Nat) + 16) = false ∧ lateV m ((st m : Nat) + 15) = 0 ∧ lateV m ((st m : Nat) + 18) = 3 ∧ firE m = 0 ∧ firV m = (st m : Nat) := by
  have h1 := (lenM_range m).1
  have h2 := st_succ m
  have h3 := st_in (show m + 1 ≤ 2879 by omega)
  have hm : monB (m : Int) = true := decide_eq_true (by omega)
  have d1 : dayB ((st m : Nat) + 15) = true := decide_eq_true (by omega)
  have d2 : dayB ((st m : Nat) + 16) = true := decide_eq_true (by omega)
  have d3 : dayB ((st m : Nat) + 18) = true := decide_eq_true (by omega)
  have hf : firV (m : Int) = (st m : Nat) := by unfold firV; rw [if_pos (by omega)]; rfl
  unfold inB lateV
  rw [hm, d1, d2, d3, hf]
  refine ⟨?_, ?_, ?_, ?_, ?_, rfl⟩
  · rw [decide_eq_true (by omega)]; rfl
  · rw [decide_eq_false (by omega)]; rfl
  · rw [Bool.and_self, if_pos rfl, Int.max_eq_left (by omega)]
  · rw [Bool.and_self, if_pos rfl, Int.max_eq_right (by omega)]; omega
  · rw [firE_mon, hm]; rfl

/-! Years on, whole months. -/
def yrB (n : Int) : Bool := decide (0 ≤ n ∧ n ≤ 240)
def yrV (d n : Int) : Int := if yrB n = true then addV d (12 * n) else 0
def yrE (d n : Int) : Int := if yrB n = true then addE d (12 * n) else 1
def whoB (a b : Int) : Bool := dayB a && dayB b && decide (a ≤ b)
/-- How many months' numbers lie between. -/
def gap (a b : Int) : Int := (mo b.toNat : Int) - (mo a.toNat : Int)
def whoV (a b : Int) : Int := if whoB a b = true then (if b < addV a (gap a b) then gap a b - 1 else gap a b) else 0
theorem who_no {a b : Int} (h : whoB a b = false) : whoV a b = 0 := by unfold whoV; rw [h]; rfl
theorem whoB_nat {x y : Nat} (hx : x ≤ y) (hy : y ≤ 87658) : whoB (x : Int) (y : Int) = true := by
  unfold whoB
  rw [show dayB (x : Int) = true from decide_eq_true (by omega), show dayB (y : Int) = true from decide_eq_true (by omega), decide_eq_true (by omega)]; rfl
theorem who_yes {x y : Nat} (hx : x ≤ y) (hy : y ≤ 87658) : whoV x y = if (y : Int) < addV x ((mo y : Int) - mo x) then (mo y : Int) - mo x - 1 else (mo y : Int) - mo x := by
  unfold whoV
  rw [whoB_nat hx hy]
  rfl
theorem add_zero' (x : Nat) (h : x ≤ 87658) : addV x 0 = x ∧ addE x 0 = 0 := by
  obtain ⟨e, a, ha, h1, h2, h3⟩ := add_in (x := x) (T := mo x) (k := 0) h (by omega) (by have := mo_lt h; omega)
  refine ⟨?_, e⟩
  have d1 := day_is a
  have d2 := day_is x
  have d3 := dy_len x
  rw [h2, h3, Int.min_eq_left d3.2] at d1
  rw [ha]; omega
/-- Whole months: so many on is not above the day, one more is. -/
theorem who_is {x y : Nat} (hx : x ≤ y) (hy : y ≤ 87658) : 0 ≤ whoV x y ∧ whoV x y ≤ 2879 ∧ addE x (whoV x y) = 0 ∧ addV x (whoV x y) ≤ y ∧ ¬ (addE x (whoV x y + 1) = 0 ∧ addV x (whoV x y + 1) ≤ y) := by
  have hm := mo_mono hx
  have hl := mo_lt hy
  have hy1 := (mo_in y)
  rw [who_yes hx hy]
  obtain ⟨e0, a, ha, ha1, ha2, -⟩ := add_in (x := x) (T := mo y) (k := (mo y : Int) - mo x) (by omega) (by omega) (by omega)
  by_cases hc : (y : Int) < addV x ((mo y : Int) - mo x)
  · rw [if_pos hc]
    have hne : mo x < mo y := by
      refine Nat.lt_of_le_of_ne hm fun he => ?_
      rw [he, Int.sub_self, (add_zero' x (by omega)).1] at hc
      omega
    obtain ⟨e1, b, hb, hb1, hb2, -⟩ := add_in (x := x) (T := mo y - 1) (k := (mo y : Int) - mo x - 1) (by omega) (by omega) (by omega)
    have hb3 := (mo_in b).2
    rw [hb2, show mo y - 1 + 1 = mo y by omega] at hb3
    refine ⟨by omega, by omega, e1, by rw [hb]; omega, ?_⟩
    rw [show (mo y : Int) - mo x - 1 + 1 = (mo y : Int) - mo x by omega]
    omega
  · rw [if_neg hc]
    refine ⟨by omega, by omega, e0, by omega, ?_⟩
    rintro ⟨f0, f1⟩
    by_cases hlast : mo y + 1 ≤ 2879
    · obtain ⟨-, b, hb, hb1, hb2, -⟩ := add_in (x := x) (T := mo y + 1) (k := (mo y : Int) - mo x + 1) (by omega) (by omega) hlast
      have hb3 := (mo_in b).1
      rw [hb2] at hb3
      rw [hb] at f1
      omega
    · have := (add_out (x := x) (k := (mo y : Int) - mo x + 1) (by omega)).1
      omega
/-- So many years on are twelve times as many whole months. -/
theorem who_years {x k : Nat} (hx : x ≤ 87658) (h : addE x (12 * (k : Int)) = 0) : whoV x (addV x (12 * (k : Int))) = 12 * (k : Int) := by
  have hin : 0 ≤ (mo x : Int) + 12 * (k : Int) ∧ (mo x : Int) + 12 * (k : Int) ≤ 2879 := by
    refine Classical.byContradiction fun hn => ?_
    have := (add_out hn).1
    omega
  obtain ⟨-, a, ha, ha1, ha2, ha3⟩ := add_in (x := x) (T := mo x + 12 * k) (k := 12 * (k : Int)) hx (by omega) (by omega)
  have hxa : x ≤ a := by
    have d1 := day_is a
    have d2 := day_is x
    by_cases hk : k = 0
    · subst hk
      have := (add_zero' x hx).1
      rw [show (12 : Int) * ((0 : Nat) : Int) = 0 from rfl, this] at ha
      omega
    · have h1 := (mo_in a).1
      have h2 := (mo_in x).2
      have h3 := st_mono (show mo x + 1 ≤ mo a by omega)
      omega
  rw [ha, who_yes hxa ha1, ha2, show ((mo x + 12 * k : Nat) : Int) - (mo x : Int) = 12 * (k : Int) by omega, ha, if_neg (by omega)]
end Go.Proofs.YtkddiaiohnbjpaaGreatDoor.Due
namespace Go.Proofs.YtkddiaiohnbjpaaGreatDoor.Due
open Go.ChangeShapes Go.WideShapes Go.ChangeAt Go.RowKit Cal Date Slice

/-! In time, late. -/
def behB (m d : Int) : Bool := monB m && dayB d
def behV (m d : Int) : Int := if behB m d = true then d - (firV m + 15) else 0
theorem beh_in (m d : Int) : inB m d = (behB m d && decide (behV m d ≤ 0)) := by
  unfold inB behV behB
  cases monB m <;> cases dayB d <;> try rfl
  simp only [Bool.and_self, if_true, Bool.true_and]
  rw [decide_eq_decide]; omega
theorem beh_late (m d : Int) : lateV m d = max (behV m d) 0 := by
  unfold lateV behV behB
  cases monB m <;> cases dayB d <;> try rfl
  simp only [Bool.and_self, if_true]
  rw [Int.max_comm]; congr 1; omega
/-! Years on, whole months. -/
theorem monV_nat {x : Nat} (h : x ≤ 87658) : monV (x : Int) = (mo x : Int) ∧ monE (x : Int) = 0 := by
  have hd : dayB (x : Int) = true := decide_eq_true (by omega)
  unfold monV monE
  rw [hd]
  exact ⟨rfl, rfl⟩
set_option maxHeartbeats 400000 in
theorem u_whole_ok (x y : Nat) (hx : x ≤ y) (hy : y ≤ 87658) (w : World) (L : Laid w) : Calls Tryz.prog 77 #[.int .i64 (x : Int), .int .i64 (y : Int)] w fun e w' => e = .returned (.int .i64 (whoV x y)) ∧ Below w.heap.size w w' := by
  have G1 := p_good (x : Int)
  rw [show dayB (x : Int) = true from decide_eq_true (by omega)] at G1
  have G2 := p_good (y : Int)
  rw [show dayB (y : Int) = true from decide_eq_true (by omega)] at G2
  have t0 : decide (y < x) = false := decide_eq_false (by omega)
  have M1 := fun w L => d_month (x : Int) w L
  have M2 := fun w L => d_month (y : Int) w L
  rw [(monV_nat (show x ≤ 87658 by omega)).1, (monV_nat (show x ≤ 87658 by omega)).2] at M1
  rw [(monV_nat hy).1, (monV_nat hy).2] at M2
  have A := fun w L => d_add (x : Int) ((mo y : Int) - mo x) w L
  have W := who_yes hx hy
  have m1 := mo_lt hy
  have m2 := mo_mono hx
  have HX := Lib.hid hx
  have HY := Lib.hid hy
  clear hx hy
  generalize addV (x : Int) ((mo y : Int) - mo x) = a at *
  generalize addE (x : Int) ((mo y : Int) - mo x) = e0 at *
  generalize mo y = p at *
  generalize mo x = q at *
  have HW := Lib.hid W
  clear W
  by_cases hc : (y : Int) < a
  · have HR : Hid (whoV x y = (p : Int) - q - 1) := show _ = _ by rw [HW.out, if_pos hc]
    have tc := decide_eq_true hc
    go_enter Tryz.func77, Tryz.ntmps77
    go_wp2_with fail
    refine (G1 _).mono ?_
    rintro e w1 ⟨rfl, rfl⟩
    go_wp2_with fail
    refine (G2 _).mono ?_
    rintro e w1 ⟨rfl, rfl⟩
    go_wp2_with fail
    refine (M1 _ L).mono ?_
    rintro e w1 ⟨rfl, b1⟩
    replace L := L.of b1
    go_wp2_with fail
    refine (M2 _ L).mono ?_
    rintro e w2 ⟨rfl, b2⟩
    replace L := L.of b2
    go_wp2_with fail
    refine (A _ L).mono ?_
    rintro e w3 ⟨rfl, b3⟩
    go_wp2_with fail
    go_ret
    exact ⟨ret_int HR.out.symm, below_via (below_via b1 b2) b3⟩
  · have HR : Hid (whoV x y = (p : Int) - q) := show _ = _ by rw [HW.out, if_neg hc]
    have tc := decide_eq_false hc
    go_enter Tryz.func77, Tryz.ntmps77
    go_wp2_with fail
    refine (G1 _).mono ?_
    rintro e w1 ⟨rfl, rfl⟩
    go_wp2_with fail
    refine (G2 _).mono ?_
    rintro e w1 ⟨rfl, rfl⟩
    go_wp2_with fail
    refine (M1 _ L).mono ?_
    rintro e w1 ⟨rfl, b1⟩
    replace L := L.of b1
    go_wp2_with fail
    refine (M2 _ L).mono ?_
    rintro e w2 ⟨rfl, b2⟩
    replace L := L.of b2
    go_wp2_with fail
    refine (A _ L).mono ?_
    rintro e w3 ⟨rfl, b3⟩
    go_wp2_with fail
    go_ret
    exact ⟨ret_int HR.out.symm, below_via (below_via b1 b2) b3⟩
theorem u_whole (a b : Int) (w : World) (L : Laid w) : Calls Tryz.prog 77 #[.int .i64 a, .int .i64 b] w fun e w' => e = .returned (.int .i64 (whoV a b)) ∧ Below w.heap.size w w' := by
  have G1 := p_good a
  have G2 := p_good b
  cases ha : dayB a with
  | false =>
    rw [ha] at G1
    have H := Lib.hid (who_no (a := a) (b := b) (by unfold whoB; rw [ha]; rfl))
    clear ha L
    go_enter Tryz.func77, Tryz.ntmps77
    go_wp2_with fail
    refine (G1 _).mono ?_
    rintro e w1 ⟨rfl, rfl⟩
    go_wp2_with fail
    go_ret
    exact ⟨ret_int H.out.symm, Below.refl _ _⟩
  | true =>
    cases hb : dayB b with
    | false =>
      rw [ha] at G1
      rw [hb] at G2
      have H := Lib.hid (who_no (a := a) (b := b) (by unfold whoB; rw [ha, hb]; rfl))
      clear ha hb L
      go_enter Tryz.func77, Tryz.ntmps77
      go_wp2_with fail
      refine (G1 _).mono ?_
      rintro e w1 ⟨rfl, rfl⟩
      go_wp2_with fail
      refine (G2 _).mono ?_
      rintro e w1 ⟨rfl, rfl⟩
      go_wp2_with fail
      go_ret
      exact ⟨ret_int H.out.symm, Below.refl _ _⟩
    | true =>
      by_cases hlt : b < a
      · rw [ha] at G1
        rw [hb] at G2
        have H := Lib.hid (who_no (a := a) (b := b) (by unfold whoB; rw [ha, hb]; exact decide_eq_false (by omega)))
        have t1 := decide_eq_true hlt
        clear ha hb L
        go_enter Tryz.func77, Tryz.ntmps77
        go_wp2_with fail
        refine (G1 _).mono ?_
        rintro e w1 ⟨rfl, rfl⟩
        go_wp2_with fail
        refine (G2 _).mono ?_
        rintro e w1 ⟨rfl, rfl⟩
        go_wp2_with fail
        go_ret
        exact ⟨ret_int H.out.symm, Below.refl _ _⟩
      · have hna := of_decide_eq_true ha
        have hnb := of_decide_eq_true hb
        obtain ⟨x, rfl⟩ := Int.eq_ofNat_of_zero_le hna.1
        obtain ⟨y, rfl⟩ := Int.eq_ofNat_of_zero_le hnb.1
        exact u_whole_ok x y (by omega) (by omega) w L

/-! The months of a stretch. -/
theorem u_int_info : (Tryz.prog.info? 3).map (fun i => (i.zero, i.size, i.bytes)) = some (some (.int .i64 0), 1, 8) := by kernel_rfl
end Go.Proofs.YtkddiaiohnbjpaaGreatDoor.Due
