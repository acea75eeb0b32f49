/- What Dollars, Percent, Bits and Of answer, the code's and the document's, at every input. -/
import Derived.Test.YtiaiahdejihlbaaRefReal
import Derived.Test.YtiaiahdejihlbaaRefMulDiv
namespace Go.Proofs.Ytiaiahdejihlbaa.Fl
open Go.ChangeShapes Go.WideShapes Go.ChangeAt Go.RowKit Bits Money Flo Law

/-! A quotient of a whole number by 100, or by 10000. -/
def divF (x y : Nat) : Nat := (D.div x y).getD 0
theorem read_hundred : D.read 4636737291354636288 = .number false 7036874417766400 (-46) := by decide
theorem read_myriad : D.read 4666723172467343360 = .number false 5497558138880000 (-39) := by decide
theorem float_pos (n : Nat) (h : n ≤ 9007199254740992) : ∃ m e, D.read (floatOfInt .f64 (n : Int)) = .number false m e := by
  rw [floatOfInt_nat]
  exact ⟨_, _, read_pos (wholeW_lt h)⟩
theorem float_neg (n : Nat) (h0 : 0 < n) (h : n ≤ 9007199254740992) : ∃ m e, D.read (floatOfInt .f64 (-(n : Int))) = .number true m e := by
  have e : floatOfInt .f64 (-(n : Int)) = 9223372036854775808 + wholeW n := by
    unfold floatOfInt FloatKind.nearest FloatKind.encode
    show D.nearest (decide (-(n : Int) < 0)) ((-(n : Int)).natAbs) 0 = _
    rw [decide_eq_true (by omega), show ((-(n : Int)).natAbs) = n by omega, nearest_units true n 0 (n * 2 ^ U) 1074 (by omega) (by omega), word_neg]
    · rfl
    · rw [show (0 + ((1074 : Nat) : Int)).toNat = U by rw [U_eq]; rfl, Nat.sub_self, Nat.pow_zero, Nat.mul_one]
  rw [e]
  exact ⟨_, _, read_neg (wholeW_lt h)⟩
theorem float_any (c : Int) (h1 : -10000000000000 ≤ c) (h2 : c ≤ 10000000000000) : ∃ s m e, D.read (floatOfInt .f64 c) = .number s m e := by
  by_cases h : 0 ≤ c
  · obtain ⟨n, rfl⟩ := Int.eq_ofNat_of_zero_le h
    obtain ⟨m, e, hr⟩ := float_pos n (by omega)
    exact ⟨_, _, _, hr⟩
  · obtain ⟨n, hn⟩ := Int.eq_ofNat_of_zero_le (show 0 ≤ -c by omega)
    obtain ⟨m, e, hr⟩ := float_neg n (by omega) (by omega)
    rw [show c = -(n : Int) by omega]
    exact ⟨_, _, _, hr⟩
theorem div_of {x y : Nat} {s t : Bool} {m n : Nat} {i j : Int} (hx : D.read x = .number s m i) (hy : D.read y = .number t n j) (hn : n ≠ 0) : D.div x y = some (divF x y) := by
  have : ∃ r, D.div x y = some r := by
    unfold Ieee.Format.div
    rw [hx, hy]
    simp only [Ieee.Datum.quotient, hn, if_false, Option.map_some]
    exact ⟨_, rfl⟩
  obtain ⟨r, h⟩ := this
  unfold divF
  rw [h]; rfl
theorem div_run {t : TypeId} {x y r : Nat} (w : World) (h : D.div x y = some r) : (binOp .quo t (.float .f64 x) (.float .f64 y)).run Try.prog w = .ok (.float .f64 r) w := run_float_arith w .quo t .f64 x y r h

def dolF (c : Int) : Nat := if goodB c = true then divF (floatOfInt .f64 c) 4636737291354636288 else 0
def perF (p : Int) : Nat := if 0 ≤ p ∧ p ≤ 1000000 then divF (floatOfInt .f64 p) 4666723172467343360 else 0
theorem ret_float {a b : Nat} (h : a = b) : Ending.returned (.float .f64 a) = .returned (.float .f64 b) := by rw [h]

theorem dollars_any (c : Int) (w : World) : Calls Try.prog 21 #[.int .i64 c] w fun e w' => e = .returned (.float .f64 (dolF c)) ∧ w = w' := by
  cases hg : goodB c with
  | false =>
    have H : Hid (dolF c = 0) := show dolF c = 0 by unfold dolF; rw [hg]; rfl
    go_enter Try.func21, Try.ntmps21
    go_wp2_with (go_at_call 41; refine (good_any _ _).mono ?_; rintro e w' ⟨rfl, rfl⟩)
    go_ret
    exact ⟨ret_float H.out.symm, rfl⟩
  | true =>
    have H : Hid (dolF c = divF (floatOfInt .f64 c) 4636737291354636288) := show dolF c = _ by unfold dolF; rw [if_pos hg]
    obtain ⟨h1, h2⟩ := (goodB_iff c).1 hg
    obtain ⟨s, m, e, hr⟩ := float_any c h1 h2
    have hq := div_run (t := 22) w (div_of hr read_hundred (by decide))
    clear hr h1 h2
    go_enter Try.func21, Try.ntmps21
    go_wp2_with (go_at_call 41; refine (good_any _ _).mono ?_; rintro e w' ⟨rfl, rfl⟩)
    go_ret
    exact ⟨ret_float H.out.symm, rfl⟩

theorem percent_any (p : Int) (w : World) : Calls Try.prog 23 #[.int .i64 p] w fun e w' => e = .returned (.float .f64 (perF p)) ∧ w = w' := by
  by_cases h0 : p < 0
  · have H : Hid (perF p = 0) := show perF p = 0 by unfold perF; rw [if_neg (by omega)]
    go_enter Try.func23, Try.ntmps23
    go_wp2
    go_ret
    exact ⟨ret_float H.out.symm, rfl⟩
  · by_cases h1 : 1000000 < p
    · have H : Hid (perF p = 0) := show perF p = 0 by unfold perF; rw [if_neg (by omega)]
      go_enter Try.func23, Try.ntmps23
      go_wp2
      go_ret
      exact ⟨ret_float H.out.symm, rfl⟩
    · have H : Hid (perF p = divF (floatOfInt .f64 p) 4666723172467343360) := show perF p = _ by unfold perF; rw [if_pos ⟨by omega, by omega⟩]
      obtain ⟨s, m, e, hr⟩ := float_any p (by omega) (by omega)
      have hq := div_run (t := 22) w (div_of hr read_myriad (by decide))
      clear hr
      go_enter Try.func23, Try.ntmps23
      go_wp2
      go_ret
      exact ⟨ret_float H.out.symm, rfl⟩

theorem rdollars_any (c : Int) (w : World) : Calls Try.prog 22 #[.int .i64 c] w fun e w' => e = .returned (.float .f64 (dolF c)) ∧ w = w' := by
  by_cases h1 : -10000000000000 ≤ c
  · by_cases h2 : c ≤ 10000000000000
    · have hg := (goodB_iff c).2 ⟨h1, h2⟩
      have H : Hid (dolF c = divF (floatOfInt .f64 c) 4636737291354636288) := show dolF c = _ by unfold dolF; rw [if_pos hg]
      obtain ⟨s, m, e, hr⟩ := float_any c h1 h2
      have hq := div_run (t := 22) w (div_of hr read_hundred (by decide))
      clear hr hg
      go_enter Try.func22, Try.ntmps22
      go_wp2
      go_ret
      exact ⟨ret_float H.out.symm, rfl⟩
    · have H : Hid (dolF c = 0) := show dolF c = 0 by unfold dolF; rw [if_neg (by rw [goodB_iff]; omega)]
      go_enter Try.func22, Try.ntmps22
      go_wp2
      go_ret
      exact ⟨ret_float H.out.symm, rfl⟩
  · have H : Hid (dolF c = 0) := show dolF c = 0 by unfold dolF; rw [if_neg (by rw [goodB_iff]; omega)]
    go_enter Try.func22, Try.ntmps22
    go_wp2
    go_ret
    exact ⟨ret_float H.out.symm, rfl⟩

theorem rpercent_any (p : Int) (w : World) : Calls Try.prog 24 #[.int .i64 p] w fun e w' => e = .returned (.float .f64 (perF p)) ∧ w = w' := by
  by_cases h0 : p < 0
  · have H : Hid (perF p = 0) := show perF p = 0 by unfold perF; rw [if_neg (by omega)]
    go_enter Try.func24, Try.ntmps24
    go_wp2
    go_ret
    exact ⟨ret_float H.out.symm, rfl⟩
  · by_cases h1 : 1000000 < p
    · have H : Hid (perF p = 0) := show perF p = 0 by unfold perF; rw [if_neg (by omega)]
      go_enter Try.func24, Try.ntmps24
      go_wp2
      go_ret
      exact ⟨ret_float H.out.symm, rfl⟩
    · have H : Hid (perF p = divF (floatOfInt .f64 p) 4666723172467343360) := show perF p = _ by unfold perF; rw [if_pos ⟨by omega, by omega⟩]
      obtain ⟨s, m, e, hr⟩ := float_any p (by omega) (by omega)
      have hq := div_run (t := 22) w (div_of hr read_myriad (by decide))
      clear hr
      go_enter Try.func24, Try.ntmps24
      go_wp2
      go_ret
      exact ⟨ret_float H.out.symm, rfl⟩

/-! The bits of a number, the number of any bits. -/
def bitsF (b : Nat) : Nat := if goodF b = true ∧ b ≠ 9223372036854775808 then b else 0
def ofB (u : Nat) : Bool := decide (u < 9218868437227405312)
def ofF (u : Nat) : Nat := if u < 9218868437227405312 then u else 0
theorem eq_zero (b : Nat) (h : goodF b = true) : (FloatKind.f64.format.order b 0 == some .eq) = decide (b = 0 ∨ b = 9223372036854775808) := by
  have h := of_decide_eq_true h
  rw [ord_eq]
  by_cases h1 : b = 9223372036854775808
  · rw [h1, order_nzero (by omega)]; decide
  · rw [order_pos (by omega) (by omega)]
    by_cases h0 : b = 0
    · rw [h0]; decide
    · rw [decide_eq_false (by omega), beq_eq_false_iff_ne]
      intro h'; injection h' with h'
      exact h0 (Nat.compare_eq_eq.1 h')

theorem bits_any (b : Nat) (w : World) (hb : b < 18446744073709551616) : Calls Try.prog 25 #[.float .f64 b] w fun e w' => e = .returned (.int .u64 (bitsF b : Nat)) ∧ w = w' := by
  cases hg : goodF b with
  | false =>
    have H : Hid (bitsF b = 0) := show bitsF b = 0 by unfold bitsF; rw [hg]; rfl
    go_enter Try.func25, Try.ntmps25
    go_wp2_with (go_at_call 11; refine (good_f _ _ hb).mono ?_; rintro e w' ⟨rfl, rfl⟩)
    go_ret
    exact ⟨by rw [H.out]; rfl, rfl⟩
  | true =>
    have hz := eq_zero b hg
    by_cases h0 : b = 0 ∨ b = 9223372036854775808
    · have H : Hid (bitsF b = 0) := show bitsF b = 0 by unfold bitsF; split <;> omega
      rw [decide_eq_true h0] at hz
      clear h0
      go_enter Try.func25, Try.ntmps25
      go_wp2_with (go_at_call 11; refine (good_f _ _ hb).mono ?_; rintro e w' ⟨rfl, rfl⟩)
      go_ret
      exact ⟨by rw [H.out]; rfl, rfl⟩
    · have H : Hid (bitsF b = b) := show bitsF b = b by unfold bitsF; rw [if_pos ⟨hg, by omega⟩]
      rw [decide_eq_false h0] at hz
      clear h0
      go_enter Try.func25, Try.ntmps25
      go_wp2_with (go_at_call 11; refine (good_f _ _ hb).mono ?_; rintro e w' ⟨rfl, rfl⟩)
      go_ret
      exact ⟨by rw [H.out]; rfl, rfl⟩

theorem rbits_any (b : Nat) (w : World) (hb : b < 18446744073709551616) : Calls Try.prog 26 #[.float .f64 b] w fun e w' => e = .returned (.int .u64 (bitsF b : Nat)) ∧ w = w' := by
  cases hg : goodF b with
  | false =>
    have H : Hid (bitsF b = 0) := show bitsF b = 0 by unfold bitsF; rw [hg]; rfl
    go_enter Try.func26, Try.ntmps26
    go_wp2_with (go_at_call 12; refine (good_ref _ _ hb).mono ?_; rintro e w' ⟨rfl, rfl⟩)
    go_ret
    exact ⟨by rw [H.out]; rfl, rfl⟩
  | true =>
    have hz := eq_zero b hg
    by_cases h0 : b = 0 ∨ b = 9223372036854775808
    · have H : Hid (bitsF b = 0) := show bitsF b = 0 by unfold bitsF; split <;> omega
      rw [decide_eq_true h0] at hz
      clear h0
      go_enter Try.func26, Try.ntmps26
      go_wp2_with (go_at_call 12; refine (good_ref _ _ hb).mono ?_; rintro e w' ⟨rfl, rfl⟩)
      go_ret
      exact ⟨by rw [H.out]; rfl, rfl⟩
    · have H : Hid (bitsF b = b) := show bitsF b = b by unfold bitsF; rw [if_pos ⟨hg, by omega⟩]
      rw [decide_eq_false h0] at hz
      clear h0
      go_enter Try.func26, Try.ntmps26
      go_wp2_with (go_at_call 12; refine (good_ref _ _ hb).mono ?_; rintro e w' ⟨rfl, rfl⟩)
      go_ret
      exact ⟨by rw [H.out]; rfl, rfl⟩

theorem sign_any (b : Nat) (w : World) (hb : b < 18446744073709551616) : Calls Try.prog 40 #[.float .f64 b] w fun e w' => e = .returned (.bool (decide (9223372036854775808 ≤ b))) ∧ w = w' := by
  go_enter Try.func40, Try.ntmps40
  go_wp2
  go_ret
  refine ⟨ret_bool ?_, rfl⟩
  unfold wrap64
  by_cases h : 9223372036854775808 ≤ b
  · rw [decide_eq_true h, decide_eq_true (by omega)]
  · rw [decide_eq_false h, decide_eq_false (by omega)]

theorem ret_of {a b : Nat} {c d : Bool} (h1 : a = b) (h2 : c = d) : Ending.returned (.tuple #[.float .f64 a, .bool c]) = .returned (.tuple #[.float .f64 b, .bool d]) := by rw [h1, h2]

theorem of_any (u : Nat) (w : World) (hu : u < 18446744073709551616) : Calls Try.prog 18 #[.int .u64 (u : Int)] w fun e w' => e = .returned (.tuple #[.float .f64 (ofF u), .bool (ofB u)]) ∧ w = w' := by
  cases hg : goodF u with
  | false =>
    have hg' := of_decide_eq_false hg
    have H : Hid (ofF u = 0 ∧ ofB u = false) := show _ ∧ _ by unfold ofF ofB; rw [if_neg (by omega), decide_eq_false (by omega)]; exact ⟨rfl, rfl⟩
    clear hg'
    go_enter Try.func18, Try.ntmps18
    go_wp2_with (go_at_call 11; refine (good_f _ _ hu).mono ?_; rintro e w' ⟨rfl, rfl⟩)
    go_ret2
    exact ⟨ret_of H.out.1.symm H.out.2.symm, rfl⟩
  | true =>
    have hg' := of_decide_eq_true hg
    by_cases hs : 9223372036854775808 ≤ u
    · have H : Hid (ofF u = 0 ∧ ofB u = false) := show _ ∧ _ by unfold ofF ofB; rw [if_neg (by omega), decide_eq_false (by omega)]; exact ⟨rfl, rfl⟩
      have hd := decide_eq_true hs
      clear hg' hs
      go_enter Try.func18, Try.ntmps18
      go_wp2_with first | (go_at_call 11; refine (good_f _ _ hu).mono ?_; rintro e w' ⟨rfl, rfl⟩) | (go_at_call 40; refine (sign_any _ _ hu).mono ?_; rintro e w' ⟨rfl, rfl⟩)
      go_ret2
      exact ⟨ret_of H.out.1.symm H.out.2.symm, rfl⟩
    · have H : Hid (ofF u = u ∧ ofB u = true) := show _ ∧ _ by unfold ofF ofB; rw [if_pos (by omega), decide_eq_true (by omega)]; exact ⟨rfl, rfl⟩
      have hd := decide_eq_false hs
      clear hg' hs
      go_enter Try.func18, Try.ntmps18
      go_wp2_with first | (go_at_call 11; refine (good_f _ _ hu).mono ?_; rintro e w' ⟨rfl, rfl⟩) | (go_at_call 40; refine (sign_any _ _ hu).mono ?_; rintro e w' ⟨rfl, rfl⟩)
      go_ret2
      exact ⟨ret_of H.out.1.symm H.out.2.symm, rfl⟩

theorem float_same (a b : Nat) (w : World) : Calls Try.prog 20 #[.float .f64 a, .float .f64 b] w fun e w' => e = .returned (.bool (decide (a = b))) ∧ w = w' := by
  go_enter Try.func20, Try.ntmps20
  go_wp2
  go_ret
  refine ⟨ret_bool ?_, rfl⟩
  by_cases h : a = b
  · subst h; simp
  · rw [decide_eq_false h, beq_eq_false_iff_ne]; omega

theorem run_store_float' (P : Program) (w : World) (a : Addr) (m : Mode) (k : FloatKind) (b : Nat) : (store a (.float k b) m).run P w = stored P w a (.float k b) m := run_store P w a _ m rfl
attribute [local go_sem] run_store_float'
theorem rof_any (u : Nat) (w : World) (hu : u < 18446744073709551616) : Calls Try.prog 19 #[.int .u64 (u : Int)] w fun e w' => e = .returned (.agg #[.float .f64 (ofF u), .bool (ofB u)]) ∧ Below w.heap.size w w' := by
  cases hg : goodF u with
  | false =>
    have hg' := of_decide_eq_false hg
    have H : Hid (ofF u = 0 ∧ ofB u = false) := show _ ∧ _ by unfold ofF ofB; rw [if_neg (by omega), decide_eq_false (by omega)]; exact ⟨rfl, rfl⟩
    clear hg'
    go_enter Try.func19, Try.ntmps19
    go_wp2_with (go_at_call 12; refine (good_ref _ _ hu).mono ?_; rintro e w' ⟨rfl, rfl⟩)
    rw [H.out.1, H.out.2]
    go_returns
    exact ⟨rfl, by go_grown⟩
  | true =>
    have hg' := of_decide_eq_true hg
    by_cases hs : 9223372036854775808 ≤ u
    · have H : Hid (ofF u = 0 ∧ ofB u = false) := show _ ∧ _ by unfold ofF ofB; rw [if_neg (by omega), decide_eq_false (by omega)]; exact ⟨rfl, rfl⟩
      have HB : Hid (bitsF u = 0) := show bitsF u = 0 by unfold bitsF; split <;> omega
      have hn : ((0 : Int) == (u : Int)) = false := by rw [beq_eq_false_iff_ne]; omega
      clear hg' hs
      go_enter Try.func19, Try.ntmps19
      go_wp2_with first | (go_at_call 12; refine (good_ref _ _ hu).mono ?_; rintro e w' ⟨rfl, rfl⟩) | (go_at_call 26; refine (rbits_any _ _ hu).mono ?_; rw [HB.out]; rintro e w' ⟨rfl, rfl⟩)
      rw [H.out.1, H.out.2]
      go_returns
      exact ⟨rfl, by go_grown⟩
    · have H : Hid (ofF u = u ∧ ofB u = true) := show _ ∧ _ by unfold ofF ofB; rw [if_pos (by omega), decide_eq_true (by omega)]; exact ⟨rfl, rfl⟩
      have HB : Hid (bitsF u = u) := show bitsF u = u by unfold bitsF; rw [if_pos ⟨hg, by omega⟩]
      have hn : ((u : Int) == (u : Int)) = true := by simp
      clear hg' hs
      go_enter Try.func19, Try.ntmps19
      go_wp2_with first | (go_at_call 12; refine (good_ref _ _ hu).mono ?_; rintro e w' ⟨rfl, rfl⟩) | (go_at_call 26; refine (rbits_any _ _ hu).mono ?_; rw [HB.out]; rintro e w' ⟨rfl, rfl⟩)
      rw [H.out.1, H.out.2]
      go_returns
      exact ⟨rfl, by go_grown⟩
end Go.Proofs.Ytiaiahdejihlbaa.Fl
