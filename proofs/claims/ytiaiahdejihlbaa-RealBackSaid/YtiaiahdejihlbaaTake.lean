/- What real's Take, Cents and Ppm answer, at every float64 and scale. -/
import Derived.Test.YtiaiahdejihlbaaNearest
namespace Go.Proofs.Ytiaiahdejihlbaa.Fl
open Go.ChangeShapes Go.WideShapes Go.ChangeAt Go.RowKit Bits Money Flo

/-- The whole number nearest to a good number times a scale. -/
def taken (b k : Nat) : Nat := rne (val (b % 9223372036854775808) * k) U
def tE (b : Nat) (k : Int) : Int := if goodF b = true then (if 1 ≤ k ∧ k ≤ 1000000 then (if taken b k.toNat ≤ 10000000000000 then 0 else 14) else 1) else 13
def tV (b : Nat) (k : Int) : Int := if tE b k = 0 then (taken b k.toNat : Nat) else 0

theorem tE_bad {b : Nat} {k : Int} (h : goodF b = false) : tE b k = 13 := by unfold tE; rw [h]; rfl
theorem tE_arg {b : Nat} {k : Int} (h : goodF b = true) (hk : ¬ (1 ≤ k ∧ k ≤ 1000000)) : tE b k = 1 := by unfold tE; rw [if_pos h, if_neg hk]
theorem tE_range {b : Nat} {k : Int} (h : goodF b = true) (hk : 1 ≤ k ∧ k ≤ 1000000) (ht : 10000000000000 < taken b k.toNat) : tE b k = 14 := by unfold tE; rw [if_pos h, if_pos hk, if_neg (by omega)]
theorem tE_ok {b : Nat} {k : Int} (h : goodF b = true) (hk : 1 ≤ k ∧ k ≤ 1000000) (ht : taken b k.toNat ≤ 10000000000000) : tE b k = 0 := by unfold tE; rw [if_pos h, if_pos hk, if_pos ht]
theorem tV_no {b : Nat} {k e : Int} (h : tE b k = e) (he : e ≠ 0) : tV b k = 0 := by unfold tV; rw [h, if_neg he]
theorem tV_ok {b : Nat} {k : Int} (h : tE b k = 0) : tV b k = (taken b k.toNat : Nat) := by unfold tV; rw [if_pos h]

theorem nearest_of (b k : Nat) (w : World) (hb : goodF b = true) (hk : k < 9007199254740992) :
    Calls Try.prog 33 #[.float .f64 b, .float .f64 (floatOfInt .f64 (k : Int))] w fun e w' => e = .returned (.float .f64 (nearF b k)) ∧ ∃ n, w' = w.drewN n := by
  rw [floatOfInt_nat]
  exact nearest_any b k w (of_decide_eq_true hb) hk

theorem ord_eq (x y : Nat) : FloatKind.f64.format.order x y = D.order x y := rfl
theorem toIntVal_of {x : Nat} {n : Int} (h : (D.read x).toInt .zero = some n) (h1 : -9223372036854775808 ≤ n) (h2 : n ≤ 9223372036854775807) : floatToIntVal .f64 x .i64 = some n := by
  have hd : FloatKind.f64.decode x = D.read x := rfl
  unfold floatToIntVal
  rw [hd, h]
  have hb : IntKind.i64.min ≤ n ∧ n ≤ IntKind.i64.max := ⟨h1, h2⟩
  exact if_pos hb
theorem nzero_int : (D.read 9223372036854775808).toInt .zero = some 0 := by decide
theorem nzero_gt : (D.order 9223372036854775808 4801453603149578240 == some .gt) = false := by
  rw [order_nzero (by omega)]; decide

theorem nearF_spec (b k : Nat) (hb : goodF b = true) : (10000000000000 < taken b k ∧ (FloatKind.f64.format.order (nearF b k) 4801453603149578240 == some .gt) = true) ∨
    (taken b k ≤ 10000000000000 ∧ (FloatKind.f64.format.order (nearF b k) 4801453603149578240 == some .gt) = false ∧ floatToIntVal .f64 (nearF b k) .i64 = some ((taken b k : Nat) : Int)) := by
  have hb := of_decide_eq_true hb
  rw [ord_eq]
  unfold nearF taken
  by_cases h : b = 9223372036854775808
  · have e : val (b % 9223372036854775808) * k = 0 := by
      rw [h, Nat.mod_self, show val 0 = 0 by unfold val sig; simp, Nat.zero_mul]
    have e2 : rne 0 U = 0 := by have := rne_whole 0 U; rwa [Nat.zero_mul] at this
    rw [if_pos h, e, e2, h]
    exact Or.inr ⟨by omega, nzero_gt, toIntVal_of nzero_int (by omega) (by omega)⟩
  · have hr : b < 9218868437227405312 := by omega
    rw [if_neg h, show b % 9223372036854775808 = b by omega]
    generalize val b * k = v
    have hle := nearW_le v
    rcases nearW_spec v with ⟨h1, h2⟩ | ⟨h1, h2⟩
    · refine Or.inr ⟨h1, ?_, ?_⟩
      · rw [order_pos hle (by omega), beq_eq_false_iff_ne]
        intro h'; injection h' with h'
        rw [Nat.compare_eq_gt, h2] at h'
        have := not_above h1
        omega
      · rw [h2]
        exact toIntVal_of (toInt_word (by omega)) (by omega) (by omega)
    · refine Or.inl ⟨h1, ?_⟩
      rw [order_pos hle (by omega), Nat.compare_eq_gt.2 h2]; rfl

theorem to_int (x : Nat) (n : Int) (w : World) (h : floatToIntVal .f64 x .i64 = some n) : (convert 22 2 (.float .f64 x)).run Try.prog w = .ok (.int .i64 n) w :=
  run_convert_float_int w 22 2 .f64 .i64 x n (by kernel_rfl) (by kernel_rfl) h

theorem take_any (b : Nat) (k : Int) (w : World) (hb : b < 18446744073709551616) :
    Calls Try.prog 9 #[.float .f64 b, .int .i64 k] w fun e w' => e = .returned (.tuple #[.int .i64 (tV b k), .int .i64 (tE b k)]) ∧ ∃ n, w' = w.drewN n := by
  cases hg : goodF b with
  | false =>
    have e1 := tE_bad (k := k) hg
    have H1 : Hid (tV b k = 0) := tV_no e1 (by decide)
    have H2 := Lib.hid e1
    clear e1
    go_enter Try.func9, Try.ntmps9
    go_wp2_with (go_at_call 11; refine (good_f _ _ hb).mono ?_; rintro e w' ⟨rfl, rfl⟩)
    go_ret2
    exact ⟨ret_two H1.out.symm H2.out.symm, 0, rfl⟩
  | true =>
    by_cases hk : 1 ≤ k ∧ k ≤ 1000000
    · obtain ⟨n, rfl⟩ := Int.eq_ofNat_of_zero_le (show 0 ≤ k by omega)
      have hn : (n : Int).toNat = n := by omega
      rcases nearF_spec b n hg with ⟨h1, h2⟩ | ⟨h1, h2, h3⟩
      · have e1 := tE_range (k := (n : Int)) hg hk (by rw [hn]; exact h1)
        have H1 : Hid (tV b (n : Int) = 0) := tV_no e1 (by decide)
        have H2 := Lib.hid e1
        have hc := nearest_of b n
        clear e1 h1
        go_enter Try.func9, Try.ntmps9
        go_wp2_with first | (go_at_call 11; refine (good_f _ _ hb).mono ?_; rintro e w' ⟨rfl, rfl⟩) | (go_at_call 33; refine (hc _ hg (by omega)).mono ?_; rintro e w' ⟨rfl, m, rfl⟩)
        go_ret2
        exact ⟨ret_two H1.out.symm H2.out.symm, _, rfl⟩
      · have e1 := tE_ok (k := (n : Int)) hg hk (by rw [hn]; exact h1)
        have H1 : Hid (tV b (n : Int) = (taken b n : Nat)) := (tV_ok e1).trans (by rw [hn])
        have H2 := Lib.hid e1
        have hc := nearest_of b n
        have hi := fun w => to_int _ _ w h3
        clear e1 h1 h3
        go_enter Try.func9, Try.ntmps9
        go_wp2_with first | (go_at_call 11; refine (good_f _ _ hb).mono ?_; rintro e w' ⟨rfl, rfl⟩) | (go_at_call 33; refine (hc _ hg (by omega)).mono ?_; rintro e w' ⟨rfl, m, rfl⟩)
        go_ret2
        exact ⟨ret_two H1.out.symm H2.out.symm, _, rfl⟩
    · have e1 := tE_arg hg hk
      have H1 : Hid (tV b k = 0) := tV_no e1 (by decide)
      have H2 := Lib.hid e1
      clear e1
      by_cases k1 : k < 1
      · clear hk
        go_enter Try.func9, Try.ntmps9
        go_wp2_with (go_at_call 11; refine (good_f _ _ hb).mono ?_; rintro e w' ⟨rfl, rfl⟩)
        go_ret2
        exact ⟨ret_two H1.out.symm H2.out.symm, 0, rfl⟩
      · have k2 : 1000000 < k := by omega
        clear hk
        go_enter Try.func9, Try.ntmps9
        go_wp2_with (go_at_call 11; refine (good_f _ _ hb).mono ?_; rintro e w' ⟨rfl, rfl⟩)
        go_ret2
        exact ⟨ret_two H1.out.symm H2.out.symm, 0, rfl⟩

theorem cents_any (b : Nat) (w : World) (hb : b < 18446744073709551616) :
    Calls Try.prog 14 #[.float .f64 b] w fun e w' => e = .returned (.tuple #[.int .i64 (tV b 100), .int .i64 (tE b 100)]) ∧ ∃ n, w' = w.drewN n := by
  go_enter Try.func14, Try.ntmps14
  go_wp2_with (go_at_call 9; refine (take_any _ _ _ hb).mono ?_; rintro e w' ⟨rfl, m, rfl⟩)
  go_ret2
  exact ⟨rfl, _, rfl⟩

def pE (b : Nat) : Int := if tE b 10000 = 0 then (if tV b 10000 ≤ 1000000 then 0 else 14) else tE b 10000
def pV (b : Nat) : Int := if pE b = 0 then tV b 10000 else 0
theorem tV_range (b : Nat) (k : Int) : 0 ≤ tV b k ∧ tV b k ≤ 10000000000000 := by
  by_cases h : tE b k = 0
  · rw [tV_ok h]
    unfold tE at h
    split at h
    · split at h
      · split at h
        · omega
        · omega
      · omega
    · omega
  · rw [tV_no rfl h]; omega

theorem ppm_any (b : Nat) (w : World) (hb : b < 18446744073709551616) :
    Calls Try.prog 16 #[.float .f64 b] w fun e w' => e = .returned (.tuple #[.int .i64 (pV b), .int .i64 (pE b)]) ∧ ∃ n, w' = w.drewN n := by
  have hr := tV_range b 10000
  by_cases h0 : tE b 10000 = 0
  · have hd : (tE b 10000 == 0) = true := by rw [beq_iff_eq]; exact h0
    by_cases h1 : tV b 10000 ≤ 1000000
    · have H2 : Hid (pE b = 0) := show pE b = 0 by unfold pE; rw [if_pos h0, if_pos h1]
      have H1 : Hid (pV b = tV b 10000) := show pV b = tV b 10000 by unfold pV; rw [if_pos H2.out]
      have hw : IntKind.i64.wrap (tV b 10000) = tV b 10000 := by rw [IntKind.wrap_i64]; omega
      have hc := take_any b 10000
      generalize tV b 10000 = v at *
      generalize tE b 10000 = e at *
      subst h0
      go_enter Try.func16, Try.ntmps16
      go_wp2_with (go_at_call 9; refine (hc _ hb).mono ?_; rintro e w' ⟨rfl, m, rfl⟩)
      go_ret2
      exact ⟨ret_two H1.out.symm H2.out.symm, _, rfl⟩
    · have H2 : Hid (pE b = 14) := show pE b = 14 by unfold pE; rw [if_pos h0, if_neg h1]
      have H1 : Hid (pV b = 0) := show pV b = 0 by unfold pV; rw [if_neg (by rw [H2.out]; decide)]
      have hc := take_any b 10000
      generalize tV b 10000 = v at *
      generalize tE b 10000 = e at *
      subst h0
      go_enter Try.func16, Try.ntmps16
      go_wp2_with (go_at_call 9; refine (hc _ hb).mono ?_; rintro e w' ⟨rfl, m, rfl⟩)
      go_ret2
      exact ⟨ret_two H1.out.symm H2.out.symm, _, rfl⟩
  · have hd : (tE b 10000 == 0) = false := by rw [beq_eq_false_iff_ne]; exact h0
    have H2 : Hid (pE b = tE b 10000) := show pE b = tE b 10000 by unfold pE; rw [if_neg h0]
    have H1 : Hid (pV b = 0) := show pV b = 0 by unfold pV; rw [if_neg (by rw [H2.out]; exact h0)]
    have hc := take_any b 10000
    generalize tV b 10000 = v at *
    generalize tE b 10000 = e at *
    go_enter Try.func16, Try.ntmps16
    go_wp2_with (go_at_call 9; refine (hc _ hb).mono ?_; rintro e w' ⟨rfl, m, rfl⟩)
    go_ret2
    exact ⟨ret_two H1.out.symm H2.out.symm, _, rfl⟩
end Go.Proofs.Ytiaiahdejihlbaa.Fl
