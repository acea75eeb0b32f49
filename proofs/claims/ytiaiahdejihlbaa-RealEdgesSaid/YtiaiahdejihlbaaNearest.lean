/- What real's nearest and Take answer, at every float64 and scale. -/
import Derived.Test.YtiaiahdejihlbaaFloat
namespace Go.Proofs.Ytiaiahdejihlbaa.Fl
open Go.ChangeShapes Go.WideShapes Go.ChangeAt Go.RowKit Bits Money Flo

theorem neg_word (p : Nat) (h : p < 9223372036854775808) : Op.negFloat .f64 p = 9223372036854775808 + p := by
  show p ^^^ 2 ^ 63 = 9223372036854775808 + p
  have h1 : p ||| 2 ^ 63 = 2 ^ 63 + p := by
    have e := Nat.two_pow_add_eq_or_of_lt (i := 63) (b := p) (by omega) 1
    rw [Nat.mul_one] at e
    rw [Nat.or_comm, ← e]
  have h2 : p ^^^ 2 ^ 63 = p ||| 2 ^ 63 := by
    refine Nat.eq_of_testBit_eq fun i => ?_
    rw [Nat.testBit_xor, Nat.testBit_or, Nat.testBit_two_pow]
    by_cases hi : 63 = i
    · subst hi
      have : p.testBit 63 = false := Nat.testBit_lt_two_pow (by omega)
      rw [this]; rfl
    · simp [hi]
  rw [h2, h1]

theorem neg_run (p : Nat) (w : World) (h : p < 9223372036854775808) : (Op.unary .neg (.float .f64 p)).run Try.prog w = .ok (.float .f64 (9223372036854775808 + p)) w := by
  rw [← neg_word p h]; rfl

theorem call_floor (b : Nat) (w : World) (h : ∀ s t, D.read b ≠ .nan s t) : (callFunc 51 #[.float .f64 b]).run Try.prog w = .ok (.value (.float .f64 (D.write ((D.read b).integral .down)))) w := by
  rw [run_callFunc_extern Try.func51 (by kernel_rfl) (by kernel_rfl) (by kernel_rfl) (e := Extern.MathFloor.toIntegral "math.archFloor" .down) (by kernel_rfl)]
  unfold Extern.MathFloor.toIntegral
  show Result.andThen (Sem.run _ (match D.read b with | .nan s t => _ | d => _) w) _ = _
  generalize D.read b = d at *
  cases d with
  | number s m e => rfl
  | infinity s => rfl
  | nan s t => exact absurd rfl (h s t)
theorem call_even (b : Nat) (w : World) (h : ∀ s t, D.read b ≠ .nan s t) : (callFunc 49 #[.float .f64 b]).run Try.prog w = .ok (.value (.float .f64 (D.write ((D.read b).integral .even)))) w := by
  rw [run_callFunc_extern Try.func49 (by kernel_rfl) (by kernel_rfl) (by kernel_rfl) (e := Extern.MathFloor.toIntegral "math.RoundToEven" .even) (by kernel_rfl)]
  unfold Extern.MathFloor.toIntegral
  show Result.andThen (Sem.run _ (match D.read b with | .nan s t => _ | d => _) w) _ = _
  generalize D.read b = d at *
  cases d with
  | number s m e => rfl
  | infinity s => rfl
  | nan s t => exact absurd rfl (h s t)
theorem call_fma (x y z r : Nat) (w : World) (h : D.fma x y z = some r) : (callFunc 48 #[.float .f64 x, .float .f64 y, .float .f64 z]).run Try.prog w = .ok (.value (.float .f64 r)) w := by
  rw [run_callFunc_extern Try.func48 (by kernel_rfl) (by kernel_rfl) (by kernel_rfl) (e := Extern.MathFMA.fma) (by kernel_rfl)]
  unfold Extern.MathFMA.fma
  show Result.andThen (Sem.run _ (match D.fma x y z with | some r => _ | none => _) w) _ = _
  rw [h]; rfl

theorem finite_read {r : Nat} (h : r < 9218868437227405312) (s : Bool) (t : Nat) : D.read r ≠ .nan s t := not_nan (by omega) s t

theorem floor_at {r : Nat} (w : World) (h : r < 9218868437227405312) : (callFunc 51 #[.float .f64 r]).run Try.prog w = .ok (.value (.float .f64 (wholeW (val r / 2 ^ U)))) w := by
  rw [call_floor r w (finite_read h), floor_word h]
theorem even_at {r : Nat} (w : World) (h : r < 9218868437227405312) : (callFunc 49 #[.float .f64 r]).run Try.prog w = .ok (.value (.float .f64 (wholeW (rne (val r) U)))) w := by
  rw [call_even r w (finite_read h), even_word h]

theorem mul_run {t : TypeId} {x y r : Nat} (w : World) (h : D.mul x y = some r) : (binOp .mul t (.float .f64 x) (.float .f64 y)).run Try.prog w = .ok (.float .f64 r) w := run_float_arith w .mul t .f64 x y r h
theorem sub_run {t : TypeId} {x y r : Nat} (w : World) (h : D.sub x y = some r) : (binOp .sub t (.float .f64 x) (.float .f64 y)).run Try.prog w = .ok (.float .f64 r) w := run_float_arith w .sub t .f64 x y r h
theorem add_run {t : TypeId} {x y r : Nat} (w : World) (h : D.add x y = some r) : (binOp .add t (.float .f64 x) (.float .f64 y)).run Try.prog w = .ok (.float .f64 r) w := run_float_arith w .add t .f64 x y r h

/-- Endless less endless: a NaN, whichever. -/
theorem sub_inf (t : TypeId) (w : World) : ∃ z, 9218868437227405312 < z % 9223372036854775808 ∧ (binOp .sub t (.float .f64 9218868437227405312) (.float .f64 9218868437227405312)).run Try.prog w = .ok (.float .f64 z) w.drew := by
  have h : D.sub 9218868437227405312 9218868437227405312 = none := by
    unfold Ieee.Format.sub; rw [read_inf]; rfl
  refine ⟨(Question.nanBits .f64 9218868437227405312 9218868437227405312).cut (w.tape w.drawn (Question.nanBits .f64 9218868437227405312 9218868437227405312)), ?_, ?_⟩
  · generalize w.tape w.drawn (Question.nanBits .f64 9218868437227405312 9218868437227405312) = n
    show 9218868437227405312 < ((n % 2) * 9223372036854775808 + 9218868437227405312 + 1 + (n / 2) % 4503599627370495) % 9223372036854775808
    have hm := Nat.mod_lt (n / 2) (show 0 < 4503599627370495 by omega)
    generalize n / 2 % 4503599627370495 = m at *
    have h2 : n % 2 = 0 ∨ n % 2 = 1 := by omega
    rcases h2 with h2 | h2 <;> rw [h2] <;> omega
  · show Sem.run _ (Op.floatArith .sub .f64 _ _) w = _
    unfold Op.floatArith
    simp only [show FloatKind.f64.format.sub 9218868437227405312 9218868437227405312 = none from h]
    simp [Question.forced]

theorem nearest_inf (r k : Nat) (w : World) (hm : D.mul r (wholeW k) = some 9218868437227405312) :
    Calls Try.prog 33 #[.float .f64 r, .float .f64 (wholeW k)] w fun e w' => e = .returned (.float .f64 9218868437227405312) ∧ ∃ n, w' = w.drewN n := by
  have hmul := mul_run (t := 22) w hm
  have hi : ∀ s t, D.read 9218868437227405312 ≠ .nan s t := not_nan (by omega)
  have hfl := call_floor _ w hi
  obtain ⟨z, hz, hsub⟩ := sub_inf 22 w
  have hev := call_even _ w.drew hi
  have e1 : D.write ((D.read 9218868437227405312).integral .down) = 9218868437227405312 := by rw [read_inf]; rfl
  have e2 : D.write ((D.read 9218868437227405312).integral .even) = 9218868437227405312 := by rw [read_inf]; rfl
  rw [e1] at hfl
  rw [e2] at hev
  have hq : (FloatKind.f64.format.order z 4602678819172646912 == some .eq) = false := by
    show (D.order z 4602678819172646912 == some .eq) = false
    rw [order_nan_left _ hz]; rfl
  clear hz e1 e2 hi hm
  go_enter Try.func33, Try.ntmps33
  go_wp2
  go_ret
  exact ⟨rfl, 1, rfl⟩

theorem nearest_fin (r k : Nat) (w : World) (hr : r < 9218868437227405312) (hk : k < 9007199254740992) (hp : rung (val r * k) < 9218868437227405312) :
    Calls Try.prog 33 #[.float .f64 r, .float .f64 (wholeW k)] w fun e w' => e = .returned (.float .f64 (wholeW (side T (val r * k) (val (rung (val r * k)))))) ∧ w = w' := by
  have hs := wholeW_lt (n := k) (by omega)
  have hv := val_wholeW hk
  have hm := mul_pos hr hs k hv
  rw [Nat.min_eq_left (Nat.le_of_lt hp)] at hm
  have hmul := mul_run (t := 22) w hm
  have hf := fma_rest hr hs hp hv
  unfold side
  rw [← U_T]
  generalize val r * k = v at *
  generalize rung v = p at *
  have hneg := neg_run p w (by omega)
  have hfl := floor_at w hp
  obtain ⟨x, hx, hq⟩ := rest_sub hp
  have hsub := sub_run (t := 22) w hx
  have hev := even_at w hp
  have hadd := add_run (t := 22) w (low_one hp)
  generalize wholeW k = s at *
  have hq' : (FloatKind.f64.format.order x 4602678819172646912 == some .eq) = decide (val p % 2 ^ U = 2 ^ T) := hq
  obtain ⟨f1, f2, f3⟩ := hf
  by_cases h1 : val p % 2 ^ U = 2 ^ T
  · rw [decide_eq_true h1] at hq'
    rw [if_pos h1]
    by_cases h2 : v < val p
    · obtain ⟨y, y0, y1, hy⟩ := f1 h2
      have hc := call_fma _ _ _ _ w hy
      have hlt : (FloatKind.f64.format.order (9223372036854775808 + y) 0 == some .lt) = true := by
        show (D.order _ _ == _) = _
        rw [order_neg y0 y1 (by omega)]; rfl
      rw [if_pos h2]
      clear hq hx hm f1 f2 f3 h1 h2 hev hadd hy
      go_enter Try.func33, Try.ntmps33
      go_wp2
      go_ret
      exact ⟨rfl, rfl⟩
    · rw [if_neg h2]
      by_cases h3 : val p < v
      · obtain ⟨y, y0, y1, hy⟩ := f2 h3
        have hc := call_fma _ _ _ _ w hy
        have hlt : (FloatKind.f64.format.order y 0 == some .lt) = false := by
          show (D.order _ _ == _) = _
          rw [order_pos y1 (by omega), beq_eq_false_iff_ne]
          intro h'; injection h' with h'
          rw [Nat.compare_eq_lt] at h'; omega
        have hgt : (FloatKind.f64.format.order y 0 == some .gt) = true := by
          show (D.order _ _ == _) = _
          rw [order_pos y1 (by omega), Nat.compare_eq_gt.2 y0]; rfl
        rw [if_pos h3]
        clear hq hx hm f1 f2 f3 h1 h2 h3 hev hy y0 y1
        go_enter Try.func33, Try.ntmps33
        go_wp2
        go_ret
        exact ⟨rfl, rfl⟩
      · rw [if_neg h3]
        have hc := call_fma _ _ _ _ w (f3 (by omega))
        have hlt : (FloatKind.f64.format.order 0 0 == some .lt) = false := by decide
        have hgt : (FloatKind.f64.format.order 0 0 == some .gt) = false := by decide
        clear hq hx hm f1 f2 f3 h1 h2 h3 hadd
        go_enter Try.func33, Try.ntmps33
        go_wp2
        go_ret
        exact ⟨rfl, rfl⟩
  · rw [decide_eq_false h1] at hq'
    rw [if_neg h1]
    clear hq hx hm f1 f2 f3 h1 hadd
    go_enter Try.func33, Try.ntmps33
    go_wp2
    go_ret
    exact ⟨rfl, rfl⟩

theorem nearest_nzero (k : Nat) (w : World) (hk : k < 9007199254740992) :
    Calls Try.prog 33 #[.float .f64 9223372036854775808, .float .f64 (wholeW k)] w fun e w' => e = .returned (.float .f64 9223372036854775808) ∧ w = w' := by
  have hmul := mul_run (t := 22) w (mul_nzero (wholeW_lt (n := k) (by omega)))
  have hi : ∀ s t, D.read 9223372036854775808 ≠ .nan s t := not_nan (by omega)
  have hfl := call_floor _ w hi
  have hev := call_even _ w hi
  have e1 : D.write ((D.read 9223372036854775808).integral .down) = 9223372036854775808 := by decide
  have e2 : D.write ((D.read 9223372036854775808).integral .even) = 9223372036854775808 := by decide
  have e3 : D.sub 9223372036854775808 9223372036854775808 = some 0 := by decide
  have hsub := sub_run (t := 22) w e3
  rw [e1] at hfl
  rw [e2] at hev
  have hq : (FloatKind.f64.format.order 0 4602678819172646912 == some .eq) = false := by decide
  generalize wholeW k = s at *
  clear e1 e2 e3 hi
  go_enter Try.func33, Try.ntmps33
  go_wp2
  go_ret
  exact ⟨rfl, rfl⟩

/-- What nearest answers of a good number and a scale. -/
def nearF (b k : Nat) : Nat := if b = 9223372036854775808 then b else nearW (val b * k)
theorem nearest_any (b k : Nat) (w : World) (hb : b < 9218868437227405312 ∨ b = 9223372036854775808) (hk : k < 9007199254740992) :
    Calls Try.prog 33 #[.float .f64 b, .float .f64 (wholeW k)] w fun e w' => e = .returned (.float .f64 (nearF b k)) ∧ ∃ n, w' = w.drewN n := by
  unfold nearF
  by_cases h : b = 9223372036854775808
  · subst h
    rw [if_pos rfl]
    exact (nearest_nzero k w hk).mono fun _ _ h => ⟨h.1, 0, h.2.symm⟩
  · have hr : b < 9218868437227405312 := by omega
    rw [if_neg h]
    unfold nearW
    by_cases hp : rung (val b * k) < 9218868437227405312
    · rw [if_pos hp]
      exact (nearest_fin b k w hr hk hp).mono fun _ _ h => ⟨h.1, 0, h.2.symm⟩
    · rw [if_neg hp]
      have hm := mul_pos hr (wholeW_lt (n := k) (by omega)) k (val_wholeW hk)
      rw [Nat.min_eq_right (by omega)] at hm
      exact nearest_inf b k w hm
end Go.Proofs.Ytiaiahdejihlbaa.Fl
