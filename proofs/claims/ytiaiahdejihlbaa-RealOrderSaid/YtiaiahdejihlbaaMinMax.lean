/- math.Min and math.Max at good numbers; Take of a greater number, and by a greater scale. -/
import Derived.Test.YtiaiahdejihlbaaRealWakes
namespace Go.Proofs.Ytiaiahdejihlbaa.Fl
open Go.ChangeShapes Go.WideShapes Go.ChangeAt Go.RowKit Bits Money Flo Law

theorem order_zero_left (e : Int) (d : Ieee.Datum) : Ieee.Datum.order (.number true 0 e) d = Ieee.Datum.order (.number false 0 e) d := by
  cases d <;> simp [Ieee.Datum.order, Ieee.signed]
theorem order_zero_right (e : Int) (d : Ieee.Datum) : Ieee.Datum.order d (.number true 0 e) = Ieee.Datum.order d (.number false 0 e) := by
  cases d <;> simp [Ieee.Datum.order, Ieee.signed]
theorem read_nzero : D.read 9223372036854775808 = .number true 0 (-1074) := by decide
theorem read_zero : D.read 0 = .number false 0 (-1074) := by decide

/-- Of good numbers the rungs tell the order; -0 is 0. -/
theorem order_good {x y : Nat} (hx : goodF x = true) (hy : goodF y = true) : D.order x y = some (compare (x % 9223372036854775808) (y % 9223372036854775808)) := by
  have hx := of_decide_eq_true hx
  have hy := of_decide_eq_true hy
  have ex : D.order x y = D.order (x % 9223372036854775808) y := by
    by_cases h : x = 9223372036854775808
    · subst h
      rw [Nat.mod_self]
      unfold Ieee.Format.order
      rw [read_nzero, read_zero, order_zero_left]
    · rw [show x % 9223372036854775808 = x by omega]
  have ey : D.order (x % 9223372036854775808) y = D.order (x % 9223372036854775808) (y % 9223372036854775808) := by
    by_cases h : y = 9223372036854775808
    · subst h
      rw [Nat.mod_self]
      unfold Ieee.Format.order
      rw [read_nzero, read_zero, order_zero_right]
    · rw [show y % 9223372036854775808 = y by omega]
  rw [ex, ey, order_pos (by omega) (by omega)]

theorem read_good {x : Nat} (hx : goodF x = true) : ∃ s m e, D.read x = .number s m e ∧ (m = 0 → x % 9223372036854775808 = 0) := by
  have hx := of_decide_eq_true hx
  by_cases h : x = 9223372036854775808
  · subst h
    exact ⟨_, _, _, read_nzero, fun _ => Nat.mod_self _⟩
  · refine ⟨_, _, _, read_pos (by omega : x < 9218868437227405312), fun hm => ?_⟩
    have h1 := sig_ex x
    have h2 := ex_or x
    omega

theorem pick_good (name : String) (neg : Bool) (win : Ordering) {x y : Nat} (hx : goodF x = true) (hy : goodF y = true) :
    ∃ z, Extern.MathDim.pick name neg win #[.float .f64 x, .float .f64 y] = pure (.float .f64 z) ∧ ((x % 9223372036854775808 = 0 ∧ y % 9223372036854775808 = 0 ∧ (z = x ∨ z = y)) ∨ (compare (x % 9223372036854775808) (y % 9223372036854775808) = win ∧ z = x) ∨ (compare (x % 9223372036854775808) (y % 9223372036854775808) ≠ win ∧ z = y)) := by
  obtain ⟨s, m, i, ha, hm⟩ := read_good hx
  obtain ⟨t, n, j, hb, hn⟩ := read_good hy
  have ho := order_good hx hy
  unfold Ieee.Format.order at ho
  have e1 : FloatKind.f64.decode x = .number s m i := ha
  have e2 : FloatKind.f64.decode y = .number t n j := hb
  rw [ha, hb] at ho
  refine ⟨_, rfl, ?_⟩
  simp only [e1, e2, ho]
  have d1 : ((Ieee.Datum.number s m i == Ieee.Datum.infinity neg) || (Ieee.Datum.number t n j == Ieee.Datum.infinity neg)) = false := by
    rw [Bool.or_eq_false_iff, beq_eq_false_iff_ne, beq_eq_false_iff_ne]
    exact ⟨fun h => (nomatch h), fun h => (nomatch h)⟩
  rw [d1]
  simp only [Ieee.Datum.isNaN, Bool.or_self, Bool.false_eq_true, if_false]
  by_cases hz : ((Ieee.Datum.number s m i).isZero && (Ieee.Datum.number t n j).isZero) = true
  · rw [if_pos hz]
    left
    rw [Bool.and_eq_true] at hz
    have z1 : m = 0 := by
      cases m with
      | zero => rfl
      | succ m => exact absurd hz.1 (by simp [Ieee.Datum.isZero])
    have z2 : n = 0 := by
      cases n with
      | zero => rfl
      | succ n => exact absurd hz.2 (by simp [Ieee.Datum.isZero])
    refine ⟨hm z1, hn z2, ?_⟩
    split
    · exact Or.inl rfl
    · exact Or.inr rfl
  · rw [if_neg hz]
    right
    by_cases hw : compare (x % 9223372036854775808) (y % 9223372036854775808) = win
    · rw [hw]; simp
    · right
      refine ⟨hw, ?_⟩
      rw [if_neg]
      rw [beq_iff_eq]
      intro h; injection h with h
      exact hw h

theorem call_min {x y : Nat} (hx : goodF x = true) (hy : goodF y = true) : ∃ z, (∀ w, Calls Try.prog 31 #[.float .f64 x, .float .f64 y] w fun e w' => e = .returned (.float .f64 z) ∧ w = w') ∧ goodF z = true ∧ z % 9223372036854775808 = min (x % 9223372036854775808) (y % 9223372036854775808) := by
  obtain ⟨z, hz, hc⟩ := pick_good "math.archMin" true .lt hx hy
  refine ⟨z, fun w => ?_, ?_, ?_⟩
  · have h : (callFunc 43 #[.float .f64 x, .float .f64 y]).run Try.prog w = .ok (.value (.float .f64 z)) w := by
      rw [run_callFunc_extern Try.func43 (by kernel_rfl) (by kernel_rfl) (by kernel_rfl) (e := Extern.MathDim.pick "math.archMin" true .lt) (by kernel_rfl), hz]
      rfl
    clear hz hc
    go_enter Try.func31, Try.ntmps31
    go_wp2
    go_ret
    exact ⟨rfl, rfl⟩
  · rcases hc with ⟨-, -, rfl | rfl⟩ | ⟨-, rfl⟩ | ⟨-, rfl⟩ <;> assumption
  · rcases hc with ⟨h1, h2, rfl | rfl⟩ | ⟨h, rfl⟩ | ⟨h, rfl⟩
    · omega
    · omega
    · rw [Nat.compare_eq_lt] at h; omega
    · rw [Ne, Nat.compare_eq_lt] at h; omega
theorem call_max {x y : Nat} (hx : goodF x = true) (hy : goodF y = true) : ∃ z, (∀ w, Calls Try.prog 32 #[.float .f64 x, .float .f64 y] w fun e w' => e = .returned (.float .f64 z) ∧ w = w') ∧ goodF z = true ∧ z % 9223372036854775808 = max (x % 9223372036854775808) (y % 9223372036854775808) := by
  obtain ⟨z, hz, hc⟩ := pick_good "math.archMax" false .gt hx hy
  refine ⟨z, fun w => ?_, ?_, ?_⟩
  · have h : (callFunc 45 #[.float .f64 x, .float .f64 y]).run Try.prog w = .ok (.value (.float .f64 z)) w := by
      rw [run_callFunc_extern Try.func45 (by kernel_rfl) (by kernel_rfl) (by kernel_rfl) (e := Extern.MathDim.pick "math.archMax" false .gt) (by kernel_rfl), hz]
      rfl
    clear hz hc
    go_enter Try.func32, Try.ntmps32
    go_wp2
    go_ret
    exact ⟨rfl, rfl⟩
  · rcases hc with ⟨-, -, rfl | rfl⟩ | ⟨-, rfl⟩ | ⟨-, rfl⟩ <;> assumption
  · rcases hc with ⟨h1, h2, rfl | rfl⟩ | ⟨h, rfl⟩ | ⟨h, rfl⟩
    · omega
    · omega
    · rw [Nat.compare_eq_gt] at h; omega
    · rw [Ne, Nat.compare_eq_gt] at h; omega

/-! What follows of rounding. -/
theorem taken_mono {x y k : Nat} (h : x % 9223372036854775808 ≤ y % 9223372036854775808) : taken x k ≤ taken y k :=
  rne_mono U (Nat.mul_le_mul_right k (val_mono h))
theorem taken_more {x k : Nat} : taken x k ≤ taken x (100 * k) :=
  rne_mono U (Nat.mul_le_mul_left _ (by omega))
theorem taken_hundred {x k : Nat} : 100 * taken x k ≤ taken x (100 * k) + 50 ∧ taken x (100 * k) ≤ 100 * taken x k + 50 := by
  unfold taken
  rw [show val (x % 9223372036854775808) * (100 * k) = 100 * (val (x % 9223372036854775808) * k) by rw [Nat.mul_left_comm]]
  generalize val (x % 9223372036854775808) * k = p
  obtain ⟨h1, h2⟩ := rne_bounds p U
  have hp := two_pos U
  generalize rne p U = a at *
  constructor
  · by_cases ha : a = 0
    · omega
    · have h3 : (100 * a - 50) * 2 ^ U ≤ 100 * p := by
        have e : (100 * a - 50) * 2 ^ U = 100 * (a * 2 ^ U) - 50 * 2 ^ U := by rw [Nat.sub_mul, Nat.mul_assoc]
        rw [Nat.mul_assoc] at h1
        rw [e]
        generalize a * 2 ^ U = z at *
        omega
      have h4 := rne_mono U h3
      rw [rne_whole] at h4
      omega
  · have h3 : 100 * p ≤ (100 * a + 50) * 2 ^ U := by
      have e : (100 * a + 50) * 2 ^ U = 100 * (a * 2 ^ U) + 50 * 2 ^ U := by rw [Nat.add_mul, Nat.mul_assoc]
      have e2 : (2 * a + 1) * 2 ^ U = 2 * (a * 2 ^ U) + 2 ^ U := by rw [Nat.add_mul, Nat.mul_assoc, Nat.one_mul]
      rw [e2] at h2
      rw [e]
      generalize a * 2 ^ U = z at *
      omega
    have h4 := rne_mono U h3
    rw [rne_whole] at h4
    exact h4
/-- Of a good number and a scale: the number taken, or none. -/
theorem tell_two {b k : Nat} (hg : goodF b = true) (hk : 1 ≤ k ∧ k ≤ 1000000) : (taken b k ≤ 10000000000000 ∧ tE b (k : Int) = 0 ∧ tV b (k : Int) = (taken b k : Nat)) ∨ (10000000000000 < taken b k ∧ tE b (k : Int) = 14 ∧ tV b (k : Int) = 0) := by
  by_cases h : taken b k ≤ 10000000000000
  · obtain ⟨h1, h2⟩ := answer_ok hg hk rfl h
    exact Or.inl ⟨h, h1, h2⟩
  · refine Or.inr ⟨by omega, ?_, ?_⟩
    · exact tE_range hg (by omega) (by rw [show (k : Int).toNat = k by omega]; omega)
    · exact tV_no (tE_range hg (by omega) (by rw [show (k : Int).toNat = k by omega]; omega)) (by decide)
theorem good_lt {b : Nat} (h : goodF b = true) : b < 18446744073709551616 := by
  have := of_decide_eq_true h
  omega
theorem u16_nat {s : Int} (h : (Lit.int .u16 s).wf = true) : ∃ n : Nat, s = n ∧ n < 65536 := by
  have h1 : 0 ≤ s ∧ s ≤ 65535 := by simpa [Lit.wf, IntKind.min, IntKind.max, IntKind.bits, IntKind.signed] using h
  exact ⟨s.toNat, by omega, by omega⟩
end Go.Proofs.Ytiaiahdejihlbaa.Fl
