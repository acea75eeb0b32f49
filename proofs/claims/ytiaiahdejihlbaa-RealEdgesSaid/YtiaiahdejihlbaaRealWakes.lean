/- The examples that every law of layer 3 asks beside its own sentence. -/
import Derived.Test.YtiaiahdejihlbaaDollars
namespace Go.Proofs.Ytiaiahdejihlbaa.Fl
open Go.ChangeShapes Go.WideShapes Go.ChangeAt Go.RowKit Bits Money Flo Law

theorem float_lt {b : Nat} (h : (Lit.float .f64 b).wf = true) : b < 18446744073709551616 := by simpa [Lit.wf] using h
theorem nan_any (w : World) : Calls Try.prog 28 #[] w fun e w' => e = .returned (.float .f64 9221120237041090561) ∧ w = w' := by
  go_enter Try.func28, Try.ntmps28
  go_wp2
  go_ret
  exact ⟨rfl, rfl⟩
theorem inf_any (k : Int) (w : World) : Calls Try.prog 29 #[.int .i64 k] w fun e w' => e = .returned (.float .f64 (if 0 ≤ k then 9218868437227405312 else 18442240474082181120)) ∧ w = w' := by
  by_cases h : 0 ≤ k
  · rw [if_pos h]
    go_enter Try.func29, Try.ntmps29
    go_wp2
    go_ret
    exact ⟨rfl, rfl⟩
  · rw [if_neg h]
    go_enter Try.func29, Try.ntmps29
    go_wp2
    go_ret
    exact ⟨rfl, rfl⟩
theorem nzero_at (w : World) : Calls Try.prog 38 #[.float .f64 0, .float .f64 13830554455654793216] w fun e w' => e = .returned (.float .f64 9223372036854775808) ∧ w = w' := by
  go_enter Try.func38, Try.ntmps38
  go_wp2
  go_ret
  exact ⟨rfl, rfl⟩

/-! The answers at the examples. -/
theorem tell {b k m d n : Nat} (hg : goodF b = true) (hk : 1 ≤ k ∧ k ≤ 1000000) (hs : sig (b % 9223372036854775808) = m) (he : ex (b % 9223372036854775808) + d = 1074) (hr : rne (m * k) d = n) (hn : n ≤ 10000000000000) : tV b (k : Int) = (n : Nat) ∧ tE b (k : Int) = 0 := by
  have h := taken_cut b k (by rw [U_eq]; omega)
  rw [hs, show U - ex (b % 9223372036854775808) = d by rw [U_eq]; omega, hr] at h
  have e : (k : Int).toNat = k := by omega
  have h1 : tE b (k : Int) = 0 := tE_ok hg (by omega) (by rw [e, h]; exact hn)
  exact ⟨(tV_ok h1).trans (by rw [e, h]), h1⟩
theorem t1 : tV 4572414629676717179 100 = 1 ∧ tE 4572414629676717179 100 = 0 := tell (k := 100) (m := 5764607523034235) (d := 60) (n := 1) (by decide) (by decide) (by decide) (by decide) (by decide) (by decide)
theorem t2 : tV 9221120237041090561 100 = 0 ∧ tE 9221120237041090561 100 = 13 := by
  have h := tE_bad (b := 9221120237041090561) (k := 100) (by decide)
  exact ⟨tV_no h (by decide), h⟩
theorem t3 : tV 4617596992938311680 10000 = 52500 ∧ tE 4617596992938311680 10000 = 0 := tell (k := 10000) (m := 5910974510923776) (d := 50) (n := 52500) (by decide) (by decide) (by decide) (by decide) (by decide) (by decide)
theorem t3' : pV 4617596992938311680 = 52500 ∧ pE 4617596992938311680 = 0 := by
  have h : pE 4617596992938311680 = 0 := by unfold pE; rw [if_pos t3.2, if_pos (by rw [t3.1]; decide)]
  exact ⟨by unfold pV; rw [if_pos h, t3.1], h⟩
theorem rne_nil (d : Nat) : rne 0 d = 0 := by unfold rne; simp
theorem t4 : tV 9223372036854775808 100 = 0 ∧ tE 9223372036854775808 100 = 0 := tell (k := 100) (m := 0) (d := 1074) (n := 0) (by decide) (by decide) (by decide) (by decide) (by rw [Nat.zero_mul]; exact rne_nil _) (by decide)
theorem t5 : dolF 5 = 4587366580439587226 := by decide
theorem wakes_real (w : World) : Calls Try.prog 13 #[] w fun e w' => e = .returned (.bool true) ∧ ∃ n, w' = w.drewN n := by
  have hq : (FloatKind.f64.format.order 4587366580439587226 4587366580439587226 == some .eq) = true := by
    rw [ord_eq, order_pos (by omega) (by omega)]; decide
  go_enter Try.func13, Try.ntmps13
  go_wp2_with fail
  refine (cents_any _ _ (by decide)).mono ?_
  rw [t1.1, t1.2]
  rintro e w' ⟨rfl, n1, rfl⟩
  go_wp2_with fail
  refine (nan_any _).mono ?_
  rintro e w' ⟨rfl, rfl⟩
  go_wp2_with fail
  refine (cents_any _ _ (by decide)).mono ?_
  rw [t2.1, t2.2]
  rintro e w' ⟨rfl, n2, rfl⟩
  go_wp2_with fail
  refine (ppm_any _ _ (by decide)).mono ?_
  rw [t3'.1, t3'.2]
  rintro e w' ⟨rfl, n3, rfl⟩
  go_wp2_with fail
  refine (nzero_at _).mono ?_
  rintro e w' ⟨rfl, rfl⟩
  go_wp2_with fail
  refine (cents_any _ _ (by decide)).mono ?_
  rw [t4.1, t4.2]
  rintro e w' ⟨rfl, n4, rfl⟩
  go_wp2_with fail
  refine (dollars_any _ _).mono ?_
  rw [t5]
  rintro e w' ⟨rfl, rfl⟩
  go_wp2_with fail
  go_ret
  exact ⟨rfl, _, rfl⟩
end Go.Proofs.Ytiaiahdejihlbaa.Fl
