/- Of a greater number Take answers no less, by a greater scale neither; by a hundred times the scale it is within 50 of a hundred times as much, at any two float64s and any scale; no condition. -/
import Derived.Test.YtiaiahdejihlbaaShell
import Derived.Test.YtiaiahdejihlbaaMinMax
namespace Go.Proofs.Ytiaiahdejihlbaa.Law
open Go.ChangeShapes Go.WideShapes Go.ChangeAt Go.RowKit Bits Money Flo Fl

theorem order_walk (x y n : Nat) (w : World) (hx : x < 18446744073709551616) (hy : y < 18446744073709551616) (hn : n < 65536) :
    Calls Try.prog 8 #[.float .f64 x, .float .f64 y, .int .u16 (n : Int)] w fun e w' => e = .returned (.bool true) ∧ Below w.heap.size w w' := by
  cases hgx : goodF x with
  | false =>
    go_enter Try.func8, Try.ntmps8
    go_wp2_with fail
    refine (good_ref _ _ hx).mono ?_
    rintro e w1 ⟨rfl, rfl⟩
    go_wp2_with fail
    refine (wakes_real _).mono ?_
    rintro e w9 ⟨rfl, m9, rfl⟩
    go_wp2_with fail
    go_ret
    exact ⟨rfl, below_drewN (Below.refl _ _) _⟩
  | true =>
    cases hgy : goodF y with
    | false =>
      go_enter Try.func8, Try.ntmps8
      go_wp2_with fail
      refine (good_ref _ _ hx).mono ?_
      rintro e w1 ⟨rfl, rfl⟩
      go_wp2_with fail
      refine (good_ref _ _ hy).mono ?_
      rintro e w1 ⟨rfl, rfl⟩
      go_wp2_with fail
      refine (wakes_real _).mono ?_
      rintro e w9 ⟨rfl, m9, rfl⟩
      go_wp2_with fail
      go_ret
      exact ⟨rfl, below_drewN (Below.refl _ _) _⟩
    | true =>
      obtain ⟨z1, c1, g1, v1⟩ := call_min hgx hgy
      obtain ⟨z2, c2, g2, v2⟩ := call_max hgx hgy
      obtain ⟨k, hk⟩ : ∃ k : Nat, k = n % 10000 + 1 := ⟨_, rfl⟩
      have hk1 : 1 ≤ k ∧ k ≤ 1000000 := by omega
      obtain ⟨K, hK⟩ : ∃ K : Nat, K = 100 * k := ⟨_, rfl⟩
      have hk2 : 1 ≤ K ∧ K ≤ 1000000 := by omega
      have W1 : (n : Int) % 10000 + 1 = (k : Int) := by omega
      have hk5 : k ≤ 10000 := by omega
      have hKc : (K : Int) = 100 * (k : Int) := by omega
      have l1 := good_lt g1
      have l2 := good_lt g2
      have t1 := fun w => take_any z1 k w l1
      have t2 := fun w => take_any z2 k w l2
      have t3 := fun w => take_any z1 (100 * (k : Int)) w l1
      have m1 : taken z1 k ≤ taken z2 k := taken_mono (by rw [v1, v2]; omega)
      have m2 : taken z1 k ≤ taken z1 K := by rw [hK]; exact taken_more
      obtain ⟨m3, m4⟩ : 100 * taken z1 k ≤ taken z1 K + 50 ∧ taken z1 K ≤ 100 * taken z1 k + 50 := by rw [hK]; exact taken_hundred
      have r1 := tell_two g1 hk1
      have r2 := tell_two g2 hk1
      have r3 := tell_two g1 hk2
      rw [hKc] at r3
      generalize taken z1 k = a at *
      generalize taken z2 k = b at *
      generalize taken z1 K = c at *
      generalize tV z1 (k : Int) = y1 at *
      generalize tE z1 (k : Int) = e1 at *
      generalize tV z2 (k : Int) = y2 at *
      generalize tE z2 (k : Int) = e2 at *
      generalize tV z1 (100 * (k : Int)) = y3 at *
      generalize tE z1 (100 * (k : Int)) = e3 at *
      have T1 := Lib.hid t1
      have T2 := Lib.hid t2
      have T3 := Lib.hid t3
      have R1 := Lib.hid r1
      have R2 := Lib.hid r2
      have R3 := Lib.hid r3
      have M := Lib.hid (show a ≤ b ∧ a ≤ c ∧ 100 * a ≤ c + 50 ∧ c ≤ 100 * a + 50 from ⟨m1, m2, m3, m4⟩)
      clear t1 t2 t3 r1 r2 r3 m1 m2 m3 m4 l1 l2 v1 v2 hk1 hk2 hk hK hKc
      go_enter Try.func8, Try.ntmps8
      go_wp2_with fail
      refine (good_ref _ _ hx).mono ?_
      rintro e w1 ⟨rfl, rfl⟩
      go_wp2_with fail
      refine (good_ref _ _ hy).mono ?_
      rintro e w1 ⟨rfl, rfl⟩
      go_wp2_with fail
      refine (c1 _).mono ?_
      rintro e w1 ⟨rfl, rfl⟩
      go_wp2_with fail
      refine (T1.out _).mono ?_
      rintro e w1 ⟨rfl, n1, rfl⟩
      go_wp2_with fail
      refine (c2 _).mono ?_
      rintro e w1 ⟨rfl, rfl⟩
      go_wp2_with fail
      refine (T2.out _).mono ?_
      rintro e w1 ⟨rfl, n2, rfl⟩
      go_wp2_with fail
      refine (c1 _).mono ?_
      rintro e w1 ⟨rfl, rfl⟩
      go_wp2_with fail
      refine (T3.out _).mono ?_
      rintro e w1 ⟨rfl, n3, rfl⟩
      clear W1 T1 T2 T3
      obtain ⟨m1, m2, m3, m4⟩ := M.out
      rcases R1.out with ⟨q1, rfl, rfl⟩ | ⟨q1, rfl, rfl⟩
      · rcases R2.out with ⟨q2, rfl, rfl⟩ | ⟨q2, rfl, rfl⟩
        · have u1 : decide (b < a) = false := decide_eq_false (by omega)
          rcases R3.out with ⟨q3, rfl, rfl⟩ | ⟨q3, rfl, rfl⟩
          · have u2 : (100 : Int) * a - 50 ≤ c := by omega
            have u3 : (c : Int) ≤ 100 * a + 50 := by omega
            have d2 : decide ((100 : Int) * a - 50 ≤ c) = true := decide_eq_true u2
            have d3 : decide ((c : Int) ≤ 100 * a + 50) = true := decide_eq_true u3
            have d4 : decide (a ≤ c) = true := decide_eq_true m2
            clear R1 R2 R3 M
            go_wp2_with fail
            refine (wakes_real _).mono ?_
            rintro e w9 ⟨rfl, m9, rfl⟩
            go_wp2_with fail
            go_ret
            exact ⟨rfl, below_drewN (Below.refl _ _) _⟩
          · clear R1 R2 R3 M
            go_wp2_with fail
            refine (wakes_real _).mono ?_
            rintro e w9 ⟨rfl, m9, rfl⟩
            go_wp2_with fail
            go_ret
            exact ⟨rfl, below_drewN (Below.refl _ _) _⟩
        · rcases R3.out with ⟨q3, rfl, rfl⟩ | ⟨q3, rfl, rfl⟩
          · have u2 : (100 : Int) * a - 50 ≤ c := by omega
            have u3 : (c : Int) ≤ 100 * a + 50 := by omega
            have d2 : decide ((100 : Int) * a - 50 ≤ c) = true := decide_eq_true u2
            have d3 : decide ((c : Int) ≤ 100 * a + 50) = true := decide_eq_true u3
            have d4 : decide (a ≤ c) = true := decide_eq_true m2
            clear R1 R2 R3 M
            go_wp2_with fail
            refine (wakes_real _).mono ?_
            rintro e w9 ⟨rfl, m9, rfl⟩
            go_wp2_with fail
            go_ret
            exact ⟨rfl, below_drewN (Below.refl _ _) _⟩
          · clear R1 R2 R3 M
            go_wp2_with fail
            refine (wakes_real _).mono ?_
            rintro e w9 ⟨rfl, m9, rfl⟩
            go_wp2_with fail
            go_ret
            exact ⟨rfl, below_drewN (Below.refl _ _) _⟩
      · rcases R2.out with ⟨q2, rfl, rfl⟩ | ⟨q2, rfl, rfl⟩
        · omega
        · rcases R3.out with ⟨q3, rfl, rfl⟩ | ⟨q3, rfl, rfl⟩
          · clear R1 R2 R3 M
            go_wp2_with fail
            refine (wakes_real _).mono ?_
            rintro e w9 ⟨rfl, m9, rfl⟩
            go_wp2_with fail
            go_ret
            exact ⟨rfl, below_drewN (Below.refl _ _) _⟩
          · clear R1 R2 R3 M
            go_wp2_with fail
            refine (wakes_real _).mono ?_
            rintro e w9 ⟨rfl, m9, rfl⟩
            go_wp2_with fail
            go_ret
            exact ⟨rfl, below_drewN (Below.refl _ _) _⟩

set_option maxRecDepth 100000 in
theorem realOrder_lifted (os : Os) (started : os.Started) (H : Type) (enc : TypeId × Value → H) :
    ReturnsInHanded {} Try.checked os 8 .any (Rows.realOrderSpec.pre6 enc Try.prog Try.f8 Rows.realOrderRow.domain false) (Rows.realOrderSpec.post enc Try.prog Try.f8 false true false false) := by
  refine Shell.law_lifted (C := Try.checked) (tb := 4) (by kernel_rfl) started (by kernel_rfl) Try.func8
    (ChangeSpec.witness6 (enc := enc) (C := Try.checked) false ⟨#[], #[.float .f64 0, .float .f64 0, .int .u16 0], []⟩ 8 (by kernel_rfl) (by kernel_rfl) (by kernel_rfl) (by kernel_rfl))
    (by kernel_rfl) (by kernel_rfl) rfl rfl Try.underlying4 ?_
  intro W base args ds p hval0 hA0
  have hval : ∀ (j : Nat) t v, Try.f8.params[j]? = some t → args[j]? = some v → Value.okWide Try.prog W .any base t v := hval0
  have hA : DataW.TrodAll enc Try.prog W 0 (fun _ => true) true Try.f8.params.toList args.toList ds p := hA0
  clear hval0 hA0
  rw [Try.params8] at hA hval
  obtain ⟨v0, vs0, d0, ds0, p0, q0, hargs, rfl, rfl, h0, r0⟩ := trodAll_cons hA
  obtain ⟨v1, vs1, d1, ds1, p1, q1, rfl, rfl, rfl, h1, r1⟩ := trodAll_cons r0
  obtain ⟨v2, vs2, d2, ds2, p2, q2, rfl, rfl, rfl, h2, r2⟩ := trodAll_cons r1
  obtain ⟨rfl, rfl, rfl⟩ := trodAll_nil r2
  obtain rfl : args = #[v0, v1, v2] := by cases args; simp_all
  refine ⟨rfl, ?_⟩
  obtain ⟨x, rfl, -, -, hx⟩ := open_float Try.underlying22 (hval 0 22 v0 rfl rfl) h0
  obtain ⟨y, rfl, -, -, hy⟩ := open_float Try.underlying22 (hval 1 22 v1 rfl rfl) h1
  obtain ⟨s, rfl, -, -, hs⟩ := open_int Try.underlying51 (hval 2 51 v2 rfl rfl) h2
  obtain ⟨n, rfl, hn⟩ := u16_nat hs
  exact order_walk x y n W (float_lt hx) (float_lt hy) hn

theorem realOrder_over : Rows.realOrderRow.holds Try.pinned (OpenSpec.ofChange Rows.realOrderSpec) :=
  OpenClaim.holds_of_wide 8 Try.f8 rfl rfl rfl rfl rfl rfl rfl ⟨rfl, rfl, rfl, rfl, rfl⟩ rfl rfl rfl rfl rfl (by kernel_rfl) Try.func8 (by kernel_rfl)
    (of_decide_eq_true (by kernel_rfl)) (by unfold Func.isWrapper; first | (rw [if_pos (by decide +kernel)]; kernel_rfl) | (rw [if_neg (by decide +kernel)]; exact ⟨rfl, rfl⟩))
    (fun os st H enc _ => realOrder_lifted os st H enc)

/-- The statement. -/
theorem realOrder_proved : Rows.RealOrderSaid := realOrder_over
end Go.Proofs.Ytiaiahdejihlbaa.Law
