/- The cents of a money's float64 are the money, the rate of a rate's the rate, the number of a number's bits is it, at any three inputs; no condition. -/
import Derived.Test.YtiaiahdejihlbaaShell
import Derived.Test.YtiaiahdejihlbaaRealMod
namespace Go.Proofs.Ytiaiahdejihlbaa.Law
open Go.ChangeShapes Go.WideShapes Go.ChangeAt Go.RowKit Bits Money Flo Fl

theorem back_walk (c x : Int) (b : Nat) (w : World) (hb : b < 18446744073709551616) :
    Calls Try.prog 6 #[.int .i64 c, .int .i64 x, .float .f64 b] w fun e w' => e = .returned (.bool true) ∧ Below w.heap.size w w' := by
  obtain ⟨r1, r2⟩ := tmod_range c 10000000000001 (by decide)
  have y1 := Lib.hid (show bitsF b < 18446744073709551616 from Nat.lt_trans (bits_lt b) (by decide))
  have y2 := Lib.hid (of_bits b).1
  have y3 := Lib.hid (of_bits b).2
  by_cases hneg : c.tmod 10000000000001 < 0
  · obtain ⟨m, hm⟩ := Int.eq_ofNat_of_zero_le (show 0 ≤ -(c.tmod 10000000000001) by omega)
    obtain ⟨p1, p2, p3⟩ := dol_back m (by omega)
    have b1 := Lib.hid p1
    have b2 := Lib.hid p2
    have b3 := Lib.hid p3
    clear p1 p2 p3
    have hd : decide (c.tmod 10000000000001 < 0) = true := decide_eq_true hneg
    have W1 : wrap64 (-(c.tmod 10000000000001)) = (m : Int) := by unfold wrap64; omega
    have hmm : ((m : Int) == (m : Int)) = true := by simp
    clear r1 r2 hm
    go_enter Try.func6, Try.ntmps6
    go_wp2_with fail
    rw [W1]
    clear W1
    refine (dollars_any _ _).mono ?_
    rintro e w1 ⟨rfl, rfl⟩
    go_wp2_with fail
    refine (cents_any _ _ b1.out).mono ?_
    rw [b2.out, b3.out]
    rintro e w1 ⟨rfl, n1, rfl⟩
    go_wp2_with fail
    refine (mod_any x _).mono ?_
    rintro e w1 ⟨⟨p, hp, rfl⟩, rfl⟩
    obtain ⟨p1, p2, p3⟩ := per_back p hp
    have q1 := Lib.hid p1
    have q2 := Lib.hid p2
    have q3 := Lib.hid p3
    clear p1 p2 p3 hp
    have hpp : ((p : Int) == (p : Int)) = true := by simp
    go_wp2_with fail
    refine (percent_any _ _).mono ?_
    rintro e w1 ⟨rfl, rfl⟩
    go_wp2_with fail
    refine (ppm_any _ _ q1.out).mono ?_
    rw [q2.out, q3.out]
    rintro e w1 ⟨rfl, n2, rfl⟩
    go_wp2_with fail
    refine (bits_any _ _ hb).mono ?_
    rintro e w1 ⟨rfl, rfl⟩
    go_wp2_with fail
    refine (of_any _ _ y1.out).mono ?_
    rw [y2.out, y3.out]
    rintro e w1 ⟨rfl, rfl⟩
    go_wp2_with fail
    refine (good_ref _ _ hb).mono ?_
    rintro e w1 ⟨rfl, rfl⟩
    cases hg : goodF b with
    | false =>
      have hz : (FloatKind.f64.format.order (bitsF b) 0 == some .eq) = true := by rw [bits_bad b hg, eq_zero 0 (by decide)]; decide
      go_wp2_with fail
      refine (wakes_real _).mono ?_
      rintro e w1 ⟨rfl, m3, rfl⟩
      go_wp2_with fail
      go_ret
      exact ⟨rfl, below_drewN (Below.refl _ _) _⟩
    | true =>
      have hz := eq_self b hg
      go_wp2_with fail
      refine (wakes_real _).mono ?_
      rintro e w1 ⟨rfl, m3, rfl⟩
      go_wp2_with fail
      go_ret
      exact ⟨rfl, below_drewN (Below.refl _ _) _⟩
  · obtain ⟨m, hm⟩ := Int.eq_ofNat_of_zero_le (show 0 ≤ c.tmod 10000000000001 by omega)
    obtain ⟨p1, p2, p3⟩ := dol_back m (by omega)
    have b1 := Lib.hid p1
    have b2 := Lib.hid p2
    have b3 := Lib.hid p3
    clear p1 p2 p3 hneg r1 r2
    have hmm : ((m : Int) == (m : Int)) = true := by simp
    have hd : decide ((m : Int) < 0) = false := decide_eq_false (by omega)
    go_enter Try.func6, Try.ntmps6
    go_wp2_with fail
    refine (dollars_any _ _).mono ?_
    rintro e w1 ⟨rfl, rfl⟩
    go_wp2_with fail
    refine (cents_any _ _ b1.out).mono ?_
    rw [b2.out, b3.out]
    rintro e w1 ⟨rfl, n1, rfl⟩
    go_wp2_with fail
    refine (mod_any x _).mono ?_
    rintro e w1 ⟨⟨p, hp, rfl⟩, rfl⟩
    obtain ⟨p1, p2, p3⟩ := per_back p hp
    have q1 := Lib.hid p1
    have q2 := Lib.hid p2
    have q3 := Lib.hid p3
    clear p1 p2 p3 hp
    have hpp : ((p : Int) == (p : Int)) = true := by simp
    go_wp2_with fail
    refine (percent_any _ _).mono ?_
    rintro e w1 ⟨rfl, rfl⟩
    go_wp2_with fail
    refine (ppm_any _ _ q1.out).mono ?_
    rw [q2.out, q3.out]
    rintro e w1 ⟨rfl, n2, rfl⟩
    go_wp2_with fail
    refine (bits_any _ _ hb).mono ?_
    rintro e w1 ⟨rfl, rfl⟩
    go_wp2_with fail
    refine (of_any _ _ y1.out).mono ?_
    rw [y2.out, y3.out]
    rintro e w1 ⟨rfl, rfl⟩
    go_wp2_with fail
    refine (good_ref _ _ hb).mono ?_
    rintro e w1 ⟨rfl, rfl⟩
    cases hg : goodF b with
    | false =>
      have hz : (FloatKind.f64.format.order (bitsF b) 0 == some .eq) = true := by rw [bits_bad b hg, eq_zero 0 (by decide)]; decide
      go_wp2_with fail
      refine (wakes_real _).mono ?_
      rintro e w1 ⟨rfl, m3, rfl⟩
      go_wp2_with fail
      go_ret
      exact ⟨rfl, below_drewN (Below.refl _ _) _⟩
    | true =>
      have hz := eq_self b hg
      go_wp2_with fail
      refine (wakes_real _).mono ?_
      rintro e w1 ⟨rfl, m3, rfl⟩
      go_wp2_with fail
      go_ret
      exact ⟨rfl, below_drewN (Below.refl _ _) _⟩

set_option maxRecDepth 100000 in
theorem realBack_lifted (os : Os) (started : os.Started) (H : Type) (enc : TypeId × Value → H) :
    ReturnsInHanded {} Try.checked os 6 .any (Rows.realBackSpec.pre6 enc Try.prog Try.f6 Rows.realBackRow.domain false) (Rows.realBackSpec.post enc Try.prog Try.f6 false true false false) := by
  refine Shell.law_lifted (C := Try.checked) (tb := 4) (by kernel_rfl) started (by kernel_rfl) Try.func6
    (ChangeSpec.witness6 (enc := enc) (C := Try.checked) false ⟨#[], #[.int .i64 0, .int .i64 0, .float .f64 0], []⟩ 8 (by kernel_rfl) (by kernel_rfl) (by kernel_rfl) (by kernel_rfl))
    (by kernel_rfl) (by kernel_rfl) rfl rfl Try.underlying4 ?_
  intro W base args ds p hval0 hA0
  have hval : ∀ (j : Nat) t v, Try.f6.params[j]? = some t → args[j]? = some v → Value.okWide Try.prog W .any base t v := hval0
  have hA : DataW.TrodAll enc Try.prog W 0 (fun _ => true) true Try.f6.params.toList args.toList ds p := hA0
  clear hval0 hA0
  rw [Try.params6] at hA hval
  obtain ⟨v0, vs0, d0, ds0, p0, q0, hargs, rfl, rfl, h0, r0⟩ := trodAll_cons hA
  obtain ⟨v1, vs1, d1, ds1, p1, q1, rfl, rfl, rfl, h1, r1⟩ := trodAll_cons r0
  obtain ⟨v2, vs2, d2, ds2, p2, q2, rfl, rfl, rfl, h2, r2⟩ := trodAll_cons r1
  obtain ⟨rfl, rfl, rfl⟩ := trodAll_nil r2
  obtain rfl : args = #[v0, v1, v2] := by cases args; simp_all
  refine ⟨rfl, ?_⟩
  obtain ⟨c, rfl, -, -, -⟩ := open_int Try.underlying2 (hval 0 2 v0 rfl rfl) h0
  obtain ⟨x, rfl, -, -, -⟩ := open_int Try.underlying3 (hval 1 3 v1 rfl rfl) h1
  obtain ⟨b, rfl, -, -, hb⟩ := open_float Try.underlying22 (hval 2 22 v2 rfl rfl) h2
  exact back_walk c x b W (float_lt hb)

theorem realBack_over : Rows.realBackRow.holds Try.pinned (OpenSpec.ofChange Rows.realBackSpec) :=
  OpenClaim.holds_of_wide 6 Try.f6 rfl rfl rfl rfl rfl rfl rfl ⟨rfl, rfl, rfl, rfl, rfl⟩ rfl rfl rfl rfl rfl (by kernel_rfl) Try.func6 (by kernel_rfl)
    (of_decide_eq_true (by kernel_rfl)) (by unfold Func.isWrapper; first | (rw [if_pos (by decide +kernel)]; kernel_rfl) | (rw [if_neg (by decide +kernel)]; exact ⟨rfl, rfl⟩))
    (fun os st H enc _ => realBack_lifted os st H enc)

/-- The statement. -/
theorem realBack_proved : Rows.RealBackSaid := realBack_over
end Go.Proofs.Ytiaiahdejihlbaa.Law
