/- What money.Add added money.Sub takes away again, and a product divided by one of its numbers is the other one; no condition. -/
import Derived.Test.YthiegijjjkhbmaaShell
import Derived.Test.YthiegijjjkhbmaaRnd
import Derived.Test.YthiegijjjkhbmaaRefAdd
import Derived.Deep.QuietTactic
import Derived.BigQuiet
namespace Go.Proofs.Ythiegijjjkhbmaa.Law
open Go.ChangeShapes Go.WideShapes Go.ChangeAt Go.RowKit Bits Money Ref

set_option maxHeartbeats 400000 in
theorem back_some (a b : Int) (w : World) (a0 : -9223372036854775808 ≤ a) (a1 : a ≤ 9223372036854775807) (b0 : -9223372036854775808 ≤ b) (b1 : b ≤ 9223372036854775807) (HP : Hid (plusO a b = some (a + b))) (HS : Hid (plusO (a + b) (wrap64 (-b)) = some a)) :
    Calls Try.prog 7 #[.int .i64 a, .int .i64 b] w fun e w' => e = .returned (.bool true) ∧ Below w.heap.size w w' := by
  cases hg : goodB a
  · have HG := Lib.hid hg
    clear hg
    go_enter Try.func7, Try.ntmps7
    go_wp2_with fail
    refine (add_some a b (a + b) _ HP).mono ?_
    rintro e w1 ⟨rfl, hb1⟩
    have HB1 := Lib.hid hb1
    clear hb1
    go_wp2_with fail
    refine (sub_some (a + b) b a _ HS).mono ?_
    rintro e w2 ⟨rfl, hb2⟩
    have HB2 := Lib.hid hb2
    clear hb2
    go_wp2_with fail
    refine (Ref.good_any _ _).mono ?_
    rw [HG.out]
    rintro e w3 ⟨rfl, rfl⟩
    go_wp2_with fail
    refine (wakes_any _).mono ?_
    rintro e w5 ⟨rfl, k, rfl⟩
    go_wp2_with fail
    go_ret
    exact ⟨rfl, below_drewN (below_via HB1.out HB2.out) _⟩
  · have HG := Lib.hid hg
    obtain ⟨g0, g1⟩ := (goodB_iff _).1 hg
    clear hg
    by_cases h1 : a < 0
    · go_enter Try.func7, Try.ntmps7
      go_wp2_with fail
      refine (add_some a b (a + b) _ HP).mono ?_
      rintro e w1 ⟨rfl, hb1⟩
      have HB1 := Lib.hid hb1
      clear hb1
      go_wp2_with fail
      refine (sub_some (a + b) b a _ HS).mono ?_
      rintro e w2 ⟨rfl, hb2⟩
      have HB2 := Lib.hid hb2
      clear hb2
      go_wp2_with fail
      refine (Ref.good_any _ _).mono ?_
      rw [HG.out]
      rintro e w3 ⟨rfl, rfl⟩
      go_wp2_with fail
      refine (wakes_any _).mono ?_
      rintro e w5 ⟨rfl, k, rfl⟩
      go_wp2_with fail
      go_ret
      exact ⟨rfl, below_drewN (below_via HB1.out HB2.out) _⟩
    · by_cases h2 : b < 1
      · go_enter Try.func7, Try.ntmps7
        go_wp2_with fail
        refine (add_some a b (a + b) _ HP).mono ?_
        rintro e w1 ⟨rfl, hb1⟩
        have HB1 := Lib.hid hb1
        clear hb1
        go_wp2_with fail
        refine (sub_some (a + b) b a _ HS).mono ?_
        rintro e w2 ⟨rfl, hb2⟩
        have HB2 := Lib.hid hb2
        clear hb2
        go_wp2_with fail
        refine (Ref.good_any _ _).mono ?_
        rw [HG.out]
        rintro e w3 ⟨rfl, rfl⟩
        go_wp2_with fail
        refine (wakes_any _).mono ?_
        rintro e w5 ⟨rfl, k, rfl⟩
        go_wp2_with fail
        go_ret
        exact ⟨rfl, below_drewN (below_via HB1.out HB2.out) _⟩
      · have md := md_in (a := a) (b := b) (c := b) (how := 0) (by unfold mdBad; omega) (by rw [rnd_down, Int.mul_ediv_cancel _ (by omega)]; omega)
        rw [rnd_down, Int.mul_ediv_cancel _ (by omega)] at md
        have HM := Lib.hid md
        clear md
        go_enter Try.func7, Try.ntmps7
        go_wp2_with fail
        refine (add_some a b (a + b) _ HP).mono ?_
        rintro e w1 ⟨rfl, hb1⟩
        have HB1 := Lib.hid hb1
        clear hb1
        go_wp2_with fail
        refine (sub_some (a + b) b a _ HS).mono ?_
        rintro e w2 ⟨rfl, hb2⟩
        have HB2 := Lib.hid hb2
        clear hb2
        go_wp2_with fail
        refine (Ref.good_any _ _).mono ?_
        rw [HG.out]
        rintro e w3 ⟨rfl, rfl⟩
        go_wp2_with fail
        refine (Money.muldiv_any _ _ _ _ _ (by omega) (by omega) (by omega)).mono ?_
        rw [HM.out.1, HM.out.2]
        rintro e w4 ⟨rfl, n, rfl⟩
        go_wp2_with fail
        refine (wakes_any _).mono ?_
        rintro e w5 ⟨rfl, k, rfl⟩
        go_wp2_with fail
        go_ret
        exact ⟨rfl, below_drewN (below_via HB1.out HB2.out) _⟩

set_option maxHeartbeats 400000 in
theorem back_none (a b : Int) (w : World) (a0 : -9223372036854775808 ≤ a) (a1 : a ≤ 9223372036854775807) (b0 : -9223372036854775808 ≤ b) (b1 : b ≤ 9223372036854775807) (HP : Hid (plusO a b = none)) :
    Calls Try.prog 7 #[.int .i64 a, .int .i64 b] w fun e w' => e = .returned (.bool true) ∧ Below w.heap.size w w' := by
  cases hg : goodB a
  · have HG := Lib.hid hg
    clear hg
    go_enter Try.func7, Try.ntmps7
    go_wp2_with fail
    refine (add_none a b _ HP).mono ?_
    rintro e w1 ⟨rfl, hb1⟩
    have HB1 := Lib.hid hb1
    clear hb1
    go_wp2_with fail
    refine (Ref.good_any _ _).mono ?_
    rw [HG.out]
    rintro e w3 ⟨rfl, rfl⟩
    go_wp2_with fail
    refine (wakes_any _).mono ?_
    rintro e w5 ⟨rfl, k, rfl⟩
    go_wp2_with fail
    go_ret
    exact ⟨rfl, below_drewN (HB1.out) _⟩
  · have HG := Lib.hid hg
    obtain ⟨g0, g1⟩ := (goodB_iff _).1 hg
    clear hg
    by_cases h1 : a < 0
    · go_enter Try.func7, Try.ntmps7
      go_wp2_with fail
      refine (add_none a b _ HP).mono ?_
      rintro e w1 ⟨rfl, hb1⟩
      have HB1 := Lib.hid hb1
      clear hb1
      go_wp2_with fail
      refine (Ref.good_any _ _).mono ?_
      rw [HG.out]
      rintro e w3 ⟨rfl, rfl⟩
      go_wp2_with fail
      refine (wakes_any _).mono ?_
      rintro e w5 ⟨rfl, k, rfl⟩
      go_wp2_with fail
      go_ret
      exact ⟨rfl, below_drewN (HB1.out) _⟩
    · by_cases h2 : b < 1
      · go_enter Try.func7, Try.ntmps7
        go_wp2_with fail
        refine (add_none a b _ HP).mono ?_
        rintro e w1 ⟨rfl, hb1⟩
        have HB1 := Lib.hid hb1
        clear hb1
        go_wp2_with fail
        refine (Ref.good_any _ _).mono ?_
        rw [HG.out]
        rintro e w3 ⟨rfl, rfl⟩
        go_wp2_with fail
        refine (wakes_any _).mono ?_
        rintro e w5 ⟨rfl, k, rfl⟩
        go_wp2_with fail
        go_ret
        exact ⟨rfl, below_drewN (HB1.out) _⟩
      · have md := md_in (a := a) (b := b) (c := b) (how := 0) (by unfold mdBad; omega) (by rw [rnd_down, Int.mul_ediv_cancel _ (by omega)]; omega)
        rw [rnd_down, Int.mul_ediv_cancel _ (by omega)] at md
        have HM := Lib.hid md
        clear md
        go_enter Try.func7, Try.ntmps7
        go_wp2_with fail
        refine (add_none a b _ HP).mono ?_
        rintro e w1 ⟨rfl, hb1⟩
        have HB1 := Lib.hid hb1
        clear hb1
        go_wp2_with fail
        refine (Ref.good_any _ _).mono ?_
        rw [HG.out]
        rintro e w3 ⟨rfl, rfl⟩
        go_wp2_with fail
        refine (Money.muldiv_any _ _ _ _ _ (by omega) (by omega) (by omega)).mono ?_
        rw [HM.out.1, HM.out.2]
        rintro e w4 ⟨rfl, n, rfl⟩
        go_wp2_with fail
        refine (wakes_any _).mono ?_
        rintro e w5 ⟨rfl, k, rfl⟩
        go_wp2_with fail
        go_ret
        exact ⟨rfl, below_drewN (HB1.out) _⟩

theorem back_walk (a b : Int) (w : World) (a0 : -9223372036854775808 ≤ a) (a1 : a ≤ 9223372036854775807) (b0 : -9223372036854775808 ≤ b) (b1 : b ≤ 9223372036854775807) :
    Calls Try.prog 7 #[.int .i64 a, .int .i64 b] w fun e w' => e = .returned (.bool true) ∧ Below w.heap.size w w' := by
  by_cases h : goodB a = true ∧ goodB b = true ∧ goodB (a + b) = true
  · refine back_some a b w a0 a1 b0 b1 (Lib.hid (plusO_some h)) (Lib.hid ?_)
    rw [minus (a + b) b b0 b1, plusO_some]
    · congr 1; omega
    · refine ⟨h.2.2, by rw [Ref.good_neg]; exact h.2.1, ?_⟩
      rw [show a + b + -b = a from by omega]; exact h.1
  · exact back_none a b w a0 a1 b0 b1 (Lib.hid (plusO_none h))

set_option maxRecDepth 100000 in
theorem moneyBack_lifted (os : Os) (started : os.Started) (H : Type) (enc : TypeId × Value → H) :
    ReturnsInHanded {} Try.checked os 7 .any (Rows.moneyBackSpec.pre6 enc Try.prog Try.f7 Rows.moneyBackRow.domain false) (Rows.moneyBackSpec.post enc Try.prog Try.f7 false true false false) := by
  refine Shell.law_lifted (C := Try.checked) (tb := 4) (by kernel_rfl) started (by kernel_rfl) Try.func7
    (ChangeSpec.witness6 (enc := enc) (C := Try.checked) false ⟨#[], #[.int .i64 0, .int .i64 0], []⟩ 8 (by kernel_rfl) (by kernel_rfl) (by kernel_rfl) (by kernel_rfl))
    (by kernel_rfl) (by kernel_rfl) rfl rfl Try.underlying4 ?_
  intro W base args ds p hval0 hA0
  have hval : ∀ (j : Nat) t v, Try.f7.params[j]? = some t → args[j]? = some v → Value.okWide Try.prog W .any base t v := hval0
  have hA : DataW.TrodAll enc Try.prog W 0 (fun _ => true) true Try.f7.params.toList args.toList ds p := hA0
  clear hval0 hA0
  rw [Try.params7] at hA hval
  obtain ⟨v0, vs0, d0, ds0, p0, q0, hargs, rfl, rfl, h0, r0⟩ := trodAll_cons hA
  obtain ⟨v1, vs1, d1, ds1, p1, q1, rfl, rfl, rfl, h1, r1⟩ := trodAll_cons r0
  obtain ⟨rfl, rfl, rfl⟩ := trodAll_nil r1
  obtain rfl : args = #[v0, v1] := by cases args; simp_all
  refine ⟨rfl, ?_⟩
  obtain ⟨a, rfl, -, -, ha⟩ := open_int Try.underlying2 (hval 0 2 v0 rfl rfl) h0
  obtain ⟨b, rfl, -, -, hb⟩ := open_int Try.underlying2 (hval 1 2 v1 rfl rfl) h1
  have ba := bounds_i64 ha
  have bb := bounds_i64 hb
  exact back_walk a b W ba.1 ba.2 bb.1 bb.2

theorem moneyBack_over : Rows.moneyBackRow.holds Try.pinned (OpenSpec.ofChange Rows.moneyBackSpec) :=
  OpenClaim.holds_of_wide 7 Try.f7 rfl rfl rfl rfl rfl rfl rfl ⟨rfl, rfl, rfl, rfl, rfl⟩ rfl rfl rfl rfl rfl (by kernel_rfl) Try.func7 (by kernel_rfl)
    (of_decide_eq_true (by kernel_rfl)) (by unfold Func.isWrapper; first | (rw [if_pos (by decide +kernel)]; kernel_rfl) | (rw [if_neg (by decide +kernel)]; exact ⟨rfl, rfl⟩))
    (fun os st H enc _ => moneyBack_lifted os st H enc)

/-- The statement. -/
theorem moneyBack_proved : Rows.MoneyBackSaid := moneyBack_over
end Go.Proofs.Ythiegijjjkhbmaa.Law
