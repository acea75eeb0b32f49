/- The program's own Of, the document's own Share and Of, and the examples, where the array of shares lies as listed. -/
import Derived.Test.YtppogilkhgppdaaDoorStep
import Derived.Test.YtppogilkhgppdaaDoorRefMulDiv
import Derived.Test.YtppogilkhgppdaaDoorRefAdd
namespace Go.Proofs.YtppogilkhgppdaaDoor.Step
open Go.ChangeShapes Go.WideShapes Go.ChangeAt Go.RowKit Bits Money Law

theorem quot_wrap {m : Int} (h : 0 ≤ m) (hm : m ≤ 9223372036854775807) : wrap64 (m.tdiv 24) = m.tdiv 24 := by
  rw [Int.tdiv_eq_ediv_of_nonneg h]; unfold wrap64; omega
theorem p_of (l m : Int) (w : World) (hm : m ≤ 9223372036854775807) (L : Laid w) : Calls Tryd.prog 5 #[.int .i64 l, .int .i64 m] w fun e w' => e = .returned (.tuple #[.int .i64 (oV l m), .int .i64 (oE l m)]) ∧ ∃ n, w' = w.drewN n := by
  by_cases h : bad l m
  · obtain ⟨e1, e2⟩ := o_bad h
    rw [e1, e2]
    clear L e1 e2 hm
    unfold bad at h
    by_cases h1 : l < 0
    · clear h
      go_enter Tryd.func5, Tryd.ntmps5
      go_wp2_with fail
      go_ret2
      exact ⟨rfl, 0, rfl⟩
    by_cases h2 : 10000000000000 < l
    · clear h
      go_enter Tryd.func5, Tryd.ntmps5
      go_wp2_with fail
      go_ret2
      exact ⟨rfl, 0, rfl⟩
    have h3 : m < 0 := by omega
    clear h
    go_enter Tryd.func5, Tryd.ntmps5
    go_wp2_with fail
    go_ret2
    exact ⟨rfl, 0, rfl⟩
  · obtain ⟨e1, e2⟩ := o_good h
    rw [e1, e2]
    clear e1 e2
    unfold bad at h
    have h1 : ¬ l < 0 := by omega
    have h2 : ¬ 10000000000000 < l := by omega
    have h3 : ¬ m < 0 := by omega
    have hs := sh_any (m.tdiv 24)
    have K1 := Lib.hid (p_share (m.tdiv 24) w L)
    have K2 := Lib.hid (fun W => Money.muldiv_any l (shI (m.tdiv 24)) 100 1 W (by omega) (by omega) (by omega))
    generalize shI (m.tdiv 24) = s at *
    have hq := quot_wrap (m := m) (by omega) hm
    have hs1 : IntKind.i64.wrap s = s := IntWalk.i64_in _ (by omega)
    clear hm
    generalize mdV l s 100 1 = v at *
    generalize mdE l s 100 1 = x at *
    clear h L
    go_enter Tryd.func5, Tryd.ntmps5
    go_wp2_with fail
    refine K1.out.mono ?_
    rintro e w1 ⟨rfl, rfl⟩
    go_wp2_with fail
    refine (K2.out _).mono ?_
    rintro e w1 ⟨rfl, n, rfl⟩
    go_wp2_with fail
    go_ret2
    exact ⟨rfl, n, rfl⟩
theorem r_share (k : Int) (w : World) : Calls Tryd.prog 8 #[.int .i64 k] w fun e w' => e = .returned (.int .i64 (shI k)) ∧ w = w' := by
  by_cases h0 : k < 0
  · have H := Lib.hid (sh_neg h0)
    go_enter Tryd.func8, Tryd.ntmps8
    go_wp2_with fail
    go_ret
    exact ⟨ret_i H.out.symm, rfl⟩
  by_cases h4 : 4 ≤ k
  · have H := Lib.hid (sh_late h4)
    have t0 : (k == 0) = false := by rw [beq_eq_false_iff_ne]; omega
    have t1 : (k == 1) = false := by rw [beq_eq_false_iff_ne]; omega
    have t2 : (k == 2) = false := by rw [beq_eq_false_iff_ne]; omega
    have t3 : (k == 3) = false := by rw [beq_eq_false_iff_ne]; omega
    go_enter Tryd.func8, Tryd.ntmps8
    go_wp2_with fail
    go_ret
    exact ⟨ret_i H.out.symm, rfl⟩
  have : k = 0 ∨ k = 1 ∨ k = 2 ∨ k = 3 := by omega
  clear h0 h4
  rcases this with rfl | rfl | rfl | rfl <;>
  · go_enter Tryd.func8, Tryd.ntmps8
    go_wp2_with fail
    go_ret
    exact ⟨rfl, rfl⟩
theorem r_of (l m : Int) (w : World) (hm : m ≤ 9223372036854775807) : Calls Tryd.prog 6 #[.int .i64 l, .int .i64 m] w fun e w' => e = .returned (.tuple #[.int .i64 (oV l m), .int .i64 (oE l m)]) ∧ Below w.heap.size w w' := by
  by_cases h1 : l < 0
  · obtain ⟨e1, e2⟩ := o_bad (l := l) (m := m) (Or.inl h1)
    rw [e1, e2]
    clear e1 e2
    go_enter Tryd.func6, Tryd.ntmps6
    go_wp2_with fail
    go_ret2
    exact ⟨rfl, Below.refl _ _⟩
  by_cases h2 : 10000000000000 < l
  · obtain ⟨e1, e2⟩ := o_bad (l := l) (m := m) (Or.inr (Or.inl h2))
    rw [e1, e2]
    clear e1 e2
    have K : Hid (Calls Tryd.prog 11 #[.int .i64 l] w fun e w' => e = .returned (.bool false) ∧ w = w') := show Calls _ _ _ _ _ by
      have t := Ref.good_any l w
      have g : goodB l = false := by rw [← Bool.not_eq_true, goodB_iff]; omega
      rw [g] at t; exact t
    go_enter Tryd.func6, Tryd.ntmps6
    go_wp2_with fail
    refine K.out.mono ?_
    rintro e w1 ⟨rfl, rfl⟩
    go_wp2_with fail
    go_ret2
    exact ⟨rfl, Below.refl _ _⟩
  have KG : Hid (Calls Tryd.prog 11 #[.int .i64 l] w fun e w' => e = .returned (.bool true) ∧ w = w') := show Calls _ _ _ _ _ by
    have t := Ref.good_any l w
    have g : goodB l = true := by rw [goodB_iff]; omega
    rw [g] at t; exact t
  by_cases h3 : m < 0
  · obtain ⟨e1, e2⟩ := o_bad (l := l) (m := m) (Or.inr (Or.inr h3))
    rw [e1, e2]
    clear e1 e2
    go_enter Tryd.func6, Tryd.ntmps6
    go_wp2_with fail
    refine KG.out.mono ?_
    rintro e w1 ⟨rfl, rfl⟩
    go_wp2_with fail
    go_ret2
    exact ⟨rfl, Below.refl _ _⟩
  obtain ⟨e1, e2⟩ := o_good (l := l) (m := m) (by unfold bad; omega)
  rw [e1, e2]
  clear e1 e2
  have hs := sh_any (m.tdiv 24)
  have K1 := Lib.hid (r_share (m.tdiv 24) w)
  have K2 := Lib.hid (fun W => Ref.muldiv_any l (shI (m.tdiv 24)) 100 1 W (by omega) (by omega) (by omega))
  generalize shI (m.tdiv 24) = s at *
  generalize mdV l s 100 1 = v at *
  generalize mdE l s 100 1 = x at *
  have hq := quot_wrap (m := m) (by omega) hm
  have hs1 : IntKind.i64.wrap s = s := IntWalk.i64_in _ (by omega)
  clear hm
  go_enter Tryd.func6, Tryd.ntmps6
  go_wp2_with fail
  refine KG.out.mono ?_
  rintro e w1 ⟨rfl, rfl⟩
  go_wp2_with fail
  refine K1.out.mono ?_
  rintro e w1 ⟨rfl, rfl⟩
  go_wp2_with fail
  refine (K2.out _).mono ?_
  rintro e w1 ⟨rfl, hb⟩
  go_wp2_with fail
  go_ret2
  exact ⟨rfl, hb⟩
theorem of_at (l m v x : Int) (w : World) (hm : m ≤ 9223372036854775807) (L : Laid w) (h1 : oV l m = v) (h2 : oE l m = x) : Calls Tryd.prog 5 #[.int .i64 l, .int .i64 m] w fun e w' => e = .returned (.tuple #[.int .i64 v, .int .i64 x]) ∧ ∃ n, w' = w.drewN n := by
  have t := p_of l m w hm L
  rw [h1, h2] at t; exact t
theorem wakes_step (w : World) (L : Laid w) : Calls Tryd.prog 9 #[] w fun e w' => e = .returned (.bool true) ∧ ∃ n, w' = w.drewN n := by
  have LD := Lib.hid L
  clear L
  go_enter Tryd.func9, Tryd.ntmps9
  go_wp2_with fail
  refine (of_at 100 24 80 0 w (by decide) LD.out (by kernel_rfl) (by kernel_rfl)).mono ?_
  rintro e w1 ⟨rfl, n, rfl⟩
  go_wp2_with fail
  refine (of_at 1 0 1 0 _ (by decide) (LD.out.drewN n) (by kernel_rfl) (by kernel_rfl)).mono ?_
  rintro e w1 ⟨rfl, k, rfl⟩
  go_wp2_with fail
  refine (p_share 9 _ (LD.out.drewN (n + k))).mono ?_
  rw [show shI 9 = 150 from rfl]
  rintro e w1 ⟨rfl, rfl⟩
  go_wp2_with fail
  go_ret
  exact ⟨rfl, n + k, rfl⟩
end Go.Proofs.YtppogilkhgppdaaDoor.Step
