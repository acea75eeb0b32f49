/- What the document's own answers of layer 13 are, at every input. -/
import Derived.Test.YtkegmgjagcefhaaAccrue
namespace Go.Proofs.Ytkegmgjagcefhaa.RAccr
open Go.ChangeShapes Go.WideShapes Go.ChangeAt Go.RowKit Bits Law Accr Ref

theorem rgood_any (p : Int) (w : World) : Calls Try.prog 67 #[.int .i64 p] w fun e w' => e = .returned (.bool (Money.goodB p)) ∧ w = w' := by
  obtain ⟨B, hB⟩ : ∃ B : Bool, B = Money.goodB p := ⟨_, rfl⟩
  rw [← hB]
  by_cases h1 : -10000000000000 ≤ p
  · by_cases h2 : p ≤ 10000000000000
    · have H : Hid (B = true) := hB.trans ((Money.goodB_iff p).2 ⟨h1, h2⟩)
      clear hB
      go_enter Try.func67, Try.ntmps67
      go_wp2
      go_ret
      exact ⟨ret_b H.out.symm, rfl⟩
    · have H : Hid (B = false) := hB.trans (by rw [Bool.eq_false_iff]; intro h; exact h2 ((Money.goodB_iff p).1 h).2)
      clear hB
      go_enter Try.func67, Try.ntmps67
      go_wp2
      go_ret
      exact ⟨ret_b H.out.symm, rfl⟩
  · have H : Hid (B = false) := hB.trans (by rw [Bool.eq_false_iff]; intro h; exact h1 ((Money.goodB_iff p).1 h).1)
    clear hB
    go_enter Try.func67, Try.ntmps67
    go_wp2
    go_ret
    exact ⟨ret_b H.out.symm, rfl⟩

theorem rgood_is (p : Int) (b : Bool) (w : World) (h : Hid (Money.goodB p = b)) : Calls Try.prog 67 #[.int .i64 p] w fun e w' => e = .returned (.bool b) ∧ w = w' := by
  have t := rgood_any p w
  rw [h.out] at t; exact t

theorem rmul_small (a b : Int) (w : World) (a0 : 0 ≤ a) (a1 : a ≤ 18446744073709551615) (b0 : 0 ≤ b) (b1 : b ≤ 18446744073709551615) (h : a * b ≤ 18446744073709551615) :
    Calls Try.prog 64 #[.int .u64 a, .int .u64 b] w fun e w' => e = .returned (.agg #[.int .u64 0, .int .u64 (a * b)]) ∧ Below w.heap.size w w' := by
  have t := Ref.mul_any a b w a0 a1 b0 b1
  have h0 := Int.mul_nonneg a0 b0
  rw [Int.ediv_eq_zero_of_lt h0 (by omega), Int.emod_eq_of_lt h0 (by omega)] at t
  exact t

theorem rdiv_small (a c : Int) (w : World) (a0 : 0 ≤ a) (a1 : a ≤ 18446744073709551615) (c0 : 0 < c) (c1 : c ≤ 18446744073709551615) :
    Calls Try.prog 84 #[.int .u64 0, .int .u64 a, .int .u64 c] w fun e w' => e = .returned (.agg #[.int .u64 (a / c), .int .u64 (a % c), .bool true]) ∧ Below w.heap.size w w' := by
  have t := Ref.div_ok 0 a c w (by omega) c0 c1 a0 a1
  rw [Int.zero_mul, Int.zero_add] at t
  exact t

theorem r_daily_no (p r : Int) (w : World) (b1 b2 b3 b4 : Bool) (hb : (!b1 && b2 && !b3 && !b4) = false) (t1 : decide (p < 0) = b1) (H2 : Hid (Money.goodB p = b2)) (t3 : decide (r < 0) = b3) (t4 : decide (1000000 < r) = b4) :
    Calls Try.prog 63 #[.int .i64 p, .int .i64 r] w fun e w' => e = .returned (.tuple #[.int .i64 0, .int .i64 1]) ∧ Below w.heap.size w w' := by
  have K2 := Lib.hid (fun W => rgood_is p b2 W H2)
  clear H2
  go_enter Try.func63, Try.ntmps63
  cases b1 with
  | true =>
    go_wp2_with fail
    go_ret2
    exact ⟨rfl, Below.refl _ _⟩
  | false =>
    cases b2 with
    | false =>
      go_wp2_with fail
      refine (K2.out _).mono ?_
      rintro e w' ⟨rfl, rfl⟩
      go_wp2_with fail
      go_ret2
      exact ⟨rfl, Below.refl _ _⟩
    | true =>
      cases b3 with
      | true =>
        go_wp2_with fail
        refine (K2.out _).mono ?_
        rintro e w' ⟨rfl, rfl⟩
        go_wp2_with fail
        go_ret2
        exact ⟨rfl, Below.refl _ _⟩
      | false =>
        cases b4 with
        | false => cases hb
        | true =>
          go_wp2_with fail
          refine (K2.out _).mono ?_
          rintro e w' ⟨rfl, rfl⟩
          go_wp2_with fail
          go_ret2
          exact ⟨rfl, Below.refl _ _⟩

theorem r_daily_yes (p r : Int) (w : World) (h : okD p r = true) :
    Calls Try.prog 63 #[.int .i64 p, .int .i64 r] w fun e w' => e = .returned (.tuple #[.int .i64 (dayI p r), .int .i64 0]) ∧ Below w.heap.size w w' := by
  obtain ⟨p0, p1, r0, r1⟩ := okD_iff.1 h
  obtain ⟨m0, m1⟩ := prod_le h
  have K2 := Lib.hid (fun W => rgood_is p true W ((Money.goodB_iff p).2 ⟨by omega, p1⟩))
  have t1 : decide (p < 0) = false := decide_eq_false (by omega)
  have t3 : decide (r < 0) = false := decide_eq_false (by omega)
  have t4 : decide (1000000 < r) = false := decide_eq_false (by omega)
  have Hp : IntKind.u64.wrap p = p := IntWalk.u64_in _ (by omega)
  have Hr : IntKind.u64.wrap r = r := IntWalk.u64_in _ (by omega)
  have HM := Lib.hid (fun W => rmul_small p r W p0 (by omega) r0 (by omega) (by omega))
  have HD := Lib.hid (fun W => rdiv_small (p * r) 365 W m0 (by omega) (by omega) (by omega))
  have Hw : IntKind.i64.wrap (p * r / 365) = p * r / 365 := IntWalk.i64_in _ (by omega)
  clear p0 p1 r0 r1 m0 m1 h
  unfold dayI
  generalize p * r = m at *
  generalize m / 365 = q at *
  generalize m % 365 = s at *
  have HF : ∀ W : World, (Instr.field 90 (.agg #[.int .u64 q, .int .u64 s, .bool true]) 0).run Try.prog W = .ok (.int .u64 q) W := fun W => by kernel_rfl
  go_enter Try.func63, Try.ntmps63
  go_wp2_with fail
  refine (K2.out _).mono ?_
  rintro e w' ⟨rfl, rfl⟩
  go_wp2_with fail
  refine (HM.out _).mono ?_
  rintro e w1 ⟨rfl, hb1⟩
  obtain ⟨hc1, hf1⟩ := bcell hb1
  have hz1 := hb1.size
  go_wp2_with fail
  refine (HD.out _).mono ?_
  rintro e w2 ⟨rfl, hb2⟩
  have HB1 := Lib.hid hb1
  have HB2 := Lib.hid hb2
  clear hb1 hb2 hc1 hf1
  go_wp2_with fail
  go_ret2
  exact ⟨rfl, below_via (below_new HB1.out _) HB2.out⟩

theorem r_daily (p r : Int) (w : World) : Calls Try.prog 63 #[.int .i64 p, .int .i64 r] w fun e w' => e = .returned (.tuple #[.int .i64 (dV p r), .int .i64 (dE p r)]) ∧ Below w.heap.size w w' := by
  cases h : okD p r with
  | true => rw [(dV_yes h).1, (dV_yes h).2]; exact r_daily_yes p r w h
  | false =>
    rw [(dV_no h).1, (dV_no h).2]
    refine r_daily_no p r w _ _ _ _ ?_ rfl (Lib.hid rfl) rfl rfl
    rw [Bool.eq_false_iff]
    intro hh
    simp only [Bool.and_eq_true, Bool.not_eq_true', decide_eq_false_iff_not, Money.goodB_iff] at hh
    have : okD p r = true := okD_iff.2 (by omega)
    rw [h] at this; cases this

theorem r_whole (m : Int) (w : World) (h : m ≤ 9223372036854775807) : Calls Try.prog 33 #[.int .i64 m] w fun e w' => e = .returned (.int .i64 (wholeI m)) ∧ w = w' := by
  by_cases h1 : m < 0
  · have E : Hid (wholeI m = 0) := by show wholeI m = 0; unfold wholeI; rw [if_pos h1]
    rw [E.out]
    go_enter Try.func33, Try.ntmps33
    go_wp2
    go_ret
    exact ⟨rfl, rfl⟩
  · have E : Hid (wholeI m = m / 1000000) := by show wholeI m = m / 1000000; unfold wholeI; rw [if_neg h1]
    rw [E.out]
    go_enter Try.func33, Try.ntmps33
    go_wp2
    go_ret
    exact ⟨rfl, rfl⟩

theorem r_add_no (h p r n : Int) (w : World) (x : Bool) (hx : x = okD p r) (b1 b2 b3 b4 : Bool) (hb : (x && !b1 && !b2 && !b3 && !b4) = false) (t1 : decide (h < 0) = b1) (t2 : decide (1000000000000000000 < h) = b2) (t3 : decide (n < 0) = b3) (t4 : decide (87658 < n) = b4) :
    Calls Try.prog 27 #[.int .i64 h, .int .i64 p, .int .i64 r, .int .i64 n] w fun e w' => e = .returned (.tuple #[.int .i64 0, .int .i64 1]) ∧ Below w.heap.size w w' := by
  have KD := Lib.hid (fun W => r_daily p r W)
  cases x with
  | false =>
    rw [(dV_no hx.symm).1, (dV_no hx.symm).2] at KD
    clear hx hb t1 t2 t3 t4
    go_enter Try.func27, Try.ntmps27
    go_wp2_with fail
    refine (KD.out _).mono ?_
    rintro e w1 ⟨rfl, hb1⟩
    have HB1 := Lib.hid hb1
    clear hb1
    go_wp2_with fail
    go_ret2
    exact ⟨rfl, HB1.out⟩
  | true =>
    rw [(dV_yes hx.symm).1, (dV_yes hx.symm).2] at KD
    clear hx
    generalize dayI p r = d at *
    go_enter Try.func27, Try.ntmps27
    go_wp2_with fail
    refine (KD.out _).mono ?_
    rintro e w1 ⟨rfl, hb1⟩
    have HB1 := Lib.hid hb1
    clear hb1
    cases b1 with
    | true =>
      go_wp2_with fail
      go_ret2
      exact ⟨rfl, HB1.out⟩
    | false =>
      cases b2 with
      | true =>
        go_wp2_with fail
        go_ret2
        exact ⟨rfl, HB1.out⟩
      | false =>
        cases b3 with
        | true =>
          go_wp2_with fail
          go_ret2
          exact ⟨rfl, HB1.out⟩
        | false =>
          cases b4 with
          | false => cases hb
          | true =>
            go_wp2_with fail
            go_ret2
            exact ⟨rfl, HB1.out⟩

theorem r_add_yes (h p r n : Int) (w : World) (hk : okA h p r n = true) :
    Calls Try.prog 27 #[.int .i64 h, .int .i64 p, .int .i64 r, .int .i64 n] w fun e w' => e = .returned (.tuple #[.int .i64 (aV h p r n), .int .i64 (aE h p r n)]) ∧ Below w.heap.size w w' := by
  obtain ⟨h0, h1, hg, n0, n1⟩ := okA_iff.1 hk
  obtain ⟨d0, d1⟩ := dayI_le hg
  obtain ⟨m0, m1⟩ := days_le d0 d1 n0 n1
  have KD := Lib.hid (fun W => r_daily p r W)
  rw [(dV_yes hg).1, (dV_yes hg).2] at KD
  have t1 : decide (h < 0) = false := decide_eq_false (by omega)
  have t2 : decide (1000000000000000000 < h) = false := decide_eq_false (by omega)
  have t3 : decide (n < 0) = false := decide_eq_false (by omega)
  have t4 : decide (87658 < n) = false := decide_eq_false (by omega)
  have yes := aV_yes hk
  have over := aV_over hk
  clear hk hg
  generalize aV h p r n = v at *
  generalize aE h p r n = x at *
  generalize dayI p r = d at *
  have Hd : IntKind.u64.wrap d = d := IntWalk.u64_in _ (by omega)
  have Hn : IntKind.u64.wrap n = n := IntWalk.u64_in _ (by omega)
  have Hh : wrap64 (1000000000000000000 - h) = 1000000000000000000 - h := by unfold wrap64; omega
  have Hi : IntKind.u64.wrap (1000000000000000000 - h) = 1000000000000000000 - h := IntWalk.u64_in _ (by omega)
  have KM := Lib.hid (fun W => Ref.mul_any d n W (by omega) (by omega) (by omega) (by omega))
  by_cases hq : d * n ≤ 18446744073709551615
  · have e1 : d * n / 18446744073709551616 = 0 := by omega
    have e2 : d * n % 18446744073709551616 = d * n := by omega
    rw [e1, e2] at KM
    by_cases hs : h + d * n ≤ 1000000000000000000
    · obtain ⟨rfl, rfl⟩ := yes hs
      have t5 : decide (1000000000000000000 - h < d * n) = false := decide_eq_false (by omega)
      have Hw : IntKind.i64.wrap (d * n) = d * n := IntWalk.i64_in _ (by omega)
      have Hv : wrap64 (h + d * n) = h + d * n := by unfold wrap64; omega
      clear yes over hs hq e1 e2 h0 h1 d0 d1 m0 m1 n0 n1
      generalize d * n = m at *
      go_enter Try.func27, Try.ntmps27
      go_wp2_with fail
      refine (KD.out _).mono ?_
      rintro e w1 ⟨rfl, hb1⟩
      have HB1 := Lib.hid hb1
      clear hb1
      go_wp2_with fail
      refine (KM.out _).mono ?_
      rintro e w2 ⟨rfl, hb2⟩
      have HB2 := Lib.hid hb2
      clear hb2
      go_wp2_with fail
      go_ret2
      exact ⟨by first | rfl | (show Ending.returned (.tuple #[.int .i64 (wrap64 (h + m)), .int .i64 0]) = _; rw [Hv]), below_new (below_via HB1.out HB2.out) _⟩
    · obtain ⟨rfl, rfl⟩ := over hs
      have t5 : decide (1000000000000000000 - h < d * n) = true := decide_eq_true (by omega)
      clear yes over hs hq e1 e2 h0 h1 d0 d1 m0 m1 n0 n1
      generalize d * n = m at *
      go_enter Try.func27, Try.ntmps27
      go_wp2_with fail
      refine (KD.out _).mono ?_
      rintro e w1 ⟨rfl, hb1⟩
      have HB1 := Lib.hid hb1
      clear hb1
      go_wp2_with fail
      refine (KM.out _).mono ?_
      rintro e w2 ⟨rfl, hb2⟩
      have HB2 := Lib.hid hb2
      clear hb2
      go_wp2_with fail
      go_ret2
      exact ⟨rfl, below_new (below_via HB1.out HB2.out) _⟩
  · obtain ⟨rfl, rfl⟩ := over (by omega)
    have t5 : ¬ d * n / 18446744073709551616 = 0 := by omega
    clear yes over hq h0 h1 d0 d1 m0 m1 n0 n1
    generalize d * n / 18446744073709551616 = hi at *
    generalize d * n % 18446744073709551616 = lo at *
    go_enter Try.func27, Try.ntmps27
    go_wp2_with fail
    refine (KD.out _).mono ?_
    rintro e w1 ⟨rfl, hb1⟩
    have HB1 := Lib.hid hb1
    clear hb1
    go_wp2_with fail
    refine (KM.out _).mono ?_
    rintro e w2 ⟨rfl, hb2⟩
    have HB2 := Lib.hid hb2
    clear hb2
    go_wp2_with fail
    go_ret2
    exact ⟨rfl, below_new (below_via HB1.out HB2.out) _⟩

theorem r_add (h p r n : Int) (w : World) : Calls Try.prog 27 #[.int .i64 h, .int .i64 p, .int .i64 r, .int .i64 n] w fun e w' => e = .returned (.tuple #[.int .i64 (aV h p r n), .int .i64 (aE h p r n)]) ∧ Below w.heap.size w w' := by
  cases hk : okA h p r n with
  | true => exact r_add_yes h p r n w hk
  | false =>
    rw [(aV_no hk).1, (aV_no hk).2]
    refine r_add_no h p r n w _ rfl _ _ _ _ ?_ rfl rfl rfl rfl
    rw [Bool.eq_false_iff]
    intro hh
    simp only [Bool.and_eq_true, Bool.not_eq_true', decide_eq_false_iff_not] at hh
    obtain ⟨⟨⟨⟨g, a⟩, b⟩, c⟩, d⟩ := hh
    have : okA h p r n = true := okA_iff.2 ⟨by omega, by omega, g, by omega, by omega⟩
    rw [hk] at this; cases this
end Go.Proofs.Ytkegmgjagcefhaa.RAccr
