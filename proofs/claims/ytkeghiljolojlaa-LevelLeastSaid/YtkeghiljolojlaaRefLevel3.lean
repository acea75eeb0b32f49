/- The document's own Of, at every input: the range is halved. -/
import Derived.Test.YtkeghiljolojlaaRefLevel2
namespace Go.Proofs.Ytkeghiljolojlaa.RLevel
open Go.ChangeShapes Go.WideShapes Go.ChangeAt Go.RowKit Bits Law Slice Level Money

/-- how wide the range is at most ahead of a round. -/
def wide (i : Nat) : Int := 2 ^ (44 - i)
theorem wide_half {i : Nat} {d : Int} (h : d ≤ wide i) (h1 : 1 < d) : i < 44 ∧ d / 2 ≤ wide (i + 1) ∧ d - d / 2 ≤ wide (i + 1) := by
  unfold wide at *
  by_cases hi : i < 44
  · have e : (2 : Int) ^ (44 - i) = 2 ^ (44 - (i + 1)) * 2 := by rw [show 44 - i = 44 - (i + 1) + 1 from by omega, Int.pow_succ]
    rw [e] at h
    generalize (2 : Int) ^ (44 - (i + 1)) = s at *
    omega
  · rw [show 44 - i = 0 from by omega] at h
    have : (2 : Int) ^ 0 = 1 := rfl
    omega
theorem wide_start : (10000000000000 : Int) - -1 ≤ wide 0 := by decide

theorem r_of_no (b r n : Int) (w : World) (x z t s q : Bool) (h : (x && !z && !t && !s && !q) = false) (h1 : Hid (monB b = x)) (h3 : decide (r < 0) = z) (h4 : decide (1000000 < r) = t) (h5 : decide (n < 1) = s) (h6 : decide (360 < n) = q) :
    Calls Try.prog 17 #[.int .i64 b, .int .i64 r, .int .i64 n] w fun e w' => e = .returned (.tuple #[.int .i64 0, .int .i64 1]) ∧ Below w.heap.size w w' := by
  have K1 := Lib.hid (fun W => money_is b x W h1)
  clear h1
  go_enter Try.func17, Try.ntmps17
  cases x with
  | false =>
    go_wp2_with fail
    refine (K1.out _).mono ?_
    rintro e w' ⟨rfl, rfl⟩
    go_wp2_with fail
    go_ret2
    exact ⟨rfl, Below.refl _ _⟩
  | true =>
    cases z with
    | true =>
      go_wp2_with fail
      refine (K1.out _).mono ?_
      rintro e w' ⟨rfl, rfl⟩
      go_wp2_with fail
      go_ret2
      exact ⟨rfl, Below.refl _ _⟩
    | false =>
      cases t with
      | true =>
        go_wp2_with fail
        refine (K1.out _).mono ?_
        rintro e w' ⟨rfl, rfl⟩
        go_wp2_with fail
        go_ret2
        exact ⟨rfl, Below.refl _ _⟩
      | false =>
        cases s with
        | true =>
          go_wp2_with fail
          refine (K1.out _).mono ?_
          rintro e w' ⟨rfl, rfl⟩
          go_wp2_with fail
          go_ret2
          exact ⟨rfl, Below.refl _ _⟩
        | false =>
          cases q with
          | true =>
            go_wp2_with fail
            refine (K1.out _).mono ?_
            rintro e w' ⟨rfl, rfl⟩
            go_wp2_with fail
            go_ret2
            exact ⟨rfl, Below.refl _ _⟩
          | false => cases h

theorem okM_of {b k r n : Int} (h : okOf b r n = true) (k0 : 0 ≤ k) (k1 : k ≤ 10000000000000) : okM b k r n = true := by
  obtain ⟨h1, h2, h3⟩ := okOf_iff.1 h
  obtain ⟨b0, b1, -, -, r0, r1⟩ := okL_iff.1 h1
  exact okM_iff.2 ⟨okL_iff.2 ⟨b0, b1, k0, k1, r0, r1⟩, by omega, h3⟩
/-- what Left tells of a payment, held against the least one. -/
theorem left_of (b r n k : Int) (h : okOf b r n = true) (g : gr b r ≤ 10000000000000) (k0 : 0 ≤ k) (k1 : k ≤ 10000000000000) :
    (ofQ b r n.toNat ≤ k ∧ lV b k r n = 0 ∧ lE b k r n = 0) ∨ (k < ofQ b r n.toNat ∧ (lE b k r n = 14 ∧ lV b k r n = 0 ∨ lE b k r n = 0 ∧ lV b k r n ≠ 0)) := by
  have hm := okM_of h k0 k1
  obtain ⟨h1, h2, h3⟩ := okOf_iff.1 h
  obtain ⟨b0, b1, -, -, r0, r1⟩ := okL_iff.1 h1
  obtain ⟨M, hM⟩ : ∃ M, n.toNat = M + 1 := ⟨n.toNat - 1, by omega⟩
  have hi := of_iff M b0 r0 g k0
  rw [(lV_yes hm).1, (lV_yes hm).2, hM]
  cases hl : lfO k r (M + 1) b with
  | none =>
    rw [hl] at hi
    exact Or.inr ⟨by have : ¬ ofQ b r (M + 1) ≤ k := fun hq => by cases hi.2 hq
                     omega, Or.inl ⟨rfl, rfl⟩⟩
  | some z =>
    rw [hl] at hi
    by_cases hz : z = 0
    · subst hz; exact Or.inl ⟨hi.1 rfl, rfl, rfl⟩
    · exact Or.inr ⟨by have : ¬ ofQ b r (M + 1) ≤ k := fun hq => hz (by have := hi.2 hq; injection this)
                       omega, Or.inr ⟨rfl, hz⟩⟩
/-- the greatest payment of all pays off just where the first month's balance is money. -/
theorem left_top (b r n : Int) (h : okOf b r n = true) (g : ¬ gr b r ≤ 10000000000000) : lV b 10000000000000 r n = 0 ∧ lE b 10000000000000 r n = 14 := by
  have hm := okM_of h (k := 10000000000000) (by omega) (by omega)
  obtain ⟨h1, h2, h3⟩ := okOf_iff.1 h
  obtain ⟨M, hM⟩ : ∃ M, n.toNat = M + 1 := ⟨n.toNat - 1, by omega⟩
  rw [(lV_yes hm).1, (lV_yes hm).2, hM, lf_none M (mo_none g)]
  exact ⟨rfl, rfl⟩
theorem of_top (b r n : Int) (h : okOf b r n = true) (g : gr b r ≤ 10000000000000) : 0 ≤ ofQ b r n.toNat ∧ ofQ b r n.toNat ≤ 10000000000000 := by
  obtain ⟨h1, h2, h3⟩ := okOf_iff.1 h
  obtain ⟨b0, b1, -, -, r0, r1⟩ := okL_iff.1 h1
  have := of_le n.toNat b0 r0
  exact ⟨of_ge _ _ _, by omega⟩

theorem r_of_over (b r n : Int) (w : World) (h : okOf b r n = true) (g : ¬ gr b r ≤ 10000000000000) :
    Calls Try.prog 17 #[.int .i64 b, .int .i64 r, .int .i64 n] w fun e w' => e = .returned (.tuple #[.int .i64 0, .int .i64 14]) ∧ Below w.heap.size w w' := by
  have K := Lib.hid (fun W => r_left b 10000000000000 r n W)
  obtain ⟨e1, e2⟩ := left_top b r n h g
  rw [e1, e2] at K
  obtain ⟨h1, h2, h3⟩ := okOf_iff.1 h
  obtain ⟨b0, b1, -, -, r0, r1⟩ := okL_iff.1 h1
  have K1 := Lib.hid (fun W => money_is b true W (mon_yes b0 b1))
  have t3 : decide (r < 0) = false := decide_eq_false (by omega)
  have t4 : decide (1000000 < r) = false := decide_eq_false (by omega)
  have t5 : decide (n < 1) = false := decide_eq_false (by omega)
  have t6 : decide (360 < n) = false := decide_eq_false (by omega)
  clear h g e1 e2 h1 h2 h3 b0 b1 r0 r1
  go_enter Try.func17, Try.ntmps17
  go_wp2_with fail
  refine (K1.out _).mono ?_
  rintro e w' ⟨rfl, rfl⟩
  go_wp2_with fail
  refine (K.out _).mono ?_
  rintro e w1 ⟨rfl, hb⟩
  have HB := Lib.hid hb
  clear hb
  go_wp2_with fail
  go_ret2
  exact ⟨rfl, HB.out⟩

set_option maxHeartbeats 400000 in
theorem r_of_yes (b r n : Int) (w : World) (h : okOf b r n = true) (g : gr b r ≤ 10000000000000) :
    Calls Try.prog 17 #[.int .i64 b, .int .i64 r, .int .i64 n] w fun e w' => e = .returned (.tuple #[.int .i64 (ofQ b r n.toNat), .int .i64 0]) ∧ Below w.heap.size w w' := by
  have HL := Lib.hid (fun k => left_of b r n k h g)
  obtain ⟨q0, q1⟩ := of_top b r n h g
  have K : Hid (∀ k W, Calls Try.prog 11 #[.int .i64 b, .int .i64 k, .int .i64 r, .int .i64 n] W fun e w' => e = .returned (.tuple #[.int .i64 (lV b k r n), .int .i64 (lE b k r n)]) ∧ Below W.heap.size W w') := fun k W => r_left b k r n W
  obtain ⟨h1, h2, h3⟩ := okOf_iff.1 h
  obtain ⟨b0, b1, -, -, r0, r1⟩ := okL_iff.1 h1
  have K1 := Lib.hid (fun W => money_is b true W (mon_yes b0 b1))
  have t3 : decide (r < 0) = false := decide_eq_false (by omega)
  have t4 : decide (1000000 < r) = false := decide_eq_false (by omega)
  have t5 : decide (n < 1) = false := decide_eq_false (by omega)
  have t6 : decide (360 < n) = false := decide_eq_false (by omega)
  generalize ofQ b r n.toNat = q at *
  have K0 := Lib.hid (K.out 10000000000000)
  obtain ⟨e1, e2⟩ : lV b 10000000000000 r n = 0 ∧ lE b 10000000000000 r n = 0 := by
    rcases HL.out 10000000000000 (by omega) (by omega) with ⟨-, e⟩ | ⟨h, -⟩
    · exact e
    · omega
  rw [e1, e2] at K0
  clear h g e1 e2 h1 h2 h3 b0 b1 r0 r1
  go_enter Try.func17, Try.ntmps17
  go_wp2_with fail
  refine (K1.out _).mono ?_
  rintro e w' ⟨rfl, rfl⟩
  go_wp2_with fail
  refine (K0.out _).mono ?_
  rintro e w1 ⟨rfl, hb⟩
  have HB := Lib.hid hb
  clear hb t3 t4 t5 t6
  go_wp2_with fail
  go_loopw [8, 9, 12] (fun a z t wr => ∃ (x y : Int) (i : Nat), -1 ≤ x ∧ x < q ∧ q ≤ y ∧ y ≤ 10000000000000 ∧ i ≤ 44 ∧ a = .int .i64 x ∧ z = .int .i64 y ∧ t = .int .i64 (i : Int) ∧ Hid (y - x ≤ wide i ∧ Below w.heap.size w wr)) (fun _ _ t _ => 44 - (intOf t).toNat)
  case atStart => exact ⟨-1, 10000000000000, 0, by omega, by omega, q1, by omega, by omega, rfl, rfl, rfl, wide_start, HB.out⟩
  case round =>
    obtain ⟨x, y, i, x0, x1, y0, y1, hi, rfl, rfl, rfl, HX⟩ := hrel
    have s1 : decide ((i : Int) < 60) = true := decide_eq_true (by omega)
    have s2 : IntKind.i64.wrap (y - x) = y - x := IntWalk.i64_in _ (by omega)
    by_cases hlt : 1 < y - x
    · obtain ⟨j1, j2, j3⟩ := wide_half HX.out.1 hlt
      obtain ⟨d, hd⟩ : ∃ d, d = (y - x) / 2 := ⟨_, rfl⟩
      rw [← hd] at j2 j3
      have s3 : decide (1 < y - x) = true := decide_eq_true hlt
      have s4 : (y - x).tdiv 2 = d := by rw [Int.tdiv_eq_ediv_of_nonneg (by omega)]; exact hd.symm
      have s5 : IntKind.i64.wrap d = d := IntWalk.i64_in _ (by omega)
      obtain ⟨k, hk⟩ : ∃ k, x + d = k := ⟨_, rfl⟩
      have s6 : IntKind.i64.wrap k = k := IntWalk.i64_in _ (by omega)
      have KK := Lib.hid (K.out k)
      have u1 : x < k := by omega
      have u2 : k < y := by omega
      have J := Lib.hid (And.intro j2 j3)
      have HD : Hid (k - x = d ∧ y - k = y - x - d) := by refine ⟨?_, ?_⟩ <;> omega
      have hl := HL.out k (by omega) (by omega)
      clear hd j2 j3
      generalize lV b k r n = v at *
      generalize lE b k r n = f at *
      rcases hl with ⟨z1, rfl, rfl⟩ | ⟨z1, ⟨rfl, rfl⟩ | ⟨rfl, z2⟩⟩
      · go_wp2_with fail
        refine (KK.out _).mono ?_
        rintro e w2 ⟨rfl, hb⟩
        have HB2 : Hid (Below w.heap.size w w2) := show Below _ _ _ from HX.out.2.trans (hb.mono HX.out.2.size)
        clear hb HB
        go_wp2_with fail
        go_roundw
        case rel => exact ⟨x, k, i + 1, x0, x1, z1, by omega, by omega, rfl, rfl, by go_num, by rw [HD.out.1]; exact J.out.1, HB2.out⟩
        case measure => simp [intOf]; omega
      · go_wp2_with fail
        refine (KK.out _).mono ?_
        rintro e w2 ⟨rfl, hb⟩
        have HB2 : Hid (Below w.heap.size w w2) := show Below _ _ _ from HX.out.2.trans (hb.mono HX.out.2.size)
        clear hb HB
        go_wp2_with fail
        go_roundw
        case rel => exact ⟨k, y, i + 1, by omega, z1, y0, y1, by omega, rfl, rfl, by go_num, by rw [HD.out.2]; exact J.out.2, HB2.out⟩
        case measure => simp [intOf]; omega
      · have s7 : (v == 0) = false := by rw [beq_eq_false_iff_ne]; exact z2
        go_wp2_with fail
        refine (KK.out _).mono ?_
        rintro e w2 ⟨rfl, hb⟩
        have HB2 : Hid (Below w.heap.size w w2) := show Below _ _ _ from HX.out.2.trans (hb.mono HX.out.2.size)
        clear hb HB
        go_wp2_with fail
        go_roundw
        case rel => exact ⟨k, y, i + 1, by omega, z1, y0, y1, by omega, rfl, rfl, by go_num, by rw [HD.out.2]; exact J.out.2, HB2.out⟩
        case measure => simp [intOf]; omega
    · have s3 : decide (1 < y - x) = false := decide_eq_false hlt
      have e : y = q := by omega
      go_wp2_with fail
      go_ret2
      exact ⟨by rw [← e]; rfl, HX.out.2⟩

theorem r_of (b r n : Int) (w : World) : Calls Try.prog 17 #[.int .i64 b, .int .i64 r, .int .i64 n] w fun e w' => e = .returned (.tuple #[.int .i64 (oV b r n), .int .i64 (oE b r n)]) ∧ Below w.heap.size w w' := by
  cases h : okOf b r n with
  | false =>
    rw [(oV_no h).1, (oV_no h).2]
    refine r_of_no b r n w _ _ _ _ _ ?_ (Lib.hid rfl) rfl rfl rfl rfl
    rw [Bool.eq_false_iff]
    intro k
    simp only [Bool.and_eq_true, Bool.not_eq_true', decide_eq_false_iff_not] at k
    have k1 := of_decide_eq_true k.1.1.1.1
    have : okOf b r n = true := okOf_iff.2 ⟨okL_iff.2 (by omega), by omega, by omega⟩
    rw [h] at this; cases this
  | true =>
    by_cases g : gr b r ≤ 10000000000000
    · rw [(oV_yes h g).1, (oV_yes h g).2]
      exact r_of_yes b r n w h g
    · rw [(oV_over h g).1, (oV_over h g).2]
      exact r_of_over b r n w h g
end Go.Proofs.Ytkeghiljolojlaa.RLevel
