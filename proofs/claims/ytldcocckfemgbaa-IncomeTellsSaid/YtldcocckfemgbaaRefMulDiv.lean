/- What the document's own MulDiv of layer 1 comes to, at every input. -/
import Derived.Test.YtldcocckfemgbaaRef
namespace Go.Proofs.Ytldcocckfemgbaa.Ref
open Go.ChangeShapes Go.WideShapes Go.ChangeAt Go.RowKit Bits Money

theorem bcell {W w1 : World} (hb : Below W.heap.size W w1) : (∀ b o, b < W.heap.size → w1.cell? ⟨b, o, none⟩ = W.cell? ⟨b, o, none⟩) ∧ (∀ b o, b < W.heap.size → w1.frozen? ⟨b, o, none⟩ = W.frozen? ⟨b, o, none⟩) :=
  ⟨fun b o h => hb.cell (p := ⟨b, o, none⟩) h, fun b o h => hb.frozen (p := ⟨b, o, none⟩) h⟩

theorem muldiv_bad (a b c how : Int) (w : World) (h : mdBad a b c how) :
    Calls Try.prog 17 #[.int .i64 a, .int .i64 b, .int .i64 c, .int .i64 how] w fun e w' => e = .returned (.tuple #[.int .i64 0, .int .i64 1]) ∧ Below w.heap.size w w' := by
  unfold mdBad at h
  by_cases h1 : a < 0
  · clear h
    go_enter Try.func17, Try.ntmps17
    go_wp2_with fail
    go_ret2
    exact ⟨rfl, Below.refl _ _⟩
  · by_cases h2 : b < 0
    · clear h
      go_enter Try.func17, Try.ntmps17
      go_wp2_with fail
      go_ret2
      exact ⟨rfl, Below.refl _ _⟩
    · by_cases h3 : c ≤ 0
      · clear h
        go_enter Try.func17, Try.ntmps17
        go_wp2_with fail
        go_ret2
        exact ⟨rfl, Below.refl _ _⟩
      · by_cases h4 : how < 0
        · clear h
          go_enter Try.func17, Try.ntmps17
          go_wp2_with fail
          go_ret2
          exact ⟨rfl, Below.refl _ _⟩
        · have h5 : 2 < how := by omega
          clear h
          go_enter Try.func17, Try.ntmps17
          go_wp2_with fail
          go_ret2
          exact ⟨rfl, Below.refl _ _⟩

theorem below_two {w w1 w2 : World} {o o' : Obj} (h1 : Below w.heap.size w w1) (h2 : Below (w1.alloc o).heap.size (w1.alloc o) w2) : Below w.heap.size w (w2.alloc o') := by
  have s1 := h1.size
  have s2 := h2.size
  rw [World.size_alloc] at s2
  exact ((h1.alloc (by omega) o).trans (h2.mono (by rw [World.size_alloc]; omega))).alloc (by omega) o'

set_option maxHeartbeats 1000000 in
theorem muldiv_good (a b c how : Int) (w : World) (a0 : 0 ≤ a) (a1 : a ≤ 9223372036854775807) (b0 : 0 ≤ b) (b1 : b ≤ 9223372036854775807) (c0 : 0 < c) (c1 : c ≤ 9223372036854775807) (m0 : 0 ≤ how) (m1 : how ≤ 2) :
    Calls Try.prog 17 #[.int .i64 a, .int .i64 b, .int .i64 c, .int .i64 how] w fun e w' => e = .returned (.tuple #[.int .i64 (mdV a b c how), .int .i64 (mdE a b c how)]) ∧ Below w.heap.size w w' := by
  have hb : ¬ mdBad a b c how := by unfold mdBad; omega
  obtain ⟨i0, i1, i2, i3, i4, i5, i6, i7, i8⟩ := words a b c a0 a1 b0 b1 c0
  have i9 := quot_lt a b c
  have ge := rnd_ge a b c how
  by_cases hc : c ≤ a * b / 18446744073709551616
  · have H := Lib.hid (md_out (a := a) (b := b) (c := c) (how := how) hb (by omega))
    clear i4 i8 i9 ge hb i5 i6 i7
    go_enter Try.func17, Try.ntmps17
    go_wp2_with fail
    refine (mul_any _ _ _ (by omega) (by omega) (by omega) (by omega)).mono ?_
    rintro e w1 ⟨rfl, hb1⟩
    obtain ⟨hc1, hf1⟩ := bcell hb1
    have hz1 := hb1.size
    go_wp2_with fail
    refine (div_no _ _ _ _ (Or.inr (by omega))).mono ?_
    rintro e w2 ⟨rfl, hb2⟩
    obtain ⟨hc2, hf2⟩ := bcell hb2
    have hz2 := hb2.size
    go_wp2_with fail
    go_ret2
    exact ⟨ret_two H.out.1.symm H.out.2.symm, below_two hb1 hb2⟩
  · have i10 := i9 (by omega) i0
    have H4 := Lib.hid i4
    clear i4 i8 i9
    have yes := rnd_yes (a := a) (b := b) (c := c) (how := how)
    have no := rnd_no (a := a) (b := b) (c := c) (how := how)
    generalize hq : a * b / c = q at *
    generalize hr : a * b % c = r at *
    have HQ := Lib.hid hq
    have HR := Lib.hid hr
    clear hq hr
    by_cases hq1 : 10000000000000 < q
    · have H := Lib.hid (md_out (a := a) (b := b) (c := c) (how := how) hb (by omega))
      clear hb ge yes no
      go_enter Try.func17, Try.ntmps17
      go_wp2_with fail
      refine (mul_any _ _ _ (by omega) (by omega) (by omega) (by omega)).mono ?_
      rintro e w1 ⟨rfl, hb1⟩
      obtain ⟨hc1, hf1⟩ := bcell hb1
      have hz1 := hb1.size
      go_wp2_with fail
      refine (div_ok _ _ _ _ (by omega) (by omega) (by omega) (by omega) (by omega)).mono ?_
      rw [H4.out, HQ.out, HR.out]
      rintro e w2 ⟨rfl, hb2⟩
      obtain ⟨hc2, hf2⟩ := bcell hb2
      have hz2 := hb2.size
      go_wp2_with fail
      go_ret2
      exact ⟨ret_two H.out.1.symm H.out.2.symm, below_two hb1 hb2⟩
    · by_cases h1 : how = 1
      · subst h1
        by_cases hr0 : 0 < r
        · have hv := yes (risesB_yes (by omega))
          have HV := Lib.hid hv
          by_cases hq2 : 10000000000000 < q + 1
          · have H := Lib.hid (md_out (a := a) (b := b) (c := c) (how := 1) hb (by omega))
            clear hb ge yes no hv
            go_enter Try.func17, Try.ntmps17
            go_wp2_with fail
            refine (mul_any _ _ _ (by omega) (by omega) (by omega) (by omega)).mono ?_
            rintro e w1 ⟨rfl, hb1⟩
            obtain ⟨hc1, hf1⟩ := bcell hb1
            have hz1 := hb1.size
            go_wp2_with fail
            refine (div_ok _ _ _ _ (by omega) (by omega) (by omega) (by omega) (by omega)).mono ?_
            rw [H4.out, HQ.out, HR.out]
            rintro e w2 ⟨rfl, hb2⟩
            obtain ⟨hc2, hf2⟩ := bcell hb2
            have hz2 := hb2.size
            go_wp2_with fail
            go_ret2
            exact ⟨ret_two H.out.1.symm H.out.2.symm, below_two hb1 hb2⟩
          · have H := Lib.hid (md_in (a := a) (b := b) (c := c) (how := 1) hb (by omega))
            clear hb ge yes no hv
            go_enter Try.func17, Try.ntmps17
            go_wp2_with fail
            refine (mul_any _ _ _ (by omega) (by omega) (by omega) (by omega)).mono ?_
            rintro e w1 ⟨rfl, hb1⟩
            obtain ⟨hc1, hf1⟩ := bcell hb1
            have hz1 := hb1.size
            go_wp2_with fail
            refine (div_ok _ _ _ _ (by omega) (by omega) (by omega) (by omega) (by omega)).mono ?_
            rw [H4.out, HQ.out, HR.out]
            rintro e w2 ⟨rfl, hb2⟩
            obtain ⟨hc2, hf2⟩ := bcell hb2
            have hz2 := hb2.size
            go_wp2_with fail
            go_ret2
            exact ⟨ret_two (by rw [H.out.1, HV.out]) H.out.2.symm, below_two hb1 hb2⟩
        · have hv := no (risesB_no (by omega))
          have HV := Lib.hid hv
          have H := Lib.hid (md_in (a := a) (b := b) (c := c) (how := 1) hb (by omega))
          clear hb ge yes no hv
          go_enter Try.func17, Try.ntmps17
          go_wp2_with fail
          refine (mul_any _ _ _ (by omega) (by omega) (by omega) (by omega)).mono ?_
          rintro e w1 ⟨rfl, hb1⟩
          obtain ⟨hc1, hf1⟩ := bcell hb1
          have hz1 := hb1.size
          go_wp2_with fail
          refine (div_ok _ _ _ _ (by omega) (by omega) (by omega) (by omega) (by omega)).mono ?_
          rw [H4.out, HQ.out, HR.out]
          rintro e w2 ⟨rfl, hb2⟩
          obtain ⟨hc2, hf2⟩ := bcell hb2
          have hz2 := hb2.size
          go_wp2_with fail
          go_ret2
          exact ⟨ret_two (by rw [H.out.1, HV.out]) H.out.2.symm, below_two hb1 hb2⟩
      · by_cases h2 : how = 2
        · subst h2
          clear h1
          by_cases h3 : c - r < r
          · have hv := yes (risesB_yes (by omega))
            have HV := Lib.hid hv
            by_cases hq2 : 10000000000000 < q + 1
            · have H := Lib.hid (md_out (a := a) (b := b) (c := c) (how := 2) hb (by omega))
              clear hb ge yes no hv
              go_enter Try.func17, Try.ntmps17
              go_wp2_with fail
              refine (mul_any _ _ _ (by omega) (by omega) (by omega) (by omega)).mono ?_
              rintro e w1 ⟨rfl, hb1⟩
              obtain ⟨hc1, hf1⟩ := bcell hb1
              have hz1 := hb1.size
              go_wp2_with fail
              refine (div_ok _ _ _ _ (by omega) (by omega) (by omega) (by omega) (by omega)).mono ?_
              rw [H4.out, HQ.out, HR.out]
              rintro e w2 ⟨rfl, hb2⟩
              obtain ⟨hc2, hf2⟩ := bcell hb2
              have hz2 := hb2.size
              go_wp2_with fail
              go_ret2
              exact ⟨ret_two H.out.1.symm H.out.2.symm, below_two hb1 hb2⟩
            · have H := Lib.hid (md_in (a := a) (b := b) (c := c) (how := 2) hb (by omega))
              clear hb ge yes no hv
              go_enter Try.func17, Try.ntmps17
              go_wp2_with fail
              refine (mul_any _ _ _ (by omega) (by omega) (by omega) (by omega)).mono ?_
              rintro e w1 ⟨rfl, hb1⟩
              obtain ⟨hc1, hf1⟩ := bcell hb1
              have hz1 := hb1.size
              go_wp2_with fail
              refine (div_ok _ _ _ _ (by omega) (by omega) (by omega) (by omega) (by omega)).mono ?_
              rw [H4.out, HQ.out, HR.out]
              rintro e w2 ⟨rfl, hb2⟩
              obtain ⟨hc2, hf2⟩ := bcell hb2
              have hz2 := hb2.size
              go_wp2_with fail
              go_ret2
              exact ⟨ret_two (by rw [H.out.1, HV.out]) H.out.2.symm, below_two hb1 hb2⟩
          · by_cases h4 : r = c - r
            · by_cases h5 : q % 2 = 1
              · have hv := yes (risesB_yes (by omega))
                have HV := Lib.hid hv
                by_cases hq2 : 10000000000000 < q + 1
                · have H := Lib.hid (md_out (a := a) (b := b) (c := c) (how := 2) hb (by omega))
                  have b4 : (r == c - r) = true := by simpa using h4
                  have b5 : (q % 2 == 1) = true := by simpa using h5
                  clear hb ge yes no hv h4 h5
                  go_enter Try.func17, Try.ntmps17
                  go_wp2_with fail
                  refine (mul_any _ _ _ (by omega) (by omega) (by omega) (by omega)).mono ?_
                  rintro e w1 ⟨rfl, hb1⟩
                  obtain ⟨hc1, hf1⟩ := bcell hb1
                  have hz1 := hb1.size
                  go_wp2_with fail
                  refine (div_ok _ _ _ _ (by omega) (by omega) (by omega) (by omega) (by omega)).mono ?_
                  rw [H4.out, HQ.out, HR.out]
                  rintro e w2 ⟨rfl, hb2⟩
                  obtain ⟨hc2, hf2⟩ := bcell hb2
                  have hz2 := hb2.size
                  go_wp2_with fail
                  go_ret2
                  exact ⟨ret_two H.out.1.symm H.out.2.symm, below_two hb1 hb2⟩
                · have H := Lib.hid (md_in (a := a) (b := b) (c := c) (how := 2) hb (by omega))
                  have b4 : (r == c - r) = true := by simpa using h4
                  have b5 : (q % 2 == 1) = true := by simpa using h5
                  clear hb ge yes no hv h4 h5
                  go_enter Try.func17, Try.ntmps17
                  go_wp2_with fail
                  refine (mul_any _ _ _ (by omega) (by omega) (by omega) (by omega)).mono ?_
                  rintro e w1 ⟨rfl, hb1⟩
                  obtain ⟨hc1, hf1⟩ := bcell hb1
                  have hz1 := hb1.size
                  go_wp2_with fail
                  refine (div_ok _ _ _ _ (by omega) (by omega) (by omega) (by omega) (by omega)).mono ?_
                  rw [H4.out, HQ.out, HR.out]
                  rintro e w2 ⟨rfl, hb2⟩
                  obtain ⟨hc2, hf2⟩ := bcell hb2
                  have hz2 := hb2.size
                  go_wp2_with fail
                  go_ret2
                  exact ⟨ret_two (by rw [H.out.1, HV.out]) H.out.2.symm, below_two hb1 hb2⟩
              · have hv := no (risesB_no (by omega))
                have HV := Lib.hid hv
                have H := Lib.hid (md_in (a := a) (b := b) (c := c) (how := 2) hb (by omega))
                have b4 : (r == c - r) = true := by simpa using h4
                have b5 : (q % 2 == 1) = false := by simpa using h5
                clear hb ge yes no hv h4 h5
                go_enter Try.func17, Try.ntmps17
                go_wp2_with fail
                refine (mul_any _ _ _ (by omega) (by omega) (by omega) (by omega)).mono ?_
                rintro e w1 ⟨rfl, hb1⟩
                obtain ⟨hc1, hf1⟩ := bcell hb1
                have hz1 := hb1.size
                go_wp2_with fail
                refine (div_ok _ _ _ _ (by omega) (by omega) (by omega) (by omega) (by omega)).mono ?_
                rw [H4.out, HQ.out, HR.out]
                rintro e w2 ⟨rfl, hb2⟩
                obtain ⟨hc2, hf2⟩ := bcell hb2
                have hz2 := hb2.size
                go_wp2_with fail
                go_ret2
                exact ⟨ret_two (by rw [H.out.1, HV.out]) H.out.2.symm, below_two hb1 hb2⟩
            · have hv := no (risesB_no (by omega))
              have HV := Lib.hid hv
              have H := Lib.hid (md_in (a := a) (b := b) (c := c) (how := 2) hb (by omega))
              have b4 : (r == c - r) = false := by simpa using h4
              clear hb ge yes no hv h4
              go_enter Try.func17, Try.ntmps17
              go_wp2_with fail
              refine (mul_any _ _ _ (by omega) (by omega) (by omega) (by omega)).mono ?_
              rintro e w1 ⟨rfl, hb1⟩
              obtain ⟨hc1, hf1⟩ := bcell hb1
              have hz1 := hb1.size
              go_wp2_with fail
              refine (div_ok _ _ _ _ (by omega) (by omega) (by omega) (by omega) (by omega)).mono ?_
              rw [H4.out, HQ.out, HR.out]
              rintro e w2 ⟨rfl, hb2⟩
              obtain ⟨hc2, hf2⟩ := bcell hb2
              have hz2 := hb2.size
              go_wp2_with fail
              go_ret2
              exact ⟨ret_two (by rw [H.out.1, HV.out]) H.out.2.symm, below_two hb1 hb2⟩
        · have hv := no (risesB_no (by omega))
          have HV := Lib.hid hv
          have H := Lib.hid (md_in (a := a) (b := b) (c := c) (how := how) hb (by omega))
          have b1' : (how == 1) = false := by simpa using h1
          have b2' : (how == 2) = false := by simpa using h2
          clear hb ge yes no hv h1 h2
          go_enter Try.func17, Try.ntmps17
          go_wp2_with fail
          refine (mul_any _ _ _ (by omega) (by omega) (by omega) (by omega)).mono ?_
          rintro e w1 ⟨rfl, hb1⟩
          obtain ⟨hc1, hf1⟩ := bcell hb1
          have hz1 := hb1.size
          go_wp2_with fail
          refine (div_ok _ _ _ _ (by omega) (by omega) (by omega) (by omega) (by omega)).mono ?_
          rw [H4.out, HQ.out, HR.out]
          rintro e w2 ⟨rfl, hb2⟩
          obtain ⟨hc2, hf2⟩ := bcell hb2
          have hz2 := hb2.size
          go_wp2_with fail
          go_ret2
          exact ⟨ret_two (by rw [H.out.1, HV.out]) H.out.2.symm, below_two hb1 hb2⟩

theorem muldiv_any (a b c how : Int) (w : World) (a1 : a ≤ 9223372036854775807) (b1 : b ≤ 9223372036854775807) (c1 : c ≤ 9223372036854775807) :
    Calls Try.prog 17 #[.int .i64 a, .int .i64 b, .int .i64 c, .int .i64 how] w fun e w' => e = .returned (.tuple #[.int .i64 (mdV a b c how), .int .i64 (mdE a b c how)]) ∧ Below w.heap.size w w' := by
  by_cases h : mdBad a b c how
  · rw [(md_bad h).1, (md_bad h).2]
    exact muldiv_bad a b c how w h
  · unfold mdBad at h
    exact muldiv_good a b c how w (by omega) a1 (by omega) b1 (by omega) c1 (by omega) (by omega)
end Go.Proofs.Ytldcocckfemgbaa.Ref
