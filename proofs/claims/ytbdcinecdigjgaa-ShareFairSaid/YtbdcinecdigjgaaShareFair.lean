/- By share.Split the parts are together the total, each is its quotient, rounded down or up, who weighs nothing gets nothing, and of two the heavier gets no less, at any total and any weights; no condition. -/
import Derived.Test.YtbdcinecdigjgaaShell
import Derived.Test.YtbdcinecdigjgaaShareWakes
import Derived.Test.YtbdcinecdigjgaaFairMath
import Derived.Deep.QuietTactic
import Derived.BigQuiet
import Derived.Deep.DeepCutAuto
namespace Go.Proofs.Ytbdcinecdigjgaa.Law
open Go.ChangeShapes Go.WideShapes Go.ChangeAt Go.RowKit Bits Money Slice Stable Share Law2

set_option maxRecDepth 100000 in
theorem fair_long (t : Int) (zs : List Int) (v : Value) (w : World) (hv : Ints w w.heap.size .i64 v zs) (hlong : 200 < zs.length) :
    Calls Try.prog 5 #[.int .i64 t, v] w fun e w' => e = .returned (.bool true) ∧ Below w.heap.size w w' := by
  obtain ⟨A, c, rfl, hl, -, -⟩ := hv
  go_enter Try.func5, Try.ntmps5
  go_wp2_with fail
  refine (Law2.wakes_any _).mono ?_
  rintro e w5 ⟨rfl, hb⟩
  have HB := Lib.hid hb
  clear hb
  go_wp2_with fail
  go_ret
  exact ⟨rfl, HB.out⟩

set_option maxRecDepth 100000 in
set_option maxHeartbeats 1000000 in
theorem fair_none (t : Int) (zs : List Int) (v : Value) (w : World) (hv : Ints w w.heap.size .i64 v zs) (hshort : zs.length ≤ 200) (h : splitS t zs = none) :
    Calls Try.prog 5 #[.int .i64 t, v] w fun e w' => e = .returned (.bool true) ∧ Below w.heap.size w w' := by
  have HN := Lib.hid h
  clear h
  obtain ⟨i0, hi0, hz0, hz1, hz2⟩ := info_parts i64_info
  obtain ⟨A, c, rfl, hl, hn, hc⟩ := hv
  have HV : Hid (Ints w w.heap.size .i64 (.slice A zs.length c) zs) := ⟨A, c, rfl, hl, hn, hc⟩
  have HI := Lib.hid hi0
  have HZ0 := Lib.hid hz0
  have HZ1 := Lib.hid hz1
  have HZ2 := Lib.hid hz2
  clear hc hn hi0 hz0 hz1 hz2
  go_enter Try.func5, Try.ntmps5
  go_wp2_with (at_builtin
               refine Slice.wpList_append_ints rfl (.tmp 22) (.tmp 23) _ rfl w.heap.size 2 i0 (.int .i64 0) 8 Try.underlying22 HI.out HZ0.out HZ1.out HZ2.out rfl (.slice (some ⟨w.heap.size, 0, none⟩) 0 0) 0 [] rfl
                 (World.ownsRow_made w #[] 0 (Nat.le_refl _) (by simp) (by simp)) w.heap.size .i64 (.slice A zs.length c) zs rfl (HV.out.alloc (Nat.le_refl _) _) (by unfold maxLen; omega) (by omega) (by simp) ?_
               intro v3 w3 hown hgrow
               have IN : Hid (Ints w3 w3.heap.size .i64 v3 zs) := Slice.Ints.of_own (base := w.heap.size) (e := 2) (n := 0 + zs.length) (Nat.zero_add _) hown
               have HB3 : Hid (Below w.heap.size w w3) := (below_new (Below.refl _ _) _).grown hgrow (below_new (Below.refl _ _) _).size (fun g hg => by
                 have e : w.heap.size = g := by simpa [Value.ownBlock] using hg
                 omega)
               clear hown hgrow)
  refine (split_not t zs v3 _ IN.out HN.out).mono ?_
  rintro e w4 ⟨rfl, hb4⟩
  have HB4 := Lib.hid (below_via HB3.out hb4)
  clear hb4
  go_wp2_with fail
  refine (Law2.wakes_any _).mono ?_
  rintro e w9 ⟨rfl, hb9⟩
  have HB9 := Lib.hid hb9
  clear hb9
  go_wp2_with fail
  go_ret
  exact ⟨rfl, below_via HB4.out HB9.out⟩

theorem outL_at (t s : Int) (zs : List Int) (Q : Nat → Nat) {i : Nat} (hi : i < zs.length) : (outL t s zs Q).getD i 0 = outS t s (wt zs) zs.length Q i := by simp [outL, List.getD_eq_getElem?_getD, hi]

set_option maxRecDepth 100000 in
set_option maxHeartbeats 1600000 in
theorem fair_some (t : Int) (zs : List Int) (v : Value) (w : World) (hv : Ints w w.heap.size .i64 v zs) (hshort : zs.length ≤ 200) (s : Int) (h : splitS t zs = some s) :
    Calls Try.prog 5 #[.int .i64 t, v] w fun e w' => e = .returned (.bool true) ∧ Below w.heap.size w w' := by
  obtain ⟨hf, hp, hs⟩ := splitS_some h
  obtain ⟨hw, s1⟩ := weights_of hf hp hs
  obtain ⟨-, ht, -⟩ := (fitB_iff t zs).1 hf
  obtain ⟨t0, t1⟩ := (okB_iff t).1 ht
  have s0 := hw.s0
  have HW := Lib.hid hw
  have HF := Lib.hid hf
  have HPS := Lib.hid hp
  have HSS := Lib.hid hs
  clear h hf hp hs hw ht
  obtain ⟨i0, hi0, hz0, hz1, hz2⟩ := info_parts i64_info
  obtain ⟨A, c, rfl, hl, hn, hc⟩ := hv
  have HV : Hid (Ints w w.heap.size .i64 (.slice A zs.length c) zs) := ⟨A, c, rfl, hl, hn, hc⟩
  have HI := Lib.hid hi0
  have HZ0 := Lib.hid hz0
  have HZ1 := Lib.hid hz1
  have HZ2 := Lib.hid hz2
  clear hc hn hi0 hz0 hz1 hz2
  go_enter Try.func5, Try.ntmps5
  go_wp2_with (at_builtin
               refine Slice.wpList_append_ints rfl (.tmp 22) (.tmp 23) _ rfl w.heap.size 2 i0 (.int .i64 0) 8 Try.underlying22 HI.out HZ0.out HZ1.out HZ2.out rfl (.slice (some ⟨w.heap.size, 0, none⟩) 0 0) 0 [] rfl
                 (World.ownsRow_made w #[] 0 (Nat.le_refl _) (by simp) (by simp)) w.heap.size .i64 (.slice A zs.length c) zs rfl (HV.out.alloc (Nat.le_refl _) _) (by unfold maxLen; omega) (by omega) (by simp) ?_
               intro v3 w3 hown hgrow
               have IN : Hid (Ints w3 w3.heap.size .i64 v3 zs) := Slice.Ints.of_own (base := w.heap.size) (e := 2) (n := 0 + zs.length) (Nat.zero_add _) hown
               have HB3 : Hid (Below w.heap.size w w3) := (below_new (Below.refl _ _) _).grown hgrow (below_new (Below.refl _ _) _).size (fun g hg => by
                 have e : w.heap.size = g := by simpa [Value.ownBlock] using hg
                 omega)
               clear hown hgrow)
  refine (split_yes merge_law t s zs v3 _ IN.out HF.out HPS.out HSS.out).mono ?_
  rintro e w4 ⟨Q, u4, rfl, hq, hi4, hb4⟩
  have hlo : (outL t s zs Q).length = zs.length := by simp [outL]
  obtain ⟨A4, c4, rfl, -, -, hc4⟩ := id hi4
  rw [hlo] at hc4
  rw [hlo]
  have HQ := Lib.hid hq
  have HC4 := Lib.hid hc4
  have HB4 := Lib.hid (below_via HB3.out hb4)
  have hsz := HB4.out.size
  have HV4 := Lib.hid (HV.out.below HB4.out)
  have HT := Lib.hid (HW.out.total hq.re)
  have hn1 : 0 < zs.length := by
    rcases Nat.eq_zero_or_pos zs.length with h0 | h0
    · have := HW.out.sum
      rw [h0, pre_zero] at this
      omega
    · exact h0
  obtain ⟨b, off, rfl, hb, hc⟩ := HC4.out hn1
  obtain ⟨A', c', e1, -, -, hvv⟩ := HV4.out
  injection e1 with e1 e2 e3
  subst e1
  subst e3
  obtain ⟨b', off', rfl, hbv, hvv⟩ := hvv hn1
  have HCA : Hid (∀ i, i < zs.length → w4.cell? ⟨b, off + i, none⟩ = some (.int .i64 (outS t s (wt zs) zs.length Q i))) := fun i hi => by rw [hc i hi, outL_at t s zs Q hi]
  have HCW : Hid (∀ i, i < zs.length → w4.cell? ⟨b', off' + i, none⟩ = some (.int .i64 (wt zs i))) := fun i hi => hvv i hi
  have hbv4 : b' < w4.heap.size := by omega
  clear hb4 hi4 hc4 hlo hq hc hvv e2
  go_wp2_with fail
  go_loop [7, 8, 9] (fun x y i => ∃ j : Nat, j ≤ zs.length ∧ i = .int .i64 j ∧ x = .int .i64 (pre (wt zs) j) ∧ y = .int .i64 (pre (outS t s (wt zs) zs.length Q) j)) (fun _ _ i => zs.length - (intOf i).toNat)
  case atStart => exact ⟨0, Nat.zero_le _, rfl, rfl, rfl⟩
  case round =>
    obtain ⟨j, hj, rfl, rfl, rfl⟩ := hrel
    have m1 := pre_mono (f := wt zs) HW.out.w0 hj
    rw [HW.out.sum] at m1
    have m2 := pre_nonneg (f := wt zs) (n := j) fun i hi => HW.out.w0 i (by omega)
    have m3 := pre_mono (f := outS t s (wt zs) zs.length Q) (fun i hi => (one_of HW.out t1 HQ.out hi).a0) hj
    rw [HT.out] at m3
    have m4 := pre_nonneg (f := outS t s (wt zs) zs.length Q) (n := j) fun i hi => (one_of HW.out t1 HQ.out (by omega)).a0
    by_cases hlt : j < zs.length
    · have ca := HCA.out j hlt
      have cw := HCW.out j hlt
      have o := one_of HW.out t1 HQ.out hlt
      have a0 := o.a0
      have a1 := o.a1
      have x0 := HW.out.w0 j hlt
      have x1 := HW.out.le hlt
      have p1 := pre_succ (wt zs) j
      have p2 := pre_succ (outS t s (wt zs) zs.length Q) j
      clear o
      generalize outS t s (wt zs) zs.length Q j = p at *
      generalize hx : wt zs j = x at *
      generalize pre (wt zs) j = y at *
      generalize pre (outS t s (wt zs) zs.length Q) j = z at *
      have P1 := Lib.hid p1
      have P2 := Lib.hid p2
      have HX := Lib.hid hx
      clear p1 p2 hx
      go_wp2_with fail
      go_round
      case rel => exact ⟨j + 1, hlt, by go_num, by rw [P1.out], by rw [P2.out]⟩
      case measure => simp [intOf]; omega
    · obtain rfl : j = zs.length := by omega
      rw [HW.out.sum, HT.out]
      clear m1 m2 m3 m4
      go_wp2_with fail
      go_loopw [10] (fun i wr => ∃ j : Nat, j ≤ zs.length ∧ i = .int .i64 j ∧ Below w4.heap.size w4 wr) (fun i _ => zs.length - (intOf i).toNat)
      case atStart => exact ⟨0, Nat.zero_le _, rfl, Below.refl _ _⟩
      case round =>
        obtain ⟨i, hi, rfl, hbr⟩ := hrel
        have HBR := Lib.hid hbr
        clear hbr
        by_cases hlt : i < zs.length
        · have cw := (HBR.out.cell (p := ⟨b', off' + i, none⟩) hbv4).trans (HCW.out i hlt)
          have o := one_of HW.out t1 HQ.out hlt
          generalize hd : quo t s (wt zs) i = d at o
          generalize hu : d + (if 0 < rst t s (wt zs) i then 1 else 0) = u at o
          generalize hpo : outS t s (wt zs) zs.length Q i = p at o
          obtain ⟨o1, o2, o3, o4, o5, a0, a1⟩ := o
          have O1 := Lib.hid o1
          have O2 := Lib.hid o2
          have x0 := HW.out.w0 i hlt
          have x1 := HW.out.le hlt
          have HPO := Lib.hid hpo
          clear hd hu o1 o2 hpo
          generalize hx : wt zs i = x at *
          have HX := Lib.hid hx
          clear hx
          obtain ⟨wo, rfl⟩ : ∃ wo : World, wo = wr := ⟨_, rfl⟩
          go_wp2_with fail
          refine (Ref.muldiv_any t x s 0 _ (by omega) (by omega) (by omega)).mono ?_
          rw [O1.out.1, O1.out.2]
          rintro e w5 ⟨rfl, hb5⟩
          have HB5 := Lib.hid (HBR.out.trans (hb5.mono HBR.out.size))
          have cw5 := (HB5.out.cell (p := ⟨b', off' + i, none⟩) hbv4).trans (HCW.out i hlt)
          rw [HX.out] at cw5
          clear hb5 cw
          go_wp2_with fail
          refine (Ref.muldiv_any t x s 1 _ (by omega) (by omega) (by omega)).mono ?_
          rw [O2.out.1, O2.out.2]
          rintro e w6 ⟨rfl, hb6⟩
          have HB6 := Lib.hid (HB5.out.trans (hb6.mono HB5.out.size))
          have cw6 := (HB6.out.cell (p := ⟨b', off' + i, none⟩) hbv4).trans (HCW.out i hlt)
          have ca6 := (HB6.out.cell (p := ⟨b, off + i, none⟩) hb).trans (HCA.out i hlt)
          rw [HX.out] at cw6
          rw [HPO.out] at ca6
          clear hb6 cw5
          go_upto_region 19 with fail
          go_cut [120] (fun y wx => y = .bool false ∧ w6 = wx)
          case first =>
            have g1 : decide (p < d) = false := decide_eq_false (by omega)
            have g2 : decide (u < p) = false := decide_eq_false (by omega)
            by_cases hx0 : x = 0
            · have hxb : (x == 0) = true := by rw [beq_iff_eq]; exact hx0
              have hpb : (p == 0) = true := by rw [beq_iff_eq]; exact o5 hx0
              have hpb' : (p != 0) = false := by simp only [bne, hpb]; rfl
              clear o5 hx0
              go_wp2_with fail
              go_meet
              exact ⟨rfl, rfl⟩
            · have hxb : (x == 0) = false := by rw [beq_eq_false_iff_ne]; exact hx0
              clear o5 hx0
              go_wp2_with fail
              go_meet
              exact ⟨rfl, rfl⟩
          case rest =>
          obtain ⟨rfl, rfl⟩ := hcut
          clear o5 cw6 ca6
          go_wp2_with fail
          go_loopw [15] (fun y wr => ∃ k : Nat, k ≤ i ∧ y = .int .i64 k ∧ Below w4.heap.size w4 wr) (fun y _ => i - (intOf y).toNat)
          case atStart => exact ⟨0, Nat.zero_le _, rfl, HB6.out⟩
          case round =>
          obtain ⟨k, hk, rfl, hbk⟩ := hrel
          have HBK := Lib.hid hbk
          clear hbk
          by_cases hki : k < i
          · have cw := (HBK.out.cell (p := ⟨b', off' + i, none⟩) hbv4).trans (HCW.out i hlt)
            have ca := (HBK.out.cell (p := ⟨b, off + i, none⟩) hb).trans (HCA.out i hlt)
            have cwk := (HBK.out.cell (p := ⟨b', off' + k, none⟩) hbv4).trans (HCW.out k (by omega))
            have cak := (HBK.out.cell (p := ⟨b, off + k, none⟩) hb).trans (HCA.out k (by omega))
            rw [HX.out] at cw
            rw [HPO.out] at ca
            have d1 : wt zs k < x → outS t s (wt zs) zs.length Q k ≤ p := fun h => by
              rw [← HPO.out]; exact pair_of HW.out HQ.out (by omega) hlt (Or.inl (by rw [HX.out]; exact h))
            have d2 : x < wt zs k → p ≤ outS t s (wt zs) zs.length Q k := fun h => by
              rw [← HPO.out]; exact pair_of HW.out HQ.out hlt (by omega) (Or.inl (by rw [HX.out]; exact h))
            have d3 : wt zs k = x → p ≤ outS t s (wt zs) zs.length Q k := fun h => by
              rw [← HPO.out]; exact pair_of HW.out HQ.out hlt (by omega) (Or.inr ⟨by rw [HX.out]; exact h.symm, hki⟩)
            generalize outS t s (wt zs) zs.length Q k = p' at *
            generalize wt zs k = x' at *
            have k0 : (0 : Int) ≤ k := by omega
            have k1 : (k : Int) < zs.length := by omega
            have i0' : (0 : Int) ≤ i := by omega
            have i1' : (i : Int) < zs.length := by omega
            rcases Int.lt_trichotomy x' x with h | h | h
            · have f1 : decide (x' < x) = true := decide_eq_true h
              have f2 : decide (x < x') = false := decide_eq_false (by omega)
              have f3 : (x' == x) = false := by rw [beq_eq_false_iff_ne]; omega
              have f4 : decide (p < p') = false := decide_eq_false (by have := d1 h; omega)
              clear h d1 d2 d3
              go_wp2_with fail
              go_quiet (fail)
              go_wp2_with fail
              go_roundw
              case rel => exact ⟨k + 1, by omega, by go_num, below_drewN HBK.out _⟩
              case measure => simp [intOf]; omega
            · have f1 : decide (x' < x) = false := decide_eq_false (by omega)
              have f2 : decide (x < x') = false := decide_eq_false (by omega)
              have f3 : (x' == x) = true := by rw [beq_iff_eq]; exact h
              have f4 : decide (p' < p) = false := decide_eq_false (by have := d3 h; omega)
              clear h d1 d2 d3
              go_wp2_with fail
              go_quiet (fail)
              go_wp2_with fail
              go_roundw
              case rel => exact ⟨k + 1, by omega, by go_num, below_drewN HBK.out _⟩
              case measure => simp [intOf]; omega
            · have f1 : decide (x' < x) = false := decide_eq_false (by omega)
              have f2 : decide (x < x') = true := decide_eq_true h
              have f3 : (x' == x) = false := by rw [beq_eq_false_iff_ne]; omega
              have f4 : decide (p' < p) = false := decide_eq_false (by have := d2 h; omega)
              clear h d1 d2 d3
              go_wp2_with fail
              go_quiet (fail)
              go_wp2_with fail
              go_roundw
              case rel => exact ⟨k + 1, by omega, by go_num, below_drewN HBK.out _⟩
              case measure => simp [intOf]; omega
          · go_wp2_with fail
            go_roundw
            case rel => exact ⟨i + 1, hlt, by go_num, HBK.out⟩
            case measure => simp [intOf]; omega
        · go_wp2_with fail
          refine (Law2.wakes_any _).mono ?_
          rintro e w9 ⟨rfl, hb9⟩
          have HB9 := Lib.hid hb9
          clear hb9
          go_wp2_with fail
          go_ret
          exact ⟨rfl, below_via (below_via HB4.out HBR.out) HB9.out⟩

theorem fair_walk (t : Int) (zs : List Int) (v : Value) (w : World) (hv : Ints w w.heap.size .i64 v zs) :
    Calls Try.prog 5 #[.int .i64 t, v] w fun e w' => e = .returned (.bool true) ∧ Below w.heap.size w w' := by
  by_cases hl : 200 < zs.length
  · exact fair_long t zs v w hv hl
  · cases h : splitS t zs with
    | none => exact fair_none t zs v w hv (by omega) h
    | some s => exact fair_some t zs v w hv (by omega) s h

set_option maxRecDepth 100000 in
theorem shareFair_lifted (os : Os) (started : os.Started) (H : Type) (enc : TypeId × Value → H) :
    ReturnsInHanded {} Try.checked os 5 .any (Rows.shareFairSpec.pre6 enc Try.prog Try.f5 Rows.shareFairRow.domain false) (Rows.shareFairSpec.post enc Try.prog Try.f5 false true false false) := by
  refine Shell.law_lifted (C := Try.checked) (tb := 4) (by kernel_rfl) started (by kernel_rfl) Try.func5
    (ChangeSpec.witness6 (enc := enc) (C := Try.checked) false ⟨#[], #[Value.int .i64 0, Value.slice none 0 0], []⟩ 8 (by kernel_rfl) (by kernel_rfl) (by kernel_rfl) (by kernel_rfl))
    (by kernel_rfl) (by kernel_rfl) rfl rfl Try.underlying4 ?_
  intro W base args ds p hval0 hA0
  have hval : ∀ (j : Nat) t v, Try.f5.params[j]? = some t → args[j]? = some v → Value.okWide Try.prog W .any base t v := hval0
  have hA : DataW.TrodAll enc Try.prog W 0 (fun _ => true) true Try.f5.params.toList args.toList ds p := hA0
  clear hval0 hA0
  rw [Try.params5] at hA hval
  obtain ⟨v0, vs0, d0, ds0, p0, q0, hargs, rfl, rfl, h0, r0⟩ := trodAll_cons hA
  obtain ⟨v1, vs1, d1, ds1, p1, q1, rfl, rfl, rfl, h1, r1⟩ := trodAll_cons r0
  obtain ⟨rfl, rfl, rfl⟩ := trodAll_nil r1
  obtain rfl : args = #[v0, v1] := by cases args; simp_all
  refine ⟨rfl, ?_⟩
  obtain ⟨t, rfl, -, -, -⟩ := open_int Try.underlying2 (hval 0 2 v0 rfl rfl) h0
  obtain ⟨zs, hzs, -⟩ := Slice.open_slice Try.underlying22 Try.underlying2 (by kernel_rfl) (hval 1 22 v1 rfl rfl) h1
  exact fair_walk t zs v1 W hzs

theorem shareFair_over : Rows.shareFairRow.holds Try.pinned (OpenSpec.ofChange Rows.shareFairSpec) :=
  OpenClaim.holds_of_wide 5 Try.f5 rfl rfl rfl rfl rfl rfl rfl ⟨rfl, rfl, rfl, rfl, rfl⟩ rfl rfl rfl rfl rfl (by kernel_rfl) Try.func5 (by kernel_rfl)
    (of_decide_eq_true (by kernel_rfl)) (by unfold Func.isWrapper; first | (rw [if_pos (by decide +kernel)]; kernel_rfl) | (rw [if_neg (by decide +kernel)]; exact ⟨rfl, rfl⟩))
    (fun os st H enc _ => shareFair_lifted os st H enc)

/-- The statement. -/
theorem shareFair_proved : Rows.ShareFairSaid := shareFair_over
end Go.Proofs.Ytbdcinecdigjgaa.Law
