/- What was encoded is decoded as it was; what was decoded is encoded as it stood; so of commands; no condition. -/
import Derived.Test.YtcmdonckilajjaaShell
import Derived.Test.YtcmdonckilajjaaEventWakes
import Derived.Test.YtcmdonckilajjaaOpenEv
import Derived.ChangeMaps5
namespace Go.Proofs.Ytcmdonckilajjaa.Law
open Go.ChangeShapes Go.WideShapes Go.ChangeAt Go.RowKit Go.Proofs.Ytcmdonckilajjaa.Event Fl Date Cal Pack

set_option maxRecDepth 20000 in
set_option maxHeartbeats 4000000 in
theorem back_long (c : Cm) (b : ByteArray) (w : World) (h : 20000 < b.size) :
    Calls Try.prog 5 #[.agg c.cells, .string b] w fun e w' => e = .returned (.bool true) ∧ Below w.heap.size w w' := by
  have t0 : decide ((20000 : Int) < (b.size : Int)) = true := decide_eq_true (by omega)
  generalize c.cells = C
  have HW := Lib.hid ((Below.refl _ w).alloc (Nat.le_refl _) (.cells C 40))
  go_enter Try.func5, Try.ntmps5
  go_wp2_with fail
  refine (wakes_event _).mono ?_
  rintro e w2 ⟨rfl, hb⟩
  have HW2 := Lib.hid (below_via HW.out hb)
  clear hb
  go_wp2_with fail
  go_ret
  exact ⟨rfl, HW2.out⟩
set_option maxRecDepth 20000 in
set_option maxHeartbeats 4000000 in
theorem back_short (c : Cm) (b : ByteArray) (w : World) (hc : c.Fit) (h : b.size ≤ 20000) :
    Calls Try.prog 5 #[.agg c.cells, .string b] w fun e w' => e = .returned (.bool true) ∧ Below w.heap.size w w' := by
  have t0 : decide ((20000 : Int) < (b.size : Int)) = false := decide_eq_false (by omega)
  have HC1 := Lib.hid (enc_back c.e hc.e)
  have HC2 := Lib.hid (pack_back c hc)
  have HC3 := Lib.hid (dec_back b (by omega))
  have HC4 := Lib.hid (open_back b (by omega))
  have HK1 : Hid (∀ W, Calls Try.prog 15 #[.agg c.e.cells, .agg c.e.cells] W fun x w' => x = .returned (.bool true) ∧ Below W.heap.size W w') := fun W => by
    have := k_event c.e c.e W
    rwa [eqE_self] at this
  have HK2 : Hid (∀ W, Calls Try.prog 23 #[.agg c.cells, .agg c.cells] W fun x w' => x = .returned (.bool true) ∧ Below W.heap.size W w') := fun W => by
    have := k_command c c W
    rwa [eqC_self] at this
  obtain ⟨g, wb, e1, e2, hB, hb⟩ := boxd_new w c.cells 40
  have HM0 := Lib.hid (ev_mid hB)
  have HS := Lib.hid (cm_info c)
  have HO := Lib.hid (cm_one c)
  have HSE := Lib.hid (ev_info c.e)
  have HSE' := Lib.hid (ev_info' c.e)
  have HOE := Lib.hid (ev_one c.e)
  have HLE : c.e.cells.size = 11 := rfl
  have HLC : c.cells.size = 14 := rfl
  have HB0 := Lib.hid hB
  have HW0 := Lib.hid hb
  clear hB hb h hc
  generalize c.e.cells = E at *
  generalize c.cells = C at *
  go_enter Try.func5, Try.ntmps5
  go_upto_region 1 with fail
  rw [← e2, ← e1]
  clear e1 e2
  obtain ⟨s1, x1, hx1, h1⟩ := HC1.out
  have H1 := Lib.hid h1
  have HX1 := Lib.hid hx1
  clear h1 hx1 HC1
  go_upto_if 32 with (first
    | (refine load_mid_want (by rfl) 25 _ rfl _ _ rfl E _ HM0.out Try.underlying25 rfl HSE'.out ?_)
    | (go_at_call 9
       have hcc := HX1.out wb
       with_reducible refine hcc.mono ?_
       clear hcc
       rintro e y1 ⟨rfl, hb⟩
       have HB1 := Lib.hid (HB0.out.below hb)
       have HM1 := Lib.hid (range_below HB0.out HM0.out hb)
       have HW1 := Lib.hid (below_via HW0.out hb)
       clear hb))
  go_cut [] (fun wx => Hid (Boxd wx g C 40) ∧ Hid (wx.rangeAt g 2 E.toList) ∧ Hid (Below w.heap.size w wx))
  case first =>
    rcases H1.out with ⟨rfl, hd⟩ | rfl
    · have HD := Lib.hid hd
      clear hd
      go_upto_region 6 with (first
          | (go_at_call 11
             have hcc := HD.out y1
             with_reducible refine hcc.mono ?_
             clear hcc
             rintro e y2 ⟨rfl, hb⟩
             have HB2 := Lib.hid (HB1.out.below hb)
             have HM2 := Lib.hid (range_below HB1.out HM1.out hb)
             have HW2 := Lib.hid (below_via HW1.out hb)
             clear hb)
          | (refine store_row rfl 25 _ _ rfl rfl _ _ rfl rfl _ _ (heap_alloc_last _ _) HSE.out (by rw [HLE]; rfl) HOE.out ?_; rw [World.setRow_alloc_new]))
      obtain ⟨g2, w2, e1, e2, hB, hb⟩ := boxd_new y2 E 25
      rw [← e2, ← e1]
      clear e1 e2
      have HN2 := Lib.hid hB
      have HB2n := Lib.hid (HB2.out.below hb)
      have HM2n := Lib.hid (range_below HB2.out HM2.out hb)
      have HW2n := Lib.hid (below_via HW2.out hb)
      clear hB hb
      go_wp2_with (first
          | (refine load_want (by rfl) 25 _ rfl _ rfl _ _ _ HN2.out Try.underlying25 rfl HSE.out ?_)
          | (refine load_mid_want (by rfl) 25 _ rfl _ _ rfl E _ HM2n.out Try.underlying25 rfl HSE'.out ?_)
          | (go_at_call 15
             have hcc := HK1.out w2
             with_reducible refine hcc.mono ?_
             clear hcc
             rintro e y3 ⟨rfl, hb⟩
             have HB3 := Lib.hid (HB2n.out.below hb)
             have HM3 := Lib.hid (range_below HB2n.out HM2n.out hb)
             have HW3 := Lib.hid (below_via HW2n.out hb)
             clear hb))
      go_meet
      exact ⟨HB3.out, HM3.out, HW3.out⟩
    · go_wp2_with fail
      go_meet
      exact ⟨HB1.out, HM1.out, HW1.out⟩
  case rest =>
  obtain ⟨HB4, HM4, HW4⟩ := hcut
  obtain ⟨s2, x2, hx2, h2⟩ := HC2.out
  have H2 := Lib.hid h2
  have HX2 := Lib.hid hx2
  clear h2 hx2 HC2
  go_upto_if 53 with (first
    | (refine load_want (by rfl) 40 _ rfl _ rfl _ _ _ HB4.out Try.underlying40 rfl HS.out ?_)
    | (go_at_call 17
       have hcc := HX2.out wc
       with_reducible refine hcc.mono ?_
       clear hcc
       rintro e y5 ⟨rfl, hb⟩
       have HB5 := Lib.hid (HB4.out.below hb)
       have HM5 := Lib.hid (range_below HB4.out HM4.out hb)
       have HW5 := Lib.hid (below_via HW4.out hb)
       clear hb))
  go_cut [] (fun wx => Hid (Boxd wx g C 40) ∧ Hid (wx.rangeAt g 2 E.toList) ∧ Hid (Below w.heap.size w wx))
  case first =>
    rcases H2.out with ⟨rfl, hd⟩ | rfl
    · have HD := Lib.hid hd
      clear hd
      go_upto_region 11 with (first
          | (go_at_call 19
             have hcc := HD.out y5
             with_reducible refine hcc.mono ?_
             clear hcc
             rintro e y6 ⟨rfl, hb⟩
             have HB6 := Lib.hid (HB5.out.below hb)
             have HM6 := Lib.hid (range_below HB5.out HM5.out hb)
             have HW6 := Lib.hid (below_via HW5.out hb)
             clear hb)
          | (refine store_row rfl 40 _ _ rfl rfl _ _ rfl rfl _ _ (heap_alloc_last _ _) HS.out (by rw [HLC]; rfl) HO.out ?_; rw [World.setRow_alloc_new]))
      obtain ⟨g6, w6, e1, e2, hB, hb⟩ := boxd_new y6 C 40
      rw [← e2, ← e1]
      clear e1 e2
      have HN6 := Lib.hid hB
      have HB6n := Lib.hid (HB6.out.below hb)
      have HM6n := Lib.hid (range_below HB6.out HM6.out hb)
      have HW6n := Lib.hid (below_via HW6.out hb)
      clear hB hb
      go_wp2_with (first
          | (refine load_want (by rfl) 40 _ rfl _ rfl _ _ _ HN6.out Try.underlying40 rfl HS.out ?_)
          | (refine load_want (by rfl) 40 _ rfl _ rfl _ _ _ HB6n.out Try.underlying40 rfl HS.out ?_)
          | (go_at_call 23
             have hcc := HK2.out w6
             with_reducible refine hcc.mono ?_
             clear hcc
             rintro e y7 ⟨rfl, hb⟩
             have HB7 := Lib.hid (HB6n.out.below hb)
             have HM7 := Lib.hid (range_below HB6n.out HM6n.out hb)
             have HW7 := Lib.hid (below_via HW6n.out hb)
             clear hb))
      go_meet
      exact ⟨HB7.out, HM7.out, HW7.out⟩
    · go_wp2_with fail
      go_meet
      exact ⟨HB5.out, HM5.out, HW5.out⟩
  case rest =>
  obtain ⟨HB8, HM8, HW8⟩ := hcut
  obtain ⟨e3, x3, hx3, h3⟩ := HC3.out
  have H3 := Lib.hid h3
  have HX3 := Lib.hid hx3
  have HS3 := Lib.hid (ev_info e3)
  have HO3 := Lib.hid (ev_one e3)
  have HL3 : e3.cells.size = 11 := rfl
  clear h3 hx3 HC3
  generalize e3.cells = E3 at *
  go_upto_region 14 with (first
    | (go_at_call 11
       have hcc := HX3.out wc
       with_reducible refine hcc.mono ?_
       clear hcc
       rintro e y9 ⟨rfl, hb⟩
       have HB9 := Lib.hid (HB8.out.below hb)
       have HM9 := Lib.hid (range_below HB8.out HM8.out hb)
       have HW9 := Lib.hid (below_via HW8.out hb)
       clear hb)
    | (refine store_row rfl 25 _ _ rfl rfl _ _ rfl rfl _ _ (heap_alloc_last _ _) HS3.out (by rw [HL3]; rfl) HO3.out ?_; rw [World.setRow_alloc_new]))
  obtain ⟨g9, w9, e1, e2, hB, hb⟩ := boxd_new y9 E3 25
  rw [← e2, ← e1]
  clear e1 e2
  have HN9 := Lib.hid hB
  have HB9n := Lib.hid (HB9.out.below hb)
  have HM9n := Lib.hid (range_below HB9.out HM9.out hb)
  have HW9n := Lib.hid (below_via HW9.out hb)
  clear hB hb
  go_upto_if 73 with fail
  go_cut [] (fun wx => Hid (Boxd wx g C 40) ∧ Hid (wx.rangeAt g 2 E.toList) ∧ Hid (Below w.heap.size w wx))
  case first =>
    rcases H3.out with ⟨rfl, hd⟩ | rfl
    · have HD := Lib.hid hd
      clear hd
      go_wp2_with (first
          | (refine load_want (by rfl) 25 _ rfl _ rfl _ _ _ HN9.out Try.underlying25 rfl HS3.out ?_)
          | (go_at_call 9
             have hcc := HD.out w9
             with_reducible refine hcc.mono ?_
             clear hcc
             rintro e y10 ⟨rfl, hb⟩
             have HB10 := Lib.hid (HB9n.out.below hb)
             have HM10 := Lib.hid (range_below HB9n.out HM9n.out hb)
             have HW10 := Lib.hid (below_via HW9n.out hb)
             clear hb))
      go_meet
      exact ⟨HB10.out, HM10.out, HW10.out⟩
    · go_wp2_with fail
      go_meet
      exact ⟨HB9n.out, HM9n.out, HW9n.out⟩
  case rest =>
  obtain ⟨HB11, HM11, HW11⟩ := hcut
  obtain ⟨c4, x4, hx4, h4⟩ := HC4.out
  have H4 := Lib.hid h4
  have HX4 := Lib.hid hx4
  have HS4 := Lib.hid (cm_info c4)
  have HO4 := Lib.hid (cm_one c4)
  have HL4 : c4.cells.size = 14 := rfl
  clear h4 hx4 HC4
  generalize c4.cells = C4 at *
  go_upto_region 19 with (first
    | (go_at_call 19
       have hcc := HX4.out wc
       with_reducible refine hcc.mono ?_
       clear hcc
       rintro e y12 ⟨rfl, hb⟩
       have HB12 := Lib.hid (HB11.out.below hb)
       have HM12 := Lib.hid (range_below HB11.out HM11.out hb)
       have HW12 := Lib.hid (below_via HW11.out hb)
       clear hb)
    | (refine store_row rfl 40 _ _ rfl rfl _ _ rfl rfl _ _ (heap_alloc_last _ _) HS4.out (by rw [HL4]; rfl) HO4.out ?_; rw [World.setRow_alloc_new]))
  obtain ⟨g12, w12, e1, e2, hB, hb⟩ := boxd_new y12 C4 40
  rw [← e2, ← e1]
  clear e1 e2
  have HN12 := Lib.hid hB
  have HB12n := Lib.hid (HB12.out.below hb)
  have HM12n := Lib.hid (range_below HB12.out HM12.out hb)
  have HW12n := Lib.hid (below_via HW12.out hb)
  clear hB hb
  go_upto_if 92 with fail
  go_cut [] (fun wx => Hid (Boxd wx g C 40) ∧ Hid (wx.rangeAt g 2 E.toList) ∧ Hid (Below w.heap.size w wx))
  case first =>
    rcases H4.out with ⟨rfl, hd⟩ | rfl
    · have HD := Lib.hid hd
      clear hd
      go_wp2_with (first
          | (refine load_want (by rfl) 40 _ rfl _ rfl _ _ _ HN12.out Try.underlying40 rfl HS4.out ?_)
          | (go_at_call 17
             have hcc := HD.out w12
             with_reducible refine hcc.mono ?_
             clear hcc
             rintro e y13 ⟨rfl, hb⟩
             have HB13 := Lib.hid (HB12n.out.below hb)
             have HM13 := Lib.hid (range_below HB12n.out HM12n.out hb)
             have HW13 := Lib.hid (below_via HW12n.out hb)
             clear hb))
      go_meet
      exact ⟨HB13.out, HM13.out, HW13.out⟩
    · go_wp2_with fail
      go_meet
      exact ⟨HB12n.out, HM12n.out, HW12n.out⟩
  case rest =>
  obtain ⟨-, -, HW14⟩ := hcut
  go_wp2_with fail
  refine (wakes_event _).mono ?_
  rintro e wz ⟨rfl, hb⟩
  have HWZ := Lib.hid (below_via HW14.out hb)
  clear hb
  go_wp2_with fail
  go_ret
  exact ⟨rfl, HWZ.out⟩
theorem back_walk (c : Cm) (b : ByteArray) (w : World) (hc : c.Fit) :
    Calls Try.prog 5 #[.agg c.cells, .string b] w fun e w' => e = .returned (.bool true) ∧ Below w.heap.size w w' := by
  by_cases h : 20000 < b.size
  · exact back_long c b w h
  · exact back_short c b w hc (by omega)

set_option maxRecDepth 100000 in
theorem eventBack_lifted (os : Os) (started : os.Started) (H : Type) (enc : TypeId × Value → H) :
    ReturnsInHanded {} Try.checked os 5 .any (Rows.eventBackSpec.pre6 enc Try.prog Try.f5 Rows.eventBackRow.domain false) (Rows.eventBackSpec.post enc Try.prog Try.f5 false true false false) := by
  refine Shell.law_lifted (C := Try.checked) (tb := 4) (by kernel_rfl) started (by kernel_rfl) Try.func5
    (ChangeSpec.witness6 (enc := enc) (C := Try.checked) false ⟨#[], #[.agg #[.bool false, .int .u32 0, .int .i64 0, .int .i64 0, .int .u32 0, .int .i64 0, .int .i64 0, .float .f64 0, .float .f64 0, .bool false, .int .i64 0, .int .i64 0, .int .i64 0, .int .u32 0], .string ⟨#[]⟩], []⟩ 8 (by kernel_rfl) (by kernel_rfl) (by kernel_rfl) (by kernel_rfl))
    (by kernel_rfl) (by kernel_rfl) rfl rfl Try.underlying4 ?_
  intro W base args ds p hval0 hA0
  have hval : ∀ (j : Nat) t v, Try.f5.params[j]? = some t → args[j]? = some v → Value.okWide Try.prog W .any base t v := hval0
  have hA : DataW.TrodAll enc Try.prog W 0 (fun _ => true) true Try.f5.params.toList args.toList ds p := hA0
  clear hval0 hA0
  rw [Try.params5] at hA hval
  obtain ⟨v0, vs0, d0, ds0, p0, q0, hargs, rfl, rfl, h0, r0⟩ := trodAll_cons hA
  obtain ⟨v1, vs1, d1, ds1, p1, q1, rfl, rfl, rfl, h1, r1⟩ := trodAll_cons r0
  obtain ⟨rfl, rfl, rfl⟩ := trodAll_nil r1
  obtain rfl : args = #[v0, v1] := by cases args; simp_all
  refine ⟨rfl, ?_⟩
  obtain ⟨c, rfl, hc⟩ := open_cm (hval 0 40 v0 rfl rfl) h0
  obtain ⟨b, rfl, -, -, hb⟩ := ChangeMaps.open_string Try.underlying9 (hval 1 9 v1 rfl rfl) h1
  exact back_walk c b W hc

theorem eventBack_over : Rows.eventBackRow.holds Try.pinned (OpenSpec.ofChange Rows.eventBackSpec) :=
  OpenClaim.holds_of_wide 5 Try.f5 rfl rfl rfl rfl rfl rfl rfl ⟨rfl, rfl, rfl, rfl, rfl⟩ rfl rfl rfl rfl rfl (by kernel_rfl) Try.func5 (by kernel_rfl)
    (of_decide_eq_true (by kernel_rfl)) (by unfold Func.isWrapper; first | (rw [if_pos (by decide +kernel)]; kernel_rfl) | (rw [if_neg (by decide +kernel)]; exact ⟨rfl, rfl⟩))
    (fun os st H enc _ => eventBack_lifted os st H enc)

/-- The statement. -/
theorem eventBack_proved : Rows.EventBackSaid := eventBack_over
end Go.Proofs.Ytcmdonckilajjaa.Law
