/- share.Split answers what the document's own Split answers, at any total and any weights, and leaves the weights as they were; no condition. -/
import Derived.Test.YtbdcinecdigjgaaShell
import Derived.Test.YtbdcinecdigjgaaShareWakes
import Derived.Deep.QuietTactic
import Derived.BigQuiet
namespace Go.Proofs.Ytbdcinecdigjgaa.Law
open Go.ChangeShapes Go.WideShapes Go.ChangeAt Go.RowKit Bits Money Slice Stable Share Law2

theorem splits_long (t : Int) (zs : List Int) (v : Value) (w : World) (hv : Ints w w.heap.size .i64 v zs) (hlong : 1200 < zs.length) :
    Calls Try.prog 3 #[.int .i64 t, v] w fun e w' => e = .returned (.bool true) ∧ Below w.heap.size w w' := by
  obtain ⟨A, c, rfl, hl, -, -⟩ := hv
  go_enter Try.func3, Try.ntmps3
  go_wp2_with fail
  refine (Law2.wakes_any _).mono ?_
  rintro e w5 ⟨rfl, hb⟩
  have HB := Lib.hid hb
  clear hb
  go_wp2_with fail
  go_ret
  exact ⟨rfl, HB.out⟩

set_option maxHeartbeats 1000000 in
theorem splits_none (t : Int) (zs : List Int) (v : Value) (w : World) (hv : Ints w w.heap.size .i64 v zs) (hshort : zs.length ≤ 1200) (h : splitS t zs = none) :
    Calls Try.prog 3 #[.int .i64 t, v] w fun e w' => e = .returned (.bool true) ∧ Below w.heap.size w w' := by
  have HN := Lib.hid h
  clear h
  obtain ⟨i0, hi0, hz0, hz1, hz2⟩ := info_parts i64_info
  obtain ⟨A, c, rfl, hl, hn, hc⟩ := hv
  have HV : Hid (Ints w w.heap.size .i64 (.slice A zs.length c) zs) := ⟨A, c, rfl, hl, hn, hc⟩
  have HI := Lib.hid hi0
  have HZ0 := Lib.hid hz0
  have HZ1 := Lib.hid hz1
  have HZ2 := Lib.hid hz2
  clear hc hn hi0 hz0 hz1 hz2
  go_enter Try.func3, Try.ntmps3
  go_wp2_with (at_builtin
               refine Slice.wpList_append_ints rfl (.tmp 14) (.tmp 15) _ rfl w.heap.size 2 i0 (.int .i64 0) 8 Try.underlying22 HI.out HZ0.out HZ1.out HZ2.out rfl (.slice (some ⟨w.heap.size, 0, none⟩) 0 0) 0 [] rfl
                 (World.ownsRow_made w #[] 0 (Nat.le_refl _) (by simp) (by simp)) w.heap.size .i64 (.slice A zs.length c) zs rfl (HV.out.alloc (Nat.le_refl _) _) (by unfold maxLen; omega) (by omega) (by simp) ?_
               intro v3 w3 hown hgrow
               have IN : Hid (Ints w3 w3.heap.size .i64 v3 zs) := Slice.Ints.of_own (base := w.heap.size) (e := 2) (n := 0 + zs.length) (Nat.zero_add _) hown
               have HB3 : Hid (Below w.heap.size w w3) := (below_new (Below.refl _ _) _).grown hgrow (below_new (Below.refl _ _) _).size (fun g hg => by
                 have e : w.heap.size = g := by simpa [Value.ownBlock] using hg
                 omega)
               clear hown hgrow)
  refine (split_not t zs v3 _ IN.out HN.out).mono ?_
  rintro e w4 ⟨rfl, hb4⟩
  have HB4 := Lib.hid (below_via HB3.out hb4)
  have IN4 := Lib.hid ((IN.out.below hb4).more hb4.size)
  clear hb4
  go_wp2_with fail
  refine (rsplit_not t zs _ w.heap.size _ (HV.out.below HB4.out) HN.out).mono ?_
  rintro e w5 ⟨rfl, rfl⟩
  go_wp2_with fail
  have k1 := longs_same [] (.slice none 0 0) (.slice none 0 0) 0 w4 (Ints.nil_ _ _ _) (Ints.nil_ _ _ _)
  refine k1.mono ?_
  clear k1
  rintro e w6 ⟨rfl, m, rfl⟩
  go_wp2_with fail
  have k2 := longs_same zs v3 (.slice A zs.length c) _ (w4.drewN m) (IN4.out.drewN m) (((HV.out.below HB4.out).more HB4.out.size).drewN m)
  refine k2.mono ?_
  clear k2
  rintro e w7 ⟨rfl, l, rfl⟩
  go_wp2_with fail
  refine (Law2.wakes_any _).mono ?_
  rintro e w9 ⟨rfl, hb9⟩
  have HB9 := Lib.hid hb9
  clear hb9
  go_wp2_with fail
  go_ret
  exact ⟨rfl, below_via (below_drewN HB4.out _) HB9.out⟩

set_option maxHeartbeats 1000000 in
theorem splits_some (t : Int) (zs : List Int) (v : Value) (w : World) (hv : Ints w w.heap.size .i64 v zs) (hshort : zs.length ≤ 1200) (s : Int) (h : splitS t zs = some s) :
    Calls Try.prog 3 #[.int .i64 t, v] w fun e w' => e = .returned (.bool true) ∧ Below w.heap.size w w' := by
  obtain ⟨hf, hp, hs⟩ := splitS_some h
  have HN := Lib.hid h
  have HF := Lib.hid hf
  have HPS := Lib.hid hp
  have HSS := Lib.hid hs
  clear h hf hp hs
  obtain ⟨i0, hi0, hz0, hz1, hz2⟩ := info_parts i64_info
  obtain ⟨A, c, rfl, hl, hn, hc⟩ := hv
  have HV : Hid (Ints w w.heap.size .i64 (.slice A zs.length c) zs) := ⟨A, c, rfl, hl, hn, hc⟩
  have HI := Lib.hid hi0
  have HZ0 := Lib.hid hz0
  have HZ1 := Lib.hid hz1
  have HZ2 := Lib.hid hz2
  clear hc hn hi0 hz0 hz1 hz2
  go_enter Try.func3, Try.ntmps3
  go_wp2_with (at_builtin
               refine Slice.wpList_append_ints rfl (.tmp 14) (.tmp 15) _ rfl w.heap.size 2 i0 (.int .i64 0) 8 Try.underlying22 HI.out HZ0.out HZ1.out HZ2.out rfl (.slice (some ⟨w.heap.size, 0, none⟩) 0 0) 0 [] rfl
                 (World.ownsRow_made w #[] 0 (Nat.le_refl _) (by simp) (by simp)) w.heap.size .i64 (.slice A zs.length c) zs rfl (HV.out.alloc (Nat.le_refl _) _) (by unfold maxLen; omega) (by omega) (by simp) ?_
               intro v3 w3 hown hgrow
               have IN : Hid (Ints w3 w3.heap.size .i64 v3 zs) := Slice.Ints.of_own (base := w.heap.size) (e := 2) (n := 0 + zs.length) (Nat.zero_add _) hown
               have HB3 : Hid (Below w.heap.size w w3) := (below_new (Below.refl _ _) _).grown hgrow (below_new (Below.refl _ _) _).size (fun g hg => by
                 have e : w.heap.size = g := by simpa [Value.ownBlock] using hg
                 omega)
               clear hown hgrow)
  refine (split_yes merge_law t s zs v3 _ IN.out HF.out HPS.out HSS.out).mono ?_
  rintro e w4 ⟨Q, u4, rfl, hq, hi4, hb4⟩
  obtain ⟨A4, c4, rfl, -, -, -⟩ := id hi4
  have HQ := Lib.hid hq
  have H4 := Lib.hid hi4
  have HB4 := Lib.hid (below_via HB3.out hb4)
  have IN4 := Lib.hid ((IN.out.below hb4).more hb4.size)
  clear hb4 hq hi4
  go_wp2_with fail
  refine (rsplit_yes t s zs Q HQ.out _ _ ((HV.out.below HB4.out).more HB4.out.size) HN.out).mono ?_
  rintro e w5 ⟨u5, rfl, hi5, hb5⟩
  obtain ⟨A5, c5, rfl, -, -, -⟩ := id hi5
  have H5 := Lib.hid hi5
  have H45 := Lib.hid ((H4.out.below hb5).more hb5.size)
  have HB5 := Lib.hid (below_via HB4.out hb5)
  have IN5 := Lib.hid ((IN4.out.below hb5).more hb5.size)
  clear hi5 hb5
  go_wp2_with fail
  have k1 := longs_same _ _ _ _ w5 H45.out H5.out
  refine k1.mono ?_
  clear k1
  rintro e w6 ⟨rfl, m, rfl⟩
  go_wp2_with fail
  have k2 := longs_same zs v3 (.slice A zs.length c) _ (w5.drewN m) (IN5.out.drewN m) (((HV.out.below HB5.out).more HB5.out.size).drewN m)
  refine k2.mono ?_
  clear k2
  rintro e w7 ⟨rfl, l, rfl⟩
  go_wp2_with fail
  refine (Law2.wakes_any _).mono ?_
  rintro e w9 ⟨rfl, hb9⟩
  have HB9 := Lib.hid hb9
  clear hb9
  go_wp2_with fail
  go_ret
  exact ⟨rfl, below_via (below_drewN HB5.out _) HB9.out⟩

theorem splits_walk (t : Int) (zs : List Int) (v : Value) (w : World) (hv : Ints w w.heap.size .i64 v zs) :
    Calls Try.prog 3 #[.int .i64 t, v] w fun e w' => e = .returned (.bool true) ∧ Below w.heap.size w w' := by
  by_cases hl : 1200 < zs.length
  · exact splits_long t zs v w hv hl
  · cases h : splitS t zs with
    | none => exact splits_none t zs v w hv (by omega) h
    | some s => exact splits_some t zs v w hv (by omega) s h

set_option maxRecDepth 100000 in
theorem shareSplits_lifted (os : Os) (started : os.Started) (H : Type) (enc : TypeId × Value → H) :
    ReturnsInHanded {} Try.checked os 3 .any (Rows.shareSplitsSpec.pre6 enc Try.prog Try.f3 Rows.shareSplitsRow.domain false) (Rows.shareSplitsSpec.post enc Try.prog Try.f3 false true false false) := by
  refine Shell.law_lifted (C := Try.checked) (tb := 4) (by kernel_rfl) started (by kernel_rfl) Try.func3
    (ChangeSpec.witness6 (enc := enc) (C := Try.checked) false ⟨#[], #[Value.int .i64 0, Value.slice none 0 0], []⟩ 8 (by kernel_rfl) (by kernel_rfl) (by kernel_rfl) (by kernel_rfl))
    (by kernel_rfl) (by kernel_rfl) rfl rfl Try.underlying4 ?_
  intro W base args ds p hval0 hA0
  have hval : ∀ (j : Nat) t v, Try.f3.params[j]? = some t → args[j]? = some v → Value.okWide Try.prog W .any base t v := hval0
  have hA : DataW.TrodAll enc Try.prog W 0 (fun _ => true) true Try.f3.params.toList args.toList ds p := hA0
  clear hval0 hA0
  rw [Try.params3] at hA hval
  obtain ⟨v0, vs0, d0, ds0, p0, q0, hargs, rfl, rfl, h0, r0⟩ := trodAll_cons hA
  obtain ⟨v1, vs1, d1, ds1, p1, q1, rfl, rfl, rfl, h1, r1⟩ := trodAll_cons r0
  obtain ⟨rfl, rfl, rfl⟩ := trodAll_nil r1
  obtain rfl : args = #[v0, v1] := by cases args; simp_all
  refine ⟨rfl, ?_⟩
  obtain ⟨t, rfl, -, -, -⟩ := open_int Try.underlying2 (hval 0 2 v0 rfl rfl) h0
  obtain ⟨zs, hzs, -⟩ := Slice.open_slice Try.underlying22 Try.underlying2 (by kernel_rfl) (hval 1 22 v1 rfl rfl) h1
  exact splits_walk t zs v1 W hzs

theorem shareSplits_over : Rows.shareSplitsRow.holds Try.pinned (OpenSpec.ofChange Rows.shareSplitsSpec) :=
  OpenClaim.holds_of_wide 3 Try.f3 rfl rfl rfl rfl rfl rfl rfl ⟨rfl, rfl, rfl, rfl, rfl⟩ rfl rfl rfl rfl rfl (by kernel_rfl) Try.func3 (by kernel_rfl)
    (of_decide_eq_true (by kernel_rfl)) (by unfold Func.isWrapper; first | (rw [if_pos (by decide +kernel)]; kernel_rfl) | (rw [if_neg (by decide +kernel)]; exact ⟨rfl, rfl⟩))
    (fun os st H enc _ => shareSplits_lifted os st H enc)

/-- The statement. -/
theorem shareSplits_proved : Rows.ShareSplitsSaid := shareSplits_over
end Go.Proofs.Ytbdcinecdigjgaa.Law
