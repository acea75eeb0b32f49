/- share.Fill answers what the document's own Fill answers, at any total and any rooms, and leaves the rooms as they were; no condition. -/
import Derived.Test.YtbdcinecdigjgaaShell
import Derived.Test.YtbdcinecdigjgaaShareWakes
import Derived.Deep.QuietTactic
import Derived.BigQuiet
namespace Go.Proofs.Ytbdcinecdigjgaa.Law
open Go.ChangeShapes Go.WideShapes Go.ChangeAt Go.RowKit Bits Money Slice Stable Share Law2

theorem fills_long (t : Int) (zs : List Int) (v : Value) (w : World) (hv : Ints w w.heap.size .i64 v zs) (hlong : 1200 < zs.length) :
    Calls Try.prog 4 #[.int .i64 t, v] w fun e w' => e = .returned (.bool true) ∧ Below w.heap.size w w' := by
  obtain ⟨A, c, rfl, hl, -, -⟩ := hv
  go_enter Try.func4, Try.ntmps4
  go_wp2_with fail
  refine (Law2.wakes_any _).mono ?_
  rintro e w5 ⟨rfl, hb⟩
  have HB := Lib.hid hb
  clear hb
  go_wp2_with fail
  go_ret
  exact ⟨rfl, HB.out⟩

set_option maxHeartbeats 1000000 in
theorem fills_short (t : Int) (zs : List Int) (v : Value) (w : World) (hv : Ints w w.heap.size .i64 v zs) (hshort : zs.length ≤ 1200) :
    Calls Try.prog 4 #[.int .i64 t, v] w fun e w' => e = .returned (.bool true) ∧ Below w.heap.size w w' := by
  obtain ⟨i0, hi0, hz0, hz1, hz2⟩ := info_parts i64_info
  obtain ⟨A, c, rfl, hl, hn, hc⟩ := hv
  have HV : Hid (Ints w w.heap.size .i64 (.slice A zs.length c) zs) := ⟨A, c, rfl, hl, hn, hc⟩
  have HI := Lib.hid hi0
  have HZ0 := Lib.hid hz0
  have HZ1 := Lib.hid hz1
  have HZ2 := Lib.hid hz2
  clear hc hn hi0 hz0 hz1 hz2
  go_enter Try.func4, Try.ntmps4
  go_wp2_with (at_builtin
               refine Slice.wpList_append_ints rfl (.tmp 15) (.tmp 16) _ rfl w.heap.size 2 i0 (.int .i64 0) 8 Try.underlying22 HI.out HZ0.out HZ1.out HZ2.out rfl (.slice (some ⟨w.heap.size, 0, none⟩) 0 0) 0 [] rfl
                 (World.ownsRow_made w #[] 0 (Nat.le_refl _) (by simp) (by simp)) w.heap.size .i64 (.slice A zs.length c) zs rfl (HV.out.alloc (Nat.le_refl _) _) (by unfold maxLen; omega) (by omega) (by simp) ?_
               intro v3 w3 hown hgrow
               have IN : Hid (Ints w3 w3.heap.size .i64 v3 zs) := Slice.Ints.of_own (base := w.heap.size) (e := 2) (n := 0 + zs.length) (Nat.zero_add _) hown
               have HB3 : Hid (Below w.heap.size w w3) := (below_new (Below.refl _ _) _).grown hgrow (below_new (Below.refl _ _) _).size (fun g hg => by
                 have e : w.heap.size = g := by simpa [Value.ownBlock] using hg
                 omega)
               clear hown hgrow)
  refine (fill_any t zs v3 w3.heap.size _ (Nat.le_refl _) IN.out).mono ?_
  rintro e w4 ⟨u4, rfl, hi4, hb4⟩
  obtain ⟨A4, c4, rfl, -, -, -⟩ := id hi4
  have H4 := Lib.hid hi4
  have HB4 := Lib.hid (below_via HB3.out hb4)
  have IN4 := Lib.hid ((IN.out.below hb4).more hb4.size)
  clear hb4 hi4
  go_wp2_with fail
  refine (rfill_any t zs _ w.heap.size _ HB4.out.size (HV.out.below HB4.out)).mono ?_
  rintro e w5 ⟨u5, rfl, hi5, hb5⟩
  obtain ⟨A5, c5, rfl, -, -, -⟩ := id hi5
  have H5 := Lib.hid hi5
  have H45 := Lib.hid ((H4.out.below hb5).more hb5.size)
  have HB5 := Lib.hid (below_via HB4.out hb5)
  have IN5 := Lib.hid ((IN4.out.below hb5).more hb5.size)
  clear hi5 hb5
  go_wp2_with fail
  have k1 := longs_same (fillL t zs) (.slice A4 (fillL t zs).length c4) (.slice A5 (fillL t zs).length c5) _ (w5.alloc (.cells #[.slice A5 (fillL t zs).length c5, .int .i64 (fillV t zs)] 34)) (H45.out.alloc (Nat.le_refl _) _) (H5.out.alloc (Nat.le_refl _) _)
  refine k1.mono ?_
  clear k1
  rintro e w6 ⟨rfl, m, rfl⟩
  go_wp2_with fail
  have k2 := longs_same zs v3 (.slice A zs.length c) _ ((w5.alloc (.cells #[.slice A5 (fillL t zs).length c5, .int .i64 (fillV t zs)] 34)).drewN m) ((IN5.out.alloc (Nat.le_refl _) _).drewN m) ((((HV.out.below HB5.out).more HB5.out.size).alloc (Nat.le_refl _) _).drewN m)
  refine k2.mono ?_
  clear k2
  rintro e w7 ⟨rfl, l, rfl⟩
  go_wp2_with fail
  refine (Law2.wakes_any _).mono ?_
  rintro e w9 ⟨rfl, hb9⟩
  have HB9 := Lib.hid hb9
  clear hb9
  go_wp2_with fail
  go_ret
  exact ⟨rfl, below_via (below_drewN (below_new HB5.out _) _) HB9.out⟩

theorem fills_walk (t : Int) (zs : List Int) (v : Value) (w : World) (hv : Ints w w.heap.size .i64 v zs) :
    Calls Try.prog 4 #[.int .i64 t, v] w fun e w' => e = .returned (.bool true) ∧ Below w.heap.size w w' := by
  by_cases hl : 1200 < zs.length
  · exact fills_long t zs v w hv hl
  · exact fills_short t zs v w hv (by omega)

set_option maxRecDepth 100000 in
theorem shareFills_lifted (os : Os) (started : os.Started) (H : Type) (enc : TypeId × Value → H) :
    ReturnsInHanded {} Try.checked os 4 .any (Rows.shareFillsSpec.pre6 enc Try.prog Try.f4 Rows.shareFillsRow.domain false) (Rows.shareFillsSpec.post enc Try.prog Try.f4 false true false false) := by
  refine Shell.law_lifted (C := Try.checked) (tb := 4) (by kernel_rfl) started (by kernel_rfl) Try.func4
    (ChangeSpec.witness6 (enc := enc) (C := Try.checked) false ⟨#[], #[Value.int .i64 0, Value.slice none 0 0], []⟩ 8 (by kernel_rfl) (by kernel_rfl) (by kernel_rfl) (by kernel_rfl))
    (by kernel_rfl) (by kernel_rfl) rfl rfl Try.underlying4 ?_
  intro W base args ds p hval0 hA0
  have hval : ∀ (j : Nat) t v, Try.f4.params[j]? = some t → args[j]? = some v → Value.okWide Try.prog W .any base t v := hval0
  have hA : DataW.TrodAll enc Try.prog W 0 (fun _ => true) true Try.f4.params.toList args.toList ds p := hA0
  clear hval0 hA0
  rw [Try.params4] at hA hval
  obtain ⟨v0, vs0, d0, ds0, p0, q0, hargs, rfl, rfl, h0, r0⟩ := trodAll_cons hA
  obtain ⟨v1, vs1, d1, ds1, p1, q1, rfl, rfl, rfl, h1, r1⟩ := trodAll_cons r0
  obtain ⟨rfl, rfl, rfl⟩ := trodAll_nil r1
  obtain rfl : args = #[v0, v1] := by cases args; simp_all
  refine ⟨rfl, ?_⟩
  obtain ⟨t, rfl, -, -, -⟩ := open_int Try.underlying2 (hval 0 2 v0 rfl rfl) h0
  obtain ⟨zs, hzs, -⟩ := Slice.open_slice Try.underlying22 Try.underlying2 (by kernel_rfl) (hval 1 22 v1 rfl rfl) h1
  exact fills_walk t zs v1 W hzs

theorem shareFills_over : Rows.shareFillsRow.holds Try.pinned (OpenSpec.ofChange Rows.shareFillsSpec) :=
  OpenClaim.holds_of_wide 4 Try.f4 rfl rfl rfl rfl rfl rfl rfl ⟨rfl, rfl, rfl, rfl, rfl⟩ rfl rfl rfl rfl rfl (by kernel_rfl) Try.func4 (by kernel_rfl)
    (of_decide_eq_true (by kernel_rfl)) (by unfold Func.isWrapper; first | (rw [if_pos (by decide +kernel)]; kernel_rfl) | (rw [if_neg (by decide +kernel)]; exact ⟨rfl, rfl⟩))
    (fun os st H enc _ => shareFills_lifted os st H enc)

/-- The statement. -/
theorem shareFills_proved : Rows.ShareFillsSaid := shareFills_over
end Go.Proofs.Ytbdcinecdigjgaa.Law
