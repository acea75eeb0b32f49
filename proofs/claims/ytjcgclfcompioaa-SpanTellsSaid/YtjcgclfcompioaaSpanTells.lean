/- Good, Has and Days answer what the document's own do, at any stretches and any day; no condition. -/
import Derived.Test.YtjcgclfcompioaaShell
import Derived.Test.YtjcgclfcompioaaSpanWakes
namespace Go.Proofs.Ytjcgclfcompioaa.Law
open Go.ChangeShapes Go.WideShapes Go.ChangeAt Go.RowKit Pairs Slice Span

theorem spanTells_long (zs : List (Int × Int)) (d : Int) (v : Value) (w : World) (hv : Prs w w.heap.size v zs) (hs : 1100 < zs.length) :
    Calls Try.prog 3 #[v, .int .i64 d] w fun e w' => e = .returned (.bool true) ∧ Below w.heap.size w w' := by
  obtain ⟨A, c, rfl⟩ := hv.shape
  have t0 : decide ((1100 : Int) < (zs.length : Int)) = true := decide_eq_true (by omega)
  clear hv
  go_enter Try.func3, Try.ntmps3
  go_wp2_with fail
  refine (wakes_span _).mono ?_
  rintro e wk ⟨rfl, hb⟩
  go_wp2_with fail
  go_ret
  exact ⟨rfl, hb⟩
set_option maxHeartbeats 1000000 in
theorem spanTells_short (zs : List (Int × Int)) (d : Int) (v : Value) (w : World) (hv : Prs w w.heap.size v zs) (hs : zs.length ≤ 1100) :
    Calls Try.prog 3 #[v, .int .i64 d] w fun e w' => e = .returned (.bool true) ∧ Below w.heap.size w w' := by
  obtain ⟨i0, hi0, hz0, hz1, hz2⟩ := info_parts span_info
  have HI := Lib.hid hi0
  have HZ0 := Lib.hid hz0
  have HZ1 := Lib.hid hz1
  have HZ2 := Lib.hid hz2
  clear hi0 hz0 hz1 hz2
  obtain ⟨A, c, rfl⟩ := hv.shape
  have P0 := Lib.hid hv
  have t0 : decide ((1100 : Int) < (zs.length : Int)) = false := decide_eq_false (by omega)
  have HL : Hid (zs.length ≤ 2000) := show _ ≤ _ by omega
  have BB := Lib.hid (Below.refl w.heap.size w)
  clear hv hs
  go_enter Try.func3, Try.ntmps3
  go_wp2_with (first
    | (at_builtin
       have OW : Hid ((w.alloc (.cells #[] 51)).ownsRow w.heap.size 51 2 (.slice (some ⟨w.heap.size, 0, none⟩) 0 0) 0 []) := own_none (w := w) (by simp) (Nat.le_refl _)
       have OP := Lib.hid (P0.out.alloc (Nat.le_refl _) (.cells #[] 51))
       refine Pairs.wpList_append_pairs rfl (.tmp 11) (.tmp 12) _ rfl w.heap.size 51 i0 (.agg #[.int .i64 0, .int .i64 0]) Try.underlying22 HI.out HZ0.out HZ1.out HZ2.out rfl (.slice (some ⟨w.heap.size, 0, none⟩) 0 0) 0 [] rfl OW.out w.heap.size _ zs rfl OP.out (by have := HL.out; unfold maxLen; omega) (by have := HL.out; omega) (by simp) ?_
       intro v3 wk hown hgrow
       rw [Nat.zero_add, List.nil_append] at hown
       have hb : Below w.heap.size w wk := below_append (below_new (Below.refl _ _) _) (Nat.le_refl _) OW.out hgrow
       have P1 := Lib.hid (Prs.of_own rfl hown)
       obtain ⟨AP1, cP1, rfl⟩ := own_shape hown
       clear hown hgrow OW OP
       have P0 := Lib.hid ((P0.out.below hb).more hb.size)
       have BB := Lib.hid (below_via BB.out hb)
       clear hb)
    | fail)
  have hcc := own_any zs _ _ wk (Nat.le_refl _) P0.out (by have := HL.out; omega)
  refine hcc.mono ?_
  clear hcc
  rintro e wk ⟨u, rfl, hp, hb⟩
  obtain ⟨A2, c2, rfl⟩ := hp.shape
  have P2 := Lib.hid hp
  clear hp
  have P0 := Lib.hid ((P0.out.below hb).more hb.size)
  have P1 := Lib.hid ((P1.out.below hb).more hb.size)
  have BB := Lib.hid (below_via BB.out hb)
  clear hb
  go_wp2_with fail
  have hcc := u_good zs _ _ wk (Nat.le_refl _) P1.out HL.out
  refine hcc.mono ?_
  clear hcc
  rintro e wk ⟨rfl, hb⟩
  have P0 := Lib.hid ((P0.out.below hb).more hb.size)
  have P1 := Lib.hid ((P1.out.below hb).more hb.size)
  have P2 := Lib.hid ((P2.out.below hb).more hb.size)
  have BB := Lib.hid (below_via BB.out hb)
  clear hb
  go_wp2_with fail
  have hcc := r_good zs _ _ wk P2.out
  refine hcc.mono ?_
  clear hcc
  rintro e wl ⟨rfl, nn, hw⟩
  have hb := quiet_below hw
  clear hw nn
  have P0 := Lib.hid ((P0.out.below hb).more hb.size)
  have P1 := Lib.hid ((P1.out.below hb).more hb.size)
  have P2 := Lib.hid ((P2.out.below hb).more hb.size)
  have BB := Lib.hid (below_via BB.out hb)
  clear hb
  go_wp2_with fail
  have hcc := u_has zs d _ _ wl (Nat.le_refl _) P1.out HL.out
  refine hcc.mono ?_
  clear hcc
  rintro e wk ⟨rfl, hb⟩
  have P0 := Lib.hid ((P0.out.below hb).more hb.size)
  have P1 := Lib.hid ((P1.out.below hb).more hb.size)
  have P2 := Lib.hid ((P2.out.below hb).more hb.size)
  have BB := Lib.hid (below_via BB.out hb)
  clear hb
  go_wp2_with fail
  have hcc := r_has zs d _ _ wk P2.out
  refine hcc.mono ?_
  clear hcc
  rintro e wl ⟨rfl, nn, hw⟩
  have hb := quiet_below hw
  clear hw nn
  have P0 := Lib.hid ((P0.out.below hb).more hb.size)
  have P1 := Lib.hid ((P1.out.below hb).more hb.size)
  have P2 := Lib.hid ((P2.out.below hb).more hb.size)
  have BB := Lib.hid (below_via BB.out hb)
  clear hb
  go_wp2_with fail
  have hcc := u_days zs _ _ wl (Nat.le_refl _) P1.out HL.out
  refine hcc.mono ?_
  clear hcc
  rintro e wk ⟨rfl, hb⟩
  have P0 := Lib.hid ((P0.out.below hb).more hb.size)
  have P1 := Lib.hid ((P1.out.below hb).more hb.size)
  have P2 := Lib.hid ((P2.out.below hb).more hb.size)
  have BB := Lib.hid (below_via BB.out hb)
  clear hb
  go_wp2_with fail
  have hcc := r_days zs _ _ wk P2.out
  refine hcc.mono ?_
  clear hcc
  rintro e wl ⟨rfl, nn, hw⟩
  have hb := quiet_below hw
  clear hw nn
  have P0 := Lib.hid ((P0.out.below hb).more hb.size)
  have P1 := Lib.hid ((P1.out.below hb).more hb.size)
  have P2 := Lib.hid ((P2.out.below hb).more hb.size)
  have BB := Lib.hid (below_via BB.out hb)
  clear hb
  go_wp2_with fail
  have hcc := same_any zs _ _ _ wl P1.out P2.out
  refine hcc.mono ?_
  clear hcc
  rintro e wl ⟨rfl, nn, hw⟩
  have hb := quiet_below hw
  clear hw nn
  have P0 := Lib.hid ((P0.out.below hb).more hb.size)
  have P1 := Lib.hid ((P1.out.below hb).more hb.size)
  have P2 := Lib.hid ((P2.out.below hb).more hb.size)
  have BB := Lib.hid (below_via BB.out hb)
  clear hb
  go_wp2_with fail
  refine (wakes_span _).mono ?_
  rintro e wk ⟨rfl, hb⟩
  have BB := Lib.hid (below_via BB.out hb)
  clear hb
  go_wp2_with fail
  go_ret
  exact ⟨rfl, BB.out⟩

theorem spanTells_walk (zs : List (Int × Int)) (d : Int) (v : Value) (w : World) (hv : Prs w w.heap.size v zs) :
    Calls Try.prog 3 #[v, .int .i64 d] w fun e w' => e = .returned (.bool true) ∧ Below w.heap.size w w' := by
  by_cases h : 1100 < zs.length
  · exact spanTells_long zs d v w hv h
  · exact spanTells_short zs d v w hv (by omega)

set_option maxRecDepth 100000 in
theorem spanTells_lifted (os : Os) (started : os.Started) (H : Type) (enc : TypeId × Value → H) :
    ReturnsInHanded {} Try.checked os 3 .any (Rows.spanTellsSpec.pre6 enc Try.prog Try.f3 Rows.spanTellsRow.domain false) (Rows.spanTellsSpec.post enc Try.prog Try.f3 false true false false) := by
  refine Shell.law_lifted (C := Try.checked) (tb := 4) (by kernel_rfl) started (by kernel_rfl) Try.func3
    (ChangeSpec.witness6 (enc := enc) (C := Try.checked) false ⟨#[], #[Value.slice none 0 0, Value.int .i64 0], []⟩ 8 (by kernel_rfl) (by kernel_rfl) (by kernel_rfl) (by kernel_rfl))
    (by kernel_rfl) (by kernel_rfl) rfl rfl Try.underlying4 ?_
  intro W base args ds p hval0 hA0
  have hval : ∀ (j : Nat) t v, Try.f3.params[j]? = some t → args[j]? = some v → Value.okWide Try.prog W .any base t v := hval0
  have hA : DataW.TrodAll enc Try.prog W 0 (fun _ => true) true Try.f3.params.toList args.toList ds p := hA0
  clear hval0 hA0
  rw [Try.params3] at hA hval
  obtain ⟨v0, vs0, d0, ds0, p0, q0, hargs, rfl, rfl, h0, r0⟩ := trodAll_cons hA
  obtain ⟨v1, vs1, d1, ds1, p1, q1, rfl, rfl, rfl, h1, r1⟩ := trodAll_cons r0
  obtain ⟨rfl, rfl, rfl⟩ := trodAll_nil r1
  obtain rfl : args = #[v0, v1] := by cases args; simp_all
  refine ⟨rfl, ?_⟩
  obtain ⟨zs, hzs, -⟩ := Pairs.open_pairs Try.underlying22 Try.underlying51 (by kernel_rfl) rfl rfl rfl rfl Try.underlying3 (by kernel_rfl) (hval 0 22 v0 rfl rfl) h0
  obtain ⟨d, rfl, -, -, -⟩ := open_int Try.underlying3 (hval 1 3 v1 rfl rfl) h1
  exact spanTells_walk zs d v0 W hzs

theorem spanTells_over : Rows.spanTellsRow.holds Try.pinned (OpenSpec.ofChange Rows.spanTellsSpec) :=
  OpenClaim.holds_of_wide 3 Try.f3 rfl rfl rfl rfl rfl rfl rfl ⟨rfl, rfl, rfl, rfl, rfl⟩ rfl rfl rfl rfl rfl (by kernel_rfl) Try.func3 (by kernel_rfl)
    (of_decide_eq_true (by kernel_rfl)) (by unfold Func.isWrapper; first | (rw [if_pos (by decide +kernel)]; kernel_rfl) | (rw [if_neg (by decide +kernel)]; exact ⟨rfl, rfl⟩))
    (fun os st H enc _ => spanTells_lifted os st H enc)

/-- The statement. -/
theorem spanTells_proved : Rows.SpanTellsSaid := spanTells_over
end Go.Proofs.Ytjcgclfcompioaa.Law
