/- money.Good, Add, Sub and Sum answer what the document's own answers say, at any two numbers and any list; no condition. -/
import Derived.Test.YthiegijjjkhbmaaShell
import Derived.Test.YthiegijjjkhbmaaSum
import Derived.Deep.QuietTactic
import Derived.BigQuiet
namespace Go.Proofs.Ythiegijjjkhbmaa.Law
open Go.ChangeShapes Go.WideShapes Go.ChangeAt Go.RowKit Bits Money Ref

theorem elem_info : (Try.prog.info? 2).map (fun i => (i.zero, i.size, i.bytes)) = some (some (.int .i64 0), 1, 8) := by kernel_rfl

theorem adds_long (a b : Int) (zs : List Int) (v : Value) (w : World) (hv : Slice.Ints w w.heap.size .i64 v zs) (hlong : 2000 < zs.length) :
    Calls Try.prog 3 #[.int .i64 a, .int .i64 b, v] w fun e w' => e = .returned (.bool true) ∧ Below w.heap.size w w' := by
  obtain ⟨A, c, rfl, hl, -, -⟩ := hv
  go_enter Try.func3, Try.ntmps3
  go_wp2_with fail
  refine (wakes_any _).mono ?_
  rintro e w5 ⟨rfl, k, rfl⟩
  go_wp2_with fail
  go_ret
  exact ⟨rfl, below_drewN (Below.refl _ _) _⟩

set_option maxHeartbeats 1000000 in
theorem adds_short (a b : Int) (zs : List Int) (v : Value) (w : World) (b0 : -9223372036854775808 ≤ b) (b1 : b ≤ 9223372036854775807) (hv : Slice.Ints w w.heap.size .i64 v zs) (hshort : zs.length ≤ 2000) :
    Calls Try.prog 3 #[.int .i64 a, .int .i64 b, v] w fun e w' => e = .returned (.bool true) ∧ Below w.heap.size w w' := by
  obtain ⟨i0, hi0, hz0, hz1, hz2⟩ := info_parts elem_info
  obtain ⟨A, c, rfl, hl, hn, hc⟩ := hv
  have HV : Hid (Slice.Ints w w.heap.size .i64 (.slice A zs.length c) zs) := ⟨A, c, rfl, hl, hn, hc⟩
  have HI := Lib.hid hi0
  have HZ0 := Lib.hid hz0
  have HZ1 := Lib.hid hz1
  have HZ2 := Lib.hid hz2
  clear hc hn hi0 hz0 hz1 hz2
  go_enter Try.func3, Try.ntmps3
  go_wp2_with fail
  refine (Money.add_tells a b _).mono ?_
  rintro e w1 ⟨rfl, hb1⟩
  have HB1 := Lib.hid hb1
  clear hb1
  go_wp2_with fail
  refine (Ref.add_tells a b _).mono ?_
  rintro e w2 ⟨rfl, rfl⟩
  go_wp2_with fail
  refine (Money.sub_tells a b _).mono ?_
  rintro e w2 ⟨rfl, hb2⟩
  have HB2 := Lib.hid (below_via HB1.out hb2)
  clear hb2
  go_wp2_with fail
  refine (Ref.sub_tells a b _).mono ?_
  rintro e w3 ⟨rfl, rfl⟩
  rw [← Money.minus a b b0 b1]
  go_wp2_with (at_builtin
               refine Slice.wpList_append_ints rfl (.tmp 48) (.tmp 49) _ rfl w2.heap.size 2 i0 (.int .i64 0) 8 Try.underlying22 HI.out HZ0.out HZ1.out HZ2.out rfl (.slice (some ⟨w2.heap.size, 0, none⟩) 0 0) 0 [] rfl
                 (World.ownsRow_made w2 #[] 0 (Nat.le_refl _) (by simp) (by simp)) w.heap.size .i64 (.slice A zs.length c) zs rfl ((HV.out.below HB2.out).alloc HB2.out.size _) (by unfold maxLen; omega) (by omega) (by simp) ?_
               intro v3 w3 hown hgrow
               have HO := Lib.hid hown
               have HG := Lib.hid hgrow
               clear hown hgrow)
  have IN : Hid (Slice.Ints w3 w3.heap.size .i64 v3 zs) := Slice.Ints.of_own (base := w2.heap.size) (e := 2) (n := 0 + zs.length) (Nat.zero_add _) HO.out
  have HB3 : Hid (Below w.heap.size w w3) := (below_new HB2.out _).grown HG.out (below_new HB2.out _).size (fun g hg => by
    have e : w2.heap.size = g := by simpa [Value.ownBlock] using hg
    have := HB2.out.size; omega)
  clear HO HG
  refine (Money.sum_tells zs v3 _ IN.out).mono ?_
  rintro e w4 ⟨rfl, hb4⟩
  have HB4 := Lib.hid (below_via HB3.out hb4)
  have HB34 := Lib.hid hb4
  clear hb4
  go_wp2_with fail
  refine (Money.rsum_tells zs _ w.heap.size _ (HV.out.below HB4.out)).mono ?_
  rintro e w5 ⟨rfl, rfl⟩
  go_wp2_with fail
  refine (Money.good_any a _).mono ?_
  rintro e w5 ⟨rfl, rfl⟩
  go_wp2_with fail
  refine (Ref.good_any a _).mono ?_
  rintro e w5 ⟨rfl, rfl⟩
  go_wp2_with fail
  refine (Money.longs_same zs v3 _ w4.heap.size _ ((IN.out.below HB34.out).more HB34.out.size) ((HV.out.below HB4.out).more HB4.out.size)).mono ?_
  rintro e w5 ⟨rfl, n, rfl⟩
  go_wp2_with fail
  refine (wakes_any _).mono ?_
  rintro e w6 ⟨rfl, k, rfl⟩
  go_wp2_with fail
  go_ret
  exact ⟨rfl, below_drewN HB4.out _⟩

theorem adds_walk (a b : Int) (zs : List Int) (v : Value) (w : World) (b0 : -9223372036854775808 ≤ b) (b1 : b ≤ 9223372036854775807) (hv : Slice.Ints w w.heap.size .i64 v zs) :
    Calls Try.prog 3 #[.int .i64 a, .int .i64 b, v] w fun e w' => e = .returned (.bool true) ∧ Below w.heap.size w w' := by
  by_cases h : zs.length ≤ 2000
  · exact adds_short a b zs v w b0 b1 hv h
  · exact adds_long a b zs v w hv (by omega)

set_option maxRecDepth 100000 in
theorem moneyAdds_lifted (os : Os) (started : os.Started) (H : Type) (enc : TypeId × Value → H) :
    ReturnsInHanded {} Try.checked os 3 .any (Rows.moneyAddsSpec.pre6 enc Try.prog Try.f3 Rows.moneyAddsRow.domain false) (Rows.moneyAddsSpec.post enc Try.prog Try.f3 false true false false) := by
  refine Shell.law_lifted (C := Try.checked) (tb := 4) (by kernel_rfl) started (by kernel_rfl) Try.func3
    (ChangeSpec.witness6 (enc := enc) (C := Try.checked) false ⟨#[], #[.int .i64 0, .int .i64 0, .slice none 0 0], []⟩ 8 (by kernel_rfl) (by kernel_rfl) (by kernel_rfl) (by kernel_rfl))
    (by kernel_rfl) (by kernel_rfl) rfl rfl Try.underlying4 ?_
  intro W base args ds p hval0 hA0
  have hval : ∀ (j : Nat) t v, Try.f3.params[j]? = some t → args[j]? = some v → Value.okWide Try.prog W .any base t v := hval0
  have hA : DataW.TrodAll enc Try.prog W 0 (fun _ => true) true Try.f3.params.toList args.toList ds p := hA0
  clear hval0 hA0
  rw [Try.params3] at hA hval
  obtain ⟨v0, vs0, d0, ds0, p0, q0, hargs, rfl, rfl, h0, r0⟩ := trodAll_cons hA
  obtain ⟨v1, vs1, d1, ds1, p1, q1, rfl, rfl, rfl, h1, r1⟩ := trodAll_cons r0
  obtain ⟨v2, vs2, d2, ds2, p2, q2, rfl, rfl, rfl, h2, r2⟩ := trodAll_cons r1
  obtain ⟨rfl, rfl, rfl⟩ := trodAll_nil r2
  obtain rfl : args = #[v0, v1, v2] := by cases args; simp_all
  refine ⟨rfl, ?_⟩
  obtain ⟨a, rfl, -, -, ha⟩ := open_int Try.underlying2 (hval 0 2 v0 rfl rfl) h0
  obtain ⟨b, rfl, -, -, hb⟩ := open_int Try.underlying2 (hval 1 2 v1 rfl rfl) h1
  obtain ⟨zs, hv, hz⟩ := Slice.open_slice Try.underlying22 Try.underlying2 (by kernel_rfl) (hval 2 22 v2 rfl rfl) h2
  have ba := bounds_i64 ha
  have bb := bounds_i64 hb
  exact adds_walk a b zs v2 W bb.1 bb.2 hv

theorem moneyAdds_over : Rows.moneyAddsRow.holds Try.pinned (OpenSpec.ofChange Rows.moneyAddsSpec) :=
  OpenClaim.holds_of_wide 3 Try.f3 rfl rfl rfl rfl rfl rfl rfl ⟨rfl, rfl, rfl, rfl, rfl⟩ rfl rfl rfl rfl rfl (by kernel_rfl) Try.func3 (by kernel_rfl)
    (of_decide_eq_true (by kernel_rfl)) (by unfold Func.isWrapper; first | (rw [if_pos (by decide +kernel)]; kernel_rfl) | (rw [if_neg (by decide +kernel)]; exact ⟨rfl, rfl⟩))
    (fun os st H enc _ => moneyAdds_lifted os st H enc)

/-- The statement. -/
theorem moneyAdds_proved : Rows.MoneyAddsSaid := moneyAdds_over
end Go.Proofs.Ythiegijjjkhbmaa.Law
