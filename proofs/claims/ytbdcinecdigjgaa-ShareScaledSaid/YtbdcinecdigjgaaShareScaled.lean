/- By share.Split weights that are all so many times as great share out the same, and a weight of 0 more changes nothing for the others; no condition. -/
import Derived.Test.YtbdcinecdigjgaaScaledLoop
import Derived.Deep.QuietTactic
import Derived.BigQuiet
namespace Go.Proofs.Ytbdcinecdigjgaa.Law
open Go.ChangeShapes Go.WideShapes Go.ChangeAt Go.RowKit Bits Money Slice Stable Share Law2

theorem scaled_none (t : Int) (zs : List Int) (kk : Int) (v : Value) (w : World) (hv : Ints w w.heap.size .u16 v zs) (h : zs.length < 1 ∨ 100 < zs.length) :
    Calls Try.prog 7 #[.int .u32 t, v, .int .u8 kk] w fun e w' => e = .returned (.bool true) ∧ Below w.heap.size w w' := by
  obtain ⟨A, c, rfl, hl, -, -⟩ := hv
  by_cases h1 : zs.length < 1
  · have g1 : (zs.length : Int) < 1 := by omega
    clear h h1
    go_enter Try.func7, Try.ntmps7
    go_wp2_with fail
    refine (Law2.wakes_any _).mono ?_
    rintro e w5 ⟨rfl, hb⟩
    have HB := Lib.hid hb
    clear hb
    go_wp2_with fail
    go_ret
    exact ⟨rfl, HB.out⟩
  · have g1 : ¬ (zs.length : Int) < 1 := by omega
    have g2 : (100 : Int) < zs.length := by omega
    clear h h1
    go_enter Try.func7, Try.ntmps7
    go_wp2_with fail
    refine (Law2.wakes_any _).mono ?_
    rintro e w5 ⟨rfl, hb⟩
    have HB := Lib.hid hb
    clear hb
    go_wp2_with fail
    go_ret
    exact ⟨rfl, HB.out⟩
theorem scaled_all (t : Int) (zs : List Int) (kk : Int) (v : Value) (w : World) (t0 : 0 ≤ t) (t1 : t ≤ 4294967295) (k0 : 0 ≤ kk) (k1 : kk ≤ 255) (hz : ∀ z ∈ zs, 0 ≤ z ∧ z ≤ 65535) (hv : Ints w w.heap.size .u16 v zs) :
    Calls Try.prog 7 #[.int .u32 t, v, .int .u8 kk] w fun e w' => e = .returned (.bool true) ∧ Below w.heap.size w w' := by
  by_cases h : zs.length < 1 ∨ 100 < zs.length
  · exact scaled_none t zs kk v w hv h
  · exact scaled_walk t zs kk v w t0 t1 k0 k1 (fun i hi => by rw [getD_lt hi]; exact hz _ (List.getElem_mem hi)) hv (by omega) (by omega)

set_option maxRecDepth 100000 in
theorem shareScaled_lifted (os : Os) (started : os.Started) (H : Type) (enc : TypeId × Value → H) :
    ReturnsInHanded {} Try.checked os 7 .any (Rows.shareScaledSpec.pre6 enc Try.prog Try.f7 Rows.shareScaledRow.domain false) (Rows.shareScaledSpec.post enc Try.prog Try.f7 false true false false) := by
  refine Shell.law_lifted (C := Try.checked) (tb := 4) (by kernel_rfl) started (by kernel_rfl) Try.func7
    (ChangeSpec.witness6 (enc := enc) (C := Try.checked) false ⟨#[], #[Value.int .u32 0, Value.slice none 0 0, Value.int .u8 0], []⟩ 8 (by kernel_rfl) (by kernel_rfl) (by kernel_rfl) (by kernel_rfl))
    (by kernel_rfl) (by kernel_rfl) rfl rfl Try.underlying4 ?_
  intro W base args ds p hval0 hA0
  have hval : ∀ (j : Nat) t v, Try.f7.params[j]? = some t → args[j]? = some v → Value.okWide Try.prog W .any base t v := hval0
  have hA : DataW.TrodAll enc Try.prog W 0 (fun _ => true) true Try.f7.params.toList args.toList ds p := hA0
  clear hval0 hA0
  rw [Try.params7] at hA hval
  obtain ⟨v0, vs0, d0, ds0, p0, q0, hargs, rfl, rfl, h0, r0⟩ := trodAll_cons hA
  obtain ⟨v1, vs1, d1, ds1, p1, q1, rfl, rfl, rfl, h1, r1⟩ := trodAll_cons r0
  obtain ⟨v2, vs2, d2, ds2, p2, q2, rfl, rfl, rfl, h2, r2⟩ := trodAll_cons r1
  obtain ⟨rfl, rfl, rfl⟩ := trodAll_nil r2
  obtain rfl : args = #[v0, v1, v2] := by cases args; simp_all
  refine ⟨rfl, ?_⟩
  obtain ⟨t, rfl, -, -, ht⟩ := open_int Try.underlying39 (hval 0 39 v0 rfl rfl) h0
  obtain ⟨zs, hzs, hwf⟩ := Slice.open_slice Try.underlying40 Try.underlying41 (by kernel_rfl) (hval 1 40 v1 rfl rfl) h1
  obtain ⟨kk, rfl, -, -, hk⟩ := open_int Try.underlying5 (hval 2 5 v2 rfl rfl) h2
  have bt := bounds_u32 ht
  have bk := bounds_u8 hk
  exact scaled_all t zs kk v1 W bt.1 bt.2 bk.1 bk.2 (fun z hz => bounds_u16 (hwf z hz)) hzs

theorem shareScaled_over : Rows.shareScaledRow.holds Try.pinned (OpenSpec.ofChange Rows.shareScaledSpec) :=
  OpenClaim.holds_of_wide 7 Try.f7 rfl rfl rfl rfl rfl rfl rfl ⟨rfl, rfl, rfl, rfl, rfl⟩ rfl rfl rfl rfl rfl (by kernel_rfl) Try.func7 (by kernel_rfl)
    (of_decide_eq_true (by kernel_rfl)) (by unfold Func.isWrapper; first | (rw [if_pos (by decide +kernel)]; kernel_rfl) | (rw [if_neg (by decide +kernel)]; exact ⟨rfl, rfl⟩))
    (fun os st H enc _ => shareScaled_lifted os st H enc)

/-- The statement. -/
theorem shareScaled_proved : Rows.ShareScaledSaid := shareScaled_over
end Go.Proofs.Ytbdcinecdigjgaa.Law
