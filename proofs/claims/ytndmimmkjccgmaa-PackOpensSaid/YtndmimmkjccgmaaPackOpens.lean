/- Whatever is asked of any bytes, one behind the other, and whether they are at their end; no condition. -/
import Derived.Test.YtndmimmkjccgmaaShell
import Derived.Test.YtndmimmkjccgmaaPackWakes
import Derived.Deep.RegionHeld3
import Derived.Deep.DeepCutAuto
import Derived.ChangeMaps5
namespace Go.Proofs.Ytndmimmkjccgmaa.Law
open Go.ChangeShapes Go.WideShapes Go.ChangeAt Go.RowKit Pack Items

theorem wrap_range (x : Int) : -9223372036854775808 ≤ wrap64 x ∧ wrap64 x ≤ 9223372036854775807 := by unfold wrap64; omega
set_option maxHeartbeats 4000000 in
set_option maxRecDepth 20000 in
theorem packOpens_fair (s : ByteArray) (l : List It) (v : Value) (w : World) (hv : Its w w.heap.size v l) (hfit : ∀ z ∈ l, z.Fit) (hf : fairB l = true) (hs : s.size ≤ 130000) :
    Calls Try.prog 4 #[.string s, v] w fun e w' => e = .returned (.bool true) ∧ Below w.heap.size w w' := by
  have R := r_fair l v _ w hv
  rw [hf] at R
  have HF := Lib.hid (fair_small hf)
  have HFIT := Lib.hid hfit
  have hl3 := fair_len hf
  have t0 : decide ((130000 : Int) < (s.size : Int)) = false := decide_eq_false (by omega)
  obtain ⟨A, c, rfl, -, -, hcell⟩ := hv
  have HC := Lib.hid hcell
  have HS := Lib.hid hs
  clear hcell hfit hf hs
  go_enter Try.func4, Try.ntmps4
  go_wp2_with fail
  refine R.mono ?_
  rintro e w1 ⟨rfl, n, rfl⟩
  clear R
  go_wp2_with fail
  have hcc := op_open s (w.drewN n) (by have := HS.out; omega)
  refine hcc.mono ?_
  clear hcc
  rintro e wo ⟨a, rfl, F0, hp, hbo, hF0⟩
  have hbo : Below w.heap.size w wo := ⟨hbo.os, hbo.tape, hbo.output, hbo.size, hbo.block⟩
  have T0 := twoO_start (by have := HS.out; omega) hp hbo hF0
  clear hp hbo hF0
  go_wp2_with fail
  generalize hW : wo.alloc (.cells #[.string s, .int .i64 0, .bool false] 46) = wz at T0 ⊢
  generalize wo.heap.size = g at *
  have T0 := Lib.hid T0
  clear hW
  go_loopw [7] (fun t wr => ∃ (j : Nat) (st : OSt) (F : Nat → Prop), j ≤ l.length ∧ t = .int .i64 j ∧ Hid (TwoO w wr F a g st st)) (fun t _ => l.length - (intOf t).toNat)
  case atStart => exact ⟨0, _, F0, Nat.zero_le _, rfl, T0⟩
  case round =>
    obtain ⟨j, st, F, hj, rfl, TT⟩ := hrel
    by_cases hlt : j < l.length
    · obtain ⟨b, off, rfl, hb, hq⟩ := HC.out (by omega)
      have X := Lib.hid (hq j hlt)
      have FIT := HFIT.out _ (item_in hlt)
      have u0 : decide ((j : Int) < (l.length : Int)) = true := decide_eq_true (by omega)
      have j0 : (0 : Int) ≤ j := by omega
      clear hq
      generalize l.getD j it0 = z at *
      have FIT := Lib.hid FIT
      have x0 := (TT.out.below.cell (p := ⟨b, off + j * 3, none⟩) hb).trans X.out.1
      have x1 := (TT.out.below.cell (p := ⟨b, off + j * 3 + 1, none⟩) hb).trans X.out.2.1
      by_cases hz : z.size = 0
      · have u1 : (z.size == 0) = true := by rw [beq_iff_eq]; exact hz
        have W := Lib.hid (IntWalk.i64_left (z.v : Int))
        have WR := Lib.hid (wrap_range (z.v : Int))
        go_wp2_with fail
        have PD := Lib.hid TT.out.drew
        go_region_held3 (fun w' => w'.cell? ⟨b, off + j * 3 + 1, none⟩ = some (.int .u64 (z.v : Int)))
          (first
            | exact z1
            | exact y1
            | exact x1)
          (first
            | (go_at_call 17
               try rw [W.out]
               have hcc := op_text st (wrap64 z.v) a F wr.drew PD.out.op WR.out
               refine hcc.mono ?_
               clear hcc
               rintro e w1 ⟨rfl, F1, hp, ho, hF⟩
               have TT := Lib.hid (PD.out.first ho hp hF)
               have y0 := (TT.out.below.cell (p := ⟨b, off + j * 3, none⟩) hb).trans X.out.1
               have y1 := (TT.out.below.cell (p := ⟨b, off + j * 3 + 1, none⟩) hb).trans X.out.2.1
               clear hp ho hF)
            | (go_at_call 18
               try rw [W.out]
               have hcc := r_otext st (wrap64 z.v) g w1 TT.out.rf WR.out
               refine hcc.mono ?_
               clear hcc
               rintro e w2 ⟨rfl, hr, hg⟩
               have TT := Lib.hid (TT.out.second hg hr)
               have z0 := (TT.out.below.cell (p := ⟨b, off + j * 3, none⟩) hb).trans X.out.1
               have z1 := (TT.out.below.cell (p := ⟨b, off + j * 3 + 1, none⟩) hb).trans X.out.2.1
               clear hr hg))
        all_goals
          clear PD
          go_wp2_with fail
          have hcc := op_done _ a F1 w2 TT.out.op
          refine hcc.mono ?_
          clear hcc
          rintro e w3 ⟨rfl, F2, hp, ho, hF⟩
          have TT := Lib.hid (TT.out.first ho hp hF)
          clear hp ho hF
          go_wp2_with fail
          have hcc := r_odone _ g w3 TT.out.rf
          refine hcc.mono ?_
          clear hcc
          rintro e w4 ⟨rfl, nn, rfl⟩
          have TT := Lib.hid (TT.out.drewN nn)
          clear x0 x1 y0 y1 z0 z1
          go_wp2_with fail
          go_roundw
          case rel => exact ⟨j + 1, _, _, by omega, by go_num, TT⟩
          case measure => simp [intOf]; omega
      · have u1 : (z.size == 0) = false := by rw [beq_eq_false_iff_ne]; exact hz
        go_wp2_with fail
        have PD := Lib.hid TT.out.drew
        go_region_held3 (fun w' => w'.cell? ⟨b, off + j * 3, none⟩ = some (.int .i64 z.size))
          (first
            | exact z0
            | exact y0
            | exact x0)
          (first
            | (go_at_call 19
               have hcc := op_num st z.size a F wr.drew PD.out.op FIT.out.1
               refine hcc.mono ?_
               clear hcc
               rintro e w1 ⟨rfl, F1, hp, ho, hF⟩
               have TT := Lib.hid (PD.out.first ho hp hF)
               have y0 := (TT.out.below.cell (p := ⟨b, off + j * 3, none⟩) hb).trans X.out.1
               have y1 := (TT.out.below.cell (p := ⟨b, off + j * 3 + 1, none⟩) hb).trans X.out.2.1
               clear hp ho hF)
            | (go_at_call 20
               have hcc := r_onum st z.size g w1 TT.out.rf FIT.out.1
               refine hcc.mono ?_
               clear hcc
               rintro e w2 ⟨rfl, hr, hg⟩
               have TT := Lib.hid (TT.out.second hg hr)
               have z0 := (TT.out.below.cell (p := ⟨b, off + j * 3, none⟩) hb).trans X.out.1
               have z1 := (TT.out.below.cell (p := ⟨b, off + j * 3 + 1, none⟩) hb).trans X.out.2.1
               clear hr hg))
        all_goals
          clear PD
          go_wp2_with fail
          have hcc := op_done _ a F1 w2 TT.out.op
          refine hcc.mono ?_
          clear hcc
          rintro e w3 ⟨rfl, F2, hp, ho, hF⟩
          have TT := Lib.hid (TT.out.first ho hp hF)
          clear hp ho hF
          go_wp2_with fail
          have hcc := r_odone _ g w3 TT.out.rf
          refine hcc.mono ?_
          clear hcc
          rintro e w4 ⟨rfl, nn, rfl⟩
          have TT := Lib.hid (TT.out.drewN nn)
          clear x0 x1 y0 y1 z0 z1
          go_wp2_with fail
          go_roundw
          case rel => exact ⟨j + 1, _, _, by omega, by go_num, TT⟩
          case measure => simp [intOf]; omega
    · obtain rfl : j = l.length := by omega
      have u0 : decide ((l.length : Int) < (l.length : Int)) = false := decide_eq_false (by omega)
      go_wp2_with fail
      have hcc := op_done _ a F wr TT.out.op
      refine hcc.mono ?_
      clear hcc
      rintro e w3 ⟨rfl, F2, hp, ho, hF⟩
      have TT := Lib.hid (TT.out.first ho hp hF)
      clear hp ho hF
      go_wp2_with fail
      have hcc := r_odone _ g w3 TT.out.rf
      refine hcc.mono ?_
      clear hcc
      rintro e w4 ⟨rfl, nn, rfl⟩
      have BB := Lib.hid (TT.out.drewN nn).below
      clear TT
      go_wp2_with fail
      refine (wakes_pack _).mono ?_
      rintro e wk ⟨rfl, hbk⟩
      have BB := Lib.hid (BB.out.trans (hbk.mono BB.out.size))
      clear hbk
      go_wp2_with fail
      go_ret
      exact ⟨rfl, BB.out⟩
theorem packOpens_not (s : ByteArray) (l : List It) (v : Value) (w : World) (hv : Its w w.heap.size v l) (hs : s.size ≤ 130000) (hf : fairB l = false) :
    Calls Try.prog 4 #[.string s, v] w fun e w' => e = .returned (.bool true) ∧ Below w.heap.size w w' := by
  have R := r_fair l v _ w hv
  rw [hf] at R
  obtain ⟨A, c, rfl⟩ := hv.shape
  clear hv
  have t0 : decide ((130000 : Int) < (s.size : Int)) = false := decide_eq_false (by omega)
  go_enter Try.func4, Try.ntmps4
  go_wp2_with fail
  refine R.mono ?_
  rintro e w1 ⟨rfl, n, rfl⟩
  go_wp2_with fail
  refine (wakes_pack _).mono ?_
  rintro e wk ⟨rfl, hb⟩
  have BB : Hid (Below w.heap.size w wk) := show Below _ _ _ from ⟨hb.os, hb.tape, hb.output, hb.size, hb.block⟩
  clear hb
  go_wp2_with fail
  go_ret
  exact ⟨rfl, BB.out⟩
theorem packOpens_long (s : ByteArray) (l : List It) (v : Value) (w : World) (hv : Its w w.heap.size v l) (hs : 130000 < s.size) :
    Calls Try.prog 4 #[.string s, v] w fun e w' => e = .returned (.bool true) ∧ Below w.heap.size w w' := by
  have t0 : decide ((130000 : Int) < (s.size : Int)) = true := decide_eq_true (by omega)
  obtain ⟨A, c, rfl⟩ := hv.shape
  clear hv
  go_enter Try.func4, Try.ntmps4
  go_wp2_with fail
  refine (wakes_pack _).mono ?_
  rintro e wk ⟨rfl, hb⟩
  have BB := Lib.hid hb
  clear hb
  go_wp2_with fail
  go_ret
  exact ⟨rfl, BB.out⟩
theorem packOpens_walk (s : ByteArray) (l : List It) (v : Value) (w : World) (hv : Its w w.heap.size v l) (hfit : ∀ z ∈ l, z.Fit) :
    Calls Try.prog 4 #[.string s, v] w fun e w' => e = .returned (.bool true) ∧ Below w.heap.size w w' := by
  by_cases hs : 130000 < s.size
  · exact packOpens_long s l v w hv hs
  · cases hf : fairB l with
    | true => exact packOpens_fair s l v w hv hfit hf (by omega)
    | false => exact packOpens_not s l v w hv (by omega) hf

set_option maxRecDepth 100000 in
theorem packOpens_lifted (os : Os) (started : os.Started) (H : Type) (enc : TypeId × Value → H) :
    ReturnsInHanded {} Try.checked os 4 .any (Rows.packOpensSpec.pre6 enc Try.prog Try.f4 Rows.packOpensRow.domain false) (Rows.packOpensSpec.post enc Try.prog Try.f4 false true false false) := by
  refine Shell.law_lifted (C := Try.checked) (tb := 4) (by kernel_rfl) started (by kernel_rfl) Try.func4
    (ChangeSpec.witness6 (enc := enc) (C := Try.checked) false ⟨#[], #[.string ⟨#[]⟩, Value.slice none 0 0], []⟩ 8 (by kernel_rfl) (by kernel_rfl) (by kernel_rfl) (by kernel_rfl))
    (by kernel_rfl) (by kernel_rfl) rfl rfl Try.underlying4 ?_
  intro W base args ds p hval0 hA0
  have hval : ∀ (j : Nat) t v, Try.f4.params[j]? = some t → args[j]? = some v → Value.okWide Try.prog W .any base t v := hval0
  have hA : DataW.TrodAll enc Try.prog W 0 (fun _ => true) true Try.f4.params.toList args.toList ds p := hA0
  clear hval0 hA0
  rw [Try.params4] at hA hval
  obtain ⟨v0, vs0, d0, ds0, p0, q0, hargs, rfl, rfl, h0, r0⟩ := trodAll_cons hA
  obtain ⟨v1, vs1, d1, ds1, p1, q1, rfl, rfl, rfl, h1, r1⟩ := trodAll_cons r0
  obtain ⟨rfl, rfl, rfl⟩ := trodAll_nil r1
  obtain rfl : args = #[v0, v1] := by cases args; simp_all
  refine ⟨rfl, ?_⟩
  obtain ⟨s, rfl, -, -, hs⟩ := ChangeMaps.open_string Try.underlying9 (hval 0 9 v0 rfl rfl) h0
  obtain ⟨l, hl, fitl⟩ := Items.open_items Try.underlying22 Try.underlying35 (by kernel_rfl) rfl rfl rfl rfl rfl rfl Try.underlying3 Try.underlying33 Try.underlying9 (by kernel_rfl) (by kernel_rfl) (by kernel_rfl) (hval 1 22 v1 rfl rfl) h1
  exact packOpens_walk s l v1 W hl fitl

theorem packOpens_over : Rows.packOpensRow.holds Try.pinned (OpenSpec.ofChange Rows.packOpensSpec) :=
  OpenClaim.holds_of_wide 4 Try.f4 rfl rfl rfl rfl rfl rfl rfl ⟨rfl, rfl, rfl, rfl, rfl⟩ rfl rfl rfl rfl rfl (by kernel_rfl) Try.func4 (by kernel_rfl)
    (of_decide_eq_true (by kernel_rfl)) (by unfold Func.isWrapper; first | (rw [if_pos (by decide +kernel)]; kernel_rfl) | (rw [if_neg (by decide +kernel)]; exact ⟨rfl, rfl⟩))
    (fun os st H enc _ => packOpens_lifted os st H enc)

/-- The statement. -/
theorem packOpens_proved : Rows.PackOpensSaid := packOpens_over
end Go.Proofs.Ytndmimmkjccgmaa.Law
