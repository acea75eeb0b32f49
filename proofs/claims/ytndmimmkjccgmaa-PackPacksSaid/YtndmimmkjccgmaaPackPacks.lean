/- Whatever is put one behind the other: the bytes, or the first error; no condition. -/
import Derived.Test.YtndmimmkjccgmaaShell
import Derived.Test.YtndmimmkjccgmaaPackWakes
import Derived.Deep.RegionHeld3
import Derived.Deep.DeepCutAuto
namespace Go.Proofs.Ytndmimmkjccgmaa.Law
open Go.ChangeShapes Go.WideShapes Go.ChangeAt Go.RowKit Pack Items

set_option maxHeartbeats 4000000 in
set_option maxRecDepth 20000 in
theorem packPacks_fair (l : List It) (v : Value) (w : World) (hv : Its w w.heap.size v l) (hfit : ∀ z ∈ l, z.Fit) (hf : fairB l = true) :
    Calls Try.prog 3 #[v] w fun e w' => e = .returned (.bool true) ∧ Below w.heap.size w w' := by
  have R := r_fair l v _ w hv
  rw [hf] at R
  have HF := Lib.hid (fair_small hf)
  have HFIT := Lib.hid hfit
  have hl3 := fair_len hf
  obtain ⟨A, c, rfl, -, -, hcell⟩ := hv
  have HC := Lib.hid hcell
  clear hcell hfit hf
  go_enter Try.func3, Try.ntmps3
  go_wp2_with fail
  refine R.mono ?_
  rintro e w1 ⟨rfl, n, rfl⟩
  clear R
  go_wp2_with fail
  generalize hW : ((w.drewN n).alloc (.cells #[.pointer none, .int .i64 0, .int .i64 0] 29)).alloc (.cells #[.string ⟨#[]⟩, .int .i64 0] 32) = wz
  have T0 : Two w wz w.heap.size (fun i => i = w.heap.size) pst0 pst0 := by
    rw [← hW]
    exact two_start w (w.drewN n) rfl ⟨rfl, rfl, rfl, Nat.le_refl _, fun _ _ => rfl⟩
  have T0 := Lib.hid T0
  clear hW
  go_loopw [5] (fun t wr => ∃ (j : Nat) (st : PSt) (F : Nat → Prop), j ≤ l.length ∧ t = .int .i64 j ∧ Hid (Two w wr w.heap.size F st st)) (fun t _ => l.length - (intOf t).toNat)
  case atStart => exact ⟨0, pst0, _, Nat.zero_le _, rfl, T0⟩
  case round =>
    obtain ⟨j, st, F, hj, rfl, TT⟩ := hrel
    have SZ := TT.out.below.size
    by_cases hlt : j < l.length
    · obtain ⟨b, off, rfl, hb, hq⟩ := HC.out (by omega)
      have X := Lib.hid (hq j hlt)
      have FIT := HFIT.out _ (item_in hlt)
      have SML := Lib.hid (HF.out _ (item_in hlt))
      have u0 : decide ((j : Int) < (l.length : Int)) = true := decide_eq_true (by omega)
      have j0 : (0 : Int) ≤ j := by omega
      clear hq
      generalize l.getD j it0 = z at *
      have FIT := Lib.hid FIT
      have x0 := (TT.out.below.cell (p := ⟨b, off + j * 3, none⟩) hb).trans X.out.1
      have x1 := (TT.out.below.cell (p := ⟨b, off + j * 3 + 1, none⟩) hb).trans X.out.2.1
      have x2 := (TT.out.below.cell (p := ⟨b, off + j * 3 + 2, none⟩) hb).trans X.out.2.2
      by_cases hz : z.size = 0
      · have u1 : (z.size == 0) = true := by rw [beq_iff_eq]; exact hz
        go_wp2_with fail
        have hcc := pk_text st z.s w.heap.size F wr TT.out.pk (by have := SML.out; omega)
        refine hcc.mono ?_
        clear hcc
        rintro e w1 ⟨rfl, F1, hp, ho, hF⟩
        have TT := Lib.hid (TT.out.first SZ ho hp hF)
        have SZ := Nat.le_trans SZ ho.size
        clear hp ho hF x0 x1 x2
        have x0 := (TT.out.below.cell (p := ⟨b, off + j * 3, none⟩) hb).trans X.out.1
        have x1 := (TT.out.below.cell (p := ⟨b, off + j * 3 + 1, none⟩) hb).trans X.out.2.1
        have x2 := (TT.out.below.cell (p := ⟨b, off + j * 3 + 2, none⟩) hb).trans X.out.2.2
        go_wp2_with fail
        have hcc := r_text st z.s (w.heap.size + 1) w1 TT.out.rf (by have := SML.out; omega)
        refine hcc.mono ?_
        clear hcc
        rintro e w2 ⟨rfl, hr, hg⟩
        have TT := Lib.hid (TT.out.second SZ hg hr)
        clear hr hg x0 x1 x2
        go_wp2_with fail
        go_roundw
        case rel => exact ⟨j + 1, _, _, by omega, by go_num, TT⟩
        case measure => simp [intOf]; omega
      · have u1 : (z.size == 0) = false := by rw [beq_eq_false_iff_ne]; exact hz
        go_wp2_with fail
        have PD := Lib.hid TT.out.drew
        go_region_held3 (fun w' => w'.cell? ⟨b, off + j * 3 + 1, none⟩ = some (.int .u64 (z.v : Int)) ∧ w'.cell? ⟨b, off + j * 3, none⟩ = some (.int .i64 z.size))
          (first
            | exact ⟨y1, y0⟩
            | exact ⟨x1, x0⟩)
          (first
            | (go_at_call 12
               have hcc := pk_num st z.v z.size w.heap.size F wr.drew PD.out.pk FIT.out.2.1 FIT.out.1
               refine hcc.mono ?_
               clear hcc
               rintro e w1 ⟨rfl, F1, hp, ho, hF⟩
               have TT := Lib.hid (PD.out.first SZ ho hp hF)
               have SZ := Nat.le_trans SZ ho.size
               have y0 := (TT.out.below.cell (p := ⟨b, off + j * 3, none⟩) hb).trans X.out.1
               have y1 := (TT.out.below.cell (p := ⟨b, off + j * 3 + 1, none⟩) hb).trans X.out.2.1
               clear hp ho hF))
        clear PD x0 x1 x2
        go_wp2_with fail
        have PD := Lib.hid TT.out.drew
        go_region_held3 (fun w' => w'.cell? ⟨b, off + j * 3 + 1, none⟩ = some (.int .u64 (z.v : Int)) ∧ w'.cell? ⟨b, off + j * 3, none⟩ = some (.int .i64 z.size))
          (first
            | exact ⟨z1, z0⟩
            | exact ⟨y1, y0⟩)
          (first
            | (go_at_call 13
               have hcc := r_num st z.v z.size (w.heap.size + 1) w1.drew PD.out.rf FIT.out.2.1
               refine hcc.mono ?_
               clear hcc
               rintro e w2 ⟨rfl, hr, hg⟩
               have TT := Lib.hid (PD.out.second SZ hg hr)
               have z0 := (TT.out.below.cell (p := ⟨b, off + j * 3, none⟩) hb).trans X.out.1
               have z1 := (TT.out.below.cell (p := ⟨b, off + j * 3 + 1, none⟩) hb).trans X.out.2.1
               clear hr hg))
        clear PD y0 y1 z0 z1
        go_wp2_with fail
        go_roundw
        case rel => exact ⟨j + 1, _, _, by omega, by go_num, TT⟩
        case measure => simp [intOf]; omega
    · obtain rfl : j = l.length := by omega
      have u0 : decide ((l.length : Int) < (l.length : Int)) = false := decide_eq_false (by omega)
      go_wp2_with fail
      have hcc := pk_done st w.heap.size F wr TT.out.pk
      refine hcc.mono ?_
      clear hcc
      rintro e w1 ⟨rfl, F1, hp, ho, hF⟩
      have TT := Lib.hid (TT.out.first SZ ho hp hF)
      have SZ := Nat.le_trans SZ ho.size
      clear hp ho hF
      go_wp2_with fail
      have hcc := r_done st (w.heap.size + 1) w1 TT.out.rf
      refine hcc.mono ?_
      clear hcc
      rintro e w2 ⟨rfl, nn, hw⟩
      have BB : Hid (Below w.heap.size w w2) := show Below _ _ _ by rw [hw]; exact ⟨TT.out.below.os, TT.out.below.tape, TT.out.below.output, TT.out.below.size, TT.out.below.block⟩
      clear hw
      go_wp2_with fail
      refine (wakes_pack w2).mono ?_
      rintro e wk ⟨rfl, hbk⟩
      have BB := Lib.hid (BB.out.trans (hbk.mono BB.out.size))
      clear hbk
      go_wp2_with fail
      go_ret
      exact ⟨rfl, BB.out⟩
theorem packPacks_not (l : List It) (v : Value) (w : World) (hv : Its w w.heap.size v l) (hf : fairB l = false) :
    Calls Try.prog 3 #[v] w fun e w' => e = .returned (.bool true) ∧ Below w.heap.size w w' := by
  have R := r_fair l v _ w hv
  rw [hf] at R
  obtain ⟨A, c, rfl⟩ := hv.shape
  clear hv
  go_enter Try.func3, Try.ntmps3
  go_wp2_with fail
  refine R.mono ?_
  rintro e w1 ⟨rfl, n, rfl⟩
  go_wp2_with fail
  refine (wakes_pack _).mono ?_
  rintro e wk ⟨rfl, hb⟩
  have BB : Hid (Below w.heap.size w wk) := show Below _ _ _ from ⟨hb.os, hb.tape, hb.output, hb.size, hb.block⟩
  clear hb
  go_wp2_with fail
  go_ret
  exact ⟨rfl, BB.out⟩
theorem packPacks_walk (l : List It) (v : Value) (w : World) (hv : Its w w.heap.size v l) (hfit : ∀ z ∈ l, z.Fit) :
    Calls Try.prog 3 #[v] w fun e w' => e = .returned (.bool true) ∧ Below w.heap.size w w' := by
  cases hf : fairB l with
  | true => exact packPacks_fair l v w hv hfit hf
  | false => exact packPacks_not l v w hv hf

set_option maxRecDepth 100000 in
theorem packPacks_lifted (os : Os) (started : os.Started) (H : Type) (enc : TypeId × Value → H) :
    ReturnsInHanded {} Try.checked os 3 .any (Rows.packPacksSpec.pre6 enc Try.prog Try.f3 Rows.packPacksRow.domain false) (Rows.packPacksSpec.post enc Try.prog Try.f3 false true false false) := by
  refine Shell.law_lifted (C := Try.checked) (tb := 4) (by kernel_rfl) started (by kernel_rfl) Try.func3
    (ChangeSpec.witness6 (enc := enc) (C := Try.checked) false ⟨#[], #[Value.slice none 0 0], []⟩ 8 (by kernel_rfl) (by kernel_rfl) (by kernel_rfl) (by kernel_rfl))
    (by kernel_rfl) (by kernel_rfl) rfl rfl Try.underlying4 ?_
  intro W base args ds p hval0 hA0
  have hval : ∀ (j : Nat) t v, Try.f3.params[j]? = some t → args[j]? = some v → Value.okWide Try.prog W .any base t v := hval0
  have hA : DataW.TrodAll enc Try.prog W 0 (fun _ => true) true Try.f3.params.toList args.toList ds p := hA0
  clear hval0 hA0
  rw [Try.params3] at hA hval
  obtain ⟨v0, vs0, d0, ds0, p0, q0, hargs, rfl, rfl, h0, r0⟩ := trodAll_cons hA
  obtain ⟨rfl, rfl, rfl⟩ := trodAll_nil r0
  obtain rfl : args = #[v0] := by cases args; simp_all
  refine ⟨rfl, ?_⟩
  obtain ⟨l, hl, fitl⟩ := Items.open_items Try.underlying22 Try.underlying35 (by kernel_rfl) rfl rfl rfl rfl rfl rfl Try.underlying3 Try.underlying33 Try.underlying9 (by kernel_rfl) (by kernel_rfl) (by kernel_rfl) (hval 0 22 v0 rfl rfl) h0
  exact packPacks_walk l v0 W hl fitl

theorem packPacks_over : Rows.packPacksRow.holds Try.pinned (OpenSpec.ofChange Rows.packPacksSpec) :=
  OpenClaim.holds_of_wide 3 Try.f3 rfl rfl rfl rfl rfl rfl rfl ⟨rfl, rfl, rfl, rfl, rfl⟩ rfl rfl rfl rfl rfl (by kernel_rfl) Try.func3 (by kernel_rfl)
    (of_decide_eq_true (by kernel_rfl)) (by unfold Func.isWrapper; first | (rw [if_pos (by decide +kernel)]; kernel_rfl) | (rw [if_neg (by decide +kernel)]; exact ⟨rfl, rfl⟩))
    (fun os st H enc _ => packPacks_lifted os st H enc)

/-- The statement. -/
theorem packPacks_proved : Rows.PackPacksSaid := packPacks_over
end Go.Proofs.Ytndmimmkjccgmaa.Law
