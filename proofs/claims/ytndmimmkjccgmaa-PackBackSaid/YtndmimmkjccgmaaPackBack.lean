/- What was packed is opened as it was, and then it is at its end; no condition. -/
import Derived.Test.YtndmimmkjccgmaaShell
import Derived.Test.YtndmimmkjccgmaaPackWakes
import Derived.Test.YtndmimmkjccgmaaPackMath2
import Derived.Deep.RegionHeld3
import Derived.Deep.DeepCutAuto
import Derived.ChangeMaps5
namespace Go.Proofs.Ytndmimmkjccgmaa.Law
open Go.ChangeShapes Go.WideShapes Go.ChangeAt Go.RowKit Pack Items

set_option maxHeartbeats 4000000 in
set_option maxRecDepth 20000 in
theorem packBack_fair (l : List It) (v : Value) (w : World) (hv : Its w w.heap.size v l) (hfit : ∀ z ∈ l, z.Fit) (hf : fairB l = true) :
    Calls Try.prog 5 #[v] w fun e w' => e = .returned (.bool true) ∧ Below w.heap.size w w' := by
  have R := r_fair l v _ w hv
  rw [hf] at R
  have HF := Lib.hid (fair_small hf)
  have HFIT := Lib.hid hfit
  have hl3 := fair_len hf
  obtain ⟨A, c, rfl, -, -, hcell⟩ := hv
  have HC := Lib.hid hcell
  clear hcell hfit hf
  go_enter Try.func5, Try.ntmps5
  go_wp2_with fail
  refine R.mono ?_
  rintro e w1 ⟨rfl, n, rfl⟩
  clear R
  go_wp2_with fail
  have K0 := pk_zero (w.drewN n)
  generalize hW : (w.drewN n).alloc (.cells #[.pointer none, .int .i64 0, .int .i64 0] 29) = wz
  have K0 : PkAt wz (fun i => i = w.heap.size) w.heap.size pst0 := by rw [← hW]; exact K0
  have B0 : Below w.heap.size w wz := by
    rw [← hW]
    exact (⟨rfl, rfl, rfl, Nat.le_refl _, fun _ _ => rfl⟩ : Below w.heap.size w (w.drewN n)).alloc (Nat.le_refl _) _
  have K0 := Lib.hid K0
  have B0 := Lib.hid B0
  clear hW
  go_loopw [4] (fun t wr => ∃ (j : Nat) (F : Nat → Prop), j ≤ l.length ∧ t = .int .i64 j ∧ Hid (PkAt wr F w.heap.size (runP pst0 (l.take j))) ∧ Hid (∀ i, F i → w.heap.size ≤ i) ∧ Hid (Below w.heap.size w wr)) (fun t _ => l.length - (intOf t).toNat)
  case atStart => exact ⟨0, _, Nat.zero_le _, rfl, K0, fun i hi => by have hi : i = w.heap.size := hi; omega, B0⟩
  case round =>
    obtain ⟨j, F, hj, rfl, KK, HH, BB⟩ := hrel
    by_cases hlt : j < l.length
    · obtain ⟨b, off, rfl, hb, hq⟩ := HC.out (by omega)
      have X := Lib.hid (hq j hlt)
      have FIT := HFIT.out _ (item_in hlt)
      have SML := Lib.hid (HF.out _ (item_in hlt))
      have u0 : decide ((j : Int) < (l.length : Int)) = true := decide_eq_true (by omega)
      have j0 : (0 : Int) ≤ j := by omega
      clear hq
      have HN := Lib.hid (run_next l hlt)
      generalize l.getD j it0 = z at *
      have FIT := Lib.hid FIT
      have x0 := (BB.out.cell (p := ⟨b, off + j * 3, none⟩) hb).trans X.out.1
      have x1 := (BB.out.cell (p := ⟨b, off + j * 3 + 1, none⟩) hb).trans X.out.2.1
      have x2 := (BB.out.cell (p := ⟨b, off + j * 3 + 2, none⟩) hb).trans X.out.2.2
      by_cases hz : z.size = 0
      · have u1 : (z.size == 0) = true := by rw [beq_iff_eq]; exact hz
        have HS : Hid ((runP pst0 (l.take j)).text z.s = runP pst0 (l.take (j + 1))) := show _ = _ by rw [HN.out]; unfold PSt.step; rw [if_pos hz]
        go_wp2_with fail
        have hcc := pk_text _ z.s w.heap.size F wr KK.out (by have := SML.out; omega)
        refine hcc.mono ?_
        clear hcc
        rintro e w1 ⟨rfl, F1, hp, ho, hF⟩
        have H1 := Lib.hid (high_next HH.out BB.out.size hF)
        have B1 := Lib.hid (only_below BB.out HH.out ho)
        rw [HS.out] at hp
        have K1 := Lib.hid hp
        clear hp ho hF x0 x1 x2
        go_wp2_with fail
        go_roundw
        case rel => exact ⟨j + 1, F1, by omega, by go_num, K1, H1, B1⟩
        case measure => simp [intOf]; omega
      · have u1 : (z.size == 0) = false := by rw [beq_eq_false_iff_ne]; exact hz
        have HS : Hid ((runP pst0 (l.take j)).num z.v z.size = runP pst0 (l.take (j + 1))) := show _ = _ by rw [HN.out]; unfold PSt.step; rw [if_neg hz]
        go_wp2_with fail
        have KD := Lib.hid (KK.out.keep (w' := wr.drew) (Nat.le_refl _) (fun _ _ => rfl))
        have BD : Hid (Below w.heap.size w wr.drew) := show Below _ _ _ from ⟨BB.out.os, BB.out.tape, BB.out.output, BB.out.size, BB.out.block⟩
        go_region_held3 (fun w' => w'.cell? ⟨b, off + j * 3 + 1, none⟩ = some (.int .u64 (z.v : Int)) ∧ w'.cell? ⟨b, off + j * 3, none⟩ = some (.int .i64 z.size))
          (first
            | exact ⟨y1, y0⟩
            | exact ⟨x1, x0⟩)
          (first
            | (go_at_call 12
               have hcc := pk_num _ z.v z.size w.heap.size F wr.drew KD.out FIT.out.2.1 FIT.out.1
               refine hcc.mono ?_
               clear hcc
               rintro e w1 ⟨rfl, F1, hp, ho, hF⟩
               have H1 := Lib.hid (high_next HH.out BD.out.size hF)
               have B1 := Lib.hid (only_below BD.out HH.out ho)
               rw [HS.out] at hp
               have K1 := Lib.hid hp
               have y0 := (B1.out.cell (p := ⟨b, off + j * 3, none⟩) hb).trans X.out.1
               have y1 := (B1.out.cell (p := ⟨b, off + j * 3 + 1, none⟩) hb).trans X.out.2.1
               clear hp ho hF))
        clear x0 x1 x2 y0 y1 KD BD
        go_wp2_with fail
        go_roundw
        case rel => exact ⟨j + 1, F1, by omega, by go_num, K1, H1, B1⟩
        case measure => simp [intOf]; omega
    · obtain rfl : j = l.length := by omega
      have u0 : decide ((l.length : Int) < (l.length : Int)) = false := decide_eq_false (by omega)
      rw [List.take_length] at KK
      obtain ⟨st, hst⟩ : ∃ st, st = runP pst0 l := ⟨_, rfl⟩
      rw [← hst] at KK
      go_wp2_with fail
      have hcc := pk_done st w.heap.size F wr KK.out
      refine hcc.mono ?_
      clear hcc
      rintro e w1 ⟨rfl, F1, hp, ho, hF⟩
      have B1 := Lib.hid (only_below BB.out HH.out ho)
      clear hp ho hF KK HH BB
      by_cases he : st.e = 0
      · have he' : (st.e != 0) = false := by rw [he]; rfl
        have TS : Hid (st.told = encL l) := show _ = _ by
          unfold PSt.told
          rw [if_pos he, hst, (run_ok l pst0 (by rw [← hst]; exact he)).2.1]
          exact ByteArray.empty_append
        have FB := Lib.hid (run_ok l pst0 (by rw [← hst]; exact he)).2.2
        rw [TS.out]
        have ZL : Hid ((encL l).size ≤ 60000) := show _ ≤ _ by
          rw [← TS.out]
          unfold PSt.told
          rw [if_pos he, hst]
          exact run_size l pst0 (Nat.zero_le _)
        clear hst
        go_wp2_with fail
        have hcc := op_open (encL l) w1 (by have := ZL.out; omega)
        refine hcc.mono ?_
        clear hcc
        rintro e w2 ⟨a, rfl, F2, hp, hbo, hF⟩
        have KO := Lib.hid hp
        have H2 := Lib.hid (fun i hi => Nat.le_trans B1.out.size (hF i hi))
        have B2 := Lib.hid (B1.out.trans (hbo.mono B1.out.size))
        clear hp hbo hF B1
        go_wp2_with fail
        go_loopw [8] (fun t wr => ∃ (j : Nat) (F : Nat → Prop), j ≤ l.length ∧ t = .int .i64 j ∧ Hid (OpAt wr F (.pointer (some a)) ⟨encL l, (encL (l.take j)).size, false⟩) ∧ Hid (∀ i, F i → w.heap.size ≤ i) ∧ Hid (Below w.heap.size w wr)) (fun t _ => l.length - (intOf t).toNat)
        case atStart => exact ⟨0, F2, Nat.zero_le _, rfl, KO, H2, B2⟩
        case round =>
          obtain ⟨j, F, hj, rfl, KK, HH, BB⟩ := hrel
          by_cases hlt : j < l.length
          · obtain ⟨b, off, rfl, hb, hq⟩ := HC.out (by omega)
            have X := Lib.hid (hq j hlt)
            have FIT := HFIT.out _ (item_in hlt)
            have SML := Lib.hid (HF.out _ (item_in hlt))
            have u0 : decide ((j : Int) < (l.length : Int)) = true := decide_eq_true (by omega)
            have j0 : (0 : Int) ≤ j := by omega
            clear hq
            have FZ := FB.out _ (item_in hlt)
            have OT := Lib.hid (fun h => open_text hlt h FZ)
            have ON := Lib.hid (fun h => open_num hlt h FZ)
            clear FZ
            generalize l.getD j it0 = z at *
            have FIT := Lib.hid FIT
            have x0 := (BB.out.cell (p := ⟨b, off + j * 3, none⟩) hb).trans X.out.1
            have x1 := (BB.out.cell (p := ⟨b, off + j * 3 + 1, none⟩) hb).trans X.out.2.1
            have x2 := (BB.out.cell (p := ⟨b, off + j * 3 + 2, none⟩) hb).trans X.out.2.2
            by_cases hz : z.size = 0
            · have u1 : (z.size == 0) = true := by rw [beq_iff_eq]; exact hz
              have E := Lib.hid (OT.out hz)
              go_wp2_with fail
              have KD := Lib.hid (KK.out.keep (w' := wr.drew) (Nat.le_refl _) (fun _ _ => rfl))
              have BD : Hid (Below w.heap.size w wr.drew) := show Below _ _ _ from ⟨BB.out.os, BB.out.tape, BB.out.output, BB.out.size, BB.out.block⟩
              go_region_held3 (fun w' => w'.cell? ⟨b, off + j * 3 + 2, none⟩ = some (.string z.s))
                (first
                  | exact y2
                  | exact x2)
                (first
                  | (go_at_call 17
                     have hcc := op_text _ 65535 a F wr.drew KD.out (by decide)
                     rw [E.out] at hcc
                     refine hcc.mono ?_
                     clear hcc
                     rintro e w1 ⟨rfl, F1, hp, ho, hF⟩
                     have H1 := Lib.hid (high_next HH.out BD.out.size hF)
                     have B1 := Lib.hid (only_below BD.out HH.out ho)
                     have K1 := Lib.hid hp
                     have y0 := (B1.out.cell (p := ⟨b, off + j * 3, none⟩) hb).trans X.out.1
                     have y1 := (B1.out.cell (p := ⟨b, off + j * 3 + 1, none⟩) hb).trans X.out.2.1
                     have y2 := (B1.out.cell (p := ⟨b, off + j * 3 + 2, none⟩) hb).trans X.out.2.2
                     clear hp ho hF))
              all_goals
                clear x0 x1 x2 y0 y1 y2 KD BD
                go_wp2_with fail
                go_roundw
                case rel => exact ⟨j + 1, F1, by omega, by go_num, K1, H1, B1⟩
                case measure => simp [intOf]; omega
            · have u1 : (z.size == 0) = false := by rw [beq_eq_false_iff_ne]; exact hz
              have E := Lib.hid (ON.out hz)
              go_wp2_with fail
              have KD := Lib.hid (KK.out.keep (w' := wr.drew) (Nat.le_refl _) (fun _ _ => rfl))
              have BD : Hid (Below w.heap.size w wr.drew) := show Below _ _ _ from ⟨BB.out.os, BB.out.tape, BB.out.output, BB.out.size, BB.out.block⟩
              go_region_held3 (fun w' => w'.cell? ⟨b, off + j * 3 + 1, none⟩ = some (.int .u64 (z.v : Int)) ∧ w'.cell? ⟨b, off + j * 3, none⟩ = some (.int .i64 z.size))
                (first
                  | exact ⟨y1, y0⟩
                  | exact ⟨x1, x0⟩)
                (first
                  | (go_at_call 19
                     have hcc := op_num _ z.size a F wr.drew KD.out FIT.out.1
                     rw [E.out] at hcc
                     refine hcc.mono ?_
                     clear hcc
                     rintro e w1 ⟨rfl, F1, hp, ho, hF⟩
                     have H1 := Lib.hid (high_next HH.out BD.out.size hF)
                     have B1 := Lib.hid (only_below BD.out HH.out ho)
                     have K1 := Lib.hid hp
                     have y0 := (B1.out.cell (p := ⟨b, off + j * 3, none⟩) hb).trans X.out.1
                     have y1 := (B1.out.cell (p := ⟨b, off + j * 3 + 1, none⟩) hb).trans X.out.2.1
                     have y2 := (B1.out.cell (p := ⟨b, off + j * 3 + 2, none⟩) hb).trans X.out.2.2
                     clear hp ho hF))
              all_goals
                clear x0 x1 x2 y0 y1 y2 KD BD
                go_wp2_with fail
                go_roundw
                case rel => exact ⟨j + 1, F1, by omega, by go_num, K1, H1, B1⟩
                case measure => simp [intOf]; omega
          · obtain rfl : j = l.length := by omega
            have u0 : decide ((l.length : Int) < (l.length : Int)) = false := decide_eq_false (by omega)
            rw [List.take_length] at KK
            go_wp2_with fail
            have hcc := op_done _ a F wr KK.out
            rw [show (!(⟨encL l, (encL l).size, false⟩ : OSt).bad && decide ((⟨encL l, (encL l).size, false⟩ : OSt).at_ = (⟨encL l, (encL l).size, false⟩ : OSt).s.size)) = true by rw [decide_eq_true (by rfl)]; rfl] at hcc
            refine hcc.mono ?_
            clear hcc
            rintro e w3 ⟨rfl, F3, hp, ho, hF⟩
            have B3 := Lib.hid (only_below BB.out HH.out ho)
            clear hp ho hF
            go_wp2_with fail
            refine (wakes_pack _).mono ?_
            rintro e wk ⟨rfl, hbk⟩
            have BB := Lib.hid (B3.out.trans (hbk.mono B3.out.size))
            clear hbk
            go_wp2_with fail
            go_ret
            exact ⟨rfl, BB.out⟩
      · have he' : (st.e != 0) = true := by rw [bne_iff_ne]; exact he
        have TS : Hid (st.told = ⟨#[]⟩) := show _ = _ by unfold PSt.told; rw [if_neg he]
        rw [TS.out]
        clear hst
        go_wp2_with fail
        refine (wakes_pack _).mono ?_
        rintro e wk ⟨rfl, hbk⟩
        have BB := Lib.hid (B1.out.trans (hbk.mono B1.out.size))
        clear hbk
        go_wp2_with fail
        go_ret
        exact ⟨rfl, BB.out⟩
theorem packBack_not (l : List It) (v : Value) (w : World) (hv : Its w w.heap.size v l) (hf : fairB l = false) :
    Calls Try.prog 5 #[v] w fun e w' => e = .returned (.bool true) ∧ Below w.heap.size w w' := by
  have R := r_fair l v _ w hv
  rw [hf] at R
  obtain ⟨A, c, rfl⟩ := hv.shape
  clear hv
  go_enter Try.func5, Try.ntmps5
  go_wp2_with fail
  refine R.mono ?_
  rintro e w1 ⟨rfl, n, rfl⟩
  go_wp2_with fail
  refine (wakes_pack _).mono ?_
  rintro e wk ⟨rfl, hb⟩
  have BB : Hid (Below w.heap.size w wk) := show Below _ _ _ from ⟨hb.os, hb.tape, hb.output, hb.size, hb.block⟩
  clear hb
  go_wp2_with fail
  go_ret
  exact ⟨rfl, BB.out⟩
theorem packBack_walk (l : List It) (v : Value) (w : World) (hv : Its w w.heap.size v l) (hfit : ∀ z ∈ l, z.Fit) :
    Calls Try.prog 5 #[v] w fun e w' => e = .returned (.bool true) ∧ Below w.heap.size w w' := by
  cases hf : fairB l with
  | true => exact packBack_fair l v w hv hfit hf
  | false => exact packBack_not l v w hv hf

set_option maxRecDepth 100000 in
theorem packBack_lifted (os : Os) (started : os.Started) (H : Type) (enc : TypeId × Value → H) :
    ReturnsInHanded {} Try.checked os 5 .any (Rows.packBackSpec.pre6 enc Try.prog Try.f5 Rows.packBackRow.domain false) (Rows.packBackSpec.post enc Try.prog Try.f5 false true false false) := by
  refine Shell.law_lifted (C := Try.checked) (tb := 4) (by kernel_rfl) started (by kernel_rfl) Try.func5
    (ChangeSpec.witness6 (enc := enc) (C := Try.checked) false ⟨#[], #[Value.slice none 0 0], []⟩ 8 (by kernel_rfl) (by kernel_rfl) (by kernel_rfl) (by kernel_rfl))
    (by kernel_rfl) (by kernel_rfl) rfl rfl Try.underlying4 ?_
  intro W base args ds p hval0 hA0
  have hval : ∀ (j : Nat) t v, Try.f5.params[j]? = some t → args[j]? = some v → Value.okWide Try.prog W .any base t v := hval0
  have hA : DataW.TrodAll enc Try.prog W 0 (fun _ => true) true Try.f5.params.toList args.toList ds p := hA0
  clear hval0 hA0
  rw [Try.params5] at hA hval
  obtain ⟨v0, vs0, d0, ds0, p0, q0, hargs, rfl, rfl, h0, r0⟩ := trodAll_cons hA
  obtain ⟨rfl, rfl, rfl⟩ := trodAll_nil r0
  obtain rfl : args = #[v0] := by cases args; simp_all
  refine ⟨rfl, ?_⟩
  obtain ⟨l, hl, fitl⟩ := Items.open_items Try.underlying22 Try.underlying35 (by kernel_rfl) rfl rfl rfl rfl rfl rfl Try.underlying3 Try.underlying33 Try.underlying9 (by kernel_rfl) (by kernel_rfl) (by kernel_rfl) (hval 0 22 v0 rfl rfl) h0
  exact packBack_walk l v0 W hl fitl

theorem packBack_over : Rows.packBackRow.holds Try.pinned (OpenSpec.ofChange Rows.packBackSpec) :=
  OpenClaim.holds_of_wide 5 Try.f5 rfl rfl rfl rfl rfl rfl rfl ⟨rfl, rfl, rfl, rfl, rfl⟩ rfl rfl rfl rfl rfl (by kernel_rfl) Try.func5 (by kernel_rfl)
    (of_decide_eq_true (by kernel_rfl)) (by unfold Func.isWrapper; first | (rw [if_pos (by decide +kernel)]; kernel_rfl) | (rw [if_neg (by decide +kernel)]; exact ⟨rfl, rfl⟩))
    (fun os st H enc _ => packBack_lifted os st H enc)

/-- The statement. -/
theorem packBack_proved : Rows.PackBackSaid := packBack_over
end Go.Proofs.Ytndmimmkjccgmaa.Law
