/- What nobody made packs nothing, and opens nothing; no condition. -/
import Derived.Test.YtndmimmkjccgmaaShell
import Derived.Test.YtndmimmkjccgmaaPackWakes
import Derived.Deep.RegionHeld3
import Derived.Deep.DeepCutAuto
import Derived.ChangeMaps5
namespace Go.Proofs.Ytndmimmkjccgmaa.Law
open Go.ChangeShapes Go.WideShapes Go.ChangeAt Go.RowKit Pack Items

set_option maxHeartbeats 1000000 in
theorem packNone_short (z : It) (w : World) (hz : z.Fit) (hs : z.s.size ≤ 130000) :
    Calls Try.prog 6 #[.agg #[.int .i64 z.size, .int .u64 (z.v : Int), .string z.s]] w fun e w' => e = .returned (.bool true) ∧ Below w.heap.size w w' := by
  have t0 : decide ((130000 : Int) < (z.s.size : Int)) = false := decide_eq_false (by omega)
  have HZ := Lib.hid hz
  have HS := Lib.hid hs
  clear hz
  go_enter Try.func6, Try.ntmps6
  go_wp2_with fail
  obtain ⟨wa, hwa⟩ : ∃ wa, wa = w.alloc (.cells #[.int .i64 z.size, .int .u64 (z.v : Int), .string z.s] 35) := ⟨_, rfl⟩
  rw [← hwa]
  have hw : w.heap.size < wa.heap.size := by rw [hwa]; simp
  have c0 : wa.cell? ⟨w.heap.size, 0, none⟩ = some (.int .i64 z.size) := by rw [hwa]; exact World.cell?_alloc_new ..
  have c1 : wa.cell? ⟨w.heap.size, 1, none⟩ = some (.int .u64 (z.v : Int)) := by rw [hwa]; exact World.cell?_alloc_new ..
  have c2 : wa.cell? ⟨w.heap.size, 2, none⟩ = some (.string z.s) := by rw [hwa]; exact World.cell?_alloc_new ..
  have X0 := Lib.hid (And.intro c0 (And.intro c1 c2))
  have B0 : Hid (Below w.heap.size w wa) := show Below _ _ _ by rw [hwa]; exact (Below.refl _ _).alloc (Nat.le_refl _) _
  have BB := Lib.hid (Below.refl wa.heap.size wa)
  clear hwa
  have hcc := pk_nil_num z.v z.size wa HZ.out.2.1 HZ.out.1
  refine hcc.mono ?_
  clear hcc
  rintro e k1 ⟨rfl, hb⟩
  have BB := Lib.hid (BB.out.trans (hb.mono BB.out.size))
  clear hb c0 c1 c2
  have c0 := (BB.out.cell (p := ⟨w.heap.size, 0, none⟩) hw).trans X0.out.1
  have c1 := (BB.out.cell (p := ⟨w.heap.size, 1, none⟩) hw).trans X0.out.2.1
  have c2 := (BB.out.cell (p := ⟨w.heap.size, 2, none⟩) hw).trans X0.out.2.2
  go_wp2_with fail
  have hcc := pk_nil_text z.s k1 (by have := HS.out; omega)
  refine hcc.mono ?_
  clear hcc
  rintro e k2 ⟨rfl, hb⟩
  have BB := Lib.hid (BB.out.trans (hb.mono BB.out.size))
  clear hb c0 c1 c2
  have c0 := (BB.out.cell (p := ⟨w.heap.size, 0, none⟩) hw).trans X0.out.1
  have c1 := (BB.out.cell (p := ⟨w.heap.size, 1, none⟩) hw).trans X0.out.2.1
  have c2 := (BB.out.cell (p := ⟨w.heap.size, 2, none⟩) hw).trans X0.out.2.2
  go_wp2_with fail
  have hcc := pk_nil_done k2
  refine hcc.mono ?_
  clear hcc
  rintro e k3 ⟨rfl, hb⟩
  have BB := Lib.hid (BB.out.trans (hb.mono BB.out.size))
  clear hb c0 c1 c2
  have c0 := (BB.out.cell (p := ⟨w.heap.size, 0, none⟩) hw).trans X0.out.1
  have c1 := (BB.out.cell (p := ⟨w.heap.size, 1, none⟩) hw).trans X0.out.2.1
  have c2 := (BB.out.cell (p := ⟨w.heap.size, 2, none⟩) hw).trans X0.out.2.2
  go_wp2_with fail
  have hcc := op_nil_num z.size k3 HZ.out.1
  refine hcc.mono ?_
  clear hcc
  rintro e k4 ⟨rfl, hb⟩
  have BB := Lib.hid (BB.out.trans (hb.mono BB.out.size))
  clear hb c0 c1 c2
  have c0 := (BB.out.cell (p := ⟨w.heap.size, 0, none⟩) hw).trans X0.out.1
  have c1 := (BB.out.cell (p := ⟨w.heap.size, 1, none⟩) hw).trans X0.out.2.1
  have c2 := (BB.out.cell (p := ⟨w.heap.size, 2, none⟩) hw).trans X0.out.2.2
  go_wp2_with fail
  have hcc := op_nil_text 9 k4 (by decide)
  refine hcc.mono ?_
  clear hcc
  rintro e k5 ⟨rfl, hb⟩
  have BB := Lib.hid (BB.out.trans (hb.mono BB.out.size))
  clear hb c0 c1 c2
  have c0 := (BB.out.cell (p := ⟨w.heap.size, 0, none⟩) hw).trans X0.out.1
  have c1 := (BB.out.cell (p := ⟨w.heap.size, 1, none⟩) hw).trans X0.out.2.1
  have c2 := (BB.out.cell (p := ⟨w.heap.size, 2, none⟩) hw).trans X0.out.2.2
  go_wp2_with fail
  have hcc := op_nil_done k5
  refine hcc.mono ?_
  clear hcc
  rintro e k6 ⟨rfl, hb⟩
  have BB := Lib.hid (BB.out.trans (hb.mono BB.out.size))
  clear hb c0 c1 c2
  have c0 := (BB.out.cell (p := ⟨w.heap.size, 0, none⟩) hw).trans X0.out.1
  have c1 := (BB.out.cell (p := ⟨w.heap.size, 1, none⟩) hw).trans X0.out.2.1
  have c2 := (BB.out.cell (p := ⟨w.heap.size, 2, none⟩) hw).trans X0.out.2.2
  go_wp2_with fail
  refine (wakes_pack _).mono ?_
  rintro e wk ⟨rfl, hb⟩
  have BB := Lib.hid (B0.out.trans ((BB.out.trans (hb.mono BB.out.size)).mono B0.out.size))
  clear hb
  go_wp2_with fail
  go_ret
  exact ⟨rfl, BB.out⟩
theorem packNone_long (z : It) (w : World) (hs : 130000 < z.s.size) :
    Calls Try.prog 6 #[.agg #[.int .i64 z.size, .int .u64 (z.v : Int), .string z.s]] w fun e w' => e = .returned (.bool true) ∧ Below w.heap.size w w' := by
  have t0 : decide ((130000 : Int) < (z.s.size : Int)) = true := decide_eq_true (by omega)
  go_enter Try.func6, Try.ntmps6
  go_wp2_with fail
  refine (wakes_pack _).mono ?_
  rintro e wk ⟨rfl, hb⟩
  have BB : Hid (Below w.heap.size w wk) := show Below _ _ _ from ((Below.refl _ w).alloc (Nat.le_refl _) _).trans (hb.mono (by simp))
  clear hb
  go_wp2_with fail
  go_ret
  exact ⟨rfl, BB.out⟩
theorem packNone_walk (z : It) (w : World) (hz : z.Fit) :
    Calls Try.prog 6 #[.agg #[.int .i64 z.size, .int .u64 (z.v : Int), .string z.s]] w fun e w' => e = .returned (.bool true) ∧ Below w.heap.size w w' := by
  by_cases hs : 130000 < z.s.size
  · exact packNone_long z w hs
  · exact packNone_short z w hz (by omega)

set_option maxRecDepth 100000 in
theorem packNone_lifted (os : Os) (started : os.Started) (H : Type) (enc : TypeId × Value → H) :
    ReturnsInHanded {} Try.checked os 6 .any (Rows.packNoneSpec.pre6 enc Try.prog Try.f6 Rows.packNoneRow.domain false) (Rows.packNoneSpec.post enc Try.prog Try.f6 false true false false) := by
  refine Shell.law_lifted (C := Try.checked) (tb := 4) (by kernel_rfl) started (by kernel_rfl) Try.func6
    (ChangeSpec.witness6 (enc := enc) (C := Try.checked) false ⟨#[], #[.agg #[.int .i64 0, .int .u64 0, .string ⟨#[]⟩]], []⟩ 8 (by kernel_rfl) (by kernel_rfl) (by kernel_rfl) (by kernel_rfl))
    (by kernel_rfl) (by kernel_rfl) rfl rfl Try.underlying4 ?_
  intro W base args ds p hval0 hA0
  have hval : ∀ (j : Nat) t v, Try.f6.params[j]? = some t → args[j]? = some v → Value.okWide Try.prog W .any base t v := hval0
  have hA : DataW.TrodAll enc Try.prog W 0 (fun _ => true) true Try.f6.params.toList args.toList ds p := hA0
  clear hval0 hA0
  rw [Try.params6] at hA hval
  obtain ⟨v0, vs0, d0, ds0, p0, q0, hargs, rfl, rfl, h0, r0⟩ := trodAll_cons hA
  obtain ⟨rfl, rfl, rfl⟩ := trodAll_nil r0
  obtain rfl : args = #[v0] := by cases args; simp_all
  refine ⟨rfl, ?_⟩
  obtain ⟨z, rfl, fitz⟩ := Items.open_item Try.underlying35 (by kernel_rfl) rfl rfl rfl rfl rfl rfl Try.underlying3 Try.underlying33 Try.underlying9 (by kernel_rfl) (by kernel_rfl) (by kernel_rfl) (hval 0 35 v0 rfl rfl) h0
  exact packNone_walk z W fitz

theorem packNone_over : Rows.packNoneRow.holds Try.pinned (OpenSpec.ofChange Rows.packNoneSpec) :=
  OpenClaim.holds_of_wide 6 Try.f6 rfl rfl rfl rfl rfl rfl rfl ⟨rfl, rfl, rfl, rfl, rfl⟩ rfl rfl rfl rfl rfl (by kernel_rfl) Try.func6 (by kernel_rfl)
    (of_decide_eq_true (by kernel_rfl)) (by unfold Func.isWrapper; first | (rw [if_pos (by decide +kernel)]; kernel_rfl) | (rw [if_neg (by decide +kernel)]; exact ⟨rfl, rfl⟩))
    (fun os st H enc _ => packNone_lifted os st H enc)

/-- The statement. -/
theorem packNone_proved : Rows.PackNoneSaid := packNone_over
end Go.Proofs.Ytndmimmkjccgmaa.Law
