/- A disk that nobody made has no sectors; no condition. -/
import Derived.Test.YtcicpdakefhmfaaGA
import Derived.Test.YtcicpdakefhmfaaGDl
import Derived.Deep.RegionHeld3
import Derived.Deep.DeepCutAuto
import Derived.ChangeMaps5
namespace Go.Proofs.Ytcicpdakefhmfaa.Law
open Go.ChangeShapes Go.WideShapes Go.ChangeAt Go.RowKit Go.Deep Disk Stp Nul

theorem below_on {a b c : World} (h : Below a.heap.size a b) (k : Below b.heap.size b c) : Below a.heap.size a c := h.trans (k.mono h.size)
theorem below_one (w : World) (o : Obj) : Below w.heap.size w (w.alloc o) := (Below.refl _ _).alloc (Nat.le_refl _) o
theorem one_step (w : World) (z : St) : Sts (w.alloc (.cells #[.int .i64 z.kind, .int .i64 z.n, .int .i64 z.part, .string z.s] 33)) (w.heap.size + 1) (.slice (some ⟨w.heap.size, 0, none⟩) 1 1) [z] :=
  ⟨_, _, rfl, (show (1 : Nat) ≤ 9223372036854775807 by decide), ⟨fun h => (by cases h), Nat.le_refl _⟩, fun _ => ⟨w.heap.size, 0, rfl, Nat.lt_succ_self _, fun i hi => by
    obtain rfl : i = 0 := by have : i < 1 := hi; omega
    exact ⟨World.cell?_alloc_new .., World.cell?_alloc_new .., World.cell?_alloc_new .., World.cell?_alloc_new ..⟩⟩⟩
theorem fair_one (z : St) : fairB [z] = decide (z.s.size ≤ 2000) := by
  unfold fairB
  simp
theorem disk_none (z : St) (w : World) (_ : z.Fit) :
    Calls Try.prog 5 #[.agg #[.int .i64 z.kind, .int .i64 z.n, .int .i64 z.part, .string z.s]] w fun e w' => e = .returned (.bool true) ∧ Below w.heap.size w w' := by
  have FR : Hid (∀ W : World, Calls Try.prog 6 #[.slice (some ⟨W.heap.size, 0, none⟩) 1 1] (W.alloc (.cells #[.int .i64 z.kind, .int .i64 z.n, .int .i64 z.part, .string z.s] 33)) fun e w' => e = .returned (.bool (decide (z.s.size ≤ 2000))) ∧ (W.alloc (.cells #[.int .i64 z.kind, .int .i64 z.n, .int .i64 z.part, .string z.s] 33)) = w') := fun W => by
    have h := r_fair [z] _ _ _ (one_step W z)
    rwa [fair_one] at h
  go_enter Try.func5, Try.ntmps5
  go_wp2_with fail
  obtain ⟨wa, hwa⟩ : ∃ wa, wa = w.alloc (.cells #[.int .i64 z.kind, .int .i64 z.n, .int .i64 z.part, .string z.s] 33) := ⟨_, rfl⟩
  have hsz : w.heap.size + 1 = wa.heap.size := by rw [hwa]; simp
  have hlt : w.heap.size < wa.heap.size := by omega
  have c1 : wa.cell? ⟨w.heap.size, 1, none⟩ = some (.int .i64 z.n) := by rw [hwa]; exact World.cell?_alloc_new ..
  have c2 : wa.cell? ⟨w.heap.size, 2, none⟩ = some (.int .i64 z.part) := by rw [hwa]; exact World.cell?_alloc_new ..
  have c3 : wa.cell? ⟨w.heap.size, 3, none⟩ = some (.string z.s) := by rw [hwa]; exact World.cell?_alloc_new ..
  have HC : Hid (∀ W, Below wa.heap.size wa W → W.cell? ⟨w.heap.size, 1, none⟩ = some (.int .i64 z.n) ∧ W.cell? ⟨w.heap.size, 2, none⟩ = some (.int .i64 z.part) ∧ W.cell? ⟨w.heap.size, 3, none⟩ = some (.string z.s)) := fun W hW =>
    ⟨(hW.cell (p := ⟨w.heap.size, 1, none⟩) hlt).trans c1, (hW.cell (p := ⟨w.heap.size, 2, none⟩) hlt).trans c2, (hW.cell (p := ⟨w.heap.size, 3, none⟩) hlt).trans c3⟩
  have B0 : Hid (Below w.heap.size w wa) := show Below _ _ _ by rw [hwa]; exact (Below.refl _ _).alloc (Nat.le_refl _) _
  rw [← hwa, hsz]
  refine (FR.out wa).mono ?_
  rintro e wb ⟨rfl, rfl⟩
  have BB := Lib.hid (below_one wa (.cells #[.int .i64 z.kind, .int .i64 z.n, .int .i64 z.part, .string z.s] 33))
  generalize wa.alloc (.cells #[.int .i64 z.kind, .int .i64 z.n, .int .i64 z.part, .string z.s] 33) = wb at *
  clear hsz c1 c2 c3 hwa FR
  by_cases hs : z.s.size ≤ 2000
  · have HS : Hid (z.s.size ≤ 1000000) := (show z.s.size ≤ 1000000 from by omega)
    rw [decide_eq_true hs]
    clear hs
    obtain ⟨b1, b2, b3⟩ := HC.out wb BB.out
    go_wp2_with fail
    refine (k_nil_start wb).mono ?_
    rintro e w1 ⟨rfl, hb⟩
    have B1 := Lib.hid (below_on BB.out hb)
    clear hb b1 b2 b3
    obtain ⟨b1, b2, b3⟩ := HC.out w1 B1.out
    go_wp2_with fail
    refine (k_nil_read z.n w1).mono ?_
    rintro e w2 ⟨rfl, hb⟩
    have B2 := Lib.hid (below_on B1.out hb)
    clear hb b1 b2 b3
    obtain ⟨b1, b2, b3⟩ := HC.out w2 B2.out
    go_wp2_with fail
    refine (k_nil_write z.n z.s w2 HS.out).mono ?_
    rintro e w3 ⟨rfl, hb⟩
    have B3 := Lib.hid (below_on B2.out hb)
    clear hb b1 b2 b3
    obtain ⟨b1, b2, b3⟩ := HC.out w3 B3.out
    go_wp2_with fail
    refine (k_nil_arm z.n z.part w3).mono ?_
    rintro e w4 ⟨rfl, hb⟩
    have B4 := Lib.hid (below_on B3.out hb)
    clear hb b1 b2 b3
    obtain ⟨b1, b2, b3⟩ := HC.out w4 B4.out
    go_wp2_with fail
    refine (k_nil_dead w4).mono ?_
    rintro e w5 ⟨rfl, hb⟩
    have B5 := Lib.hid (below_on B4.out hb)
    clear hb b1 b2 b3
    obtain ⟨b1, b2, b3⟩ := HC.out w5 B5.out
    go_wp2_with fail
    refine (k_nil_size w5).mono ?_
    rintro e w6 ⟨rfl, hb⟩
    have B6 := Lib.hid (below_on B5.out hb)
    clear hb b1 b2 b3
    obtain ⟨b1, b2, b3⟩ := HC.out w6 B6.out
    go_wp2_with fail
    refine (k_nil_writes w6).mono ?_
    rintro e w7 ⟨rfl, hb⟩
    have B7 := Lib.hid (below_on B6.out hb)
    clear hb b1 b2 b3
    obtain ⟨b1, b2, b3⟩ := HC.out w7 B7.out
    go_wp2_with fail
    refine (wakes_disk w7).mono ?_
    rintro e w8 ⟨rfl, hb⟩
    have B8 := Lib.hid (below_on B7.out hb)
    clear hb b1 b2 b3
    obtain ⟨b1, b2, b3⟩ := HC.out w8 B8.out
    go_wp2_with fail
    go_ret
    exact ⟨rfl, below_on B0.out B8.out⟩
  · rw [decide_eq_false hs]
    go_wp2_with fail
    refine (wakes_disk wb).mono ?_
    rintro e w1 ⟨rfl, hb⟩
    have B1 := Lib.hid (below_on BB.out hb)
    clear hb
    go_wp2_with fail
    go_ret
    exact ⟨rfl, below_on B0.out B1.out⟩

set_option maxRecDepth 100000 in
theorem diskNone_lifted (os : Os) (started : os.Started) (H : Type) (enc : TypeId × Value → H) :
    ReturnsInHanded {} Try.checked os 5 .any (Rows.diskNoneSpec.pre6 enc Try.prog Try.f5 Rows.diskNoneRow.domain false) (Rows.diskNoneSpec.post enc Try.prog Try.f5 false true false false) := by
  refine Shell.law_lifted (C := Try.checked) (tb := 4) (by kernel_rfl) started (by kernel_rfl) Try.func5
    (ChangeSpec.witness6 (enc := enc) (C := Try.checked) false ⟨#[], #[.agg #[.int .i64 0, .int .i64 0, .int .i64 0, .string ⟨#[]⟩]], []⟩ 8 (by kernel_rfl) (by kernel_rfl) (by kernel_rfl) (by kernel_rfl))
    (by kernel_rfl) (by kernel_rfl) rfl rfl Try.underlying4 ?_
  intro W base args ds p hval0 hA0
  have hval : ∀ (j : Nat) t v, Try.f5.params[j]? = some t → args[j]? = some v → Value.okWide Try.prog W .any base t v := hval0
  have hA : DataW.TrodAll enc Try.prog W 0 (fun _ => true) true Try.f5.params.toList args.toList ds p := hA0
  clear hval0 hA0
  rw [Try.params5] at hA hval
  obtain ⟨v0, vs0, d0, ds0, p0, q0, hargs, rfl, rfl, h0, r0⟩ := trodAll_cons hA
  obtain ⟨rfl, rfl, rfl⟩ := trodAll_nil r0
  obtain rfl : args = #[v0] := by cases args; simp_all
  refine ⟨rfl, ?_⟩
  obtain ⟨z, rfl, fitz⟩ := open_step (t := 33) (ti := 3) (ts := 9) Try.underlying33 (by kernel_rfl) rfl rfl rfl rfl rfl rfl rfl rfl Try.underlying3 Try.underlying9 (by kernel_rfl) (by kernel_rfl) (hval 0 33 v0 rfl rfl) h0
  exact disk_none z W fitz

theorem diskNone_over : Rows.diskNoneRow.holds Try.pinned (OpenSpec.ofChange Rows.diskNoneSpec) :=
  OpenClaim.holds_of_wide 5 Try.f5 rfl rfl rfl rfl rfl rfl rfl ⟨rfl, rfl, rfl, rfl, rfl⟩ rfl rfl rfl rfl rfl (by kernel_rfl) Try.func5 (by kernel_rfl)
    (of_decide_eq_true (by kernel_rfl)) (by unfold Func.isWrapper; first | (rw [if_pos (by decide +kernel)]; kernel_rfl) | (rw [if_neg (by decide +kernel)]; exact ⟨rfl, rfl⟩))
    (fun os st H enc _ => diskNone_lifted os st H enc)

/-- The statement. -/
theorem diskNone_proved : Rows.DiskNoneSaid := diskNone_over
end Go.Proofs.Ytcicpdakefhmfaa.Law
