/- income's Good, Line, Free and Ask answer what the document's own answer, at any table, family and income, and leave the table as it was; no condition. -/
import Derived.Test.YtldcocckfemgbaaShell
import Derived.Test.YtldcocckfemgbaaIncomeWakes
import Derived.Test.YtldcocckfemgbaaSum
import Derived.Deep.QuietTactic
import Derived.BigQuiet
namespace Go.Proofs.Ytldcocckfemgbaa.Law
open Go.ChangeShapes Go.WideShapes Go.ChangeAt Go.RowKit Bits Money Slice Income

theorem tells_long (zs : List Int) (f n : Int) (v : Value) (w : World) (hv : Ints w w.heap.size .i64 v zs) (hlong : 100 < zs.length) :
    Calls Try.prog 3 #[v, .int .i64 f, .int .i64 n] w fun e w' => e = .returned (.bool true) ∧ Below w.heap.size w w' := by
  obtain ⟨A, c, rfl, hl, -, -⟩ := hv
  go_enter Try.func3, Try.ntmps3
  go_wp2_with fail
  refine (wakes_income _).mono ?_
  rintro e w5 ⟨rfl, hb⟩
  have HB := Lib.hid hb
  clear hb
  go_wp2_with fail
  go_ret
  exact ⟨rfl, HB.out⟩
theorem i64_info : (Try.prog.info? 2).map (fun i => (i.zero, i.size, i.bytes)) = some (some (.int .i64 0), 1, 8) := by kernel_rfl
theorem info_parts {P : Program} {t : TypeId} {z : Value} {s b : Nat} (h : (P.info? t).map (fun i => (i.zero, i.size, i.bytes)) = some (some z, s, b)) : ∃ i, P.info? t = some i ∧ i.zero = some z ∧ i.size = s ∧ i.bytes = b := by
  cases e : P.info? t with
  | none => rw [e] at h; cases h
  | some i => rw [e] at h; injection h with h; injection h with h1 h2; injection h2 with h2 h3; exact ⟨i, rfl, h1, h2, h3⟩
set_option maxHeartbeats 1000000 in
theorem tells_short (zs : List Int) (f n : Int) (v : Value) (w : World) (hv : Ints w w.heap.size .i64 v zs) (hshort : zs.length ≤ 100) :
    Calls Try.prog 3 #[v, .int .i64 f, .int .i64 n] w fun e w' => e = .returned (.bool true) ∧ Below w.heap.size w w' := by
  have K1 := Lib.hid (fun u B W g => Income.line_any zs f u B W g)
  have K2 := Lib.hid (fun u B W g => RIncome.r_line zs f u B W g)
  have K3 := Lib.hid (fun u B W g => Income.free_any zs f n u B W g)
  have K4 := Lib.hid (fun u B W g => RIncome.r_free zs f n u B W g)
  have K5 := Lib.hid (fun u B W g => Income.ask_any zs f n u B W g)
  have K6 := Lib.hid (fun u B W g => RIncome.r_ask zs f n u B W g)
  have K7 := Lib.hid (fun u B W g => Income.good_any zs u B W g)
  have K8 := Lib.hid (fun u B W g => RIncome.r_good zs u B W g)
  generalize lV zs f = a1 at *
  generalize lE zs f = a2 at *
  generalize fV zs f n = a3 at *
  generalize fE zs f n = a4 at *
  generalize aV zs f n = a5 at *
  generalize aE zs f n = a6 at *
  generalize tabB zs = a7 at *
  have t1 : (a1 == a1) = true := by simp
  have t2 : (a2 == a2) = true := by simp
  have t3 : (a3 == a3) = true := by simp
  have t4 : (a4 == a4) = true := by simp
  have t5 : (a5 == a5) = true := by simp
  have t6 : (a6 == a6) = true := by simp
  have t7 : (a7 == a7) = true := by simp
  obtain ⟨i0, hi0, hz0, hz1, hz2⟩ := info_parts i64_info
  obtain ⟨A, c, rfl, hl, hn, hc⟩ := hv
  have HV : Hid (Ints w w.heap.size .i64 (.slice A zs.length c) zs) := ⟨A, c, rfl, hl, hn, hc⟩
  have HI := Lib.hid hi0
  have HZ0 := Lib.hid hz0
  have HZ1 := Lib.hid hz1
  have HZ2 := Lib.hid hz2
  clear hc hn hi0 hz0 hz1 hz2
  go_enter Try.func3, Try.ntmps3
  go_wp2_with (at_builtin
               refine Slice.wpList_append_ints rfl (.tmp 24) (.tmp 25) _ rfl w.heap.size 2 i0 (.int .i64 0) 8 Try.underlying22 HI.out HZ0.out HZ1.out HZ2.out rfl (.slice (some ⟨w.heap.size, 0, none⟩) 0 0) 0 [] rfl
                 (World.ownsRow_made w #[] 0 (Nat.le_refl _) (by simp) (by simp)) w.heap.size .i64 (.slice A zs.length c) zs rfl (HV.out.alloc (Nat.le_refl _) _) (by unfold maxLen; omega) (by omega) (by simp) ?_
               intro v3 w3 hown hgrow
               have IN : Hid (Ints w3 w3.heap.size .i64 v3 zs) := Slice.Ints.of_own (base := w.heap.size) (e := 2) (n := 0 + zs.length) (Nat.zero_add _) hown
               have HB3 : Hid (Below w.heap.size w w3) := (below_new (Below.refl _ _) _).grown hgrow (below_new (Below.refl _ _) _).size (fun g hg => by
                 have e : w.heap.size = g := by simpa [Value.ownBlock] using hg
                 omega)
               clear hown hgrow)
  have C0 := Lib.hid (Below.refl w3.heap.size w3)
  go_wp2_with fail
  refine (K1.out _ _ _ ((IN.out.below C0.out).more C0.out.size)).mono ?_
  rintro e y1 ⟨rfl, m0, hw⟩
  have C1 : Hid (Below w3.heap.size w3 y1) := show Below _ _ _ by rw [hw]; exact below_drewN C0.out _
  clear hw
  go_wp2_with fail
  refine (K2.out _ _ _ (HV.out.below (below_via HB3.out C1.out))).mono ?_
  rintro e y2 ⟨rfl, hb⟩
  have C2 : Hid (Below w3.heap.size w3 y2) := show Below _ _ _ from below_via C1.out hb
  clear hb
  go_wp2_with fail
  refine (K3.out _ _ _ ((IN.out.below C2.out).more C2.out.size)).mono ?_
  rintro e y3 ⟨rfl, m2, hw⟩
  have C3 : Hid (Below w3.heap.size w3 y3) := show Below _ _ _ by rw [hw]; exact below_drewN C2.out _
  clear hw
  go_wp2_with fail
  refine (K4.out _ _ _ (HV.out.below (below_via HB3.out C3.out))).mono ?_
  rintro e y4 ⟨rfl, hb⟩
  have C4 : Hid (Below w3.heap.size w3 y4) := show Below _ _ _ from below_via C3.out hb
  clear hb
  go_wp2_with fail
  refine (K5.out _ _ _ ((IN.out.below C4.out).more C4.out.size)).mono ?_
  rintro e y5 ⟨rfl, m4, hw⟩
  have C5 : Hid (Below w3.heap.size w3 y5) := show Below _ _ _ by rw [hw]; exact below_drewN C4.out _
  clear hw
  go_wp2_with fail
  refine (K6.out _ _ _ (HV.out.below (below_via HB3.out C5.out))).mono ?_
  rintro e y6 ⟨rfl, hb⟩
  have C6 : Hid (Below w3.heap.size w3 y6) := show Below _ _ _ from below_via C5.out hb
  clear hb
  go_wp2_with fail
  refine (K7.out _ _ _ ((IN.out.below C6.out).more C6.out.size)).mono ?_
  rintro e y7 ⟨rfl, m6, hw⟩
  have C7 : Hid (Below w3.heap.size w3 y7) := show Below _ _ _ by rw [hw]; exact below_drewN C6.out _
  clear hw
  go_wp2_with fail
  refine (K8.out _ _ _ (HV.out.below (below_via HB3.out C7.out))).mono ?_
  rintro e y8 ⟨rfl, m7, hw⟩
  have C8 : Hid (Below w3.heap.size w3 y8) := show Below _ _ _ by rw [hw]; exact below_drewN C7.out _
  clear hw
  go_wp2_with fail
  have k2 := longs_same zs v3 (.slice A zs.length c) y8.heap.size y8 ((IN.out.below C8.out).more C8.out.size) ((HV.out.below (below_via HB3.out C8.out)).more (below_via HB3.out C8.out).size)
  refine k2.mono ?_
  clear k2
  rintro e y9 ⟨rfl, l, hw⟩
  have C9 : Hid (Below w3.heap.size w3 y9) := show Below _ _ _ by rw [hw]; exact below_drewN C8.out _
  clear hw
  go_wp2_with fail
  refine (wakes_income _).mono ?_
  rintro e y10 ⟨rfl, hb⟩
  have C10 : Hid (Below w3.heap.size w3 y10) := show Below _ _ _ from below_via C9.out hb
  clear hb
  go_wp2_with fail
  go_ret
  exact ⟨rfl, below_via HB3.out C10.out⟩
theorem tells_walk (zs : List Int) (f n : Int) (v : Value) (w : World) (hv : Ints w w.heap.size .i64 v zs) :
    Calls Try.prog 3 #[v, .int .i64 f, .int .i64 n] w fun e w' => e = .returned (.bool true) ∧ Below w.heap.size w w' := by
  by_cases hl : 100 < zs.length
  · exact tells_long zs f n v w hv hl
  · exact tells_short zs f n v w hv (by omega)

set_option maxRecDepth 100000 in
theorem incomeTells_lifted (os : Os) (started : os.Started) (H : Type) (enc : TypeId × Value → H) :
    ReturnsInHanded {} Try.checked os 3 .any (Rows.incomeTellsSpec.pre6 enc Try.prog Try.f3 Rows.incomeTellsRow.domain false) (Rows.incomeTellsSpec.post enc Try.prog Try.f3 false true false false) := by
  refine Shell.law_lifted (C := Try.checked) (tb := 4) (by kernel_rfl) started (by kernel_rfl) Try.func3
    (ChangeSpec.witness6 (enc := enc) (C := Try.checked) false ⟨#[], #[Value.slice none 0 0, .int .i64 0, .int .i64 0], []⟩ 8 (by kernel_rfl) (by kernel_rfl) (by kernel_rfl) (by kernel_rfl))
    (by kernel_rfl) (by kernel_rfl) rfl rfl Try.underlying4 ?_
  intro W base args ds p hval0 hA0
  have hval : ∀ (j : Nat) t v, Try.f3.params[j]? = some t → args[j]? = some v → Value.okWide Try.prog W .any base t v := hval0
  have hA : DataW.TrodAll enc Try.prog W 0 (fun _ => true) true Try.f3.params.toList args.toList ds p := hA0
  clear hval0 hA0
  rw [Try.params3] at hA hval
  obtain ⟨v0, vs0, d0, ds0, p0, q0, hargs, rfl, rfl, h0, r0⟩ := trodAll_cons hA
  obtain ⟨v1, vs1, d1, ds1, p1, q1, rfl, rfl, rfl, h1, r1⟩ := trodAll_cons r0
  obtain ⟨v2, vs2, d2, ds2, p2, q2, rfl, rfl, rfl, h2, r2⟩ := trodAll_cons r1
  obtain ⟨rfl, rfl, rfl⟩ := trodAll_nil r2
  obtain rfl : args = #[v0, v1, v2] := by cases args; simp_all
  refine ⟨rfl, ?_⟩
  obtain ⟨zs, hzs, hwf⟩ := Slice.open_slice Try.underlying22 Try.underlying2 (by kernel_rfl) (hval 0 22 v0 rfl rfl) h0
  obtain ⟨f, rfl, -, -, g1⟩ := open_int Try.underlying3 (hval 1 3 v1 rfl rfl) h1
  obtain ⟨n, rfl, -, -, g2⟩ := open_int Try.underlying2 (hval 2 2 v2 rfl rfl) h2
  exact tells_walk zs f n v0 W hzs

theorem incomeTells_over : Rows.incomeTellsRow.holds Try.pinned (OpenSpec.ofChange Rows.incomeTellsSpec) :=
  OpenClaim.holds_of_wide 3 Try.f3 rfl rfl rfl rfl rfl rfl rfl ⟨rfl, rfl, rfl, rfl, rfl⟩ rfl rfl rfl rfl rfl (by kernel_rfl) Try.func3 (by kernel_rfl)
    (of_decide_eq_true (by kernel_rfl)) (by unfold Func.isWrapper; first | (rw [if_pos (by decide +kernel)]; kernel_rfl) | (rw [if_neg (by decide +kernel)]; exact ⟨rfl, rfl⟩))
    (fun os st H enc _ => incomeTells_lifted os st H enc)

/-- The statement. -/
theorem incomeTells_proved : Rows.IncomeTellsSaid := incomeTells_over
end Go.Proofs.Ytldcocckfemgbaa.Law
