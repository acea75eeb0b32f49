/- Dollars, Percent, Bits and Of answer what the document's own answer, at any two numbers, any float64 and any bits; no condition. -/
import Derived.Test.YtiaiahdejihlbaaShell
import Derived.Test.YtiaiahdejihlbaaRealWakes
import Derived.Deep.QuietTactic
import Derived.BigQuiet
namespace Go.Proofs.Ytiaiahdejihlbaa.Law
open Go.ChangeShapes Go.WideShapes Go.ChangeAt Go.RowKit Bits Money Flo Fl

attribute [local go_sem] run_store_float'
theorem float_self (a : Nat) (w : World) : Calls Try.prog 20 #[.float .f64 a, .float .f64 a] w fun e w' => e = .returned (.bool true) ∧ w = w' :=
  (float_same a a w).mono fun _ _ h => ⟨h.1.trans (by rw [decide_eq_true rfl]), h.2⟩
theorem tells_walk (c p : Int) (b u : Nat) (w : World) (hb : b < 18446744073709551616) (hu : u < 18446744073709551616) :
    Calls Try.prog 5 #[.agg #[.int .i64 c, .int .i64 p], .float .f64 b, .int .u64 (u : Int)] w fun e w' => e = .returned (.bool true) ∧ Below w.heap.size w w' := by
  have h1 := of_any u
  have h2 := rof_any u
  have h3 := dollars_any c
  have h4 := rdollars_any c
  have h5 := percent_any p
  have h6 := rpercent_any p
  have h7 := fun w => bits_any b w hb
  have h8 := fun w => rbits_any b w hb
  generalize ofF u = f at *
  generalize ofB u = g at *
  generalize dolF c = d at *
  generalize perF p = q at *
  generalize bitsF b = y at *
  have hg : (g == g) = true := by cases g <;> rfl
  have hy : ((y : Int) == (y : Int)) = true := by simp
  go_enter Try.func5, Try.ntmps5
  go_wp2_with fail
  go_quiet (fail)
  go_wp2_with fail
  refine (h1 _ hu).mono ?_
  rintro e w1 ⟨rfl, rfl⟩
  go_wp2_with fail
  refine (h2 _ hu).mono ?_
  rintro e w2 ⟨rfl, hb2⟩
  go_wp2_with fail
  refine (h3 _).mono ?_
  rintro e w3 ⟨rfl, rfl⟩
  go_wp2_with fail
  refine (h4 _).mono ?_
  rintro e w3 ⟨rfl, rfl⟩
  go_wp2_with fail
  refine (float_self d _).mono ?_
  rintro e w3 ⟨rfl, rfl⟩
  go_wp2_with fail
  refine (h5 _).mono ?_
  rintro e w3 ⟨rfl, rfl⟩
  go_wp2_with fail
  refine (h6 _).mono ?_
  rintro e w3 ⟨rfl, rfl⟩
  go_wp2_with fail
  refine (float_self q _).mono ?_
  rintro e w3 ⟨rfl, rfl⟩
  go_wp2_with fail
  refine (h7 _).mono ?_
  rintro e w3 ⟨rfl, rfl⟩
  go_wp2_with fail
  refine (h8 _).mono ?_
  rintro e w3 ⟨rfl, rfl⟩
  go_wp2_with fail
  refine (float_self f _).mono ?_
  rintro e w3 ⟨rfl, rfl⟩
  go_wp2_with fail
  refine (wakes_real _).mono ?_
  rintro e w3 ⟨rfl, m, rfl⟩
  go_wp2_with fail
  go_ret
  have hb3 := below_via (below_drewN (below_new (Below.refl w.heap.size w) (.cells #[.int .i64 c, .int .i64 p] 37)) nq) hb2
  exact ⟨rfl, below_drewN (below_new hb3 _) _⟩

set_option maxRecDepth 100000 in
theorem realTells_lifted (os : Os) (started : os.Started) (H : Type) (enc : TypeId × Value → H) :
    ReturnsInHanded {} Try.checked os 5 .any (Rows.realTellsSpec.pre6 enc Try.prog Try.f5 Rows.realTellsRow.domain false) (Rows.realTellsSpec.post enc Try.prog Try.f5 false true false false) := by
  refine Shell.law_lifted (C := Try.checked) (tb := 4) (by kernel_rfl) started (by kernel_rfl) Try.func5
    (ChangeSpec.witness6 (enc := enc) (C := Try.checked) false ⟨#[], #[.agg #[.int .i64 0, .int .i64 0], .float .f64 0, .int .u64 0], []⟩ 8 (by kernel_rfl) (by kernel_rfl) (by kernel_rfl) (by kernel_rfl))
    (by kernel_rfl) (by kernel_rfl) rfl rfl Try.underlying4 ?_
  intro W base args ds p hval0 hA0
  have hval : ∀ (j : Nat) t v, Try.f5.params[j]? = some t → args[j]? = some v → Value.okWide Try.prog W .any base t v := hval0
  have hA : DataW.TrodAll enc Try.prog W 0 (fun _ => true) true Try.f5.params.toList args.toList ds p := hA0
  clear hval0 hA0
  rw [Try.params5] at hA hval
  obtain ⟨v0, vs0, d0, ds0, p0, q0, hargs, rfl, rfl, h0, r0⟩ := trodAll_cons hA
  obtain ⟨v1, vs1, d1, ds1, p1, q1, rfl, rfl, rfl, h1, r1⟩ := trodAll_cons r0
  obtain ⟨v2, vs2, d2, ds2, p2, q2, rfl, rfl, rfl, h2, r2⟩ := trodAll_cons r1
  obtain ⟨rfl, rfl, rfl⟩ := trodAll_nil r2
  obtain rfl : args = #[v0, v1, v2] := by cases args; simp_all
  refine ⟨rfl, ?_⟩
  obtain ⟨zs, hzl, rfl, hz⟩ := Shell.open_arr Try.underlying37 Try.underlying2 (by kernel_rfl) (by kernel_rfl) (hval 0 37 v0 rfl rfl) h0
  obtain ⟨c, p, rfl⟩ := Shell.list2 zs hzl
  obtain ⟨b, rfl, -, -, hb⟩ := open_float Try.underlying22 (hval 1 22 v1 rfl rfl) h1
  obtain ⟨n, rfl, -, -, hn⟩ := open_int Try.underlying38 (hval 2 38 v2 rfl rfl) h2
  have bn := bounds_u64 hn
  obtain ⟨u, rfl⟩ := Int.eq_ofNat_of_zero_le bn.1
  exact tells_walk c p b u W (float_lt hb) (by omega)

theorem realTells_over : Rows.realTellsRow.holds Try.pinned (OpenSpec.ofChange Rows.realTellsSpec) :=
  OpenClaim.holds_of_wide 5 Try.f5 rfl rfl rfl rfl rfl rfl rfl ⟨rfl, rfl, rfl, rfl, rfl⟩ rfl rfl rfl rfl rfl (by kernel_rfl) Try.func5 (by kernel_rfl)
    (of_decide_eq_true (by kernel_rfl)) (by unfold Func.isWrapper; first | (rw [if_pos (by decide +kernel)]; kernel_rfl) | (rw [if_neg (by decide +kernel)]; exact ⟨rfl, rfl⟩))
    (fun os st H enc _ => realTells_lifted os st H enc)

/-- The statement. -/
theorem realTells_proved : Rows.RealTellsSaid := realTells_over
end Go.Proofs.Ytiaiahdejihlbaa.Law
