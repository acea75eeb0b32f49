/- What is no number, endless, or below 0 is none; half of one goes to the even one, what is above it to the next one; the least number is nothing, the greatest one too great; no condition. -/
import Derived.Test.YtiaiahdejihlbaaShell
import Derived.Test.YtiaiahdejihlbaaMinMax
import Derived.Test.YtiaiahdejihlbaaEdges
namespace Go.Proofs.Ytiaiahdejihlbaa.Law
open Go.ChangeShapes Go.WideShapes Go.ChangeAt Go.RowKit Bits Money Flo Fl

theorem y1 : tV 1 1000000 = 0 := (answer_ok (k := 1000000) (by decide) (by decide) tiny_taken (by decide)).2
theorem y2 : tE 1 1000000 = 0 := (answer_ok (k := 1000000) (by decide) (by decide) tiny_taken (by decide)).1
theorem z1 : tV 9218868437227405311 1 = 0 := (answer_no (k := 1) (by decide) (by decide) most_taken).2
theorem z2 : tE 9218868437227405311 1 = 14 := (answer_no (k := 1) (by decide) (by decide) most_taken).1
theorem wraps {n : Nat} (h : n < 65536) : wrap64 (n : Int) = n ∧ wrap64 ((n : Int) + (n : Int) % 2) = n + (n : Int) % 2 ∧ wrap64 ((n : Int) + 1) = n + 1 ∧ (n : Int).tmod 2 = (n : Int) % 2 := by
  rw [Int.tmod_eq_emod_of_nonneg (by omega)]
  unfold wrap64
  omega
theorem edges_walk (n : Nat) (up : Bool) (w : World) (hn : n < 65536) :
    Calls Try.prog 7 #[.int .u16 (n : Int), .bool up] w fun e w' => e = .returned (.bool true) ∧ Below w.heap.size w w' := by
  have hadd := fun w => add_run (t := 22) w (half_add hn)
  have HN := Lib.hid hn
  clear hn
  go_enter Try.func7, Try.ntmps7
  go_wp2_with fail
  refine (nan_any _).mono ?_
  rintro e w1 ⟨rfl, rfl⟩
  go_wp2_with fail
  refine (inf_any _ _).mono ?_
  rintro e w1 ⟨rfl, rfl⟩
  go_wp2_with fail
  refine (inf_any _ _).mono ?_
  rintro e w1 ⟨rfl, rfl⟩
  go_wp2_with fail
  go_loopw [6] (fun i wr => ∃ j : Nat, j ≤ 5 ∧ i = .int .i64 j ∧ wr.rowIs w.heap.size 22 5 (fun i => .float .f64 (badF i)) ∧ Below w.heap.size w wr) (fun i _ => 5 - (intOf i).toNat)
  case atStart =>
    refine ⟨0, Nat.zero_le _, rfl, ?_, (Below.refl _ _).alloc (Nat.le_refl _) _⟩
    exact World.rowIs_alloc w _ _ _ fun i hi => by
      match i, hi with
      | 0, _ => rfl
      | 1, _ => rfl
      | 2, _ => rfl
      | 3, _ => rfl
      | 4, _ => rfl
  case round =>
    obtain ⟨j, j1, rfl, hrow, hb⟩ := hrel
    have HR := Lib.hid hrow
    have J1 := Lib.hid j1
    have HB := Lib.hid hb
    have l0 := hrow.lt
    clear hb
    by_cases hlt : j < 5
    · have d1 : decide ((j : Int) < 5) = true := decide_eq_true (by omega)
      have e5 : (j : Int) < 5 := by omega
      have c0 : wr.cell? ⟨w.heap.size, j, none⟩ = some (.float .f64 (badF j)) := hrow.cell (i := j) hlt
      obtain ⟨g1, g2⟩ := bad_none j
      obtain ⟨e1, e2⟩ := bad_tells j
      have hc := fun w => cents_any (badF j) w g2
      rw [e1, e2] at hc
      have hgd := fun w => good_f (badF j) w g2
      rw [g1] at hgd
      have C := Lib.hid hc
      have G := Lib.hid hgd
      generalize badF j = b at *
      clear hc hgd e1 e2 g1 g2 hrow
      go_wp2_with fail
      refine (C.out _).mono ?_
      rintro e w1 ⟨rfl, n1, rfl⟩
      go_wp2_with fail
      refine (G.out _).mono ?_
      rintro e w1 ⟨rfl, rfl⟩
      go_wp2_with fail
      go_round
      case rel => exact ⟨j + 1, hlt, rfl, HR.out, below_drewN HB.out _⟩
      case measure => simp [intOf]; omega
    · obtain rfl : j = 5 := by omega
      clear hrow j1 hlt
      obtain ⟨W1, W2, W3, W4⟩ := wraps HN.out
      cases up with
      | false =>
        clear W3
        obtain ⟨X2, X1⟩ : tE (halfF n) 1 = 0 ∧ tV (halfF n) 1 = ((n + n % 2 : Nat) : Int) := answer_ok (k := 1) (decide_eq_true (Or.inl (by have := (halfF_lt HN.out).1; omega))) (by decide) (half_taken HN.out) (by have := HN.out; omega)
        have X1 := Lib.hid X1
        have X2 := Lib.hid X2
        go_wp2_with fail
        refine (take_any _ _ _ (by have := (halfF_lt HN.out).1; omega)).mono ?_
        rw [X1.out, X2.out]
        rintro e w2 ⟨rfl, n2, rfl⟩
        go_wp2_with fail
        refine (take_any _ _ _ (by decide)).mono ?_
        rw [y1, y2]
        rintro e w2 ⟨rfl, n3, rfl⟩
        go_wp2_with fail
        refine (take_any _ _ _ (by decide)).mono ?_
        rw [z1, z2]
        rintro e w2 ⟨rfl, n4, rfl⟩
        go_wp2_with fail
        refine (wakes_real _).mono ?_
        rintro e w2 ⟨rfl, n5, rfl⟩
        go_wp2_with fail
        go_ret
        exact ⟨rfl, below_drewN HB.out _⟩
      | true =>
        clear W2 W4
        obtain ⟨X2, X1⟩ : tE (halfF n + 1) 1 = 0 ∧ tV (halfF n + 1) 1 = ((n + 1 : Nat) : Int) := answer_ok (k := 1) (decide_eq_true (Or.inl (by have := (halfF_lt HN.out).1; omega))) (by decide) (above_taken HN.out) (by have := HN.out; omega)
        have X1 := Lib.hid X1
        have X2 := Lib.hid X2
        go_wp2_with fail
        refine (inf_any _ _).mono ?_
        rintro e w1 ⟨rfl, rfl⟩
        go_wp2_with fail
        refine (next_any _ _ (halfF_lt HN.out).2 (by have := (halfF_lt HN.out).1; omega)).mono ?_
        rintro e w1 ⟨rfl, rfl⟩
        go_wp2_with fail
        refine (take_any _ _ _ (by have := (halfF_lt HN.out).1; omega)).mono ?_
        rw [X1.out, X2.out]
        rintro e w2 ⟨rfl, n2, rfl⟩
        go_wp2_with fail
        refine (take_any _ _ _ (by decide)).mono ?_
        rw [y1, y2]
        rintro e w2 ⟨rfl, n3, rfl⟩
        go_wp2_with fail
        refine (take_any _ _ _ (by decide)).mono ?_
        rw [z1, z2]
        rintro e w2 ⟨rfl, n4, rfl⟩
        go_wp2_with fail
        refine (wakes_real _).mono ?_
        rintro e w2 ⟨rfl, n5, rfl⟩
        go_wp2_with fail
        go_ret
        exact ⟨rfl, below_drewN HB.out _⟩

set_option maxRecDepth 100000 in
theorem realEdges_lifted (os : Os) (started : os.Started) (H : Type) (enc : TypeId × Value → H) :
    ReturnsInHanded {} Try.checked os 7 .any (Rows.realEdgesSpec.pre6 enc Try.prog Try.f7 Rows.realEdgesRow.domain false) (Rows.realEdgesSpec.post enc Try.prog Try.f7 false true false false) := by
  refine Shell.law_lifted (C := Try.checked) (tb := 4) (by kernel_rfl) started (by kernel_rfl) Try.func7
    (ChangeSpec.witness6 (enc := enc) (C := Try.checked) false ⟨#[], #[.int .u16 0, .bool false], []⟩ 8 (by kernel_rfl) (by kernel_rfl) (by kernel_rfl) (by kernel_rfl))
    (by kernel_rfl) (by kernel_rfl) rfl rfl Try.underlying4 ?_
  intro W base args ds p hval0 hA0
  have hval : ∀ (j : Nat) t v, Try.f7.params[j]? = some t → args[j]? = some v → Value.okWide Try.prog W .any base t v := hval0
  have hA : DataW.TrodAll enc Try.prog W 0 (fun _ => true) true Try.f7.params.toList args.toList ds p := hA0
  clear hval0 hA0
  rw [Try.params7] at hA hval
  obtain ⟨v0, vs0, d0, ds0, p0, q0, hargs, rfl, rfl, h0, r0⟩ := trodAll_cons hA
  obtain ⟨v1, vs1, d1, ds1, p1, q1, rfl, rfl, rfl, h1, r1⟩ := trodAll_cons r0
  obtain ⟨rfl, rfl, rfl⟩ := trodAll_nil r1
  obtain rfl : args = #[v0, v1] := by cases args; simp_all
  refine ⟨rfl, ?_⟩
  obtain ⟨s, rfl, -, -, hs⟩ := open_int Try.underlying51 (hval 0 51 v0 rfl rfl) h0
  obtain ⟨n, rfl, hn⟩ := u16_nat hs
  obtain ⟨up, rfl, -, -⟩ := open_bool Try.underlying4 (hval 1 4 v1 rfl rfl) h1
  exact edges_walk n up W hn

theorem realEdges_over : Rows.realEdgesRow.holds Try.pinned (OpenSpec.ofChange Rows.realEdgesSpec) :=
  OpenClaim.holds_of_wide 7 Try.f7 rfl rfl rfl rfl rfl rfl rfl ⟨rfl, rfl, rfl, rfl, rfl⟩ rfl rfl rfl rfl rfl (by kernel_rfl) Try.func7 (by kernel_rfl)
    (of_decide_eq_true (by kernel_rfl)) (by unfold Func.isWrapper; first | (rw [if_pos (by decide +kernel)]; kernel_rfl) | (rw [if_neg (by decide +kernel)]; exact ⟨rfl, rfl⟩))
    (fun os st H enc _ => realEdges_lifted os st H enc)

/-- The statement. -/
theorem realEdges_proved : Rows.RealEdgesSaid := realEdges_over
end Go.Proofs.Ytiaiahdejihlbaa.Law
