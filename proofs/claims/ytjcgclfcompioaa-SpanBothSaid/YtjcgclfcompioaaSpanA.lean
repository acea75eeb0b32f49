/- The program's own Good, Days, at any stretches; what Add and Cut refuse; which stretches meet. -/
import Derived.Test.YtjcgclfcompioaaChecked
import Derived.Test.YtjcgclfcompioaaRefSpan2
import Derived.Test.YtjcgclfcompioaaSpanMath4
namespace Go.Proofs.Ytjcgclfcompioaa.Span
open Go.ChangeShapes Go.WideShapes Go.ChangeAt Go.RowKit Pairs

theorem good_long {zs : List (Int × Int)} (h : 1000 < zs.length) : goodB zs = false := by
  unfold goodB
  rw [decide_eq_false (p := zs.length ≤ 1000) (by omega), Bool.and_false]
theorem good_fine {zs : List (Int × Int)} (h : normB (-1) (zs.take zs.length) = true) (hm : ¬ 1000 < zs.length) : goodB zs = true := by
  rw [good_all h]
  exact decide_eq_true (by omega)
theorem u_good (zs : List (Int × Int)) (v : Value) (B : Nat) (w : World) (hB : B ≤ w.heap.size) (hv : Prs w B v zs) (hl : zs.length ≤ 2000) :
    Calls Try.prog 10 #[v] w fun e w' => e = .returned (.bool (goodB zs)) ∧ Below w.heap.size w w' := by
  obtain ⟨A, c, rfl, -, -, hcell⟩ := hv
  have HC := Lib.hid hcell
  clear hcell
  by_cases hm : 1000 < zs.length
  · have H := Lib.hid (good_long hm)
    go_enter Try.func10, Try.ntmps10
    go_wp2_with fail
    go_ret
    exact ⟨ret_bool H.out.symm, Below.refl _ _⟩
  · go_enter Try.func10, Try.ntmps10
    go_wp2_with fail
    go_loopw [3, 11] (fun o t wr => ∃ j : Nat, j ≤ zs.length ∧ t = .int .i64 j ∧ o = .int .i64 (lastTo (-1) (zs.take j)) ∧ Hid (normB (-1) (zs.take j) = true) ∧ Hid (Below w.heap.size w wr)) (fun _ t _ => zs.length - (intOf t).toNat)
    case atStart => exact ⟨0, Nat.zero_le _, rfl, rfl, rfl, Below.refl _ _⟩
    case round =>
      obtain ⟨j, hj, rfl, rfl, hn, HW⟩ := hrel
      by_cases hlt : j < zs.length
      · obtain ⟨b, off, rfl, hb, hcell⟩ := HC.out (by omega)
        obtain ⟨hx, hy⟩ := hcell j hlt
        have hx := (HW.out.cell (p := ⟨b, off + j * 2, none⟩) (by show b < _; omega)).trans hx
        have hy := (HW.out.cell (p := ⟨b, off + j * 2 + 1, none⟩) (by show b < _; omega)).trans hy
        have HBad := fun h => norm_bad hlt h
        have HStep := fun h => norm_step hlt hn.out h
        have HLast := Lib.hid (last_next hlt)
        have hge := last_ge hn.out
        have hlt0 := last_le hn.out (by omega)
        have HS := Lib.hid HW.out.size
        clear hcell hn
        generalize lastTo (-1) (zs.take j) = q at *
        generalize zs.getD j (0, 0) = p at *
        obtain ⟨p0, p1⟩ := p
        have h0 : (0 : Int) ≤ j := by omega
        by_cases c1 : p0 ≤ q
        · have H := Lib.hid (HBad (by show ¬ (q < p0 ∧ p0 < p1 ∧ p1 ≤ 87659); omega))
          have t1 := decide_eq_true c1
          clear HBad HStep
          go_wp2_with fail
          go_ret
          exact ⟨ret_bool H.out.symm, below_new HW.out _⟩
        by_cases c2 : p1 ≤ p0
        · have H := Lib.hid (HBad (by show ¬ (q < p0 ∧ p0 < p1 ∧ p1 ≤ 87659); omega))
          have t1 := decide_eq_false c1
          have t2 := decide_eq_true c2
          clear HBad HStep
          go_wp2_with fail
          go_ret
          exact ⟨ret_bool H.out.symm, below_new HW.out _⟩
        by_cases c3 : 87659 < p1
        · have H := Lib.hid (HBad (by show ¬ (q < p0 ∧ p0 < p1 ∧ p1 ≤ 87659); omega))
          have t1 := decide_eq_false c1
          have t2 := decide_eq_false c2
          have t3 := decide_eq_true c3
          clear HBad HStep
          go_wp2_with fail
          go_ret
          exact ⟨ret_bool H.out.symm, below_new HW.out _⟩
        have H := Lib.hid (HStep (by show q < p0 ∧ p0 < p1 ∧ p1 ≤ 87659; omega))
        have t1 := decide_eq_false c1
        have t2 := decide_eq_false c2
        have t3 := decide_eq_false c3
        clear HBad HStep
        go_wp2_with fail
        go_roundw
        case rel => exact ⟨j + 1, by omega, by go_num, by rw [HLast.out], H, below_new HW.out _⟩
        case measure => simp [intOf]; omega
      · obtain rfl : j = zs.length := by omega
        have H := Lib.hid (good_fine hn.out hm)
        clear hn
        go_wp2_with fail
        go_ret
        exact ⟨ret_bool H.out.symm, HW.out⟩
theorem u_days (zs : List (Int × Int)) (v : Value) (B : Nat) (w : World) (hB : B ≤ w.heap.size) (hv : Prs w B v zs) (hl : zs.length ≤ 2000) :
    Calls Try.prog 14 #[v] w fun e w' => e = .returned (.int .i64 (daysV zs)) ∧ Below w.heap.size w w' := by
  have G := u_good zs v B w hB hv hl
  obtain ⟨A, c, rfl, -, -, hcell⟩ := hv
  have HC := Lib.hid hcell
  clear hcell
  cases hg : goodB zs with
  | false =>
    have H : Hid (daysV zs = 0) := show _ = _ by unfold daysV; rw [hg]; rfl
    rw [hg] at G
    clear hg
    go_enter Try.func14, Try.ntmps14
    go_wp2_with fail
    refine G.mono ?_
    rintro e w1 ⟨rfl, hw⟩
    have HW := Lib.hid hw
    clear hw
    go_wp2_with fail
    go_ret
    exact ⟨ret_int H.out.symm, HW.out⟩
  | true =>
    have H : Hid (daysV zs = daysL zs) := show _ = _ by unfold daysV; rw [hg]; rfl
    have HN := Lib.hid (good_norm hg).1
    rw [hg] at G
    clear hg
    go_enter Try.func14, Try.ntmps14
    go_wp2_with fail
    refine G.mono ?_
    rintro e w1 ⟨rfl, hw⟩
    have HW1 := Lib.hid hw
    clear hw
    go_wp2_with fail
    go_loopw [3, 11] (fun o t wr => ∃ j : Nat, j ≤ zs.length ∧ t = .int .i64 j ∧ o = .int .i64 (daysL (zs.take j)) ∧ Hid (Below w.heap.size w wr)) (fun _ t _ => zs.length - (intOf t).toNat)
    case atStart => exact ⟨0, Nat.zero_le _, rfl, rfl, HW1⟩
    case round =>
      obtain ⟨j, hj, rfl, rfl, HW⟩ := hrel
      by_cases hlt : j < zs.length
      · obtain ⟨b, off, rfl, hb, hcell⟩ := HC.out (by omega)
        obtain ⟨hx, hy⟩ := hcell j hlt
        have hx := (HW.out.cell (p := ⟨b, off + j * 2, none⟩) (by show b < _; omega)).trans hx
        have hy := (HW.out.cell (p := ⟨b, off + j * 2 + 1, none⟩) (by show b < _; omega)).trans hy
        obtain ⟨e1, e2, e3, e4, e5, e6⟩ := days_step HN.out hlt
        have HE := Lib.hid e1
        have HS := Lib.hid HW.out.size
        rw [e1] at e3
        clear hcell e1
        generalize daysL (zs.take j) = s at *
        generalize zs.getD j (0, 0) = p at *
        obtain ⟨p0, p1⟩ := p
        have h0 : (0 : Int) ≤ j := by omega
        have f3 : s + (p1 - p0) ≤ 87660 := e3
        have f4 : 0 ≤ p0 := e4
        have f5 : p0 < p1 := e5
        have f6 : p1 ≤ 87659 := e6
        clear e3 e4 e5 e6
        go_wp2_with fail
        go_roundw
        case rel => exact ⟨j + 1, by omega, by go_num, by rw [HE.out], below_new HW.out _⟩
        case measure => simp [intOf]; omega
      · obtain rfl : j = zs.length := by omega
        rw [List.take_length]
        go_wp2_with fail
        go_ret
        exact ⟨ret_int H.out.symm, HW.out⟩
end Go.Proofs.Ytjcgclfcompioaa.Span
