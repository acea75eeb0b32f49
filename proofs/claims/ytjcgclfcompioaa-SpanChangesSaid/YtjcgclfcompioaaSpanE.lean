/- The program's own Add and Cut, at any stretches. -/
import Derived.Test.YtjcgclfcompioaaSpanC
namespace Go.Proofs.Ytjcgclfcompioaa.Span
open Go.ChangeShapes Go.WideShapes Go.ChangeAt Go.RowKit Pairs Slice

/-- What is refused. -/
theorem wrong_chg {f : Bool → Bool → Bool} {a b : List (Int × Int)} {x y : Int} (h : wrongE a x y ≠ 0) : Chg f a b (goodB a) (argB x y) [] (wrongE a x y) := by
  cases hg : goodB a with
  | false =>
    have : wrongE a x y = 11 := by unfold wrongE; rw [hg]; rfl
    rw [this]
    exact chg_form rfl
  | true =>
    cases hk : argB x y with
    | false =>
      have : wrongE a x y = 1 := by unfold wrongE; rw [hg, hk]; rfl
      rw [this]
      exact chg_arg rfl rfl
    | true =>
      have : wrongE a x y = 0 := by unfold wrongE; rw [hg, hk]; rfl
      exact absurd this h
theorem wrong_none {a : List (Int × Int)} {x y : Int} (h : wrongE a x y = 0) : goodB a = true ∧ argB x y = true := by
  unfold wrongE at h
  cases hg : goodB a with
  | false => rw [hg] at h; cases h
  | true =>
    cases hk : argB x y with
    | false => rw [hg, hk] at h; cases h
    | true => exact ⟨rfl, rfl⟩
/-- The stretches that are met: the first one, and where the last one ends. -/
theorem mid_first {zs : List (Int × Int)} {i j : Nat} (hij : i < j) (hj : j ≤ zs.length) : ∃ m, (zs.drop i).take (j - i) = zs.getD i (0, 0) :: m := by
  have h1 : i < zs.length := by omega
  refine ⟨(zs.drop (i + 1)).take (j - i - 1), ?_⟩
  rw [List.drop_eq_getElem_cons h1, show j - i = (j - i - 1) + 1 by omega, List.take_succ_cons, List.getD_eq_getElem?_getD, List.getElem?_eq_getElem h1]
  rfl
theorem mid_last {zs : List (Int × Int)} {i k : Nat} (hij : i ≤ k) (hj : k < zs.length) (lo : Int) : lastTo lo ((zs.drop i).take (k + 1 - i)) = (zs.getD k (0, 0)).2 := by
  rw [show k + 1 - i = (k - i) + 1 by omega, take_next (zs.drop i) (k - i) (by rw [List.length_drop]; omega), lastTo_end]
  congr 1
  rw [List.getD_eq_getElem?_getD, List.getD_eq_getElem?_getD, List.getElem?_drop]
  congr 2
  omega
theorem mid_none {zs : List (Int × Int)} {i j : Nat} (hij : i ≤ j) (h : ¬ i < j) : (zs.drop i).take (j - i) = [] := by
  rw [show j - i = 0 by omega, List.take_zero]
theorem add_js {zs : List (Int × Int)} {x y : Int} {i j : Nat} (hm : Met zs x y (zs.take i) ((zs.drop i).take (j - i)) (zs.drop j)) (hij : i ≤ j) (h : ¬ i < j) (hg : goodB zs = true) (hk : argB x y = true) :
    IsJ orF zs [(x, y)] (zs.take i ++ [(x, y)] ++ zs.drop j) := by
  rw [mid_none hij h] at hm
  rw [List.append_assoc]
  exact add_none hm (good_norm hg).1 (of_decide_eq_true hk)
theorem add_js' {zs : List (Int × Int)} {x y : Int} {i k : Nat} (hm : Met zs x y (zs.take i) ((zs.drop i).take (k + 1 - i)) (zs.drop (k + 1))) (hij : i ≤ k) (hj : k < zs.length) (hg : goodB zs = true) (hk : argB x y = true) :
    IsJ orF zs [(x, y)] (zs.take i ++ [(min x (zs.getD i (0, 0)).1, max y (zs.getD k (0, 0)).2)] ++ zs.drop (k + 1)) := by
  obtain ⟨m, h1⟩ := mid_first (show i < k + 1 by omega) (show k + 1 ≤ zs.length by omega)
  have h2 := mid_last hij hj (lastTo (-1) (zs.take i))
  rw [h1] at h2 hm
  rw [List.append_assoc, ← h2]
  exact add_some hm (good_norm hg).1 (of_decide_eq_true hk)
theorem cut_js {zs : List (Int × Int)} {x y : Int} {i j : Nat} (hm : Met zs x y (zs.take i) ((zs.drop i).take (j - i)) (zs.drop j)) (hij : i ≤ j) (h : ¬ i < j) (hg : goodB zs = true) :
    IsJ lessF zs [(x, y)] (zs.take i ++ [] ++ zs.drop j) := by
  rw [mid_none hij h] at hm
  rw [List.append_nil]
  exact cut_none hm (good_norm hg).1
theorem cut_js' {zs : List (Int × Int)} {x y : Int} {i k : Nat} (hm : Met zs x y (zs.take i) ((zs.drop i).take (k + 1 - i)) (zs.drop (k + 1))) (hij : i ≤ k) (hj : k < zs.length) (hg : goodB zs = true) (hk : argB x y = true) :
    IsJ lessF zs [(x, y)] (zs.take i ++ leftL x y (zs.getD i (0, 0)).1 (zs.getD k (0, 0)).2 ++ zs.drop (k + 1)) := by
  obtain ⟨m, h1⟩ := mid_first (show i < k + 1 by omega) (show k + 1 ≤ zs.length by omega)
  have h2 := mid_last hij hj (lastTo (-1) (zs.take i))
  rw [h1] at h2 hm
  rw [← h2]
  exact cut_some hm (good_norm hg).1 (of_decide_eq_true hk)
theorem u_add (a : List (Int × Int)) (x y : Int) (va : Value) (B : Nat) (w : World) (hB : B ≤ w.heap.size) (ha : Prs w B va a) (hl : a.length ≤ 2000) :
    Calls Try.prog 17 #[va, .int .i64 x, .int .i64 y] w fun e w' => ∃ v zs n, e = .returned (.tuple #[v, .int .i64 n]) ∧ Chg orF a [(x, y)] (goodB a) (argB x y) zs n ∧ Prs w' w'.heap.size v zs ∧ Below w.heap.size w w' := by
  have C := u_wrong a x y va B w hB ha hl
  obtain ⟨A, c, rfl⟩ := ha.shape
  have HA := Lib.hid ha
  by_cases hw : wrongE a x y = 0
  · obtain ⟨hg, hk⟩ := wrong_none hw
    have hll := (good_norm hg).2
    have HG := Lib.hid hg
    have HK := Lib.hid hk
    rw [hw] at C
    have M := fun w1 (hb : Below w.heap.size w w1) => u_met a x y _ B w1 ((ha.below (hb.mono hB))) (good_norm hg).1 hl
    clear hg hk ha hw
    go_enter Try.func17, Try.ntmps17
    go_wp2_with fail
    refine C.mono ?_
    rintro e w1 ⟨rfl, hw1⟩
    have HW1 := Lib.hid hw1
    clear hw1
    go_wp2_with fail
    refine (M w1 HW1.out).mono ?_
    clear M C
    rintro e w2 ⟨i, j, rfl, hij, hj, hm, rfl⟩
    have HM := Lib.hid hm
    clear hm
    by_cases hlt : i < j
    · obtain ⟨k, rfl⟩ : ∃ k, j = k + 1 := ⟨j - 1, by omega⟩
      have HJ := Lib.hid (add_js' HM.out (by omega) (by omega) HG.out HK.out)
      obtain ⟨A', c', e', -, -, hcell⟩ := HA.out
      injection e' with e1 e2 e3
      subst e1
      subst e3
      obtain ⟨b, off, rfl, hb, hcell⟩ := hcell (by omega)
      have hx := (HW1.out.cell (p := ⟨b, off + i * 2, none⟩) (by show b < _; omega)).trans (hcell i (by omega)).1
      have hy := (HW1.out.cell (p := ⟨b, off + k * 2 + 1, none⟩) (by show b < _; omega)).trans (hcell k (by omega)).2
      have k0 : wrap64 (((k + 1 : Nat) : Int) - 1) = (k : Int) := by unfold wrap64; omega
      have k1 : ((k : Int)).toNat = k := by omega
      have h0 : (0 : Int) ≤ i := by omega
      have h1 : (0 : Int) ≤ k := by omega
      have h2 : decide ((k : Int) < a.length) = true := decide_eq_true (by omega)
      have h3 : decide ((i : Int) < a.length) = true := decide_eq_true (by omega)
      clear hcell e2 HM
      generalize (a.getD i (0, 0)).1 = p at *
      generalize (a.getD k (0, 0)).2 = q at *
      by_cases c1 : x ≤ p
      · rw [Int.min_eq_left c1] at HJ
        by_cases c2 : q ≤ y
        · rw [Int.max_eq_left c2] at HJ
          go_wp2_with fail
          go_quiet (fail)
          go_wp2_with fail
          have hcc := u_swap a [(x, y)] i (k + 1) (.slice (some ⟨b, off, none⟩) a.length c) (.slice (some ⟨w1.heap.size, 0, none⟩) 1 1) B w1.heap.size ((w1.drewN nq).alloc (.cells #[.int .i64 x, .int .i64 y] 51)) (Nat.le_trans hB HW1.out.size) (by simp)
            (((HA.out.below (HW1.out.mono hB)).drewN nq).alloc (Nat.le_trans hB HW1.out.size) _) hll hij hj (World.ownsRow_lit (w1.drewN nq) #[.int .i64 x, .int .i64 y] 1 (Nat.le_refl _) (by decide) rfl) (by simp)
          obtain ⟨js, hjs⟩ : ∃ js, js = a.take i ++ [(x, y)] ++ a.drop (k + 1) := ⟨_, rfl⟩
          rw [← hjs] at hcc HJ
          refine hcc.mono ?_
          clear hcc hjs
          rintro e w3 ⟨u, rfl, hu, hb⟩
          have PU := Lib.hid hu
          have B3 : Hid (Below w.heap.size w w3) := HW1.out.trans (((below_drewN (Below.refl w1.heap.size w1) nq).alloc (Nat.le_refl _) _ |>.trans hb).mono HW1.out.size)
          clear hu hb
          go_wp2_with fail
          go_ret2
          exact ⟨_, _, _, rfl, chg_yes HG.out HK.out HJ.out, PU.out, B3.out⟩
        · have c3 : y ≤ q := by omega
          rw [Int.max_eq_right c3] at HJ
          go_wp2_with fail
          go_quiet (fail)
          go_wp2_with fail
          have hcc := u_swap a [(x, q)] i (k + 1) (.slice (some ⟨b, off, none⟩) a.length c) (.slice (some ⟨w1.heap.size, 0, none⟩) 1 1) B w1.heap.size ((w1.drewN nq).alloc (.cells #[.int .i64 x, .int .i64 q] 51)) (Nat.le_trans hB HW1.out.size) (by simp)
            (((HA.out.below (HW1.out.mono hB)).drewN nq).alloc (Nat.le_trans hB HW1.out.size) _) hll hij hj (World.ownsRow_lit (w1.drewN nq) #[.int .i64 x, .int .i64 q] 1 (Nat.le_refl _) (by decide) rfl) (by simp)
          obtain ⟨js, hjs⟩ : ∃ js, js = a.take i ++ [(x, q)] ++ a.drop (k + 1) := ⟨_, rfl⟩
          rw [← hjs] at hcc HJ
          refine hcc.mono ?_
          clear hcc hjs
          rintro e w3 ⟨u, rfl, hu, hb⟩
          have PU := Lib.hid hu
          have B3 : Hid (Below w.heap.size w w3) := HW1.out.trans (((below_drewN (Below.refl w1.heap.size w1) nq).alloc (Nat.le_refl _) _ |>.trans hb).mono HW1.out.size)
          clear hu hb
          go_wp2_with fail
          go_ret2
          exact ⟨_, _, _, rfl, chg_yes HG.out HK.out HJ.out, PU.out, B3.out⟩
      · have c4 : p ≤ x := by omega
        rw [Int.min_eq_right c4] at HJ
        by_cases c2 : q ≤ y
        · rw [Int.max_eq_left c2] at HJ
          go_wp2_with fail
          go_quiet (fail)
          go_wp2_with fail
          have hcc := u_swap a [(p, y)] i (k + 1) (.slice (some ⟨b, off, none⟩) a.length c) (.slice (some ⟨w1.heap.size, 0, none⟩) 1 1) B w1.heap.size ((w1.drewN nq).alloc (.cells #[.int .i64 p, .int .i64 y] 51)) (Nat.le_trans hB HW1.out.size) (by simp)
            (((HA.out.below (HW1.out.mono hB)).drewN nq).alloc (Nat.le_trans hB HW1.out.size) _) hll hij hj (World.ownsRow_lit (w1.drewN nq) #[.int .i64 p, .int .i64 y] 1 (Nat.le_refl _) (by decide) rfl) (by simp)
          obtain ⟨js, hjs⟩ : ∃ js, js = a.take i ++ [(p, y)] ++ a.drop (k + 1) := ⟨_, rfl⟩
          rw [← hjs] at hcc HJ
          refine hcc.mono ?_
          clear hcc hjs
          rintro e w3 ⟨u, rfl, hu, hb⟩
          have PU := Lib.hid hu
          have B3 : Hid (Below w.heap.size w w3) := HW1.out.trans (((below_drewN (Below.refl w1.heap.size w1) nq).alloc (Nat.le_refl _) _ |>.trans hb).mono HW1.out.size)
          clear hu hb
          go_wp2_with fail
          go_ret2
          exact ⟨_, _, _, rfl, chg_yes HG.out HK.out HJ.out, PU.out, B3.out⟩
        · have c3 : y ≤ q := by omega
          rw [Int.max_eq_right c3] at HJ
          go_wp2_with fail
          go_quiet (fail)
          go_wp2_with fail
          have hcc := u_swap a [(p, q)] i (k + 1) (.slice (some ⟨b, off, none⟩) a.length c) (.slice (some ⟨w1.heap.size, 0, none⟩) 1 1) B w1.heap.size ((w1.drewN nq).alloc (.cells #[.int .i64 p, .int .i64 q] 51)) (Nat.le_trans hB HW1.out.size) (by simp)
            (((HA.out.below (HW1.out.mono hB)).drewN nq).alloc (Nat.le_trans hB HW1.out.size) _) hll hij hj (World.ownsRow_lit (w1.drewN nq) #[.int .i64 p, .int .i64 q] 1 (Nat.le_refl _) (by decide) rfl) (by simp)
          obtain ⟨js, hjs⟩ : ∃ js, js = a.take i ++ [(p, q)] ++ a.drop (k + 1) := ⟨_, rfl⟩
          rw [← hjs] at hcc HJ
          refine hcc.mono ?_
          clear hcc hjs
          rintro e w3 ⟨u, rfl, hu, hb⟩
          have PU := Lib.hid hu
          have B3 : Hid (Below w.heap.size w w3) := HW1.out.trans (((below_drewN (Below.refl w1.heap.size w1) nq).alloc (Nat.le_refl _) _ |>.trans hb).mono HW1.out.size)
          clear hu hb
          go_wp2_with fail
          go_ret2
          exact ⟨_, _, _, rfl, chg_yes HG.out HK.out HJ.out, PU.out, B3.out⟩
    · have HJ := Lib.hid (add_js HM.out hij hlt HG.out HK.out)
      go_wp2_with fail
      have hcc := u_swap a [(x, y)] i j (.slice A a.length c) (.slice (some ⟨w1.heap.size, 0, none⟩) 1 1) B w1.heap.size (w1.alloc (.cells #[.int .i64 x, .int .i64 y] 51)) (Nat.le_trans hB HW1.out.size) (by simp)
        ((HA.out.below (HW1.out.mono hB)).alloc (Nat.le_trans hB HW1.out.size) _) hll hij hj (World.ownsRow_lit w1 #[.int .i64 x, .int .i64 y] 1 (Nat.le_refl _) (by decide) rfl) (by simp)
      obtain ⟨js, hjs⟩ : ∃ js, js = a.take i ++ [(x, y)] ++ a.drop j := ⟨_, rfl⟩
      rw [← hjs] at hcc HJ
      refine hcc.mono ?_
      clear hcc hjs
      rintro e w3 ⟨u, rfl, hu, hb⟩
      have PU := Lib.hid hu
      have B3 : Hid (Below w.heap.size w w3) := HW1.out.trans (((Below.refl w1.heap.size w1).alloc (Nat.le_refl _) _ |>.trans hb).mono HW1.out.size)
      clear hu hb
      go_wp2_with fail
      go_ret2
      exact ⟨_, _, _, rfl, chg_yes HG.out HK.out HJ.out, PU.out, B3.out⟩
  · have t1 : (wrongE a x y == 0) = false := by rw [beq_eq_false_iff_ne]; exact hw
    have H := Lib.hid (wrong_chg (f := orF) (b := [(x, y)]) hw)
    generalize wrongE a x y = n at *
    go_enter Try.func17, Try.ntmps17
    go_wp2_with fail
    refine C.mono ?_
    rintro e w1 ⟨rfl, hw1⟩
    have HW1 := Lib.hid hw1
    clear hw1
    go_wp2_with fail
    go_ret2
    exact ⟨_, [], n, rfl, H.out, Prs.nil_ _ _, HW1.out⟩
end Go.Proofs.Ytjcgclfcompioaa.Span
