/- The program's own Cut, at any stretches. -/
import Derived.Test.YtjcgclfcompioaaSpanE
namespace Go.Proofs.Ytjcgclfcompioaa.Span
open Go.ChangeShapes Go.WideShapes Go.ChangeAt Go.RowKit Pairs Slice

theorem u_cut (a : List (Int × Int)) (x y : Int) (va : Value) (B : Nat) (w : World) (hB : B ≤ w.heap.size) (ha : Prs w B va a) (hl : a.length ≤ 2000) :
    Calls Try.prog 19 #[va, .int .i64 x, .int .i64 y] w fun e w' => ∃ v zs n, e = .returned (.tuple #[v, .int .i64 n]) ∧ Chg lessF a [(x, y)] (goodB a) (argB x y) zs n ∧ Prs w' w'.heap.size v zs ∧ Below w.heap.size w w' := by
  have C := u_wrong a x y va B w hB ha hl
  obtain ⟨A, c, rfl⟩ := ha.shape
  have HA := Lib.hid ha
  obtain ⟨i0, hi0, hz0, hz1, hz2⟩ := info_parts span_info
  have HI := Lib.hid hi0
  have HZ0 := Lib.hid hz0
  have HZ1 := Lib.hid hz1
  have HZ2 := Lib.hid hz2
  clear hi0 hz0 hz1 hz2
  by_cases hw : wrongE a x y = 0
  · obtain ⟨hg, hk⟩ := wrong_none hw
    have hll := (good_norm hg).2
    have HG := Lib.hid hg
    have HK := Lib.hid hk
    rw [hw] at C
    have M := fun w1 (hb : Below w.heap.size w w1) => u_met a x y _ B w1 ((ha.below (hb.mono hB))) (good_norm hg).1 hl
    clear hg hk ha hw
    go_enter Try.func19, Try.ntmps19
    go_wp2_with fail
    refine C.mono ?_
    rintro e w1 ⟨rfl, hw1⟩
    have HW1 := Lib.hid hw1
    clear hw1
    go_wp2_with fail
    refine (M w1 HW1.out).mono ?_
    clear M C
    rintro e w2 ⟨i, j, rfl, hij, hj, hm, rfl⟩
    have HM := Lib.hid hm
    clear hm
    by_cases hlt : i < j
    · obtain ⟨k, rfl⟩ : ∃ k, j = k + 1 := ⟨j - 1, by omega⟩
      have HJ := Lib.hid (cut_js' HM.out (by omega) (by omega) HG.out HK.out)
      obtain ⟨A', c', e', -, -, hcell⟩ := HA.out
      injection e' with e1 e2 e3
      subst e1
      subst e3
      obtain ⟨b, off, rfl, hb, hcell⟩ := hcell (by omega)
      have hx := (HW1.out.cell (p := ⟨b, off + i * 2, none⟩) (by show b < _; omega)).trans (hcell i (by omega)).1
      have hy := (HW1.out.cell (p := ⟨b, off + k * 2 + 1, none⟩) (by show b < _; omega)).trans (hcell k (by omega)).2
      have k0 : wrap64 (((k + 1 : Nat) : Int) - 1) = (k : Int) := by unfold wrap64; omega
      have k1 : ((k : Int)).toNat = k := by omega
      have h0 : (0 : Int) ≤ i := by omega
      have h1 : (0 : Int) ≤ k := by omega
      have h2 : decide ((k : Int) < a.length) = true := decide_eq_true (by omega)
      have h3 : decide ((i : Int) < a.length) = true := decide_eq_true (by omega)
      clear hcell e2 HM
      generalize (a.getD i (0, 0)).1 = p at *
      generalize (a.getD k (0, 0)).2 = q at *
      have hbw : b < w1.heap.size := Nat.lt_of_lt_of_le hb (Nat.le_trans hB HW1.out.size)
      by_cases c1 : p < x
      · have t1 := decide_eq_true c1
        by_cases c2 : y < q
        · have t2 := decide_eq_true c2
          have hL : leftL x y p q = [(p, x), (y, q)] := by unfold leftL; rw [if_pos c1, if_pos c2]; rfl
          rw [hL] at HJ
          clear hL
          go_wp2_with (first
            | (at_builtin
               refine Pairs.wpList_append_pair rfl (.tmp 38) (.tmp 46) _ rfl w1.heap.size 51 i0 (.agg #[.int .i64 0, .int .i64 0]) Try.underlying22 HI.out HZ0.out HZ1.out HZ2.out rfl _ _ (p, x) _ 0 _ rfl (World.ownsRow_nil _ _ _ _) _ rfl rfl (by decide) (by decide) (Nat.le_refl _) ?_
               intro v4 w4 hown hgrow
               rw [List.nil_append] at hown
               have O4 := Lib.hid hown
               have B4 : Hid (Below w1.heap.size w1 w4) := (Below.refl w1.heap.size w1).grown hgrow (Nat.le_refl _) (fun g hg => by cases hg)
               obtain ⟨A4, c4, rfl⟩ := own_shape hown
               have hy := (B4.out.cell (p := ⟨b, off + k * 2 + 1, none⟩) hbw).trans hy
               clear hown hgrow)
            | (at_builtin
               refine Pairs.wpList_append_pair rfl (.tmp 61) (.tmp 70) _ rfl w1.heap.size 51 i0 (.agg #[.int .i64 0, .int .i64 0]) Try.underlying22 HI.out HZ0.out HZ1.out HZ2.out rfl _ _ (y, q) _ 1 _ rfl O4.out _ rfl rfl (by decide) (by decide) B4.out.size ?_
               intro v5 w5 hown hgrow
               rw [← flat_append] at hown
               have O5 := Lib.hid hown
               have B5 : Hid (Below w1.heap.size w1 w5) := B4.out.grown hgrow B4.out.size (fun g hg => (O4.out.lt g hg).1)
               obtain ⟨A5, c5, rfl⟩ := own_shape hown
               clear hown hgrow)
            | fail)
          have hcc := u_swap a [(p, x), (y, q)] i (k + 1) (.slice (some ⟨b, off, none⟩) a.length c) (.slice A5 (1 + 1) c5) B w1.heap.size w5 (Nat.le_trans hB HW1.out.size) B5.out.size
            ((HA.out.below (HW1.out.mono hB)).below (B5.out.mono (Nat.le_trans hB HW1.out.size))) hll hij hj (O5.out) (by simp)
          obtain ⟨js, hjs⟩ : ∃ js, js = a.take i ++ [(p, x), (y, q)] ++ a.drop (k + 1) := ⟨_, rfl⟩
          rw [← hjs] at hcc HJ
          refine hcc.mono ?_
          clear hcc hjs
          rintro e w6 ⟨u, rfl, hu, hb⟩
          have PU := Lib.hid hu
          have B6 : Hid (Below w.heap.size w w6) := HW1.out.trans ((B5.out.trans hb).mono HW1.out.size)
          clear hu hb
          go_wp2_with fail
          go_ret2
          exact ⟨_, _, _, rfl, chg_yes HG.out HK.out HJ.out, PU.out, B6.out⟩
        · have t2 := decide_eq_false c2
          have hL : leftL x y p q = [(p, x)] := by unfold leftL; rw [if_pos c1, if_neg c2]; rfl
          rw [hL] at HJ
          clear hL
          go_wp2_with (first
            | (at_builtin
               refine Pairs.wpList_append_pair rfl (.tmp 38) (.tmp 46) _ rfl w1.heap.size 51 i0 (.agg #[.int .i64 0, .int .i64 0]) Try.underlying22 HI.out HZ0.out HZ1.out HZ2.out rfl _ _ (p, x) _ 0 _ rfl (World.ownsRow_nil _ _ _ _) _ rfl rfl (by decide) (by decide) (Nat.le_refl _) ?_
               intro v4 w4 hown hgrow
               rw [List.nil_append] at hown
               have O4 := Lib.hid hown
               have B4 : Hid (Below w1.heap.size w1 w4) := (Below.refl w1.heap.size w1).grown hgrow (Nat.le_refl _) (fun g hg => by cases hg)
               obtain ⟨A4, c4, rfl⟩ := own_shape hown
               have hy := (B4.out.cell (p := ⟨b, off + k * 2 + 1, none⟩) hbw).trans hy
               clear hown hgrow)
            | fail)
          have hcc := u_swap a [(p, x)] i (k + 1) (.slice (some ⟨b, off, none⟩) a.length c) (.slice A4 1 c4) B w1.heap.size w4 (Nat.le_trans hB HW1.out.size) B4.out.size
            ((HA.out.below (HW1.out.mono hB)).below (B4.out.mono (Nat.le_trans hB HW1.out.size))) hll hij hj (O4.out) (by simp)
          obtain ⟨js, hjs⟩ : ∃ js, js = a.take i ++ [(p, x)] ++ a.drop (k + 1) := ⟨_, rfl⟩
          rw [← hjs] at hcc HJ
          refine hcc.mono ?_
          clear hcc hjs
          rintro e w6 ⟨u, rfl, hu, hb⟩
          have PU := Lib.hid hu
          have B6 : Hid (Below w.heap.size w w6) := HW1.out.trans ((B4.out.trans hb).mono HW1.out.size)
          clear hu hb
          go_wp2_with fail
          go_ret2
          exact ⟨_, _, _, rfl, chg_yes HG.out HK.out HJ.out, PU.out, B6.out⟩
      · have t1 := decide_eq_false c1
        by_cases c2 : y < q
        · have t2 := decide_eq_true c2
          have hL : leftL x y p q = [(y, q)] := by unfold leftL; rw [if_neg c1, if_pos c2]; rfl
          rw [hL] at HJ
          clear hL
          go_wp2_with (first
            | (at_builtin
               refine Pairs.wpList_append_pair rfl (.tmp 61) (.tmp 70) _ rfl w1.heap.size 51 i0 (.agg #[.int .i64 0, .int .i64 0]) Try.underlying22 HI.out HZ0.out HZ1.out HZ2.out rfl _ _ (y, q) _ 0 _ rfl (World.ownsRow_nil _ _ _ _) _ rfl rfl (by decide) (by decide) (Nat.le_refl _) ?_
               intro v5 w5 hown hgrow
               rw [List.nil_append] at hown
               have O5 := Lib.hid hown
               have B5 : Hid (Below w1.heap.size w1 w5) := (Below.refl w1.heap.size w1).grown hgrow (Nat.le_refl _) (fun g hg => by cases hg)
               obtain ⟨A5, c5, rfl⟩ := own_shape hown
               clear hown hgrow)
            | fail)
          have hcc := u_swap a [(y, q)] i (k + 1) (.slice (some ⟨b, off, none⟩) a.length c) (.slice A5 1 c5) B w1.heap.size w5 (Nat.le_trans hB HW1.out.size) B5.out.size
            ((HA.out.below (HW1.out.mono hB)).below (B5.out.mono (Nat.le_trans hB HW1.out.size))) hll hij hj (O5.out) (by simp)
          obtain ⟨js, hjs⟩ : ∃ js, js = a.take i ++ [(y, q)] ++ a.drop (k + 1) := ⟨_, rfl⟩
          rw [← hjs] at hcc HJ
          refine hcc.mono ?_
          clear hcc hjs
          rintro e w6 ⟨u, rfl, hu, hb⟩
          have PU := Lib.hid hu
          have B6 : Hid (Below w.heap.size w w6) := HW1.out.trans ((B5.out.trans hb).mono HW1.out.size)
          clear hu hb
          go_wp2_with fail
          go_ret2
          exact ⟨_, _, _, rfl, chg_yes HG.out HK.out HJ.out, PU.out, B6.out⟩
        · have t2 := decide_eq_false c2
          have hL : leftL x y p q = [] := by unfold leftL; rw [if_neg c1, if_neg c2]; rfl
          rw [hL] at HJ
          clear hL
          go_wp2_with fail
          have hcc := u_swap a [] i (k + 1) (.slice (some ⟨b, off, none⟩) a.length c) (.slice none 0 0) B w1.heap.size w1 (Nat.le_trans hB HW1.out.size) (Below.refl w1.heap.size w1).size
            ((HA.out.below (HW1.out.mono hB)).below ((Below.refl w1.heap.size w1).mono (Nat.le_trans hB HW1.out.size))) hll hij hj ((World.ownsRow_nil w1 w1.heap.size 51 2)) (by simp)
          obtain ⟨js, hjs⟩ : ∃ js, js = a.take i ++ [] ++ a.drop (k + 1) := ⟨_, rfl⟩
          rw [← hjs] at hcc HJ
          refine hcc.mono ?_
          clear hcc hjs
          rintro e w6 ⟨u, rfl, hu, hb⟩
          have PU := Lib.hid hu
          have B6 : Hid (Below w.heap.size w w6) := HW1.out.trans (((Below.refl w1.heap.size w1).trans hb).mono HW1.out.size)
          clear hu hb
          go_wp2_with fail
          go_ret2
          exact ⟨_, _, _, rfl, chg_yes HG.out HK.out HJ.out, PU.out, B6.out⟩
    · have HJ := Lib.hid (cut_js HM.out hij hlt HG.out)
      go_wp2_with fail
      have hcc := u_swap a [] i j (.slice A a.length c) (.slice none 0 0) B w1.heap.size w1 (Nat.le_trans hB HW1.out.size) (Nat.le_refl _)
        (HA.out.below (HW1.out.mono hB)) hll hij hj (World.ownsRow_nil _ _ _ _) (by simp)
      obtain ⟨js, hjs⟩ : ∃ js, js = a.take i ++ [] ++ a.drop j := ⟨_, rfl⟩
      rw [← hjs] at hcc HJ
      refine hcc.mono ?_
      clear hcc hjs
      rintro e w6 ⟨u, rfl, hu, hb⟩
      have PU := Lib.hid hu
      have B6 : Hid (Below w.heap.size w w6) := HW1.out.trans (hb.mono HW1.out.size)
      clear hu hb
      go_wp2_with fail
      go_ret2
      exact ⟨_, _, _, rfl, chg_yes HG.out HK.out HJ.out, PU.out, B6.out⟩
  · have t1 : (wrongE a x y == 0) = false := by rw [beq_eq_false_iff_ne]; exact hw
    have H := Lib.hid (wrong_chg (f := lessF) (b := [(x, y)]) hw)
    generalize wrongE a x y = n at *
    go_enter Try.func19, Try.ntmps19
    go_wp2_with fail
    refine C.mono ?_
    rintro e w1 ⟨rfl, hw1⟩
    have HW1 := Lib.hid hw1
    clear hw1
    go_wp2_with fail
    go_ret2
    exact ⟨_, [], n, rfl, H.out, Prs.nil_ _ _, HW1.out⟩
end Go.Proofs.Ytjcgclfcompioaa.Span
