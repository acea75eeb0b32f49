/- A day is in a set with days more just if it was or is one of them, in one with days fewer just if it was and is none of them, in both of two just if it is in both, at any stretches and any three numbers; no condition. -/
import Derived.Test.YtjcgclfcompioaaShell
import Derived.Test.YtjcgclfcompioaaSpanWakes
import Derived.Deep.DeepCutAuto
import Derived.Deep.RegionHeld3
import Derived.Test.YtjcgclfcompioaaMod
import Derived.Test.YtjcgclfcompioaaByHand
namespace Go.Proofs.Ytjcgclfcompioaa.Law
open Go.ChangeShapes Go.WideShapes Go.ChangeAt Go.RowKit Pairs Slice Span

set_option maxHeartbeats 4000000 in
set_option maxRecDepth 20000 in
theorem spanDays_no1 (zs ts : List (Int × Int)) (n0 n1 n2 : Int) (v u : Value) (w : World) (hv : Prs w w.heap.size v zs) (hu : Prs w w.heap.size u ts) (hs : zs.length ≤ 200) (ht : ts.length ≤ 200) (hg : goodB zs = false) :
    Calls Try.prog 5 #[v, u, .agg #[.int .i64 n0, .int .i64 n1, .int .i64 n2]] w fun e w' => e = .returned (.bool true) ∧ Below w.heap.size w w' := by
  obtain ⟨i0, hi0, hz0, hz1, hz2⟩ := info_parts span_info
  have HI := Lib.hid hi0
  have HZ0 := Lib.hid hz0
  have HZ1 := Lib.hid hz1
  have HZ2 := Lib.hid hz2
  clear hi0 hz0 hz1 hz2
  obtain ⟨A, c, rfl⟩ := hv.shape
  obtain ⟨A', c', rfl⟩ := hu.shape
  have P0 := Lib.hid hv
  have Q0 := Lib.hid hu
  have t0 : decide ((200 : Int) < (zs.length : Int)) = false := decide_eq_false (by omega)
  have t1 : decide ((200 : Int) < (ts.length : Int)) = false := decide_eq_false (by omega)
  have HL : Hid (zs.length ≤ 200) := hs
  have HT : Hid (ts.length ≤ 200) := ht
  have BB := Lib.hid (Below.refl w.heap.size w)
  clear hv hu hs ht
  have WA := Lib.hid (lit_three w 42 n0 n1 n2)
  have P0 := Lib.hid ((P0.out.alloc (Nat.le_refl _) (.cells #[.int .i64 n0, .int .i64 n1, .int .i64 n2] 42)).more (B' := (w.alloc (.cells #[.int .i64 n0, .int .i64 n1, .int .i64 n2] 42)).heap.size) (by simp))
  have Q0 := Lib.hid ((Q0.out.alloc (Nat.le_refl _) (.cells #[.int .i64 n0, .int .i64 n1, .int .i64 n2] 42)).more (B' := (w.alloc (.cells #[.int .i64 n0, .int .i64 n1, .int .i64 n2] 42)).heap.size) (by simp))
  have BB := Lib.hid (below_new BB.out (.cells #[.int .i64 n0, .int .i64 n1, .int .i64 n2] 42))
  go_enter Try.func5, Try.ntmps5
  go_wp2_with fail
  have hcc := own_any zs _ _ (w.alloc (.cells #[.int .i64 n0, .int .i64 n1, .int .i64 n2] 42)) (Nat.le_refl _) P0.out (by have := HL.out; omega)
  refine hcc.mono ?_
  clear hcc
  rintro e x1 ⟨u, rfl, hp, hb⟩
  have P0 := Lib.hid ((P0.out.below hb).more hb.size)
  have Q0 := Lib.hid ((Q0.out.below hb).more hb.size)
  have WA := Lib.hid ((WA.out.below hb).more hb.size)
  have BB := Lib.hid (below_via BB.out hb)
  clear hb
  obtain ⟨AO1, cO1, rfl⟩ := hp.shape
  have O1 := Lib.hid hp
  clear hp
  go_wp2_with fail
  have G := r_good zs _ _ x1 O1.out
  rw [hg] at G
  have hcc := G
  refine hcc.mono ?_
  clear hcc
  rintro e x2 ⟨rfl, nn, hw⟩
  have hb := quiet_below hw
  clear hw nn
  have P0 := Lib.hid ((P0.out.below hb).more hb.size)
  have Q0 := Lib.hid ((Q0.out.below hb).more hb.size)
  have WA := Lib.hid ((WA.out.below hb).more hb.size)
  have O1 := Lib.hid ((O1.out.below hb).more hb.size)
  have BB := Lib.hid (below_via BB.out hb)
  clear hb
  clear O1
  clear G
  go_wp2_with fail
  refine (wakes_span _).mono ?_
  rintro e wk ⟨rfl, hb⟩
  have BB := Lib.hid (below_via BB.out hb)
  clear hb
  go_wp2_with fail
  go_ret
  exact ⟨rfl, BB.out⟩
set_option maxHeartbeats 4000000 in
set_option maxRecDepth 20000 in
theorem spanDays_no2 (zs ts : List (Int × Int)) (n0 n1 n2 : Int) (v u : Value) (w : World) (hv : Prs w w.heap.size v zs) (hu : Prs w w.heap.size u ts) (hs : zs.length ≤ 200) (ht : ts.length ≤ 200) (hg : goodB zs = true) (hk : goodB ts = false) :
    Calls Try.prog 5 #[v, u, .agg #[.int .i64 n0, .int .i64 n1, .int .i64 n2]] w fun e w' => e = .returned (.bool true) ∧ Below w.heap.size w w' := by
  obtain ⟨i0, hi0, hz0, hz1, hz2⟩ := info_parts span_info
  have HI := Lib.hid hi0
  have HZ0 := Lib.hid hz0
  have HZ1 := Lib.hid hz1
  have HZ2 := Lib.hid hz2
  clear hi0 hz0 hz1 hz2
  obtain ⟨A, c, rfl⟩ := hv.shape
  obtain ⟨A', c', rfl⟩ := hu.shape
  have P0 := Lib.hid hv
  have Q0 := Lib.hid hu
  have t0 : decide ((200 : Int) < (zs.length : Int)) = false := decide_eq_false (by omega)
  have t1 : decide ((200 : Int) < (ts.length : Int)) = false := decide_eq_false (by omega)
  have HL : Hid (zs.length ≤ 200) := hs
  have HT : Hid (ts.length ≤ 200) := ht
  have BB := Lib.hid (Below.refl w.heap.size w)
  clear hv hu hs ht
  have WA := Lib.hid (lit_three w 42 n0 n1 n2)
  have P0 := Lib.hid ((P0.out.alloc (Nat.le_refl _) (.cells #[.int .i64 n0, .int .i64 n1, .int .i64 n2] 42)).more (B' := (w.alloc (.cells #[.int .i64 n0, .int .i64 n1, .int .i64 n2] 42)).heap.size) (by simp))
  have Q0 := Lib.hid ((Q0.out.alloc (Nat.le_refl _) (.cells #[.int .i64 n0, .int .i64 n1, .int .i64 n2] 42)).more (B' := (w.alloc (.cells #[.int .i64 n0, .int .i64 n1, .int .i64 n2] 42)).heap.size) (by simp))
  have BB := Lib.hid (below_new BB.out (.cells #[.int .i64 n0, .int .i64 n1, .int .i64 n2] 42))
  go_enter Try.func5, Try.ntmps5
  go_wp2_with fail
  have hcc := own_any zs _ _ (w.alloc (.cells #[.int .i64 n0, .int .i64 n1, .int .i64 n2] 42)) (Nat.le_refl _) P0.out (by have := HL.out; omega)
  refine hcc.mono ?_
  clear hcc
  rintro e x1 ⟨u, rfl, hp, hb⟩
  have P0 := Lib.hid ((P0.out.below hb).more hb.size)
  have Q0 := Lib.hid ((Q0.out.below hb).more hb.size)
  have WA := Lib.hid ((WA.out.below hb).more hb.size)
  have BB := Lib.hid (below_via BB.out hb)
  clear hb
  obtain ⟨AO1, cO1, rfl⟩ := hp.shape
  have O1 := Lib.hid hp
  clear hp
  go_wp2_with fail
  have G := r_good zs _ _ x1 O1.out
  rw [hg] at G
  have hcc := G
  refine hcc.mono ?_
  clear hcc
  rintro e x2 ⟨rfl, nn, hw⟩
  have hb := quiet_below hw
  clear hw nn
  have P0 := Lib.hid ((P0.out.below hb).more hb.size)
  have Q0 := Lib.hid ((Q0.out.below hb).more hb.size)
  have WA := Lib.hid ((WA.out.below hb).more hb.size)
  have O1 := Lib.hid ((O1.out.below hb).more hb.size)
  have BB := Lib.hid (below_via BB.out hb)
  clear hb
  clear O1
  clear G
  go_wp2_with fail
  have hcc := own_any ts _ _ x2 (Nat.le_refl _) Q0.out (by have := HT.out; omega)
  refine hcc.mono ?_
  clear hcc
  rintro e x3 ⟨u, rfl, hp, hb⟩
  have P0 := Lib.hid ((P0.out.below hb).more hb.size)
  have Q0 := Lib.hid ((Q0.out.below hb).more hb.size)
  have WA := Lib.hid ((WA.out.below hb).more hb.size)
  have BB := Lib.hid (below_via BB.out hb)
  clear hb
  obtain ⟨AO1, cO1, rfl⟩ := hp.shape
  have O1 := Lib.hid hp
  clear hp
  go_wp2_with fail
  have G := r_good ts _ _ x3 O1.out
  rw [hk] at G
  have hcc := G
  refine hcc.mono ?_
  clear hcc
  rintro e x4 ⟨rfl, nn, hw⟩
  have hb := quiet_below hw
  clear hw nn
  have P0 := Lib.hid ((P0.out.below hb).more hb.size)
  have Q0 := Lib.hid ((Q0.out.below hb).more hb.size)
  have WA := Lib.hid ((WA.out.below hb).more hb.size)
  have O1 := Lib.hid ((O1.out.below hb).more hb.size)
  have BB := Lib.hid (below_via BB.out hb)
  clear hb
  clear O1
  clear G
  go_wp2_with fail
  refine (wakes_span _).mono ?_
  rintro e wk ⟨rfl, hb⟩
  have BB := Lib.hid (below_via BB.out hb)
  clear hb
  go_wp2_with fail
  go_ret
  exact ⟨rfl, BB.out⟩
set_option maxHeartbeats 4000000 in
set_option maxRecDepth 20000 in
theorem spanDays_yes (zs ts : List (Int × Int)) (n0 n1 n2 : Int) (v u : Value) (w : World) (hv : Prs w w.heap.size v zs) (hu : Prs w w.heap.size u ts) (hs : zs.length ≤ 200) (ht : ts.length ≤ 200) (hg : goodB zs = true) (hk : goodB ts = true) :
    Calls Try.prog 5 #[v, u, .agg #[.int .i64 n0, .int .i64 n1, .int .i64 n2]] w fun e w' => e = .returned (.bool true) ∧ Below w.heap.size w w' := by
  obtain ⟨i0, hi0, hz0, hz1, hz2⟩ := info_parts span_info
  have HI := Lib.hid hi0
  have HZ0 := Lib.hid hz0
  have HZ1 := Lib.hid hz1
  have HZ2 := Lib.hid hz2
  clear hi0 hz0 hz1 hz2
  obtain ⟨A, c, rfl⟩ := hv.shape
  obtain ⟨A', c', rfl⟩ := hu.shape
  have P0 := Lib.hid hv
  have Q0 := Lib.hid hu
  have t0 : decide ((200 : Int) < (zs.length : Int)) = false := decide_eq_false (by omega)
  have t1 : decide ((200 : Int) < (ts.length : Int)) = false := decide_eq_false (by omega)
  have HL : Hid (zs.length ≤ 200) := hs
  have HT : Hid (ts.length ≤ 200) := ht
  have BB := Lib.hid (Below.refl w.heap.size w)
  clear hv hu hs ht
  have WA := Lib.hid (lit_three w 42 n0 n1 n2)
  have P0 := Lib.hid ((P0.out.alloc (Nat.le_refl _) (.cells #[.int .i64 n0, .int .i64 n1, .int .i64 n2] 42)).more (B' := (w.alloc (.cells #[.int .i64 n0, .int .i64 n1, .int .i64 n2] 42)).heap.size) (by simp))
  have Q0 := Lib.hid ((Q0.out.alloc (Nat.le_refl _) (.cells #[.int .i64 n0, .int .i64 n1, .int .i64 n2] 42)).more (B' := (w.alloc (.cells #[.int .i64 n0, .int .i64 n1, .int .i64 n2] 42)).heap.size) (by simp))
  have BB := Lib.hid (below_new BB.out (.cells #[.int .i64 n0, .int .i64 n1, .int .i64 n2] 42))
  go_enter Try.func5, Try.ntmps5
  go_wp2_with fail
  have hcc := own_any zs _ _ (w.alloc (.cells #[.int .i64 n0, .int .i64 n1, .int .i64 n2] 42)) (Nat.le_refl _) P0.out (by have := HL.out; omega)
  refine hcc.mono ?_
  clear hcc
  rintro e x1 ⟨u, rfl, hp, hb⟩
  have P0 := Lib.hid ((P0.out.below hb).more hb.size)
  have Q0 := Lib.hid ((Q0.out.below hb).more hb.size)
  have WA := Lib.hid ((WA.out.below hb).more hb.size)
  have BB := Lib.hid (below_via BB.out hb)
  clear hb
  obtain ⟨AO1, cO1, rfl⟩ := hp.shape
  have O1 := Lib.hid hp
  clear hp
  go_wp2_with fail
  have G := r_good zs _ _ x1 O1.out
  rw [hg] at G
  have hcc := G
  refine hcc.mono ?_
  clear hcc
  rintro e x2 ⟨rfl, nn, hw⟩
  have hb := quiet_below hw
  clear hw nn
  have P0 := Lib.hid ((P0.out.below hb).more hb.size)
  have Q0 := Lib.hid ((Q0.out.below hb).more hb.size)
  have WA := Lib.hid ((WA.out.below hb).more hb.size)
  have O1 := Lib.hid ((O1.out.below hb).more hb.size)
  have BB := Lib.hid (below_via BB.out hb)
  clear hb
  clear O1
  clear G
  go_wp2_with fail
  have hcc := own_any ts _ _ x2 (Nat.le_refl _) Q0.out (by have := HT.out; omega)
  refine hcc.mono ?_
  clear hcc
  rintro e x3 ⟨u, rfl, hp, hb⟩
  have P0 := Lib.hid ((P0.out.below hb).more hb.size)
  have Q0 := Lib.hid ((Q0.out.below hb).more hb.size)
  have WA := Lib.hid ((WA.out.below hb).more hb.size)
  have BB := Lib.hid (below_via BB.out hb)
  clear hb
  obtain ⟨AO1, cO1, rfl⟩ := hp.shape
  have O1 := Lib.hid hp
  clear hp
  go_wp2_with fail
  have G := r_good ts _ _ x3 O1.out
  rw [hk] at G
  have hcc := G
  refine hcc.mono ?_
  clear hcc
  rintro e x4 ⟨rfl, nn, hw⟩
  have hb := quiet_below hw
  clear hw nn
  have P0 := Lib.hid ((P0.out.below hb).more hb.size)
  have Q0 := Lib.hid ((Q0.out.below hb).more hb.size)
  have WA := Lib.hid ((WA.out.below hb).more hb.size)
  have O1 := Lib.hid ((O1.out.below hb).more hb.size)
  have BB := Lib.hid (below_via BB.out hb)
  clear hb
  clear O1
  clear G
  obtain ⟨a0, a1, a2⟩ := arr3_at WA.out
  go_wp2_with fail
  refine (Mod.mod_any n0 87659 _ (by decide) (by decide)).mono ?_
  rintro e w0 ⟨⟨from0, f0, rfl⟩, rfl⟩
  go_wp2_with fail
  refine (Mod.mod_any n1 (87659 - from0) _ (by omega) (by omega)).mono ?_
  rintro e w0 ⟨⟨k0, f1, rfl⟩, rfl⟩
  have HA := Lib.hid (days_args f0 f1)
  have hwr := days_wrap f0 f1
  have F0 := Lib.hid f0
  have F1 := Lib.hid f1
  clear f0 f1
  go_wp2_with fail
  refine (Mod.mod_any n2 87659 _ (by decide) (by decide)).mono ?_
  rintro e w0 ⟨⟨day0, f2, rfl⟩, rfl⟩
  have F2 := Lib.hid f2
  clear f2 a0 a1 a2
  rw [hwr]
  clear hwr
  obtain ⟨y, hy⟩ : ∃ y : Int, (from0 : Int) + 1 + (k0 : Int) = y := ⟨_, rfl⟩
  rw [hy] at HA ⊢
  obtain ⟨x, hx⟩ : ∃ x : Int, (from0 : Int) = x := ⟨_, rfl⟩
  rw [hx] at HA ⊢
  have HY := Lib.hid hy
  have HX := Lib.hid hx
  clear hy hx
  clear WA
  go_wp2_with (first
    | (at_builtin
       have OW : Hid ((x4.alloc (.cells #[] 51)).ownsRow x4.heap.size 51 2 (.slice (some ⟨x4.heap.size, 0, none⟩) 0 0) 0 []) := own_none (w := x4) (by simp) (Nat.le_refl _)
       have OP := Lib.hid (P0.out.alloc (Nat.le_refl _) (.cells #[] 51))
       refine Pairs.wpList_append_pairs rfl (.tmp 56) (.tmp 57) _ rfl x4.heap.size 51 i0 (.agg #[.int .i64 0, .int .i64 0]) Try.underlying22 HI.out HZ0.out HZ1.out HZ2.out rfl (.slice (some ⟨x4.heap.size, 0, none⟩) 0 0) 0 [] rfl OW.out x4.heap.size _ zs rfl OP.out (by have := HL.out; unfold maxLen; omega) (by have := HL.out; omega) (by simp) ?_
       intro v3 x5 hown hgrow
       rw [Nat.zero_add, List.nil_append] at hown
       have hb : Below x4.heap.size x4 x5 := below_append (below_new (Below.refl _ _) _) (Nat.le_refl _) OW.out hgrow
       have P1 := Lib.hid (Prs.of_own rfl hown)
       obtain ⟨AP1, cP1, rfl⟩ := own_shape hown
       clear hown hgrow OW OP
       have P0 := Lib.hid ((P0.out.below hb).more hb.size)
       have Q0 := Lib.hid ((Q0.out.below hb).more hb.size)
       have BB := Lib.hid (below_via BB.out hb)
       clear hb)
    | fail)
  have hcc := u_add zs x y _ _ x5 (Nat.le_refl _) P1.out (by have := HL.out; omega)
  refine hcc.mono ?_
  clear hcc
  rintro e x6 ⟨u, s1, n1, rfl, hc, hp, hb⟩
  have P0 := Lib.hid ((P0.out.below hb).more hb.size)
  have Q0 := Lib.hid ((Q0.out.below hb).more hb.size)
  have P1 := Lib.hid ((P1.out.below hb).more hb.size)
  have BB := Lib.hid (below_via BB.out hb)
  clear hb
  have CC := Lib.hid hc
  clear hc
  obtain ⟨AR1, cR1, rfl⟩ := hp.shape
  have R1 := Lib.hid hp
  clear hp
  obtain ⟨rfl, j1, g1⟩ := chg_well CC.out hg HA.out (fun js hj => Nat.le_trans (either_few (good_norm hg).1 (one_norm HA.out) hj) (by have := HL.out; have := HT.out; simp; omega))
  have J1 := Lib.hid j1
  have G1 := Lib.hid g1
  clear CC j1 g1
  clear P1
  go_wp2_with (first
    | (at_builtin
       have OW : Hid ((x6.alloc (.cells #[] 51)).ownsRow x6.heap.size 51 2 (.slice (some ⟨x6.heap.size, 0, none⟩) 0 0) 0 []) := own_none (w := x6) (by simp) (Nat.le_refl _)
       have OP := Lib.hid (P0.out.alloc (Nat.le_refl _) (.cells #[] 51))
       refine Pairs.wpList_append_pairs rfl (.tmp 65) (.tmp 66) _ rfl x6.heap.size 51 i0 (.agg #[.int .i64 0, .int .i64 0]) Try.underlying22 HI.out HZ0.out HZ1.out HZ2.out rfl (.slice (some ⟨x6.heap.size, 0, none⟩) 0 0) 0 [] rfl OW.out x6.heap.size _ zs rfl OP.out (by have := HL.out; unfold maxLen; omega) (by have := HL.out; omega) (by simp) ?_
       intro v3 x7 hown hgrow
       rw [Nat.zero_add, List.nil_append] at hown
       have hb : Below x6.heap.size x6 x7 := below_append (below_new (Below.refl _ _) _) (Nat.le_refl _) OW.out hgrow
       have P1 := Lib.hid (Prs.of_own rfl hown)
       obtain ⟨AP1, cP1, rfl⟩ := own_shape hown
       clear hown hgrow OW OP
       have P0 := Lib.hid ((P0.out.below hb).more hb.size)
       have Q0 := Lib.hid ((Q0.out.below hb).more hb.size)
       have R1 := Lib.hid ((R1.out.below hb).more hb.size)
       have BB := Lib.hid (below_via BB.out hb)
       clear hb)
    | fail)
  have hcc := u_cut zs x y _ _ x7 (Nat.le_refl _) P1.out (by have := HL.out; omega)
  refine hcc.mono ?_
  clear hcc
  rintro e x8 ⟨u, s2, n2', rfl, hc, hp, hb⟩
  have P0 := Lib.hid ((P0.out.below hb).more hb.size)
  have Q0 := Lib.hid ((Q0.out.below hb).more hb.size)
  have R1 := Lib.hid ((R1.out.below hb).more hb.size)
  have P1 := Lib.hid ((P1.out.below hb).more hb.size)
  have BB := Lib.hid (below_via BB.out hb)
  clear hb
  have CC := Lib.hid hc
  clear hc
  obtain ⟨AR2, cR2, rfl⟩ := hp.shape
  have R2 := Lib.hid hp
  clear hp
  obtain ⟨rfl, j1, g1⟩ := chg_well CC.out hg HA.out (fun js hj => Nat.le_trans (less_few (good_norm hg).1 (one_norm HA.out) hj) (by have := HL.out; have := HT.out; simp; omega))
  have J2 := Lib.hid j1
  have G2 := Lib.hid g1
  clear CC j1 g1
  clear P1
  go_wp2_with (first
    | (at_builtin
       have OW : Hid ((x8.alloc (.cells #[] 51)).ownsRow x8.heap.size 51 2 (.slice (some ⟨x8.heap.size, 0, none⟩) 0 0) 0 []) := own_none (w := x8) (by simp) (Nat.le_refl _)
       have OP := Lib.hid (P0.out.alloc (Nat.le_refl _) (.cells #[] 51))
       refine Pairs.wpList_append_pairs rfl (.tmp 74) (.tmp 75) _ rfl x8.heap.size 51 i0 (.agg #[.int .i64 0, .int .i64 0]) Try.underlying22 HI.out HZ0.out HZ1.out HZ2.out rfl (.slice (some ⟨x8.heap.size, 0, none⟩) 0 0) 0 [] rfl OW.out x8.heap.size _ zs rfl OP.out (by have := HL.out; unfold maxLen; omega) (by have := HL.out; omega) (by simp) ?_
       intro v3 x9 hown hgrow
       rw [Nat.zero_add, List.nil_append] at hown
       have hb : Below x8.heap.size x8 x9 := below_append (below_new (Below.refl _ _) _) (Nat.le_refl _) OW.out hgrow
       have P1 := Lib.hid (Prs.of_own rfl hown)
       obtain ⟨AP1, cP1, rfl⟩ := own_shape hown
       clear hown hgrow OW OP
       have P0 := Lib.hid ((P0.out.below hb).more hb.size)
       have Q0 := Lib.hid ((Q0.out.below hb).more hb.size)
       have R1 := Lib.hid ((R1.out.below hb).more hb.size)
       have R2 := Lib.hid ((R2.out.below hb).more hb.size)
       have BB := Lib.hid (below_via BB.out hb)
       clear hb)
    | (at_builtin
       have OW : Hid ((x9.alloc (.cells #[] 51)).ownsRow x9.heap.size 51 2 (.slice (some ⟨x9.heap.size, 0, none⟩) 0 0) 0 []) := own_none (w := x9) (by simp) (Nat.le_refl _)
       have OP := Lib.hid (Q0.out.alloc (Nat.le_refl _) (.cells #[] 51))
       refine Pairs.wpList_append_pairs rfl (.tmp 77) (.tmp 78) _ rfl x9.heap.size 51 i0 (.agg #[.int .i64 0, .int .i64 0]) Try.underlying22 HI.out HZ0.out HZ1.out HZ2.out rfl (.slice (some ⟨x9.heap.size, 0, none⟩) 0 0) 0 [] rfl OW.out x9.heap.size _ ts rfl OP.out (by have := HT.out; unfold maxLen; omega) (by have := HT.out; omega) (by simp) ?_
       intro v3 x10 hown hgrow
       rw [Nat.zero_add, List.nil_append] at hown
       have hb : Below x9.heap.size x9 x10 := below_append (below_new (Below.refl _ _) _) (Nat.le_refl _) OW.out hgrow
       have Q1 := Lib.hid (Prs.of_own rfl hown)
       obtain ⟨AQ1, cQ1, rfl⟩ := own_shape hown
       clear hown hgrow OW OP
       have P0 := Lib.hid ((P0.out.below hb).more hb.size)
       have Q0 := Lib.hid ((Q0.out.below hb).more hb.size)
       have R1 := Lib.hid ((R1.out.below hb).more hb.size)
       have R2 := Lib.hid ((R2.out.below hb).more hb.size)
       have P1 := Lib.hid ((P1.out.below hb).more hb.size)
       have BB := Lib.hid (below_via BB.out hb)
       clear hb)
    | fail)
  have hcc := u_both zs ts _ _ _ x10 (Nat.le_refl _) P1.out Q1.out (by have := HL.out; omega) (by have := HT.out; omega)
  refine hcc.mono ?_
  clear hcc
  rintro e x11 ⟨u, s3, n3, rfl, hc, hp, hb⟩
  have P0 := Lib.hid ((P0.out.below hb).more hb.size)
  have Q0 := Lib.hid ((Q0.out.below hb).more hb.size)
  have R1 := Lib.hid ((R1.out.below hb).more hb.size)
  have R2 := Lib.hid ((R2.out.below hb).more hb.size)
  have P1 := Lib.hid ((P1.out.below hb).more hb.size)
  have Q1 := Lib.hid ((Q1.out.below hb).more hb.size)
  have BB := Lib.hid (below_via BB.out hb)
  clear hb
  have CC := Lib.hid hc
  clear hc
  obtain ⟨AR3, cR3, rfl⟩ := hp.shape
  have R3 := Lib.hid hp
  clear hp
  obtain ⟨rfl, j1, g1⟩ := chg_well CC.out (by rw [hg, hk]; rfl) rfl (fun js hj => Nat.le_trans (both_few (good_norm hg).1 (good_norm hk).1 hj) (by have := HL.out; have := HT.out; simp; omega))
  have J3 := Lib.hid j1
  have G3 := Lib.hid g1
  clear CC j1 g1
  clear P1 Q1
  have L1 := Lib.hid (good_norm G1.out).2
  have L2 := Lib.hid (good_norm G2.out).2
  have L3 := Lib.hid (good_norm G3.out).2
  go_wp2_with fail
  have hcc := own_any s1 _ _ x11 (Nat.le_refl _) R1.out (by have := L1.out; omega)
  refine hcc.mono ?_
  clear hcc
  rintro e x12 ⟨u, rfl, hp, hb⟩
  have P0 := Lib.hid ((P0.out.below hb).more hb.size)
  have Q0 := Lib.hid ((Q0.out.below hb).more hb.size)
  have R1 := Lib.hid ((R1.out.below hb).more hb.size)
  have R2 := Lib.hid ((R2.out.below hb).more hb.size)
  have R3 := Lib.hid ((R3.out.below hb).more hb.size)
  have BB := Lib.hid (below_via BB.out hb)
  clear hb
  obtain ⟨AO1, cO1, rfl⟩ := hp.shape
  have O1 := Lib.hid hp
  clear hp
  go_wp2_with fail
  have G := r_good s1 _ _ x12 O1.out
  rw [G1.out] at G
  have hcc := G
  refine hcc.mono ?_
  clear hcc
  rintro e x13 ⟨rfl, nn, hw⟩
  have hb := quiet_below hw
  clear hw nn
  have P0 := Lib.hid ((P0.out.below hb).more hb.size)
  have Q0 := Lib.hid ((Q0.out.below hb).more hb.size)
  have R1 := Lib.hid ((R1.out.below hb).more hb.size)
  have R2 := Lib.hid ((R2.out.below hb).more hb.size)
  have R3 := Lib.hid ((R3.out.below hb).more hb.size)
  have O1 := Lib.hid ((O1.out.below hb).more hb.size)
  have BB := Lib.hid (below_via BB.out hb)
  clear hb
  clear O1
  clear G
  go_wp2_with fail
  have hcc := own_any s2 _ _ x13 (Nat.le_refl _) R2.out (by have := L2.out; omega)
  refine hcc.mono ?_
  clear hcc
  rintro e x14 ⟨u, rfl, hp, hb⟩
  have P0 := Lib.hid ((P0.out.below hb).more hb.size)
  have Q0 := Lib.hid ((Q0.out.below hb).more hb.size)
  have R1 := Lib.hid ((R1.out.below hb).more hb.size)
  have R2 := Lib.hid ((R2.out.below hb).more hb.size)
  have R3 := Lib.hid ((R3.out.below hb).more hb.size)
  have BB := Lib.hid (below_via BB.out hb)
  clear hb
  obtain ⟨AO1, cO1, rfl⟩ := hp.shape
  have O1 := Lib.hid hp
  clear hp
  go_wp2_with fail
  have G := r_good s2 _ _ x14 O1.out
  rw [G2.out] at G
  have hcc := G
  refine hcc.mono ?_
  clear hcc
  rintro e x15 ⟨rfl, nn, hw⟩
  have hb := quiet_below hw
  clear hw nn
  have P0 := Lib.hid ((P0.out.below hb).more hb.size)
  have Q0 := Lib.hid ((Q0.out.below hb).more hb.size)
  have R1 := Lib.hid ((R1.out.below hb).more hb.size)
  have R2 := Lib.hid ((R2.out.below hb).more hb.size)
  have R3 := Lib.hid ((R3.out.below hb).more hb.size)
  have O1 := Lib.hid ((O1.out.below hb).more hb.size)
  have BB := Lib.hid (below_via BB.out hb)
  clear hb
  clear O1
  clear G
  go_wp2_with fail
  have hcc := own_any s3 _ _ x15 (Nat.le_refl _) R3.out (by have := L3.out; omega)
  refine hcc.mono ?_
  clear hcc
  rintro e x16 ⟨u, rfl, hp, hb⟩
  have P0 := Lib.hid ((P0.out.below hb).more hb.size)
  have Q0 := Lib.hid ((Q0.out.below hb).more hb.size)
  have R1 := Lib.hid ((R1.out.below hb).more hb.size)
  have R2 := Lib.hid ((R2.out.below hb).more hb.size)
  have R3 := Lib.hid ((R3.out.below hb).more hb.size)
  have BB := Lib.hid (below_via BB.out hb)
  clear hb
  obtain ⟨AO1, cO1, rfl⟩ := hp.shape
  have O1 := Lib.hid hp
  clear hp
  go_wp2_with fail
  have G := r_good s3 _ _ x16 O1.out
  rw [G3.out] at G
  have hcc := G
  refine hcc.mono ?_
  clear hcc
  rintro e x17 ⟨rfl, nn, hw⟩
  have hb := quiet_below hw
  clear hw nn
  have P0 := Lib.hid ((P0.out.below hb).more hb.size)
  have Q0 := Lib.hid ((Q0.out.below hb).more hb.size)
  have R1 := Lib.hid ((R1.out.below hb).more hb.size)
  have R2 := Lib.hid ((R2.out.below hb).more hb.size)
  have R3 := Lib.hid ((R3.out.below hb).more hb.size)
  have O1 := Lib.hid ((O1.out.below hb).more hb.size)
  have BB := Lib.hid (below_via BB.out hb)
  clear hb
  clear O1
  clear G
  go_wp2_with fail
  obtain ⟨XX, hXX⟩ : ∃ XX : World, (x17.alloc (.cells #[.int .i64 (day0 : Int), .int .i64 x, .int .i64 (wrap64 (y - 1)), .int .i64 y, .int .i64 (wrap64 (x - 1))] 3)) = XX := ⟨_, rfl⟩
  have KK := Lib.hid (lit_five x17 3 (day0 : Int) x (wrap64 (y - 1)) y (wrap64 (x - 1)))
  have hb : Below x17.heap.size x17 (x17.alloc (.cells #[.int .i64 (day0 : Int), .int .i64 x, .int .i64 (wrap64 (y - 1)), .int .i64 y, .int .i64 (wrap64 (x - 1))] 3)) := below_new (Below.refl _ _) _
  rw [hXX] at KK hb ⊢
  have P0 := Lib.hid ((P0.out.below hb).more hb.size)
  have Q0 := Lib.hid ((Q0.out.below hb).more hb.size)
  have R1 := Lib.hid ((R1.out.below hb).more hb.size)
  have R2 := Lib.hid ((R2.out.below hb).more hb.size)
  have R3 := Lib.hid ((R3.out.below hb).more hb.size)
  have BB := Lib.hid (below_via BB.out hb)
  clear hb
  clear hXX
  go_loopw [17] (fun t wr => ∃ j : Nat, j ≤ 5 ∧ t = .int .i64 j ∧ Hid (Below XX.heap.size XX wr)) (fun t _ => 5 - (intOf t).toNat)
  case atStart => exact ⟨0, Nat.zero_le _, rfl, Below.refl _ _⟩
  case round =>
    obtain ⟨j, hj, rfl, hbr⟩ := hrel
    by_cases hlt : j < 5
    · have c0 := look_at (KK.out.below hbr.out) (j := j) hlt
      obtain ⟨d, hd⟩ : ∃ d : Int, [(day0 : Int), x, wrap64 (y - 1), y, wrap64 (x - 1)].getD j 0 = d := ⟨_, rfl⟩
      rw [hd] at c0
      have HC : Hid (∀ w', Below XX.heap.size XX w' → w'.cell? ⟨x17.heap.size, j, none⟩ = some (.int .i64 d)) := fun w' hb => by
        have := look_at (KK.out.below hb) (j := j) hlt
        rw [hd] at this
        exact this
      clear hd
      have f1 : hasV s1 d = (hasB zs d || (decide (x ≤ d) && decide (d < y))) := by rw [hasV_good G1.out, J1.out.2 d, has_one']; rfl
      have f2 : hasV s2 d = (hasB zs d && !(decide (x ≤ d) && decide (d < y))) := by rw [hasV_good G2.out, J2.out.2 d, has_one']; rfl
      have f3 : hasV s3 d = (hasB zs d && hasB ts d) := by rw [hasV_good G3.out, J3.out.2 d]; rfl
      have f0 := hasV_good hg d
      have f4 := hasV_good hk d
      have j0 : (0 : Int) ≤ j := by omega
      have j5 : (j : Int) < 5 := by omega
      have PR := Lib.hid ((P0.out.below hbr.out).more hbr.out.size)
      have F1 := Lib.hid f1
      have F2 := Lib.hid f2
      have F3 := Lib.hid f3
      have F4 := Lib.hid f4
      clear f1 f2 f3 f4
      go_upto_region 15 with fail
      go_cut [18, 19] (fun s t wx => s = .bool (hasB zs d) ∧ t = .bool (decide (x ≤ d) && decide (d < y)) ∧ Hid (Below XX.heap.size XX wx))
      case first =>
        as_aux_lemma =>
          by_cases h1 : x ≤ d
          · have e1 := decide_eq_true h1
            by_cases h2 : d < y
            · have e2 := decide_eq_true h2
              go_region_held3 (fun w' => w'.cell? ⟨x17.heap.size, j, none⟩ = some (.int .i64 d))
                (first
                  | exact HC.out _ B2.out
                  | exact HC.out _ B1.out
                  | exact c0)
                (first
                  | (go_at_call 9
                     have hcc := own_any zs _ _ wr.drew (Nat.le_refl _) PR.out (by have := HL.out; omega)
                     refine hcc.mono ?_
                     clear hcc
                     rintro e y1 ⟨u, rfl, hp, hb⟩
                     obtain ⟨Au, cu, rfl⟩ := hp.shape
                     have B1 := Lib.hid (below_via hbr.out (below_via (below_drew (Below.refl _ _)) hb))
                     have PY := Lib.hid hp
                     clear hb hp)
                  | (go_at_call 13
                     have hcc := r_has zs d _ _ y1 PY.out
                     rw [f0] at hcc
                     refine hcc.mono ?_
                     clear hcc
                     rintro e y2 ⟨rfl, nn, hw⟩
                     have B2 := Lib.hid (below_via B1.out (quiet_below hw))
                     clear hw))
              all_goals
                go_wp2_with fail
                go_meet
                exact ⟨rfl, by first | rfl | (rw [e1, e2]; rfl) | (rw [e1]; rfl), B2⟩
            · have e2 := decide_eq_false h2
              go_region_held3 (fun w' => w'.cell? ⟨x17.heap.size, j, none⟩ = some (.int .i64 d))
                (first
                  | exact HC.out _ B2.out
                  | exact HC.out _ B1.out
                  | exact c0)
                (first
                  | (go_at_call 9
                     have hcc := own_any zs _ _ wr.drew (Nat.le_refl _) PR.out (by have := HL.out; omega)
                     refine hcc.mono ?_
                     clear hcc
                     rintro e y1 ⟨u, rfl, hp, hb⟩
                     obtain ⟨Au, cu, rfl⟩ := hp.shape
                     have B1 := Lib.hid (below_via hbr.out (below_via (below_drew (Below.refl _ _)) hb))
                     have PY := Lib.hid hp
                     clear hb hp)
                  | (go_at_call 13
                     have hcc := r_has zs d _ _ y1 PY.out
                     rw [f0] at hcc
                     refine hcc.mono ?_
                     clear hcc
                     rintro e y2 ⟨rfl, nn, hw⟩
                     have B2 := Lib.hid (below_via B1.out (quiet_below hw))
                     clear hw))
              all_goals
                go_wp2_with fail
                go_meet
                exact ⟨rfl, by first | rfl | (rw [e1, e2]; rfl) | (rw [e1]; rfl), B2⟩
          · have e1 := decide_eq_false h1
            refine wp_region_held_drew (S := (fun w' => w'.cell? ⟨x17.heap.size, j, none⟩ = some (.int .i64 d))) (by kernel_rfl) c0 (fun hHeld => ?_)
            refine ByHand.take_yes (v := ?_) 0 125 rfl rfl (by kernel_rfl) (by kernel_rfl) (by kernel_rfl) (fun _ _ _ h => h) (by rfl) ?_ (by assumption) ?_
            rotate_left
            · intro w' hSw
              (try dsimp only at hSw)
              go_simp
              all_goals with_reducible rfl
            (try simp only [Act.put, List.setIfInBounds_toArray, List.set_cons_zero, List.set_cons_succ])
            refine ByHand.take_yes (v := ?_) 2 127 rfl rfl (by kernel_rfl) (by kernel_rfl) (by kernel_rfl) (fun _ _ _ h => h) (by rfl) ?_ (by assumption) ?_
            rotate_left
            · intro w' hSw
              (try dsimp only at hSw)
              go_simp
              all_goals with_reducible rfl
            (try simp only [Act.put, List.setIfInBounds_toArray, List.set_cons_zero, List.set_cons_succ])
            refine ByHand.take_yes (v := ?_) 3 128 rfl rfl (by kernel_rfl) (by kernel_rfl) (by kernel_rfl) (fun _ _ _ h => h) (by rfl) ?_ (by assumption) ?_
            rotate_left
            · intro w' hSw
              (try dsimp only at hSw)
              go_simp
              all_goals with_reducible rfl
            (try simp only [Act.put, List.setIfInBounds_toArray, List.set_cons_zero, List.set_cons_succ])
            refine ByHand.take_yes (v := ?_) 4 129 rfl rfl (by kernel_rfl) (by kernel_rfl) (by kernel_rfl) (fun _ _ _ h => h) (by rfl) ?_ (by assumption) ?_
            rotate_left
            · intro w' hSw
              (try dsimp only at hSw)
              go_simp
              all_goals with_reducible rfl
            (try simp only [Act.put, List.setIfInBounds_toArray, List.set_cons_zero, List.set_cons_succ])
            refine ByHand.take_yes (v := ?_) 5 130 rfl rfl (by kernel_rfl) (by kernel_rfl) (by kernel_rfl) (fun _ _ _ h => h) (by rfl) ?_ (by assumption) ?_
            rotate_left
            · intro w' hSw
              (try dsimp only at hSw)
              go_simp
              all_goals with_reducible rfl
            (try simp only [Act.put, List.setIfInBounds_toArray, List.set_cons_zero, List.set_cons_succ])
            refine ByHand.take_yes (v := ?_) 7 132 rfl rfl (by kernel_rfl) (by kernel_rfl) (by kernel_rfl) (fun _ _ _ h => h) (by rfl) ?_ (by assumption) ?_
            rotate_left
            · intro w' hSw
              (try dsimp only at hSw)
              go_simp
              all_goals with_reducible rfl
            (try simp only [Act.put, List.setIfInBounds_toArray, List.set_cons_zero, List.set_cons_succ])
            refine ByHand.take_yes (v := ?_) 8 133 rfl rfl (by kernel_rfl) (by kernel_rfl) (by kernel_rfl) (fun _ _ _ h => h) (by rfl) ?_ (by assumption) ?_
            rotate_left
            · intro w' hSw
              (try dsimp only at hSw)
              go_simp
              all_goals with_reducible rfl
            (try simp only [Act.put, List.setIfInBounds_toArray, List.set_cons_zero, List.set_cons_succ])
            refine ByHand.take_yes (v := ?_) 9 134 rfl rfl (by kernel_rfl) (by kernel_rfl) (by kernel_rfl) (fun _ _ _ h => h) (by rfl) ?_ (by assumption) ?_
            rotate_left
            · intro w' hSw
              (try dsimp only at hSw)
              go_simp
              all_goals with_reducible rfl
            (try simp only [Act.put, List.setIfInBounds_toArray, List.set_cons_zero, List.set_cons_succ])
            refine ByHand.take_yes (v := ?_) 10 135 rfl rfl (by kernel_rfl) (by kernel_rfl) (by kernel_rfl) (fun _ _ _ h => h) (by rfl) ?_ (by assumption) ?_
            rotate_left
            · intro w' hSw
              (try dsimp only at hSw)
              go_simp
              all_goals with_reducible rfl
            (try simp only [Act.put, List.setIfInBounds_toArray, List.set_cons_zero, List.set_cons_succ])
            refine ByHand.take_yes (v := ?_) 11 136 rfl rfl (by kernel_rfl) (by kernel_rfl) (by kernel_rfl) (fun _ _ _ h => h) (by rfl) ?_ (by assumption) ?_
            rotate_left
            · intro w' hSw
              (try dsimp only at hSw)
              go_simp
              all_goals with_reducible rfl
            (try simp only [Act.put, List.setIfInBounds_toArray, List.set_cons_zero, List.set_cons_succ])
            refine ByHand.take_yes (v := ?_) 12 137 rfl rfl (by kernel_rfl) (by kernel_rfl) (by kernel_rfl) (fun _ _ _ h => h) (by rfl) ?_ (by assumption) ?_
            rotate_left
            · intro w' hSw
              (try dsimp only at hSw)
              go_simp
              all_goals with_reducible rfl
            (try simp only [Act.put, List.setIfInBounds_toArray, List.set_cons_zero, List.set_cons_succ])
            refine wpAnyH_ready (rs := [1]) (by kernel_rfl) (by simp) (AllReadyH.cons rfl (fun K hK => ?_) AllReadyH.nil)
            go_simp
            have hcc := own_any zs _ _ wr.drew (Nat.le_refl _) PR.out (Nat.le_trans HL.out (by decide))
            refine hcc.mono ?_
            clear hcc
            rintro e y1 ⟨u, rfl, hp, hb⟩
            obtain ⟨Au, cu, rfl⟩ := hp.shape
            have B1 := Lib.hid (below_via hbr.out (below_via (below_drew (Below.refl _ _)) hb))
            have PY := Lib.hid hp
            clear hb hp
            go_wp2_with fail
            refine hK.out _ _ ?_ (fun hHeld => ?_)
            · exact HC.out _ B1.out
            clear hK K
            (try simp only [Act.put, List.setIfInBounds_toArray, List.set_cons_zero, List.set_cons_succ])
            refine wpAnyH_ready (rs := [6]) (by kernel_rfl) (by simp) (AllReadyH.cons rfl (fun K hK => ?_) AllReadyH.nil)
            go_simp
            have hcc := r_has zs d _ _ y1 PY.out
            rw [f0] at hcc
            refine hcc.mono ?_
            clear hcc
            rintro e y2 ⟨rfl, nn, hw⟩
            have B2 := Lib.hid (below_via B1.out (quiet_below hw))
            clear hw
            go_wp2_with fail
            refine hK.out _ _ ?_ (fun hHeld => ?_)
            · exact HC.out _ B2.out
            clear hK K
            (try simp only [Act.put, List.setIfInBounds_toArray, List.set_cons_zero, List.set_cons_succ])
            refine ByHand.take_yes (v := ?_) 13 138 rfl rfl (by kernel_rfl) (by kernel_rfl) (by kernel_rfl) (fun _ _ _ h => h) (by rfl) ?_ (by assumption) ?_
            rotate_left
            · intro w' hSw
              (try dsimp only at hSw)
              go_simp
              all_goals with_reducible rfl
            (try simp only [Act.put, List.setIfInBounds_toArray, List.set_cons_zero, List.set_cons_succ])
            refine ByHand.take_no 14 139 rfl rfl (by kernel_rfl) (by kernel_rfl) (by kernel_rfl) (fun _ _ _ h => h) (by rfl) (by assumption) ?_
            (try simp only [Act.put, List.setIfInBounds_toArray, List.set_cons_zero, List.set_cons_succ])
            refine ByHand.take_no 15 140 rfl rfl (by kernel_rfl) (by kernel_rfl) (by kernel_rfl) (fun _ _ _ h => h) (by rfl) (by assumption) ?_
            (try simp only [Act.put, List.setIfInBounds_toArray, List.set_cons_zero, List.set_cons_succ])
            refine ByHand.take_no 16 141 rfl rfl (by kernel_rfl) (by kernel_rfl) (by kernel_rfl) (fun _ _ _ h => h) (by rfl) (by assumption) ?_
            (try simp only [Act.put, List.setIfInBounds_toArray, List.set_cons_zero, List.set_cons_succ])
            refine ByHand.take_no 17 142 rfl rfl (by kernel_rfl) (by kernel_rfl) (by kernel_rfl) (fun _ _ _ h => h) (by rfl) (by assumption) ?_
            (try simp only [Act.put, List.setIfInBounds_toArray, List.set_cons_zero, List.set_cons_succ])
            refine ByHand.take_no 18 143 rfl rfl (by kernel_rfl) (by kernel_rfl) (by kernel_rfl) (fun _ _ _ h => h) (by rfl) (by assumption) ?_
            (try simp only [Act.put, List.setIfInBounds_toArray, List.set_cons_zero, List.set_cons_succ])
            refine ByHand.take_no 19 144 rfl rfl (by kernel_rfl) (by kernel_rfl) (by kernel_rfl) (fun _ _ _ h => h) (by rfl) (by assumption) ?_
            (try simp only [Act.put, List.setIfInBounds_toArray, List.set_cons_zero, List.set_cons_succ])
            refine ByHand.take_yes (v := ?_) 20 145 rfl rfl (by kernel_rfl) (by kernel_rfl) (by kernel_rfl) (fun _ _ _ h => h) (by rfl) ?_ (by assumption) ?_
            rotate_left
            · intro w' hSw
              (try dsimp only at hSw)
              go_simp
              all_goals with_reducible rfl
            (try simp only [Act.put, List.setIfInBounds_toArray, List.set_cons_zero, List.set_cons_succ])
            refine ByHand.take_yes (v := ?_) 21 18 rfl rfl (by kernel_rfl) (by kernel_rfl) (by kernel_rfl) (fun _ _ _ h => h) (by rfl) ?_ (by assumption) ?_
            rotate_left
            · intro w' hSw
              (try dsimp only at hSw)
              go_simp
              all_goals with_reducible rfl
            (try simp only [Act.put, List.setIfInBounds_toArray, List.set_cons_zero, List.set_cons_succ])
            refine ByHand.take_yes (v := ?_) 22 19 rfl rfl (by kernel_rfl) (by kernel_rfl) (by kernel_rfl) (fun _ _ _ h => h) (by rfl) ?_ (by assumption) ?_
            rotate_left
            · intro w' hSw
              (try dsimp only at hSw)
              go_simp
              all_goals with_reducible rfl
            (try simp only [Act.put, List.setIfInBounds_toArray, List.set_cons_zero, List.set_cons_succ])
            refine wpAnyH_done (by kernel_rfl) ?_ _
            go_wp2_with fail
            go_meet
            exact ⟨rfl, by rw [e1]; rfl, B2⟩
      case rest =>
        obtain ⟨rfl, rfl, hbc⟩ := hcut
        have f1 := F1.out
        have f2 := F2.out
        have f3 := F3.out
        have f4 := F4.out
        clear F1 F2 F3 F4 f0
        obtain ⟨bw, hw⟩ : ∃ q : Bool, hasB zs d = q := ⟨_, rfl⟩
        rw [hw] at f1 f2 f3 ⊢
        obtain ⟨bi, hi⟩ : ∃ q : Bool, (decide (x ≤ d) && decide (d < y)) = q := ⟨_, rfl⟩
        rw [hi] at f1 f2 ⊢
        obtain ⟨bt, ht⟩ : ∃ q : Bool, hasB ts d = q := ⟨_, rfl⟩
        rw [ht] at f3 f4
        clear hw hi ht
        have R1c := Lib.hid ((R1.out.below hbc.out).more hbc.out.size)
        have R2c := Lib.hid ((R2.out.below hbc.out).more hbc.out.size)
        have R3c := Lib.hid ((R3.out.below hbc.out).more hbc.out.size)
        have Q0c := Lib.hid ((Q0.out.below hbc.out).more hbc.out.size)
        have jw : wrap64 ((j : Int) + 1) = (j : Int) + 1 := wrap_next (Nat.le_trans (Nat.le_of_lt hlt) (by decide))
        cases bw with
        | false =>
          as_aux_lemma =>
          have f1 : hasV s1 d = bi := by rw [f1]; rfl
          have f2 : hasV s2 d = false := by rw [f2]; rfl
          have f3 : hasV s3 d = false := by rw [f3]; rfl
          go_wp2_with fail
          refine wp_region_held_drew (S := (fun w' => w'.cell? ⟨x17.heap.size, j, none⟩ = some (.int .i64 d))) (by kernel_rfl) (HC.out _ (below_drew hbc.out)) (fun hHeld => ?_)
          refine ByHand.take_yes (v := ?_) 0 146 rfl rfl (by kernel_rfl) (by kernel_rfl) (by kernel_rfl) (fun _ _ _ h => h) (by rfl) ?_ (by assumption) ?_
          rotate_left
          · intro w' hSw
            (try dsimp only at hSw)
            go_simp
            all_goals with_reducible rfl
          (try simp only [Act.put, List.setIfInBounds_toArray, List.set_cons_zero, List.set_cons_succ])
          refine ByHand.take_yes (v := ?_) 1 147 rfl rfl (by kernel_rfl) (by kernel_rfl) (by kernel_rfl) (fun _ _ _ h => h) (by rfl) ?_ (by assumption) ?_
          rotate_left
          · intro w' hSw
            (try dsimp only at hSw)
            go_simp
            all_goals with_reducible rfl
          (try simp only [Act.put, List.setIfInBounds_toArray, List.set_cons_zero, List.set_cons_succ])
          refine ByHand.take_yes (v := ?_) 2 148 rfl rfl (by kernel_rfl) (by kernel_rfl) (by kernel_rfl) (fun _ _ _ h => h) (by rfl) ?_ (by assumption) ?_
          rotate_left
          · intro w' hSw
            (try dsimp only at hSw)
            go_simp
            all_goals with_reducible rfl
          (try simp only [Act.put, List.setIfInBounds_toArray, List.set_cons_zero, List.set_cons_succ])
          refine ByHand.take_yes (v := ?_) 3 149 rfl rfl (by kernel_rfl) (by kernel_rfl) (by kernel_rfl) (fun _ _ _ h => h) (by rfl) ?_ (by assumption) ?_
          rotate_left
          · intro w' hSw
            (try dsimp only at hSw)
            go_simp
            all_goals with_reducible rfl
          (try simp only [Act.put, List.setIfInBounds_toArray, List.set_cons_zero, List.set_cons_succ])
          refine ByHand.take_yes (v := ?_) 4 150 rfl rfl (by kernel_rfl) (by kernel_rfl) (by kernel_rfl) (fun _ _ _ h => h) (by rfl) ?_ (by assumption) ?_
          rotate_left
          · intro w' hSw
            (try dsimp only at hSw)
            go_simp
            all_goals with_reducible rfl
          (try simp only [Act.put, List.setIfInBounds_toArray, List.set_cons_zero, List.set_cons_succ])
          refine ByHand.take_yes (v := ?_) 6 152 rfl rfl (by kernel_rfl) (by kernel_rfl) (by kernel_rfl) (fun _ _ _ h => h) (by rfl) ?_ (by assumption) ?_
          rotate_left
          · intro w' hSw
            (try dsimp only at hSw)
            go_simp
            all_goals with_reducible rfl
          (try simp only [Act.put, List.setIfInBounds_toArray, List.set_cons_zero, List.set_cons_succ])
          refine wpAnyH_ready (rs := [5]) (by kernel_rfl) (by simp) (AllReadyH.cons rfl (fun K hK => ?_) AllReadyH.nil)
          go_simp
          have hcc := u_has s1 d _ _ wc.drew (Nat.le_refl _) R1c.out (Nat.le_trans L1.out (by decide))
          rw [f1] at hcc
          refine hcc.mono ?_
          clear hcc
          rintro e y1 ⟨rfl, hb⟩
          have B1c : Hid (Below wc.heap.size wc y1) := below_via (below_drew (Below.refl _ _)) hb
          have B1 := Lib.hid (below_via hbc.out B1c.out)
          clear hb
          go_wp2_with fail
          refine hK.out _ _ ?_ (fun hHeld => ?_)
          · exact HC.out _ B1.out
          clear hK K
          (try simp only [Act.put, List.setIfInBounds_toArray, List.set_cons_zero, List.set_cons_succ])
          refine ByHand.take_yes (v := ?_) 7 153 rfl rfl (by kernel_rfl) (by kernel_rfl) (by kernel_rfl) (fun _ _ _ h => h) (by rfl) ?_ (by assumption) ?_
          rotate_left
          · intro w' hSw
            (try dsimp only at hSw)
            go_simp
            all_goals with_reducible rfl
          (try simp only [Act.put, List.setIfInBounds_toArray, List.set_cons_zero, List.set_cons_succ])
          refine ByHand.take_yes (v := ?_) 8 154 rfl rfl (by kernel_rfl) (by kernel_rfl) (by kernel_rfl) (fun _ _ _ h => h) (by rfl) ?_ (by assumption) ?_
          rotate_left
          · intro w' hSw
            (try dsimp only at hSw)
            go_simp
            all_goals with_reducible rfl
          (try simp only [Act.put, List.setIfInBounds_toArray, List.set_cons_zero, List.set_cons_succ])
          refine ByHand.take_yes (v := ?_) 9 155 rfl rfl (by kernel_rfl) (by kernel_rfl) (by kernel_rfl) (fun _ _ _ h => h) (by rfl) ?_ (by assumption) ?_
          rotate_left
          · intro w' hSw
            (try dsimp only at hSw)
            go_simp
            all_goals with_reducible rfl
          (try simp only [Act.put, List.setIfInBounds_toArray, List.set_cons_zero, List.set_cons_succ])
          refine ByHand.take_yes (v := ?_) 10 156 rfl rfl (by kernel_rfl) (by kernel_rfl) (by kernel_rfl) (fun _ _ _ h => h) (by rfl) ?_ (by assumption) ?_
          rotate_left
          · intro w' hSw
            (try dsimp only at hSw)
            go_simp
            all_goals with_reducible rfl
          (try simp only [Act.put, List.setIfInBounds_toArray, List.set_cons_zero, List.set_cons_succ])
          refine ByHand.take_yes (v := ?_) 11 157 rfl rfl (by kernel_rfl) (by kernel_rfl) (by kernel_rfl) (fun _ _ _ h => h) (by rfl) ?_ (by assumption) ?_
          rotate_left
          · intro w' hSw
            (try dsimp only at hSw)
            go_simp
            all_goals with_reducible rfl
          (try simp only [Act.put, List.setIfInBounds_toArray, List.set_cons_zero, List.set_cons_succ])
          refine ByHand.take_yes (v := ?_) 12 158 rfl rfl (by kernel_rfl) (by kernel_rfl) (by kernel_rfl) (fun _ _ _ h => h) (by rfl) ?_ (by assumption) ?_
          rotate_left
          · intro w' hSw
            (try dsimp only at hSw)
            go_simp
            all_goals with_reducible rfl
          (try simp only [Act.put, List.setIfInBounds_toArray, List.set_cons_zero, List.set_cons_succ])
          refine ByHand.take_yes (v := ?_) 13 159 rfl rfl (by kernel_rfl) (by kernel_rfl) (by kernel_rfl) (fun _ _ _ h => h) (by rfl) ?_ (by assumption) ?_
          rotate_left
          · intro w' hSw
            (try dsimp only at hSw)
            go_simp
            all_goals with_reducible rfl
          (try simp only [Act.put, List.setIfInBounds_toArray, List.set_cons_zero, List.set_cons_succ])
          refine ByHand.take_yes (v := ?_) 14 160 rfl rfl (by kernel_rfl) (by kernel_rfl) (by kernel_rfl) (fun _ _ _ h => h) (by rfl) ?_ (by assumption) ?_
          rotate_left
          · intro w' hSw
            (try dsimp only at hSw)
            go_simp
            all_goals with_reducible rfl
          (try simp only [Act.put, List.setIfInBounds_toArray, List.set_cons_zero, List.set_cons_succ])
          refine ByHand.take_yes (v := ?_) 15 161 rfl rfl (by kernel_rfl) (by kernel_rfl) (by kernel_rfl) (fun _ _ _ h => h) (by rfl) ?_ (by assumption) ?_
          rotate_left
          · intro w' hSw
            (try dsimp only at hSw)
            go_simp
            all_goals with_reducible rfl
          (try simp only [Act.put, List.setIfInBounds_toArray, List.set_cons_zero, List.set_cons_succ])
          refine ByHand.take_yes (v := ?_) 16 162 rfl rfl (by kernel_rfl) (by kernel_rfl) (by kernel_rfl) (fun _ _ _ h => h) (by rfl) ?_ (by assumption) ?_
          rotate_left
          · intro w' hSw
            (try dsimp only at hSw)
            go_simp
            all_goals with_reducible rfl
          (try simp only [Act.put, List.setIfInBounds_toArray, List.set_cons_zero, List.set_cons_succ])
          refine ByHand.take_yes (v := ?_) 18 164 rfl rfl (by kernel_rfl) (by kernel_rfl) (by kernel_rfl) (fun _ _ _ h => h) (by rfl) ?_ (by assumption) ?_
          rotate_left
          · intro w' hSw
            (try dsimp only at hSw)
            go_simp
            all_goals with_reducible rfl
          (try simp only [Act.put, List.setIfInBounds_toArray, List.set_cons_zero, List.set_cons_succ])
          refine wpAnyH_ready (rs := [17]) (by kernel_rfl) (by simp) (AllReadyH.cons rfl (fun K hK => ?_) AllReadyH.nil)
          go_simp
          have hcc := u_has s2 d _ _ y1 (Nat.le_refl _) ((R2c.out.below B1c.out).more B1c.out.size) (Nat.le_trans L2.out (by decide))
          rw [f2] at hcc
          refine hcc.mono ?_
          clear hcc
          rintro e y2 ⟨rfl, hb⟩
          have B2c : Hid (Below wc.heap.size wc y2) := below_via B1c.out hb
          have B2 := Lib.hid (below_via hbc.out B2c.out)
          clear hb
          go_wp2_with fail
          refine hK.out _ _ ?_ (fun hHeld => ?_)
          · exact HC.out _ B2.out
          clear hK K
          (try simp only [Act.put, List.setIfInBounds_toArray, List.set_cons_zero, List.set_cons_succ])
          refine ByHand.take_yes (v := ?_) 19 165 rfl rfl (by kernel_rfl) (by kernel_rfl) (by kernel_rfl) (fun _ _ _ h => h) (by rfl) ?_ (by assumption) ?_
          rotate_left
          · intro w' hSw
            (try dsimp only at hSw)
            go_simp
            all_goals with_reducible rfl
          (try simp only [Act.put, List.setIfInBounds_toArray, List.set_cons_zero, List.set_cons_succ])
          refine ByHand.take_no 20 166 rfl rfl (by kernel_rfl) (by kernel_rfl) (by kernel_rfl) (fun _ _ _ h => h) (by rfl) (by assumption) ?_
          (try simp only [Act.put, List.setIfInBounds_toArray, List.set_cons_zero, List.set_cons_succ])
          refine ByHand.take_no 21 167 rfl rfl (by kernel_rfl) (by kernel_rfl) (by kernel_rfl) (fun _ _ _ h => h) (by rfl) (by assumption) ?_
          (try simp only [Act.put, List.setIfInBounds_toArray, List.set_cons_zero, List.set_cons_succ])
          refine ByHand.take_yes (v := ?_) 22 168 rfl rfl (by kernel_rfl) (by kernel_rfl) (by kernel_rfl) (fun _ _ _ h => h) (by rfl) ?_ (by assumption) ?_
          rotate_left
          · intro w' hSw
            (try dsimp only at hSw)
            go_simp
            all_goals with_reducible rfl
          (try simp only [Act.put, List.setIfInBounds_toArray, List.set_cons_zero, List.set_cons_succ])
          refine ByHand.take_yes (v := ?_) 23 169 rfl rfl (by kernel_rfl) (by kernel_rfl) (by kernel_rfl) (fun _ _ _ h => h) (by rfl) ?_ (by assumption) ?_
          rotate_left
          · intro w' hSw
            (try dsimp only at hSw)
            go_simp
            all_goals with_reducible rfl
          (try simp only [Act.put, List.setIfInBounds_toArray, List.set_cons_zero, List.set_cons_succ])
          refine ByHand.take_yes (v := ?_) 24 170 rfl rfl (by kernel_rfl) (by kernel_rfl) (by kernel_rfl) (fun _ _ _ h => h) (by rfl) ?_ (by assumption) ?_
          rotate_left
          · intro w' hSw
            (try dsimp only at hSw)
            go_simp
            all_goals with_reducible rfl
          (try simp only [Act.put, List.setIfInBounds_toArray, List.set_cons_zero, List.set_cons_succ])
          refine ByHand.take_yes (v := ?_) 25 171 rfl rfl (by kernel_rfl) (by kernel_rfl) (by kernel_rfl) (fun _ _ _ h => h) (by rfl) ?_ (by assumption) ?_
          rotate_left
          · intro w' hSw
            (try dsimp only at hSw)
            go_simp
            all_goals with_reducible rfl
          (try simp only [Act.put, List.setIfInBounds_toArray, List.set_cons_zero, List.set_cons_succ])
          refine ByHand.take_yes (v := ?_) 26 172 rfl rfl (by kernel_rfl) (by kernel_rfl) (by kernel_rfl) (fun _ _ _ h => h) (by rfl) ?_ (by assumption) ?_
          rotate_left
          · intro w' hSw
            (try dsimp only at hSw)
            go_simp
            all_goals with_reducible rfl
          (try simp only [Act.put, List.setIfInBounds_toArray, List.set_cons_zero, List.set_cons_succ])
          refine ByHand.take_yes (v := ?_) 27 173 rfl rfl (by kernel_rfl) (by kernel_rfl) (by kernel_rfl) (fun _ _ _ h => h) (by rfl) ?_ (by assumption) ?_
          rotate_left
          · intro w' hSw
            (try dsimp only at hSw)
            go_simp
            all_goals with_reducible rfl
          (try simp only [Act.put, List.setIfInBounds_toArray, List.set_cons_zero, List.set_cons_succ])
          refine ByHand.take_yes (v := ?_) 28 174 rfl rfl (by kernel_rfl) (by kernel_rfl) (by kernel_rfl) (fun _ _ _ h => h) (by rfl) ?_ (by assumption) ?_
          rotate_left
          · intro w' hSw
            (try dsimp only at hSw)
            go_simp
            all_goals with_reducible rfl
          (try simp only [Act.put, List.setIfInBounds_toArray, List.set_cons_zero, List.set_cons_succ])
          refine ByHand.take_yes (v := ?_) 29 175 rfl rfl (by kernel_rfl) (by kernel_rfl) (by kernel_rfl) (fun _ _ _ h => h) (by rfl) ?_ (by assumption) ?_
          rotate_left
          · intro w' hSw
            (try dsimp only at hSw)
            go_simp
            all_goals with_reducible rfl
          (try simp only [Act.put, List.setIfInBounds_toArray, List.set_cons_zero, List.set_cons_succ])
          refine ByHand.take_yes (v := ?_) 30 176 rfl rfl (by kernel_rfl) (by kernel_rfl) (by kernel_rfl) (fun _ _ _ h => h) (by rfl) ?_ (by assumption) ?_
          rotate_left
          · intro w' hSw
            (try dsimp only at hSw)
            go_simp
            all_goals with_reducible rfl
          (try simp only [Act.put, List.setIfInBounds_toArray, List.set_cons_zero, List.set_cons_succ])
          refine ByHand.take_yes (v := ?_) 32 178 rfl rfl (by kernel_rfl) (by kernel_rfl) (by kernel_rfl) (fun _ _ _ h => h) (by rfl) ?_ (by assumption) ?_
          rotate_left
          · intro w' hSw
            (try dsimp only at hSw)
            go_simp
            all_goals with_reducible rfl
          (try simp only [Act.put, List.setIfInBounds_toArray, List.set_cons_zero, List.set_cons_succ])
          refine wpAnyH_ready (rs := [31]) (by kernel_rfl) (by simp) (AllReadyH.cons rfl (fun K hK => ?_) AllReadyH.nil)
          go_simp
          have hcc := u_has s3 d _ _ y2 (Nat.le_refl _) ((R3c.out.below B2c.out).more B2c.out.size) (Nat.le_trans L3.out (by decide))
          rw [f3] at hcc
          refine hcc.mono ?_
          clear hcc
          rintro e y3 ⟨rfl, hb⟩
          have B3c : Hid (Below wc.heap.size wc y3) := below_via B2c.out hb
          have B3 := Lib.hid (below_via hbc.out B3c.out)
          clear hb
          go_wp2_with fail
          refine hK.out _ _ ?_ (fun hHeld => ?_)
          · exact HC.out _ B3.out
          clear hK K
          (try simp only [Act.put, List.setIfInBounds_toArray, List.set_cons_zero, List.set_cons_succ])
          refine ByHand.take_yes (v := ?_) 33 179 rfl rfl (by kernel_rfl) (by kernel_rfl) (by kernel_rfl) (fun _ _ _ h => h) (by rfl) ?_ (by assumption) ?_
          rotate_left
          · intro w' hSw
            (try dsimp only at hSw)
            go_simp
            all_goals with_reducible rfl
          (try simp only [Act.put, List.setIfInBounds_toArray, List.set_cons_zero, List.set_cons_succ])
          refine ByHand.take_no 34 180 rfl rfl (by kernel_rfl) (by kernel_rfl) (by kernel_rfl) (fun _ _ _ h => h) (by rfl) (by assumption) ?_
          (try simp only [Act.put, List.setIfInBounds_toArray, List.set_cons_zero, List.set_cons_succ])
          refine ByHand.take_no 35 181 rfl rfl (by kernel_rfl) (by kernel_rfl) (by kernel_rfl) (fun _ _ _ h => h) (by rfl) (by assumption) ?_
          (try simp only [Act.put, List.setIfInBounds_toArray, List.set_cons_zero, List.set_cons_succ])
          refine ByHand.take_no 36 182 rfl rfl (by kernel_rfl) (by kernel_rfl) (by kernel_rfl) (fun _ _ _ h => h) (by rfl) (by assumption) ?_
          (try simp only [Act.put, List.setIfInBounds_toArray, List.set_cons_zero, List.set_cons_succ])
          refine ByHand.take_no 37 183 rfl rfl (by kernel_rfl) (by kernel_rfl) (by kernel_rfl) (fun _ _ _ h => h) (by rfl) (by assumption) ?_
          (try simp only [Act.put, List.setIfInBounds_toArray, List.set_cons_zero, List.set_cons_succ])
          refine ByHand.take_no 38 184 rfl rfl (by kernel_rfl) (by kernel_rfl) (by kernel_rfl) (fun _ _ _ h => h) (by rfl) (by assumption) ?_
          (try simp only [Act.put, List.setIfInBounds_toArray, List.set_cons_zero, List.set_cons_succ])
          refine ByHand.take_no 39 185 rfl rfl (by kernel_rfl) (by kernel_rfl) (by kernel_rfl) (fun _ _ _ h => h) (by rfl) (by assumption) ?_
          (try simp only [Act.put, List.setIfInBounds_toArray, List.set_cons_zero, List.set_cons_succ])
          refine ByHand.take_no 40 186 rfl rfl (by kernel_rfl) (by kernel_rfl) (by kernel_rfl) (fun _ _ _ h => h) (by rfl) (by assumption) ?_
          (try simp only [Act.put, List.setIfInBounds_toArray, List.set_cons_zero, List.set_cons_succ])
          refine ByHand.take_yes (v := ?_) 41 187 rfl rfl (by kernel_rfl) (by kernel_rfl) (by kernel_rfl) (fun _ _ _ h => h) (by rfl) ?_ (by assumption) ?_
          rotate_left
          · intro w' hSw
            (try dsimp only at hSw)
            go_simp
            all_goals with_reducible rfl
          (try simp only [Act.put, List.setIfInBounds_toArray, List.set_cons_zero, List.set_cons_succ])
          refine ByHand.take_yes (v := ?_) 42 188 rfl rfl (by kernel_rfl) (by kernel_rfl) (by kernel_rfl) (fun _ _ _ h => h) (by rfl) ?_ (by assumption) ?_
          rotate_left
          · intro w' hSw
            (try dsimp only at hSw)
            go_simp
            all_goals with_reducible rfl
          (try simp only [Act.put, List.setIfInBounds_toArray, List.set_cons_zero, List.set_cons_succ])
          refine ByHand.take_yes (v := ?_) 43 189 rfl rfl (by kernel_rfl) (by kernel_rfl) (by kernel_rfl) (fun _ _ _ h => h) (by rfl) ?_ (by assumption) ?_
          rotate_left
          · intro w' hSw
            (try dsimp only at hSw)
            go_simp
            all_goals with_reducible rfl
          (try simp only [Act.put, List.setIfInBounds_toArray, List.set_cons_zero, List.set_cons_succ])
          refine wpAnyH_done (by kernel_rfl) ?_ _
          go_wp2_with fail
          go_roundw
          case rel => exact ⟨j + 1, hlt, by first | rfl | (rw [jw]; rfl), B3⟩
          case measure => first | exact loop_less hlt | (rw [jw]; exact loop_less hlt)
        | true =>
          as_aux_lemma =>
          have f1 : hasV s1 d = true := by rw [f1]; rfl
          have f2 : hasV s2 d = !bi := by rw [f2]; rfl
          have f3 : hasV s3 d = bt := by rw [f3]; rfl
          go_wp2_with fail
          refine wp_region_held_drew (S := (fun w' => w'.cell? ⟨x17.heap.size, j, none⟩ = some (.int .i64 d))) (by kernel_rfl) (HC.out _ (below_drew hbc.out)) (fun hHeld => ?_)
          refine ByHand.take_yes (v := ?_) 0 146 rfl rfl (by kernel_rfl) (by kernel_rfl) (by kernel_rfl) (fun _ _ _ h => h) (by rfl) ?_ (by assumption) ?_
          rotate_left
          · intro w' hSw
            (try dsimp only at hSw)
            go_simp
            all_goals with_reducible rfl
          (try simp only [Act.put, List.setIfInBounds_toArray, List.set_cons_zero, List.set_cons_succ])
          refine ByHand.take_yes (v := ?_) 1 147 rfl rfl (by kernel_rfl) (by kernel_rfl) (by kernel_rfl) (fun _ _ _ h => h) (by rfl) ?_ (by assumption) ?_
          rotate_left
          · intro w' hSw
            (try dsimp only at hSw)
            go_simp
            all_goals with_reducible rfl
          (try simp only [Act.put, List.setIfInBounds_toArray, List.set_cons_zero, List.set_cons_succ])
          refine ByHand.take_yes (v := ?_) 2 148 rfl rfl (by kernel_rfl) (by kernel_rfl) (by kernel_rfl) (fun _ _ _ h => h) (by rfl) ?_ (by assumption) ?_
          rotate_left
          · intro w' hSw
            (try dsimp only at hSw)
            go_simp
            all_goals with_reducible rfl
          (try simp only [Act.put, List.setIfInBounds_toArray, List.set_cons_zero, List.set_cons_succ])
          refine ByHand.take_yes (v := ?_) 3 149 rfl rfl (by kernel_rfl) (by kernel_rfl) (by kernel_rfl) (fun _ _ _ h => h) (by rfl) ?_ (by assumption) ?_
          rotate_left
          · intro w' hSw
            (try dsimp only at hSw)
            go_simp
            all_goals with_reducible rfl
          (try simp only [Act.put, List.setIfInBounds_toArray, List.set_cons_zero, List.set_cons_succ])
          refine ByHand.take_yes (v := ?_) 4 150 rfl rfl (by kernel_rfl) (by kernel_rfl) (by kernel_rfl) (fun _ _ _ h => h) (by rfl) ?_ (by assumption) ?_
          rotate_left
          · intro w' hSw
            (try dsimp only at hSw)
            go_simp
            all_goals with_reducible rfl
          (try simp only [Act.put, List.setIfInBounds_toArray, List.set_cons_zero, List.set_cons_succ])
          refine ByHand.take_yes (v := ?_) 6 152 rfl rfl (by kernel_rfl) (by kernel_rfl) (by kernel_rfl) (fun _ _ _ h => h) (by rfl) ?_ (by assumption) ?_
          rotate_left
          · intro w' hSw
            (try dsimp only at hSw)
            go_simp
            all_goals with_reducible rfl
          (try simp only [Act.put, List.setIfInBounds_toArray, List.set_cons_zero, List.set_cons_succ])
          refine wpAnyH_ready (rs := [5]) (by kernel_rfl) (by simp) (AllReadyH.cons rfl (fun K hK => ?_) AllReadyH.nil)
          go_simp
          have hcc := u_has s1 d _ _ wc.drew (Nat.le_refl _) R1c.out (Nat.le_trans L1.out (by decide))
          rw [f1] at hcc
          refine hcc.mono ?_
          clear hcc
          rintro e y1 ⟨rfl, hb⟩
          have B1c : Hid (Below wc.heap.size wc y1) := below_via (below_drew (Below.refl _ _)) hb
          have B1 := Lib.hid (below_via hbc.out B1c.out)
          clear hb
          go_wp2_with fail
          refine hK.out _ _ ?_ (fun hHeld => ?_)
          · exact HC.out _ B1.out
          clear hK K
          (try simp only [Act.put, List.setIfInBounds_toArray, List.set_cons_zero, List.set_cons_succ])
          refine ByHand.take_yes (v := ?_) 7 153 rfl rfl (by kernel_rfl) (by kernel_rfl) (by kernel_rfl) (fun _ _ _ h => h) (by rfl) ?_ (by assumption) ?_
          rotate_left
          · intro w' hSw
            (try dsimp only at hSw)
            go_simp
            all_goals with_reducible rfl
          (try simp only [Act.put, List.setIfInBounds_toArray, List.set_cons_zero, List.set_cons_succ])
          refine ByHand.take_no 8 154 rfl rfl (by kernel_rfl) (by kernel_rfl) (by kernel_rfl) (fun _ _ _ h => h) (by rfl) (by assumption) ?_
          (try simp only [Act.put, List.setIfInBounds_toArray, List.set_cons_zero, List.set_cons_succ])
          refine ByHand.take_yes (v := ?_) 9 155 rfl rfl (by kernel_rfl) (by kernel_rfl) (by kernel_rfl) (fun _ _ _ h => h) (by rfl) ?_ (by assumption) ?_
          rotate_left
          · intro w' hSw
            (try dsimp only at hSw)
            go_simp
            all_goals with_reducible rfl
          (try simp only [Act.put, List.setIfInBounds_toArray, List.set_cons_zero, List.set_cons_succ])
          refine ByHand.take_yes (v := ?_) 10 156 rfl rfl (by kernel_rfl) (by kernel_rfl) (by kernel_rfl) (fun _ _ _ h => h) (by rfl) ?_ (by assumption) ?_
          rotate_left
          · intro w' hSw
            (try dsimp only at hSw)
            go_simp
            all_goals with_reducible rfl
          (try simp only [Act.put, List.setIfInBounds_toArray, List.set_cons_zero, List.set_cons_succ])
          refine ByHand.take_yes (v := ?_) 11 157 rfl rfl (by kernel_rfl) (by kernel_rfl) (by kernel_rfl) (fun _ _ _ h => h) (by rfl) ?_ (by assumption) ?_
          rotate_left
          · intro w' hSw
            (try dsimp only at hSw)
            go_simp
            all_goals with_reducible rfl
          (try simp only [Act.put, List.setIfInBounds_toArray, List.set_cons_zero, List.set_cons_succ])
          refine ByHand.take_yes (v := ?_) 12 158 rfl rfl (by kernel_rfl) (by kernel_rfl) (by kernel_rfl) (fun _ _ _ h => h) (by rfl) ?_ (by assumption) ?_
          rotate_left
          · intro w' hSw
            (try dsimp only at hSw)
            go_simp
            all_goals with_reducible rfl
          (try simp only [Act.put, List.setIfInBounds_toArray, List.set_cons_zero, List.set_cons_succ])
          refine ByHand.take_yes (v := ?_) 13 159 rfl rfl (by kernel_rfl) (by kernel_rfl) (by kernel_rfl) (fun _ _ _ h => h) (by rfl) ?_ (by assumption) ?_
          rotate_left
          · intro w' hSw
            (try dsimp only at hSw)
            go_simp
            all_goals with_reducible rfl
          (try simp only [Act.put, List.setIfInBounds_toArray, List.set_cons_zero, List.set_cons_succ])
          refine ByHand.take_yes (v := ?_) 14 160 rfl rfl (by kernel_rfl) (by kernel_rfl) (by kernel_rfl) (fun _ _ _ h => h) (by rfl) ?_ (by assumption) ?_
          rotate_left
          · intro w' hSw
            (try dsimp only at hSw)
            go_simp
            all_goals with_reducible rfl
          (try simp only [Act.put, List.setIfInBounds_toArray, List.set_cons_zero, List.set_cons_succ])
          refine ByHand.take_yes (v := ?_) 15 161 rfl rfl (by kernel_rfl) (by kernel_rfl) (by kernel_rfl) (fun _ _ _ h => h) (by rfl) ?_ (by assumption) ?_
          rotate_left
          · intro w' hSw
            (try dsimp only at hSw)
            go_simp
            all_goals with_reducible rfl
          (try simp only [Act.put, List.setIfInBounds_toArray, List.set_cons_zero, List.set_cons_succ])
          refine ByHand.take_yes (v := ?_) 16 162 rfl rfl (by kernel_rfl) (by kernel_rfl) (by kernel_rfl) (fun _ _ _ h => h) (by rfl) ?_ (by assumption) ?_
          rotate_left
          · intro w' hSw
            (try dsimp only at hSw)
            go_simp
            all_goals with_reducible rfl
          (try simp only [Act.put, List.setIfInBounds_toArray, List.set_cons_zero, List.set_cons_succ])
          refine ByHand.take_yes (v := ?_) 18 164 rfl rfl (by kernel_rfl) (by kernel_rfl) (by kernel_rfl) (fun _ _ _ h => h) (by rfl) ?_ (by assumption) ?_
          rotate_left
          · intro w' hSw
            (try dsimp only at hSw)
            go_simp
            all_goals with_reducible rfl
          (try simp only [Act.put, List.setIfInBounds_toArray, List.set_cons_zero, List.set_cons_succ])
          refine wpAnyH_ready (rs := [17]) (by kernel_rfl) (by simp) (AllReadyH.cons rfl (fun K hK => ?_) AllReadyH.nil)
          go_simp
          have hcc := u_has s2 d _ _ y1 (Nat.le_refl _) ((R2c.out.below B1c.out).more B1c.out.size) (Nat.le_trans L2.out (by decide))
          rw [f2] at hcc
          refine hcc.mono ?_
          clear hcc
          rintro e y2 ⟨rfl, hb⟩
          have B2c : Hid (Below wc.heap.size wc y2) := below_via B1c.out hb
          have B2 := Lib.hid (below_via hbc.out B2c.out)
          clear hb
          go_wp2_with fail
          refine hK.out _ _ ?_ (fun hHeld => ?_)
          · exact HC.out _ B2.out
          clear hK K
          (try simp only [Act.put, List.setIfInBounds_toArray, List.set_cons_zero, List.set_cons_succ])
          refine ByHand.take_yes (v := ?_) 19 165 rfl rfl (by kernel_rfl) (by kernel_rfl) (by kernel_rfl) (fun _ _ _ h => h) (by rfl) ?_ (by assumption) ?_
          rotate_left
          · intro w' hSw
            (try dsimp only at hSw)
            go_simp
            all_goals with_reducible rfl
          (try simp only [Act.put, List.setIfInBounds_toArray, List.set_cons_zero, List.set_cons_succ])
          refine ByHand.take_yes (v := ?_) 20 166 rfl rfl (by kernel_rfl) (by kernel_rfl) (by kernel_rfl) (fun _ _ _ h => h) (by rfl) ?_ (by assumption) ?_
          rotate_left
          · intro w' hSw
            (try dsimp only at hSw)
            go_simp
            all_goals with_reducible rfl
          (try simp only [Act.put, List.setIfInBounds_toArray, List.set_cons_zero, List.set_cons_succ])
          refine ByHand.take_yes (v := ?_) 21 167 rfl rfl (by kernel_rfl) (by kernel_rfl) (by kernel_rfl) (fun _ _ _ h => h) (by rfl) ?_ (by assumption) ?_
          rotate_left
          · intro w' hSw
            (try dsimp only at hSw)
            go_simp
            all_goals with_reducible rfl
          (try simp only [Act.put, List.setIfInBounds_toArray, List.set_cons_zero, List.set_cons_succ])
          refine ByHand.take_yes (v := ?_) 22 168 rfl rfl (by kernel_rfl) (by kernel_rfl) (by kernel_rfl) (fun _ _ _ h => h) (by rfl) ?_ (by assumption) ?_
          rotate_left
          · intro w' hSw
            (try dsimp only at hSw)
            go_simp
            all_goals with_reducible rfl
          (try simp only [Act.put, List.setIfInBounds_toArray, List.set_cons_zero, List.set_cons_succ])
          refine ByHand.take_yes (v := ?_) 23 169 rfl rfl (by kernel_rfl) (by kernel_rfl) (by kernel_rfl) (fun _ _ _ h => h) (by rfl) ?_ (by assumption) ?_
          rotate_left
          · intro w' hSw
            (try dsimp only at hSw)
            go_simp
            all_goals with_reducible rfl
          (try simp only [Act.put, List.setIfInBounds_toArray, List.set_cons_zero, List.set_cons_succ])
          refine ByHand.take_yes (v := ?_) 24 170 rfl rfl (by kernel_rfl) (by kernel_rfl) (by kernel_rfl) (fun _ _ _ h => h) (by rfl) ?_ (by assumption) ?_
          rotate_left
          · intro w' hSw
            (try dsimp only at hSw)
            go_simp
            all_goals with_reducible rfl
          (try simp only [Act.put, List.setIfInBounds_toArray, List.set_cons_zero, List.set_cons_succ])
          refine ByHand.take_yes (v := ?_) 25 171 rfl rfl (by kernel_rfl) (by kernel_rfl) (by kernel_rfl) (fun _ _ _ h => h) (by rfl) ?_ (by assumption) ?_
          rotate_left
          · intro w' hSw
            (try dsimp only at hSw)
            go_simp
            all_goals with_reducible rfl
          (try simp only [Act.put, List.setIfInBounds_toArray, List.set_cons_zero, List.set_cons_succ])
          refine ByHand.take_yes (v := ?_) 26 172 rfl rfl (by kernel_rfl) (by kernel_rfl) (by kernel_rfl) (fun _ _ _ h => h) (by rfl) ?_ (by assumption) ?_
          rotate_left
          · intro w' hSw
            (try dsimp only at hSw)
            go_simp
            all_goals with_reducible rfl
          (try simp only [Act.put, List.setIfInBounds_toArray, List.set_cons_zero, List.set_cons_succ])
          refine ByHand.take_yes (v := ?_) 27 173 rfl rfl (by kernel_rfl) (by kernel_rfl) (by kernel_rfl) (fun _ _ _ h => h) (by rfl) ?_ (by assumption) ?_
          rotate_left
          · intro w' hSw
            (try dsimp only at hSw)
            go_simp
            all_goals with_reducible rfl
          (try simp only [Act.put, List.setIfInBounds_toArray, List.set_cons_zero, List.set_cons_succ])
          refine ByHand.take_yes (v := ?_) 28 174 rfl rfl (by kernel_rfl) (by kernel_rfl) (by kernel_rfl) (fun _ _ _ h => h) (by rfl) ?_ (by assumption) ?_
          rotate_left
          · intro w' hSw
            (try dsimp only at hSw)
            go_simp
            all_goals with_reducible rfl
          (try simp only [Act.put, List.setIfInBounds_toArray, List.set_cons_zero, List.set_cons_succ])
          refine ByHand.take_yes (v := ?_) 29 175 rfl rfl (by kernel_rfl) (by kernel_rfl) (by kernel_rfl) (fun _ _ _ h => h) (by rfl) ?_ (by assumption) ?_
          rotate_left
          · intro w' hSw
            (try dsimp only at hSw)
            go_simp
            all_goals with_reducible rfl
          (try simp only [Act.put, List.setIfInBounds_toArray, List.set_cons_zero, List.set_cons_succ])
          refine ByHand.take_yes (v := ?_) 30 176 rfl rfl (by kernel_rfl) (by kernel_rfl) (by kernel_rfl) (fun _ _ _ h => h) (by rfl) ?_ (by assumption) ?_
          rotate_left
          · intro w' hSw
            (try dsimp only at hSw)
            go_simp
            all_goals with_reducible rfl
          (try simp only [Act.put, List.setIfInBounds_toArray, List.set_cons_zero, List.set_cons_succ])
          refine ByHand.take_yes (v := ?_) 32 178 rfl rfl (by kernel_rfl) (by kernel_rfl) (by kernel_rfl) (fun _ _ _ h => h) (by rfl) ?_ (by assumption) ?_
          rotate_left
          · intro w' hSw
            (try dsimp only at hSw)
            go_simp
            all_goals with_reducible rfl
          (try simp only [Act.put, List.setIfInBounds_toArray, List.set_cons_zero, List.set_cons_succ])
          refine wpAnyH_ready (rs := [31]) (by kernel_rfl) (by simp) (AllReadyH.cons rfl (fun K hK => ?_) AllReadyH.nil)
          go_simp
          have hcc := u_has s3 d _ _ y2 (Nat.le_refl _) ((R3c.out.below B2c.out).more B2c.out.size) (Nat.le_trans L3.out (by decide))
          rw [f3] at hcc
          refine hcc.mono ?_
          clear hcc
          rintro e y3 ⟨rfl, hb⟩
          have B3c : Hid (Below wc.heap.size wc y3) := below_via B2c.out hb
          have B3 := Lib.hid (below_via hbc.out B3c.out)
          clear hb
          go_wp2_with fail
          refine hK.out _ _ ?_ (fun hHeld => ?_)
          · exact HC.out _ B3.out
          clear hK K
          (try simp only [Act.put, List.setIfInBounds_toArray, List.set_cons_zero, List.set_cons_succ])
          refine ByHand.take_yes (v := ?_) 33 179 rfl rfl (by kernel_rfl) (by kernel_rfl) (by kernel_rfl) (fun _ _ _ h => h) (by rfl) ?_ (by assumption) ?_
          rotate_left
          · intro w' hSw
            (try dsimp only at hSw)
            go_simp
            all_goals with_reducible rfl
          (try simp only [Act.put, List.setIfInBounds_toArray, List.set_cons_zero, List.set_cons_succ])
          refine ByHand.take_yes (v := ?_) 34 180 rfl rfl (by kernel_rfl) (by kernel_rfl) (by kernel_rfl) (fun _ _ _ h => h) (by rfl) ?_ (by assumption) ?_
          rotate_left
          · intro w' hSw
            (try dsimp only at hSw)
            go_simp
            all_goals with_reducible rfl
          (try simp only [Act.put, List.setIfInBounds_toArray, List.set_cons_zero, List.set_cons_succ])
          refine ByHand.take_yes (v := ?_) 36 182 rfl rfl (by kernel_rfl) (by kernel_rfl) (by kernel_rfl) (fun _ _ _ h => h) (by rfl) ?_ (by assumption) ?_
          rotate_left
          · intro w' hSw
            (try dsimp only at hSw)
            go_simp
            all_goals with_reducible rfl
          (try simp only [Act.put, List.setIfInBounds_toArray, List.set_cons_zero, List.set_cons_succ])
          refine ByHand.take_yes (v := ?_) 37 183 rfl rfl (by kernel_rfl) (by kernel_rfl) (by kernel_rfl) (fun _ _ _ h => h) (by rfl) ?_ (by assumption) ?_
          rotate_left
          · intro w' hSw
            (try dsimp only at hSw)
            go_simp
            all_goals with_reducible rfl
          (try simp only [Act.put, List.setIfInBounds_toArray, List.set_cons_zero, List.set_cons_succ])
          refine ByHand.take_yes (v := ?_) 38 184 rfl rfl (by kernel_rfl) (by kernel_rfl) (by kernel_rfl) (fun _ _ _ h => h) (by rfl) ?_ (by assumption) ?_
          rotate_left
          · intro w' hSw
            (try dsimp only at hSw)
            go_simp
            all_goals with_reducible rfl
          (try simp only [Act.put, List.setIfInBounds_toArray, List.set_cons_zero, List.set_cons_succ])
          refine ByHand.take_yes (v := ?_) 39 185 rfl rfl (by kernel_rfl) (by kernel_rfl) (by kernel_rfl) (fun _ _ _ h => h) (by rfl) ?_ (by assumption) ?_
          rotate_left
          · intro w' hSw
            (try dsimp only at hSw)
            go_simp
            all_goals with_reducible rfl
          (try simp only [Act.put, List.setIfInBounds_toArray, List.set_cons_zero, List.set_cons_succ])
          refine wpAnyH_ready (rs := [35]) (by kernel_rfl) (by simp) (AllReadyH.cons rfl (fun K hK => ?_) AllReadyH.nil)
          go_simp
          have hcc := own_any ts _ _ y3 (Nat.le_refl _) ((Q0c.out.below B3c.out).more B3c.out.size) (Nat.le_trans HT.out (by decide))
          refine hcc.mono ?_
          clear hcc
          rintro e y4 ⟨u, rfl, hp, hb⟩
          obtain ⟨Au, cu, rfl⟩ := hp.shape
          have B4 := Lib.hid (below_via B3.out hb)
          have PY := Lib.hid hp
          clear hb hp
          go_wp2_with fail
          refine hK.out _ _ ?_ (fun hHeld => ?_)
          · exact HC.out _ B4.out
          clear hK K
          (try simp only [Act.put, List.setIfInBounds_toArray, List.set_cons_zero, List.set_cons_succ])
          refine wpAnyH_ready (rs := [40]) (by kernel_rfl) (by simp) (AllReadyH.cons rfl (fun K hK => ?_) AllReadyH.nil)
          go_simp
          have hcc := r_has ts d _ _ y4 PY.out
          rw [f4] at hcc
          refine hcc.mono ?_
          clear hcc
          rintro e y5 ⟨rfl, nn, hw⟩
          have B5 := Lib.hid (below_via B4.out (quiet_below hw))
          clear hw
          go_wp2_with fail
          refine hK.out _ _ ?_ (fun hHeld => ?_)
          · exact HC.out _ B5.out
          clear hK K
          (try simp only [Act.put, List.setIfInBounds_toArray, List.set_cons_zero, List.set_cons_succ])
          refine ByHand.take_yes (v := ?_) 41 187 rfl rfl (by kernel_rfl) (by kernel_rfl) (by kernel_rfl) (fun _ _ _ h => h) (by rfl) ?_ (by assumption) ?_
          rotate_left
          · intro w' hSw
            (try dsimp only at hSw)
            go_simp
            all_goals with_reducible rfl
          (try simp only [Act.put, List.setIfInBounds_toArray, List.set_cons_zero, List.set_cons_succ])
          refine ByHand.take_yes (v := ?_) 42 188 rfl rfl (by kernel_rfl) (by kernel_rfl) (by kernel_rfl) (fun _ _ _ h => h) (by rfl) ?_ (by assumption) ?_
          rotate_left
          · intro w' hSw
            (try dsimp only at hSw)
            go_simp
            all_goals with_reducible rfl
          (try simp only [Act.put, List.setIfInBounds_toArray, List.set_cons_zero, List.set_cons_succ])
          refine ByHand.take_yes (v := ?_) 43 189 rfl rfl (by kernel_rfl) (by kernel_rfl) (by kernel_rfl) (fun _ _ _ h => h) (by rfl) ?_ (by assumption) ?_
          rotate_left
          · intro w' hSw
            (try dsimp only at hSw)
            go_simp
            all_goals with_reducible rfl
          (try simp only [Act.put, List.setIfInBounds_toArray, List.set_cons_zero, List.set_cons_succ])
          refine wpAnyH_done (by kernel_rfl) ?_ _
          go_wp2_with fail
          go_roundw
          case rel => exact ⟨j + 1, hlt, by first | rfl | (rw [jw]; rfl), B5⟩
          case measure => first | exact loop_less hlt | (rw [jw]; exact loop_less hlt)
    · obtain rfl : j = 5 := by omega
      go_wp2_with fail
      refine (wakes_span _).mono ?_
      rintro e wk ⟨rfl, hb⟩
      go_wp2_with fail
      go_ret
      exact ⟨rfl, below_via (below_via BB.out hbr.out) hb⟩
set_option maxRecDepth 20000 in
theorem spanDays_long (zs ts : List (Int × Int)) (n0 n1 n2 : Int) (v u : Value) (w : World) (hv : Prs w w.heap.size v zs) (hu : Prs w w.heap.size u ts) (hs : 200 < zs.length ∨ 200 < ts.length) :
    Calls Try.prog 5 #[v, u, .agg #[.int .i64 n0, .int .i64 n1, .int .i64 n2]] w fun e w' => e = .returned (.bool true) ∧ Below w.heap.size w w' := by
  obtain ⟨A, c, rfl⟩ := hv.shape
  obtain ⟨A', c', rfl⟩ := hu.shape
  by_cases h : 200 < zs.length
  · have t0 : decide ((200 : Int) < (zs.length : Int)) = true := decide_eq_true (by omega)
    clear h
    clear hv hu hs
    go_enter Try.func5, Try.ntmps5
    go_wp2_with fail
    refine (wakes_span _).mono ?_
    rintro e wk ⟨rfl, hb⟩
    go_wp2_with fail
    go_ret
    exact ⟨rfl, below_via (below_new (Below.refl _ _) _) hb⟩
  · have t0 : decide ((200 : Int) < (zs.length : Int)) = false := decide_eq_false (by omega)
    have t1 : decide ((200 : Int) < (ts.length : Int)) = true := decide_eq_true (by omega)
    clear h
    clear hv hu hs
    go_enter Try.func5, Try.ntmps5
    go_wp2_with fail
    refine (wakes_span _).mono ?_
    rintro e wk ⟨rfl, hb⟩
    go_wp2_with fail
    go_ret
    exact ⟨rfl, below_via (below_new (Below.refl _ _) _) hb⟩
theorem spanDays_walk (zs ts : List (Int × Int)) (n0 n1 n2 : Int) (v u : Value) (w : World) (hv : Prs w w.heap.size v zs) (hu : Prs w w.heap.size u ts) :
    Calls Try.prog 5 #[v, u, .agg #[.int .i64 n0, .int .i64 n1, .int .i64 n2]] w fun e w' => e = .returned (.bool true) ∧ Below w.heap.size w w' := by
  by_cases h : zs.length ≤ 200
  · by_cases h2 : ts.length ≤ 200
    · cases hg : goodB zs with
      | false => exact spanDays_no1 zs ts n0 n1 n2 v u w hv hu h h2 hg
      | true =>
        cases hk : goodB ts with
        | false => exact spanDays_no2 zs ts n0 n1 n2 v u w hv hu h h2 hg hk
        | true => exact spanDays_yes zs ts n0 n1 n2 v u w hv hu h h2 hg hk
    · exact spanDays_long zs ts n0 n1 n2 v u w hv hu (Or.inr (by omega))
  · exact spanDays_long zs ts n0 n1 n2 v u w hv hu (Or.inl (by omega))

set_option maxRecDepth 100000 in
theorem spanDays_lifted (os : Os) (started : os.Started) (H : Type) (enc : TypeId × Value → H) :
    ReturnsInHanded {} Try.checked os 5 .any (Rows.spanDaysSpec.pre6 enc Try.prog Try.f5 Rows.spanDaysRow.domain false) (Rows.spanDaysSpec.post enc Try.prog Try.f5 false true false false) := by
  refine Shell.law_lifted (C := Try.checked) (tb := 4) (by kernel_rfl) started (by kernel_rfl) Try.func5
    (ChangeSpec.witness6 (enc := enc) (C := Try.checked) false ⟨#[], #[Value.slice none 0 0, Value.slice none 0 0, .agg #[.int .i64 0, .int .i64 0, .int .i64 0]], []⟩ 8 (by kernel_rfl) (by kernel_rfl) (by kernel_rfl) (by kernel_rfl))
    (by kernel_rfl) (by kernel_rfl) rfl rfl Try.underlying4 ?_
  intro W base args ds p hval0 hA0
  have hval : ∀ (j : Nat) t v, Try.f5.params[j]? = some t → args[j]? = some v → Value.okWide Try.prog W .any base t v := hval0
  have hA : DataW.TrodAll enc Try.prog W 0 (fun _ => true) true Try.f5.params.toList args.toList ds p := hA0
  clear hval0 hA0
  rw [Try.params5] at hA hval
  obtain ⟨v0, vs0, d0, ds0, p0, q0, hargs, rfl, rfl, h0, r0⟩ := trodAll_cons hA
  obtain ⟨v1, vs1, d1, ds1, p1, q1, rfl, rfl, rfl, h1, r1⟩ := trodAll_cons r0
  obtain ⟨v2, vs2, d2, ds2, p2, q2, rfl, rfl, rfl, h2, r2⟩ := trodAll_cons r1
  obtain ⟨rfl, rfl, rfl⟩ := trodAll_nil r2
  obtain rfl : args = #[v0, v1, v2] := by cases args; simp_all
  refine ⟨rfl, ?_⟩
  obtain ⟨zs, hzs, -⟩ := Pairs.open_pairs Try.underlying22 Try.underlying51 (by kernel_rfl) rfl rfl rfl rfl Try.underlying3 (by kernel_rfl) (hval 0 22 v0 rfl rfl) h0
  obtain ⟨ts, hts, -⟩ := Pairs.open_pairs Try.underlying22 Try.underlying51 (by kernel_rfl) rfl rfl rfl rfl Try.underlying3 (by kernel_rfl) (hval 1 22 v1 rfl rfl) h1
  obtain ⟨zl, hzl, rfl, -⟩ := Shell.open_arr Try.underlying42 Try.underlying3 (by kernel_rfl) (by kernel_rfl) (hval 2 42 v2 rfl rfl) h2
  obtain ⟨n0, n1, n2, rfl⟩ := Shell.list3 zl hzl
  exact spanDays_walk zs ts n0 n1 n2 v0 v1 W hzs hts

theorem spanDays_over : Rows.spanDaysRow.holds Try.pinned (OpenSpec.ofChange Rows.spanDaysSpec) :=
  OpenClaim.holds_of_wide 5 Try.f5 rfl rfl rfl rfl rfl rfl rfl ⟨rfl, rfl, rfl, rfl, rfl⟩ rfl rfl rfl rfl rfl (by kernel_rfl) Try.func5 (by kernel_rfl)
    (of_decide_eq_true (by kernel_rfl)) (by unfold Func.isWrapper; first | (rw [if_pos (by decide +kernel)]; kernel_rfl) | (rw [if_neg (by decide +kernel)]; exact ⟨rfl, rfl⟩))
    (fun os st H enc _ => spanDays_lifted os st H enc)

/-- The statement. -/
theorem spanDays_proved : Rows.SpanDaysSaid := spanDays_over
end Go.Proofs.Ytjcgclfcompioaa.Law
