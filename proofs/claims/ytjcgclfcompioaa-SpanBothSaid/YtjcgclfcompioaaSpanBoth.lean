/- The days of both of two sets are the same the other way round, of a set and itself the set; they are as many as are in the one, less those that are in it alone, at any stretches; no condition. -/
import Derived.Test.YtjcgclfcompioaaShell
import Derived.Test.YtjcgclfcompioaaSpanWakes
import Derived.Deep.DeepCutAuto
import Derived.Deep.RegionHeld3
import Derived.Test.YtjcgclfcompioaaMod
namespace Go.Proofs.Ytjcgclfcompioaa.Law
open Go.ChangeShapes Go.WideShapes Go.ChangeAt Go.RowKit Pairs Slice Span

set_option maxHeartbeats 4000000 in
set_option maxRecDepth 20000 in
theorem spanBoth_no1 (zs ts : List (Int × Int)) (v u : Value) (w : World) (hv : Prs w w.heap.size v zs) (hu : Prs w w.heap.size u ts) (hs : zs.length ≤ 200) (ht : ts.length ≤ 200) (hg : goodB zs = false) :
    Calls Try.prog 7 #[v, u] w fun e w' => e = .returned (.bool true) ∧ Below w.heap.size w w' := by
  obtain ⟨i0, hi0, hz0, hz1, hz2⟩ := info_parts span_info
  have HI := Lib.hid hi0
  have HZ0 := Lib.hid hz0
  have HZ1 := Lib.hid hz1
  have HZ2 := Lib.hid hz2
  clear hi0 hz0 hz1 hz2
  obtain ⟨A, c, rfl⟩ := hv.shape
  obtain ⟨A', c', rfl⟩ := hu.shape
  have P0 := Lib.hid hv
  have Q0 := Lib.hid hu
  have t0 : decide ((200 : Int) < (zs.length : Int)) = false := decide_eq_false (by omega)
  have t1 : decide ((200 : Int) < (ts.length : Int)) = false := decide_eq_false (by omega)
  have HL : Hid (zs.length ≤ 200) := hs
  have HT : Hid (ts.length ≤ 200) := ht
  have BB := Lib.hid (Below.refl w.heap.size w)
  clear hv hu hs ht
  go_enter Try.func7, Try.ntmps7
  go_wp2_with fail
  have hcc := own_any zs _ _ w (Nat.le_refl _) P0.out (by have := HL.out; omega)
  refine hcc.mono ?_
  clear hcc
  rintro e x1 ⟨u, rfl, hp, hb⟩
  have P0 := Lib.hid ((P0.out.below hb).more hb.size)
  have Q0 := Lib.hid ((Q0.out.below hb).more hb.size)
  have BB := Lib.hid (below_via BB.out hb)
  clear hb
  obtain ⟨AO1, cO1, rfl⟩ := hp.shape
  have O1 := Lib.hid hp
  clear hp
  go_wp2_with fail
  have G := r_good zs _ _ x1 O1.out
  rw [hg] at G
  have hcc := G
  refine hcc.mono ?_
  clear hcc
  rintro e x2 ⟨rfl, nn, hw⟩
  have hb := quiet_below hw
  clear hw nn
  have P0 := Lib.hid ((P0.out.below hb).more hb.size)
  have Q0 := Lib.hid ((Q0.out.below hb).more hb.size)
  have O1 := Lib.hid ((O1.out.below hb).more hb.size)
  have BB := Lib.hid (below_via BB.out hb)
  clear hb
  clear O1
  clear G
  go_wp2_with fail
  refine (wakes_span _).mono ?_
  rintro e wk ⟨rfl, hb⟩
  have BB := Lib.hid (below_via BB.out hb)
  clear hb
  go_wp2_with fail
  go_ret
  exact ⟨rfl, BB.out⟩
set_option maxHeartbeats 4000000 in
set_option maxRecDepth 20000 in
theorem spanBoth_no2 (zs ts : List (Int × Int)) (v u : Value) (w : World) (hv : Prs w w.heap.size v zs) (hu : Prs w w.heap.size u ts) (hs : zs.length ≤ 200) (ht : ts.length ≤ 200) (hg : goodB zs = true) (hk : goodB ts = false) :
    Calls Try.prog 7 #[v, u] w fun e w' => e = .returned (.bool true) ∧ Below w.heap.size w w' := by
  obtain ⟨i0, hi0, hz0, hz1, hz2⟩ := info_parts span_info
  have HI := Lib.hid hi0
  have HZ0 := Lib.hid hz0
  have HZ1 := Lib.hid hz1
  have HZ2 := Lib.hid hz2
  clear hi0 hz0 hz1 hz2
  obtain ⟨A, c, rfl⟩ := hv.shape
  obtain ⟨A', c', rfl⟩ := hu.shape
  have P0 := Lib.hid hv
  have Q0 := Lib.hid hu
  have t0 : decide ((200 : Int) < (zs.length : Int)) = false := decide_eq_false (by omega)
  have t1 : decide ((200 : Int) < (ts.length : Int)) = false := decide_eq_false (by omega)
  have HL : Hid (zs.length ≤ 200) := hs
  have HT : Hid (ts.length ≤ 200) := ht
  have BB := Lib.hid (Below.refl w.heap.size w)
  clear hv hu hs ht
  go_enter Try.func7, Try.ntmps7
  go_wp2_with fail
  have hcc := own_any zs _ _ w (Nat.le_refl _) P0.out (by have := HL.out; omega)
  refine hcc.mono ?_
  clear hcc
  rintro e x1 ⟨u, rfl, hp, hb⟩
  have P0 := Lib.hid ((P0.out.below hb).more hb.size)
  have Q0 := Lib.hid ((Q0.out.below hb).more hb.size)
  have BB := Lib.hid (below_via BB.out hb)
  clear hb
  obtain ⟨AO1, cO1, rfl⟩ := hp.shape
  have O1 := Lib.hid hp
  clear hp
  go_wp2_with fail
  have G := r_good zs _ _ x1 O1.out
  rw [hg] at G
  have hcc := G
  refine hcc.mono ?_
  clear hcc
  rintro e x2 ⟨rfl, nn, hw⟩
  have hb := quiet_below hw
  clear hw nn
  have P0 := Lib.hid ((P0.out.below hb).more hb.size)
  have Q0 := Lib.hid ((Q0.out.below hb).more hb.size)
  have O1 := Lib.hid ((O1.out.below hb).more hb.size)
  have BB := Lib.hid (below_via BB.out hb)
  clear hb
  clear O1
  clear G
  go_wp2_with fail
  have hcc := own_any ts _ _ x2 (Nat.le_refl _) Q0.out (by have := HT.out; omega)
  refine hcc.mono ?_
  clear hcc
  rintro e x3 ⟨u, rfl, hp, hb⟩
  have P0 := Lib.hid ((P0.out.below hb).more hb.size)
  have Q0 := Lib.hid ((Q0.out.below hb).more hb.size)
  have BB := Lib.hid (below_via BB.out hb)
  clear hb
  obtain ⟨AO1, cO1, rfl⟩ := hp.shape
  have O1 := Lib.hid hp
  clear hp
  go_wp2_with fail
  have G := r_good ts _ _ x3 O1.out
  rw [hk] at G
  have hcc := G
  refine hcc.mono ?_
  clear hcc
  rintro e x4 ⟨rfl, nn, hw⟩
  have hb := quiet_below hw
  clear hw nn
  have P0 := Lib.hid ((P0.out.below hb).more hb.size)
  have Q0 := Lib.hid ((Q0.out.below hb).more hb.size)
  have O1 := Lib.hid ((O1.out.below hb).more hb.size)
  have BB := Lib.hid (below_via BB.out hb)
  clear hb
  clear O1
  clear G
  go_wp2_with fail
  refine (wakes_span _).mono ?_
  rintro e wk ⟨rfl, hb⟩
  have BB := Lib.hid (below_via BB.out hb)
  clear hb
  go_wp2_with fail
  go_ret
  exact ⟨rfl, BB.out⟩
set_option maxHeartbeats 4000000 in
set_option maxRecDepth 20000 in
theorem spanBoth_yes (zs ts : List (Int × Int)) (v u : Value) (w : World) (hv : Prs w w.heap.size v zs) (hu : Prs w w.heap.size u ts) (hs : zs.length ≤ 200) (ht : ts.length ≤ 200) (hg : goodB zs = true) (hk : goodB ts = true) :
    Calls Try.prog 7 #[v, u] w fun e w' => e = .returned (.bool true) ∧ Below w.heap.size w w' := by
  obtain ⟨i0, hi0, hz0, hz1, hz2⟩ := info_parts span_info
  have HI := Lib.hid hi0
  have HZ0 := Lib.hid hz0
  have HZ1 := Lib.hid hz1
  have HZ2 := Lib.hid hz2
  clear hi0 hz0 hz1 hz2
  obtain ⟨A, c, rfl⟩ := hv.shape
  obtain ⟨A', c', rfl⟩ := hu.shape
  have P0 := Lib.hid hv
  have Q0 := Lib.hid hu
  have t0 : decide ((200 : Int) < (zs.length : Int)) = false := decide_eq_false (by omega)
  have t1 : decide ((200 : Int) < (ts.length : Int)) = false := decide_eq_false (by omega)
  have HL : Hid (zs.length ≤ 200) := hs
  have HT : Hid (ts.length ≤ 200) := ht
  have BB := Lib.hid (Below.refl w.heap.size w)
  clear hv hu hs ht
  go_enter Try.func7, Try.ntmps7
  go_wp2_with fail
  have hcc := own_any zs _ _ w (Nat.le_refl _) P0.out (by have := HL.out; omega)
  refine hcc.mono ?_
  clear hcc
  rintro e x1 ⟨u, rfl, hp, hb⟩
  have P0 := Lib.hid ((P0.out.below hb).more hb.size)
  have Q0 := Lib.hid ((Q0.out.below hb).more hb.size)
  have BB := Lib.hid (below_via BB.out hb)
  clear hb
  obtain ⟨AO1, cO1, rfl⟩ := hp.shape
  have O1 := Lib.hid hp
  clear hp
  go_wp2_with fail
  have G := r_good zs _ _ x1 O1.out
  rw [hg] at G
  have hcc := G
  refine hcc.mono ?_
  clear hcc
  rintro e x2 ⟨rfl, nn, hw⟩
  have hb := quiet_below hw
  clear hw nn
  have P0 := Lib.hid ((P0.out.below hb).more hb.size)
  have Q0 := Lib.hid ((Q0.out.below hb).more hb.size)
  have O1 := Lib.hid ((O1.out.below hb).more hb.size)
  have BB := Lib.hid (below_via BB.out hb)
  clear hb
  clear O1
  clear G
  go_wp2_with fail
  have hcc := own_any ts _ _ x2 (Nat.le_refl _) Q0.out (by have := HT.out; omega)
  refine hcc.mono ?_
  clear hcc
  rintro e x3 ⟨u, rfl, hp, hb⟩
  have P0 := Lib.hid ((P0.out.below hb).more hb.size)
  have Q0 := Lib.hid ((Q0.out.below hb).more hb.size)
  have BB := Lib.hid (below_via BB.out hb)
  clear hb
  obtain ⟨AO1, cO1, rfl⟩ := hp.shape
  have O1 := Lib.hid hp
  clear hp
  go_wp2_with fail
  have G := r_good ts _ _ x3 O1.out
  rw [hk] at G
  have hcc := G
  refine hcc.mono ?_
  clear hcc
  rintro e x4 ⟨rfl, nn, hw⟩
  have hb := quiet_below hw
  clear hw nn
  have P0 := Lib.hid ((P0.out.below hb).more hb.size)
  have Q0 := Lib.hid ((Q0.out.below hb).more hb.size)
  have O1 := Lib.hid ((O1.out.below hb).more hb.size)
  have BB := Lib.hid (below_via BB.out hb)
  clear hb
  clear O1
  clear G
  go_wp2_with (first
    | (at_builtin
       have OW : Hid ((x4.alloc (.cells #[] 51)).ownsRow x4.heap.size 51 2 (.slice (some ⟨x4.heap.size, 0, none⟩) 0 0) 0 []) := own_none (w := x4) (by simp) (Nat.le_refl _)
       have OP := Lib.hid (P0.out.alloc (Nat.le_refl _) (.cells #[] 51))
       refine Pairs.wpList_append_pairs rfl (.tmp 37) (.tmp 38) _ rfl x4.heap.size 51 i0 (.agg #[.int .i64 0, .int .i64 0]) Try.underlying22 HI.out HZ0.out HZ1.out HZ2.out rfl (.slice (some ⟨x4.heap.size, 0, none⟩) 0 0) 0 [] rfl OW.out x4.heap.size _ zs rfl OP.out (by have := HL.out; unfold maxLen; omega) (by have := HL.out; omega) (by simp) ?_
       intro v3 x5 hown hgrow
       rw [Nat.zero_add, List.nil_append] at hown
       have hb : Below x4.heap.size x4 x5 := below_append (below_new (Below.refl _ _) _) (Nat.le_refl _) OW.out hgrow
       have P1 := Lib.hid (Prs.of_own rfl hown)
       obtain ⟨AP1, cP1, rfl⟩ := own_shape hown
       clear hown hgrow OW OP
       have P0 := Lib.hid ((P0.out.below hb).more hb.size)
       have Q0 := Lib.hid ((Q0.out.below hb).more hb.size)
       have BB := Lib.hid (below_via BB.out hb)
       clear hb)
    | (at_builtin
       have OW : Hid ((x5.alloc (.cells #[] 51)).ownsRow x5.heap.size 51 2 (.slice (some ⟨x5.heap.size, 0, none⟩) 0 0) 0 []) := own_none (w := x5) (by simp) (Nat.le_refl _)
       have OP := Lib.hid (Q0.out.alloc (Nat.le_refl _) (.cells #[] 51))
       refine Pairs.wpList_append_pairs rfl (.tmp 40) (.tmp 41) _ rfl x5.heap.size 51 i0 (.agg #[.int .i64 0, .int .i64 0]) Try.underlying22 HI.out HZ0.out HZ1.out HZ2.out rfl (.slice (some ⟨x5.heap.size, 0, none⟩) 0 0) 0 [] rfl OW.out x5.heap.size _ ts rfl OP.out (by have := HT.out; unfold maxLen; omega) (by have := HT.out; omega) (by simp) ?_
       intro v3 x6 hown hgrow
       rw [Nat.zero_add, List.nil_append] at hown
       have hb : Below x5.heap.size x5 x6 := below_append (below_new (Below.refl _ _) _) (Nat.le_refl _) OW.out hgrow
       have Q1 := Lib.hid (Prs.of_own rfl hown)
       obtain ⟨AQ1, cQ1, rfl⟩ := own_shape hown
       clear hown hgrow OW OP
       have P0 := Lib.hid ((P0.out.below hb).more hb.size)
       have Q0 := Lib.hid ((Q0.out.below hb).more hb.size)
       have P1 := Lib.hid ((P1.out.below hb).more hb.size)
       have BB := Lib.hid (below_via BB.out hb)
       clear hb)
    | fail)
  have hcc := u_both zs ts _ _ _ x6 (Nat.le_refl _) P1.out Q1.out (by have := HL.out; omega) (by have := HT.out; omega)
  refine hcc.mono ?_
  clear hcc
  rintro e x7 ⟨u, s1, m1, rfl, hc, hp, hb⟩
  have P0 := Lib.hid ((P0.out.below hb).more hb.size)
  have Q0 := Lib.hid ((Q0.out.below hb).more hb.size)
  have P1 := Lib.hid ((P1.out.below hb).more hb.size)
  have Q1 := Lib.hid ((Q1.out.below hb).more hb.size)
  have BB := Lib.hid (below_via BB.out hb)
  clear hb
  have CC := Lib.hid hc
  clear hc
  obtain ⟨AR1, cR1, rfl⟩ := hp.shape
  have R1 := Lib.hid hp
  clear hp
  obtain ⟨rfl, j1, g1⟩ := chg_well CC.out (by rw [hg, hk]; rfl) rfl (fun js hj => Nat.le_trans (both_few (good_norm hg).1 (good_norm hk).1 hj) (by have := HL.out; have := HT.out; omega))
  have J1 := Lib.hid j1
  have G1 := Lib.hid g1
  clear CC j1 g1
  clear P1 Q1
  go_wp2_with (first
    | (at_builtin
       have OW : Hid ((x7.alloc (.cells #[] 51)).ownsRow x7.heap.size 51 2 (.slice (some ⟨x7.heap.size, 0, none⟩) 0 0) 0 []) := own_none (w := x7) (by simp) (Nat.le_refl _)
       have OP := Lib.hid (Q0.out.alloc (Nat.le_refl _) (.cells #[] 51))
       refine Pairs.wpList_append_pairs rfl (.tmp 47) (.tmp 48) _ rfl x7.heap.size 51 i0 (.agg #[.int .i64 0, .int .i64 0]) Try.underlying22 HI.out HZ0.out HZ1.out HZ2.out rfl (.slice (some ⟨x7.heap.size, 0, none⟩) 0 0) 0 [] rfl OW.out x7.heap.size _ ts rfl OP.out (by have := HT.out; unfold maxLen; omega) (by have := HT.out; omega) (by simp) ?_
       intro v3 x8 hown hgrow
       rw [Nat.zero_add, List.nil_append] at hown
       have hb : Below x7.heap.size x7 x8 := below_append (below_new (Below.refl _ _) _) (Nat.le_refl _) OW.out hgrow
       have Q1 := Lib.hid (Prs.of_own rfl hown)
       obtain ⟨AQ1, cQ1, rfl⟩ := own_shape hown
       clear hown hgrow OW OP
       have P0 := Lib.hid ((P0.out.below hb).more hb.size)
       have Q0 := Lib.hid ((Q0.out.below hb).more hb.size)
       have R1 := Lib.hid ((R1.out.below hb).more hb.size)
       have BB := Lib.hid (below_via BB.out hb)
       clear hb)
    | (at_builtin
       have OW : Hid ((x8.alloc (.cells #[] 51)).ownsRow x8.heap.size 51 2 (.slice (some ⟨x8.heap.size, 0, none⟩) 0 0) 0 []) := own_none (w := x8) (by simp) (Nat.le_refl _)
       have OP := Lib.hid (P0.out.alloc (Nat.le_refl _) (.cells #[] 51))
       refine Pairs.wpList_append_pairs rfl (.tmp 50) (.tmp 51) _ rfl x8.heap.size 51 i0 (.agg #[.int .i64 0, .int .i64 0]) Try.underlying22 HI.out HZ0.out HZ1.out HZ2.out rfl (.slice (some ⟨x8.heap.size, 0, none⟩) 0 0) 0 [] rfl OW.out x8.heap.size _ zs rfl OP.out (by have := HL.out; unfold maxLen; omega) (by have := HL.out; omega) (by simp) ?_
       intro v3 x9 hown hgrow
       rw [Nat.zero_add, List.nil_append] at hown
       have hb : Below x8.heap.size x8 x9 := below_append (below_new (Below.refl _ _) _) (Nat.le_refl _) OW.out hgrow
       have P1 := Lib.hid (Prs.of_own rfl hown)
       obtain ⟨AP1, cP1, rfl⟩ := own_shape hown
       clear hown hgrow OW OP
       have P0 := Lib.hid ((P0.out.below hb).more hb.size)
       have Q0 := Lib.hid ((Q0.out.below hb).more hb.size)
       have R1 := Lib.hid ((R1.out.below hb).more hb.size)
       have Q1 := Lib.hid ((Q1.out.below hb).more hb.size)
       have BB := Lib.hid (below_via BB.out hb)
       clear hb)
    | fail)
  have hcc := u_both ts zs _ _ _ x9 (Nat.le_refl _) Q1.out P1.out (by have := HT.out; omega) (by have := HL.out; omega)
  refine hcc.mono ?_
  clear hcc
  rintro e x10 ⟨u, s2, m2, rfl, hc, hp, hb⟩
  have P0 := Lib.hid ((P0.out.below hb).more hb.size)
  have Q0 := Lib.hid ((Q0.out.below hb).more hb.size)
  have R1 := Lib.hid ((R1.out.below hb).more hb.size)
  have Q1 := Lib.hid ((Q1.out.below hb).more hb.size)
  have P1 := Lib.hid ((P1.out.below hb).more hb.size)
  have BB := Lib.hid (below_via BB.out hb)
  clear hb
  have CC := Lib.hid hc
  clear hc
  obtain ⟨AR2, cR2, rfl⟩ := hp.shape
  have R2 := Lib.hid hp
  clear hp
  obtain ⟨rfl, j1, g1⟩ := chg_well CC.out (by rw [hk, hg]; rfl) rfl (fun js hj => Nat.le_trans (both_few (good_norm hk).1 (good_norm hg).1 hj) (by have := HL.out; have := HT.out; omega))
  have J2 := Lib.hid j1
  have G2 := Lib.hid g1
  clear CC j1 g1
  clear P1 Q1
  go_wp2_with (first
    | (at_builtin
       have OW : Hid ((x10.alloc (.cells #[] 51)).ownsRow x10.heap.size 51 2 (.slice (some ⟨x10.heap.size, 0, none⟩) 0 0) 0 []) := own_none (w := x10) (by simp) (Nat.le_refl _)
       have OP := Lib.hid (P0.out.alloc (Nat.le_refl _) (.cells #[] 51))
       refine Pairs.wpList_append_pairs rfl (.tmp 57) (.tmp 58) _ rfl x10.heap.size 51 i0 (.agg #[.int .i64 0, .int .i64 0]) Try.underlying22 HI.out HZ0.out HZ1.out HZ2.out rfl (.slice (some ⟨x10.heap.size, 0, none⟩) 0 0) 0 [] rfl OW.out x10.heap.size _ zs rfl OP.out (by have := HL.out; unfold maxLen; omega) (by have := HL.out; omega) (by simp) ?_
       intro v3 x11 hown hgrow
       rw [Nat.zero_add, List.nil_append] at hown
       have hb : Below x10.heap.size x10 x11 := below_append (below_new (Below.refl _ _) _) (Nat.le_refl _) OW.out hgrow
       have P1 := Lib.hid (Prs.of_own rfl hown)
       obtain ⟨AP1, cP1, rfl⟩ := own_shape hown
       clear hown hgrow OW OP
       have P0 := Lib.hid ((P0.out.below hb).more hb.size)
       have Q0 := Lib.hid ((Q0.out.below hb).more hb.size)
       have R1 := Lib.hid ((R1.out.below hb).more hb.size)
       have R2 := Lib.hid ((R2.out.below hb).more hb.size)
       have BB := Lib.hid (below_via BB.out hb)
       clear hb)
    | (at_builtin
       have OW : Hid ((x11.alloc (.cells #[] 51)).ownsRow x11.heap.size 51 2 (.slice (some ⟨x11.heap.size, 0, none⟩) 0 0) 0 []) := own_none (w := x11) (by simp) (Nat.le_refl _)
       have OP := Lib.hid (P0.out.alloc (Nat.le_refl _) (.cells #[] 51))
       refine Pairs.wpList_append_pairs rfl (.tmp 60) (.tmp 61) _ rfl x11.heap.size 51 i0 (.agg #[.int .i64 0, .int .i64 0]) Try.underlying22 HI.out HZ0.out HZ1.out HZ2.out rfl (.slice (some ⟨x11.heap.size, 0, none⟩) 0 0) 0 [] rfl OW.out x11.heap.size _ zs rfl OP.out (by have := HL.out; unfold maxLen; omega) (by have := HL.out; omega) (by simp) ?_
       intro v3 x12 hown hgrow
       rw [Nat.zero_add, List.nil_append] at hown
       have hb : Below x11.heap.size x11 x12 := below_append (below_new (Below.refl _ _) _) (Nat.le_refl _) OW.out hgrow
       have P2 := Lib.hid (Prs.of_own rfl hown)
       obtain ⟨AP2, cP2, rfl⟩ := own_shape hown
       clear hown hgrow OW OP
       have P0 := Lib.hid ((P0.out.below hb).more hb.size)
       have Q0 := Lib.hid ((Q0.out.below hb).more hb.size)
       have R1 := Lib.hid ((R1.out.below hb).more hb.size)
       have R2 := Lib.hid ((R2.out.below hb).more hb.size)
       have P1 := Lib.hid ((P1.out.below hb).more hb.size)
       have BB := Lib.hid (below_via BB.out hb)
       clear hb)
    | fail)
  have hcc := u_both zs zs _ _ _ x12 (Nat.le_refl _) P1.out P2.out (by have := HL.out; omega) (by have := HL.out; omega)
  refine hcc.mono ?_
  clear hcc
  rintro e x13 ⟨u, s3, m3, rfl, hc, hp, hb⟩
  have P0 := Lib.hid ((P0.out.below hb).more hb.size)
  have Q0 := Lib.hid ((Q0.out.below hb).more hb.size)
  have R1 := Lib.hid ((R1.out.below hb).more hb.size)
  have R2 := Lib.hid ((R2.out.below hb).more hb.size)
  have P1 := Lib.hid ((P1.out.below hb).more hb.size)
  have P2 := Lib.hid ((P2.out.below hb).more hb.size)
  have BB := Lib.hid (below_via BB.out hb)
  clear hb
  have CC := Lib.hid hc
  clear hc
  obtain ⟨AR3, cR3, rfl⟩ := hp.shape
  have R3 := Lib.hid hp
  clear hp
  obtain ⟨rfl, j1, g1⟩ := chg_well CC.out (by rw [hg]; rfl) rfl (fun js hj => Nat.le_trans (both_few (good_norm hg).1 (good_norm hg).1 hj) (by have := HL.out; have := HT.out; omega))
  have J3 := Lib.hid j1
  have G3 := Lib.hid g1
  clear CC j1 g1
  clear P1 P2
  obtain rfl : s1 = s2 := isJ_same J1.out (isJ_swap J2.out)
  obtain rfl : s3 = zs := isJ_same J3.out (isJ_self (good_norm hg).1)
  clear J2 J3 G2 G3
  have L1 := Lib.hid (good_norm G1.out).2
  go_wp2_with fail
  have hcc := own_any s1 _ _ x13 (Nat.le_refl _) R2.out (by have := L1.out; omega)
  refine hcc.mono ?_
  clear hcc
  rintro e x14 ⟨u, rfl, hp, hb⟩
  have P0 := Lib.hid ((P0.out.below hb).more hb.size)
  have Q0 := Lib.hid ((Q0.out.below hb).more hb.size)
  have R1 := Lib.hid ((R1.out.below hb).more hb.size)
  have R2 := Lib.hid ((R2.out.below hb).more hb.size)
  have R3 := Lib.hid ((R3.out.below hb).more hb.size)
  have BB := Lib.hid (below_via BB.out hb)
  clear hb
  obtain ⟨AO1, cO1, rfl⟩ := hp.shape
  have O1 := Lib.hid hp
  clear hp
  go_wp2_with fail
  have hcc := same_any s1 _ _ _ x14 R1.out O1.out
  refine hcc.mono ?_
  clear hcc
  rintro e x15 ⟨rfl, nn, hw⟩
  have hb := quiet_below hw
  clear hw nn
  have P0 := Lib.hid ((P0.out.below hb).more hb.size)
  have Q0 := Lib.hid ((Q0.out.below hb).more hb.size)
  have R1 := Lib.hid ((R1.out.below hb).more hb.size)
  have R2 := Lib.hid ((R2.out.below hb).more hb.size)
  have R3 := Lib.hid ((R3.out.below hb).more hb.size)
  have O1 := Lib.hid ((O1.out.below hb).more hb.size)
  have BB := Lib.hid (below_via BB.out hb)
  clear hb
  clear O1 R2
  go_wp2_with fail
  have hcc := own_any s3 _ _ x15 (Nat.le_refl _) P0.out (by have := HL.out; omega)
  refine hcc.mono ?_
  clear hcc
  rintro e x16 ⟨u, rfl, hp, hb⟩
  have P0 := Lib.hid ((P0.out.below hb).more hb.size)
  have Q0 := Lib.hid ((Q0.out.below hb).more hb.size)
  have R1 := Lib.hid ((R1.out.below hb).more hb.size)
  have R3 := Lib.hid ((R3.out.below hb).more hb.size)
  have BB := Lib.hid (below_via BB.out hb)
  clear hb
  obtain ⟨AO1, cO1, rfl⟩ := hp.shape
  have O1 := Lib.hid hp
  clear hp
  go_wp2_with fail
  have hcc := same_any s3 _ _ _ x16 R3.out O1.out
  refine hcc.mono ?_
  clear hcc
  rintro e x17 ⟨rfl, nn, hw⟩
  have hb := quiet_below hw
  clear hw nn
  have P0 := Lib.hid ((P0.out.below hb).more hb.size)
  have Q0 := Lib.hid ((Q0.out.below hb).more hb.size)
  have R1 := Lib.hid ((R1.out.below hb).more hb.size)
  have R3 := Lib.hid ((R3.out.below hb).more hb.size)
  have O1 := Lib.hid ((O1.out.below hb).more hb.size)
  have BB := Lib.hid (below_via BB.out hb)
  clear hb
  clear O1 R3
  go_wp2_with (first
    | (at_builtin
       have OW : Hid ((x17.alloc (.cells #[] 51)).ownsRow x17.heap.size 51 2 (.slice (some ⟨x17.heap.size, 0, none⟩) 0 0) 0 []) := own_none (w := x17) (by simp) (Nat.le_refl _)
       have OP := Lib.hid (P0.out.alloc (Nat.le_refl _) (.cells #[] 51))
       refine Pairs.wpList_append_pairs rfl (.tmp 90) (.tmp 91) _ rfl x17.heap.size 51 i0 (.agg #[.int .i64 0, .int .i64 0]) Try.underlying22 HI.out HZ0.out HZ1.out HZ2.out rfl (.slice (some ⟨x17.heap.size, 0, none⟩) 0 0) 0 [] rfl OW.out x17.heap.size _ s3 rfl OP.out (by have := HL.out; unfold maxLen; omega) (by have := HL.out; omega) (by simp) ?_
       intro v3 x18 hown hgrow
       rw [Nat.zero_add, List.nil_append] at hown
       have hb : Below x17.heap.size x17 x18 := below_append (below_new (Below.refl _ _) _) (Nat.le_refl _) OW.out hgrow
       have D0 := Lib.hid (Prs.of_own rfl hown)
       obtain ⟨AD0, cD0, rfl⟩ := own_shape hown
       clear hown hgrow OW OP
       have P0 := Lib.hid ((P0.out.below hb).more hb.size)
       have Q0 := Lib.hid ((Q0.out.below hb).more hb.size)
       have R1 := Lib.hid ((R1.out.below hb).more hb.size)
       have BB := Lib.hid (below_via BB.out hb)
       clear hb)
    | fail)
  go_loopw [11, 12] (fun o t wr => ∃ (j : Nat) (ds : List (Int × Int)) (dv : Value), j ≤ ts.length ∧ t = .int .i64 j ∧ o = dv ∧ Hid (Below x18.heap.size x18 wr) ∧ Hid (Prs wr wr.heap.size dv ds) ∧ Hid (IsJ lessF s3 (ts.take j) ds)) (fun _ t _ => ts.length - (intOf t).toNat)
  case atStart => exact ⟨0, s3, _, Nat.zero_le _, rfl, rfl, Below.refl _ _, D0.out, isJ_less0 (good_norm hg).1 ts⟩
  case round =>
    as_aux_lemma =>
      obtain ⟨j, ds, dv, hj, rfl, rfl, hbr, hp, hij⟩ := hrel
      have LD := Lib.hid (cut_few (good_norm hg).1 (good_norm hk).1 HL.out HT.out hij.out)
      have GD := Lib.hid (good_of hij.out.1 (Nat.le_trans LD.out (by decide)))
      obtain ⟨Ad, cd, rfl⟩ := hp.out.shape
      by_cases hlt : j < ts.length
      · obtain ⟨bq, oq, e1, -, hcell⟩ := prs_at (Q0.out.below hbr.out) (by omega)
        subst e1
        obtain ⟨hx, hy⟩ := hcell j hlt
        have HA := Lib.hid (arg_of (good_norm hk).1 hlt)
        have HN := Lib.hid (fun js (k : IsJ lessF ds [((ts.getD j (0, 0)).1, (ts.getD j (0, 0)).2)] js) => isJ_less hlt hij.out k)
        have HF := Lib.hid (fun js (k : IsJ lessF s3 (ts.take (j + 1)) js) => cut_few (good_norm hg).1 (good_norm hk).1 HL.out HT.out k)
        clear hcell
        generalize (ts.getD j (0, 0)).1 = p1 at *
        generalize (ts.getD j (0, 0)).2 = p2 at *
        have j0 : (0 : Int) ≤ j := by omega
        have j1 : (j : Int) < (ts.length : Int) := by omega
        have jw : wrap64 ((j : Int) + 1) = (j : Int) + 1 := wrap_next (Nat.le_trans (Nat.le_of_lt hlt) HT.out)
        as_aux_lemma =>
        go_wp2_with fail
        go_region_held3 (fun w' => w'.cell? ⟨bq, oq + j * 2, none⟩ = some (.int .i64 p1) ∧ w'.cell? ⟨bq, oq + j * 2 + 1, none⟩ = some (.int .i64 p2))
          (first
            | exact ⟨hx2, hy2⟩
            | exact ⟨hx, hy⟩)
          (first
            | (go_at_call 19
               have hcc := u_cut ds p1 p2 _ _ wr.drew (Nat.le_refl _) hp.out (Nat.le_trans LD.out (by decide))
               refine hcc.mono ?_
               clear hcc
               rintro e y1 ⟨dv, js, nn, rfl, hc, hp2, hb⟩
               obtain ⟨rfl, ij, -⟩ := chg_well hc GD.out HA.out (fun js hj => Nat.le_trans (HF.out js (HN.out js hj)) (by decide))
               have IJ := Lib.hid (HN.out js ij)
               have hb : Below wr.heap.size wr y1 := below_via (below_drew (Below.refl _ _)) hb
               have hx2 := (hb.cell (p := ⟨bq, oq + j * 2, none⟩) (block_lt hx)).trans hx
               have hy2 := (hb.cell (p := ⟨bq, oq + j * 2 + 1, none⟩) (block_lt hy)).trans hy
               have BY := Lib.hid (below_via hbr.out hb)
               obtain ⟨An, cn, rfl⟩ := hp2.shape
               have PN := Lib.hid hp2
               clear hc hp2 hb ij))
        all_goals
          go_wp2_with fail
          go_roundw
          case rel => exact ⟨j + 1, js, _, hlt, by rw [jw]; rfl, rfl, BY, PN, IJ⟩
          case measure => rw [jw]; exact loop_less hlt
      · have hjl : j = ts.length := Nat.le_antisymm hj (Nat.le_of_not_lt hlt)
        subst hjl
        as_aux_lemma =>
        have IJ : Hid (IsJ lessF s3 ts ds) := by
          have := hij.out
          rw [List.take_length] at this
          exact this
        obtain ⟨d1, d2⟩ := days_less hg G1.out GD.out J1.out IJ.out
        have P0r := Lib.hid ((P0.out.below hbr.out).more hbr.out.size)
        have R1r := Lib.hid ((R1.out.below hbr.out).more hbr.out.size)
        have BB := Lib.hid (below_via BB.out hbr.out)
        clear hij
        go_wp2_with fail
        have hcc := u_days s1 _ _ wr (Nat.le_refl _) R1r.out (Nat.le_trans L1.out (by decide))
        rw [d1] at hcc
        refine hcc.mono ?_
        clear hcc
        rintro e y1 ⟨rfl, hb⟩
        have P0r := Lib.hid ((P0r.out.below hb).more hb.size)
        have hp := Lib.hid ((hp.out.below hb).more hb.size)
        have BB := Lib.hid (below_via BB.out hb)
        clear hb d1
        obtain ⟨da, hda⟩ : ∃ q : Int, daysV s3 = q := ⟨_, rfl⟩
        obtain ⟨db, hdb⟩ : ∃ q : Int, daysV ds = q := ⟨_, rfl⟩
        rw [hda, hdb] at d2 ⊢
        go_wp2_with fail
        have hcc := u_days s3 _ _ y1 (Nat.le_refl _) P0r.out (Nat.le_trans HL.out (by decide))
        rw [hda] at hcc
        refine hcc.mono ?_
        clear hcc
        rintro e y2 ⟨rfl, hb⟩
        have hp := Lib.hid ((hp.out.below hb).more hb.size)
        have BB := Lib.hid (below_via BB.out hb)
        clear hb
        go_wp2_with fail
        have hcc := u_days ds _ _ y2 (Nat.le_refl _) hp.out (Nat.le_trans LD.out (by decide))
        rw [hdb] at hcc
        refine hcc.mono ?_
        clear hcc
        rintro e y3 ⟨rfl, hb⟩
        have BB := Lib.hid (below_via BB.out hb)
        clear hb
        go_wp2_with fail
        refine (wakes_span _).mono ?_
        rintro e wk ⟨rfl, hb⟩
        have BB := Lib.hid (below_via BB.out hb)
        clear hb
        go_wp2_with fail
        go_ret
        exact ⟨rfl, BB.out⟩
set_option maxRecDepth 20000 in
theorem spanBoth_long (zs ts : List (Int × Int)) (v u : Value) (w : World) (hv : Prs w w.heap.size v zs) (hu : Prs w w.heap.size u ts) (hs : 200 < zs.length ∨ 200 < ts.length) :
    Calls Try.prog 7 #[v, u] w fun e w' => e = .returned (.bool true) ∧ Below w.heap.size w w' := by
  obtain ⟨A, c, rfl⟩ := hv.shape
  obtain ⟨A', c', rfl⟩ := hu.shape
  by_cases h : 200 < zs.length
  · have t0 : decide ((200 : Int) < (zs.length : Int)) = true := decide_eq_true (by omega)
    clear h
    clear hv hu hs
    go_enter Try.func7, Try.ntmps7
    go_wp2_with fail
    refine (wakes_span _).mono ?_
    rintro e wk ⟨rfl, hb⟩
    go_wp2_with fail
    go_ret
    exact ⟨rfl, hb⟩
  · have t0 : decide ((200 : Int) < (zs.length : Int)) = false := decide_eq_false (by omega)
    have t1 : decide ((200 : Int) < (ts.length : Int)) = true := decide_eq_true (by omega)
    clear h
    clear hv hu hs
    go_enter Try.func7, Try.ntmps7
    go_wp2_with fail
    refine (wakes_span _).mono ?_
    rintro e wk ⟨rfl, hb⟩
    go_wp2_with fail
    go_ret
    exact ⟨rfl, hb⟩
theorem spanBoth_walk (zs ts : List (Int × Int)) (v u : Value) (w : World) (hv : Prs w w.heap.size v zs) (hu : Prs w w.heap.size u ts) :
    Calls Try.prog 7 #[v, u] w fun e w' => e = .returned (.bool true) ∧ Below w.heap.size w w' := by
  by_cases h : zs.length ≤ 200
  · by_cases h2 : ts.length ≤ 200
    · cases hg : goodB zs with
      | false => exact spanBoth_no1 zs ts v u w hv hu h h2 hg
      | true =>
        cases hk : goodB ts with
        | false => exact spanBoth_no2 zs ts v u w hv hu h h2 hg hk
        | true => exact spanBoth_yes zs ts v u w hv hu h h2 hg hk
    · exact spanBoth_long zs ts v u w hv hu (Or.inr (by omega))
  · exact spanBoth_long zs ts v u w hv hu (Or.inl (by omega))

set_option maxRecDepth 100000 in
theorem spanBoth_lifted (os : Os) (started : os.Started) (H : Type) (enc : TypeId × Value → H) :
    ReturnsInHanded {} Try.checked os 7 .any (Rows.spanBothSpec.pre6 enc Try.prog Try.f7 Rows.spanBothRow.domain false) (Rows.spanBothSpec.post enc Try.prog Try.f7 false true false false) := by
  refine Shell.law_lifted (C := Try.checked) (tb := 4) (by kernel_rfl) started (by kernel_rfl) Try.func7
    (ChangeSpec.witness6 (enc := enc) (C := Try.checked) false ⟨#[], #[Value.slice none 0 0, Value.slice none 0 0], []⟩ 8 (by kernel_rfl) (by kernel_rfl) (by kernel_rfl) (by kernel_rfl))
    (by kernel_rfl) (by kernel_rfl) rfl rfl Try.underlying4 ?_
  intro W base args ds p hval0 hA0
  have hval : ∀ (j : Nat) t v, Try.f7.params[j]? = some t → args[j]? = some v → Value.okWide Try.prog W .any base t v := hval0
  have hA : DataW.TrodAll enc Try.prog W 0 (fun _ => true) true Try.f7.params.toList args.toList ds p := hA0
  clear hval0 hA0
  rw [Try.params7] at hA hval
  obtain ⟨v0, vs0, d0, ds0, p0, q0, hargs, rfl, rfl, h0, r0⟩ := trodAll_cons hA
  obtain ⟨v1, vs1, d1, ds1, p1, q1, rfl, rfl, rfl, h1, r1⟩ := trodAll_cons r0
  obtain ⟨rfl, rfl, rfl⟩ := trodAll_nil r1
  obtain rfl : args = #[v0, v1] := by cases args; simp_all
  refine ⟨rfl, ?_⟩
  obtain ⟨zs, hzs, -⟩ := Pairs.open_pairs Try.underlying22 Try.underlying51 (by kernel_rfl) rfl rfl rfl rfl Try.underlying3 (by kernel_rfl) (hval 0 22 v0 rfl rfl) h0
  obtain ⟨ts, hts, -⟩ := Pairs.open_pairs Try.underlying22 Try.underlying51 (by kernel_rfl) rfl rfl rfl rfl Try.underlying3 (by kernel_rfl) (hval 1 22 v1 rfl rfl) h1
  exact spanBoth_walk zs ts v0 v1 W hzs hts

theorem spanBoth_over : Rows.spanBothRow.holds Try.pinned (OpenSpec.ofChange Rows.spanBothSpec) :=
  OpenClaim.holds_of_wide 7 Try.f7 rfl rfl rfl rfl rfl rfl rfl ⟨rfl, rfl, rfl, rfl, rfl⟩ rfl rfl rfl rfl rfl (by kernel_rfl) Try.func7 (by kernel_rfl)
    (of_decide_eq_true (by kernel_rfl)) (by unfold Func.isWrapper; first | (rw [if_pos (by decide +kernel)]; kernel_rfl) | (rw [if_neg (by decide +kernel)]; exact ⟨rfl, rfl⟩))
    (fun os st H enc _ => spanBoth_lifted os st H enc)

/-- The statement. -/
theorem spanBoth_proved : Rows.SpanBothSaid := spanBoth_over
end Go.Proofs.Ytjcgclfcompioaa.Law
