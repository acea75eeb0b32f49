/- Add, Cut and Both answer what the document's own do, at any stretches and any two numbers, and leave the stretches as they were; no condition. -/
import Derived.Test.YtjcgclfcompioaaShell
import Derived.Test.YtjcgclfcompioaaSpanWakes
import Derived.Deep.DeepCutAuto
import Derived.Deep.RegionHeld3
namespace Go.Proofs.Ytjcgclfcompioaa.Law
open Go.ChangeShapes Go.WideShapes Go.ChangeAt Go.RowKit Pairs Slice Span

set_option maxHeartbeats 4000000 in
set_option maxRecDepth 20000 in
theorem spanChanges_short (zs ts : List (Int × Int)) (a b : Int) (v u : Value) (w : World) (hv : Prs w w.heap.size v zs) (hu : Prs w w.heap.size u ts) (hs : zs.length ≤ 200) (ht : ts.length ≤ 200) :
    Calls Try.prog 4 #[v, u, .agg #[.int .i64 a, .int .i64 b]] w fun e w' => e = .returned (.bool true) ∧ Below w.heap.size w w' := by
  obtain ⟨i0, hi0, hz0, hz1, hz2⟩ := info_parts span_info
  have HI := Lib.hid hi0
  have HZ0 := Lib.hid hz0
  have HZ1 := Lib.hid hz1
  have HZ2 := Lib.hid hz2
  clear hi0 hz0 hz1 hz2
  obtain ⟨A, c, rfl⟩ := hv.shape
  obtain ⟨A', c', rfl⟩ := hu.shape
  have P0 := Lib.hid hv
  have Q0 := Lib.hid hu
  have t0 : decide ((200 : Int) < (zs.length : Int)) = false := decide_eq_false (by omega)
  have t1 : decide ((200 : Int) < (ts.length : Int)) = false := decide_eq_false (by omega)
  have HL : Hid (zs.length ≤ 2000) := show _ ≤ _ by omega
  have HT : Hid (ts.length ≤ 2000) := show _ ≤ _ by omega
  have BB := Lib.hid (Below.refl w.heap.size w)
  clear hv hu hs ht
  have WA := Lib.hid (lit_two w 33 a b)
  have P0 := Lib.hid ((P0.out.alloc (Nat.le_refl _) (.cells #[.int .i64 a, .int .i64 b] 33)).more (B' := (w.alloc (.cells #[.int .i64 a, .int .i64 b] 33)).heap.size) (by simp))
  have Q0 := Lib.hid ((Q0.out.alloc (Nat.le_refl _) (.cells #[.int .i64 a, .int .i64 b] 33)).more (B' := (w.alloc (.cells #[.int .i64 a, .int .i64 b] 33)).heap.size) (by simp))
  have BB := Lib.hid (below_new BB.out (.cells #[.int .i64 a, .int .i64 b] 33))
  go_enter Try.func4, Try.ntmps4
  go_wp2_with (first
    | (at_builtin
       have OW : Hid (((w.alloc (.cells #[.int .i64 a, .int .i64 b] 33)).alloc (.cells #[] 51)).ownsRow (w.alloc (.cells #[.int .i64 a, .int .i64 b] 33)).heap.size 51 2 (.slice (some ⟨w.heap.size + 1, 0, none⟩) 0 0) 0 []) := own_none (w := (w.alloc (.cells #[.int .i64 a, .int .i64 b] 33))) (by simp) (Nat.le_refl _)
       have OP := Lib.hid (P0.out.alloc (Nat.le_refl _) (.cells #[] 51))
       refine Pairs.wpList_append_pairs rfl (.tmp 29) (.tmp 30) _ rfl (w.alloc (.cells #[.int .i64 a, .int .i64 b] 33)).heap.size 51 i0 (.agg #[.int .i64 0, .int .i64 0]) Try.underlying22 HI.out HZ0.out HZ1.out HZ2.out rfl (.slice (some ⟨w.heap.size + 1, 0, none⟩) 0 0) 0 [] rfl OW.out (w.alloc (.cells #[.int .i64 a, .int .i64 b] 33)).heap.size _ zs rfl OP.out (by have := HL.out; unfold maxLen; omega) (by have := HL.out; omega) (by simp) ?_
       intro v3 x1 hown hgrow
       rw [Nat.zero_add, List.nil_append] at hown
       have hb : Below (w.alloc (.cells #[.int .i64 a, .int .i64 b] 33)).heap.size (w.alloc (.cells #[.int .i64 a, .int .i64 b] 33)) x1 := below_append (below_new (Below.refl _ _) _) (Nat.le_refl _) OW.out hgrow
       have P1 := Lib.hid (Prs.of_own rfl hown)
       obtain ⟨AP1, cP1, rfl⟩ := own_shape hown
       clear hown hgrow OW OP
       have P0 := Lib.hid ((P0.out.below hb).more hb.size)
       have Q0 := Lib.hid ((Q0.out.below hb).more hb.size)
       have WA := Lib.hid ((WA.out.below hb).more hb.size)
       have BB := Lib.hid (below_via BB.out hb)
       clear hb
       obtain ⟨a0, a1⟩ := arr_at WA.out)
    | fail)
  have hcc := u_add zs a b _ _ x1 (Nat.le_refl _) P1.out HL.out
  refine hcc.mono ?_
  clear hcc
  rintro e x2 ⟨u, s1, n1, rfl, hc, hp, hb⟩
  have P0 := Lib.hid ((P0.out.below hb).more hb.size)
  have Q0 := Lib.hid ((Q0.out.below hb).more hb.size)
  have WA := Lib.hid ((WA.out.below hb).more hb.size)
  have P1 := Lib.hid ((P1.out.below hb).more hb.size)
  have BB := Lib.hid (below_via BB.out hb)
  clear hb
  have C1 := Lib.hid hc
  clear hc
  obtain ⟨AR1, cR1, rfl⟩ := hp.shape
  have R1 := Lib.hid hp
  clear hp
  go_upto_region 5 with fail
  go_cut [10, 11] (fun s t wx => ∃ (A : Option Addr) (c : Nat) (ss : List (Int × Int)) (nn : Int), s = .slice A ss.length c ∧ t = .int .i64 nn ∧ Hid (Chg orF zs [(a, b)] (goodB zs) (argB a b) ss nn) ∧ Hid (Prs wx wx.heap.size (.slice A ss.length c) ss) ∧ Hid (Below x2.heap.size x2 wx))
  case first =>
    as_aux_lemma =>
      obtain ⟨a0, a1⟩ := arr_at WA.out
      go_region_held3 (fun w' => w'.cell? ⟨w.heap.size, 0, none⟩ = some (.int .i64 a) ∧ w'.cell? ⟨w.heap.size, 1, none⟩ = some (.int .i64 b))
        (first
          | exact ⟨c0, c1⟩
          | exact ⟨b0, b1⟩
          | exact ⟨a0, a1⟩)
        (first
          | (go_at_call 9
             have hcc := own_any zs _ _ x2.drew (Nat.le_refl _) P0.out (by have := HL.out; omega)
             refine hcc.mono ?_
             clear hcc
             rintro e y1 ⟨u, rfl, hp, hb⟩
             have hb : Below x2.heap.size x2 y1 := below_via (below_drew (Below.refl _ _)) hb
             obtain ⟨Au, cu, rfl⟩ := hp.shape
             obtain ⟨b0, b1⟩ := arr_at (WA.out.below hb)
             have BY := Lib.hid hb
             have PY := Lib.hid hp
             clear hb hp)
          | (go_at_call 18
             have hcc := r_add zs a b _ _ y1 (Nat.le_refl _) PY.out
             refine hcc.mono ?_
             clear hcc
             rintro e y2 ⟨u2, s2, n2, rfl, hc2, hp2, hb2⟩
             obtain ⟨Av, cv, rfl⟩ := hp2.shape
             have CZ := Lib.hid hc2
             have PZ := Lib.hid hp2
             have BZ := Lib.hid (below_via BY.out hb2)
             obtain ⟨c0, c1⟩ := arr_at (WA.out.below BZ.out)
             clear hc2 hp2 hb2))
      all_goals
        go_wp2_with fail
        go_meet
        exact ⟨_, _, s2, n2, rfl, rfl, CZ, PZ, BZ⟩
  case rest =>
  obtain ⟨AR2, cR2, s2, n2, rfl, rfl, hc, hp, hb⟩ := hcut
  have hb := hb.out
  have P0 := Lib.hid ((P0.out.below hb).more hb.size)
  have Q0 := Lib.hid ((Q0.out.below hb).more hb.size)
  have WA := Lib.hid ((WA.out.below hb).more hb.size)
  have P1 := Lib.hid ((P1.out.below hb).more hb.size)
  have R1 := Lib.hid ((R1.out.below hb).more hb.size)
  have BB := Lib.hid (below_via BB.out hb)
  clear hb
  have C2 := hc
  have R2 := hp
  clear hc hp
  obtain ⟨rfl, rfl⟩ := C1.out.same C2.out
  clear C2
  obtain ⟨a0, a1⟩ := arr_at WA.out
  go_wp2_with fail
  have hcc := u_cut zs a b _ _ wc (Nat.le_refl _) P1.out HL.out
  refine hcc.mono ?_
  clear hcc
  rintro e x4 ⟨u, s3, n3, rfl, hc, hp, hb⟩
  have P0 := Lib.hid ((P0.out.below hb).more hb.size)
  have Q0 := Lib.hid ((Q0.out.below hb).more hb.size)
  have WA := Lib.hid ((WA.out.below hb).more hb.size)
  have P1 := Lib.hid ((P1.out.below hb).more hb.size)
  have R1 := Lib.hid ((R1.out.below hb).more hb.size)
  have R2 := Lib.hid ((R2.out.below hb).more hb.size)
  have BB := Lib.hid (below_via BB.out hb)
  clear hb
  have C3 := Lib.hid hc
  clear hc
  obtain ⟨AR3, cR3, rfl⟩ := hp.shape
  have R3 := Lib.hid hp
  clear hp
  clear a0 a1
  go_upto_region 7 with fail
  go_cut [14, 15] (fun s t wx => ∃ (A : Option Addr) (c : Nat) (ss : List (Int × Int)) (nn : Int), s = .slice A ss.length c ∧ t = .int .i64 nn ∧ Hid (Chg lessF zs [(a, b)] (goodB zs) (argB a b) ss nn) ∧ Hid (Prs wx wx.heap.size (.slice A ss.length c) ss) ∧ Hid (Below x4.heap.size x4 wx))
  case first =>
    as_aux_lemma =>
      obtain ⟨a0, a1⟩ := arr_at WA.out
      go_region_held3 (fun w' => w'.cell? ⟨w.heap.size, 0, none⟩ = some (.int .i64 a) ∧ w'.cell? ⟨w.heap.size, 1, none⟩ = some (.int .i64 b))
        (first
          | exact ⟨c0, c1⟩
          | exact ⟨b0, b1⟩
          | exact ⟨a0, a1⟩)
        (first
          | (go_at_call 9
             have hcc := own_any zs _ _ x4.drew (Nat.le_refl _) P0.out (by have := HL.out; omega)
             refine hcc.mono ?_
             clear hcc
             rintro e y1 ⟨u, rfl, hp, hb⟩
             have hb : Below x4.heap.size x4 y1 := below_via (below_drew (Below.refl _ _)) hb
             obtain ⟨Au, cu, rfl⟩ := hp.shape
             obtain ⟨b0, b1⟩ := arr_at (WA.out.below hb)
             have BY := Lib.hid hb
             have PY := Lib.hid hp
             clear hb hp)
          | (go_at_call 20
             have hcc := r_cut zs a b _ _ y1 (Nat.le_refl _) PY.out
             refine hcc.mono ?_
             clear hcc
             rintro e y2 ⟨u2, s2, n2, rfl, hc2, hp2, hb2⟩
             obtain ⟨Av, cv, rfl⟩ := hp2.shape
             have CZ := Lib.hid hc2
             have PZ := Lib.hid hp2
             have BZ := Lib.hid (below_via BY.out hb2)
             obtain ⟨c0, c1⟩ := arr_at (WA.out.below BZ.out)
             clear hc2 hp2 hb2))
      all_goals
        go_wp2_with fail
        go_meet
        exact ⟨_, _, s2, n2, rfl, rfl, CZ, PZ, BZ⟩
  case rest =>
  obtain ⟨AR4, cR4, s4, n4, rfl, rfl, hc, hp, hb⟩ := hcut
  have hb := hb.out
  have P0 := Lib.hid ((P0.out.below hb).more hb.size)
  have Q0 := Lib.hid ((Q0.out.below hb).more hb.size)
  have WA := Lib.hid ((WA.out.below hb).more hb.size)
  have P1 := Lib.hid ((P1.out.below hb).more hb.size)
  have R1 := Lib.hid ((R1.out.below hb).more hb.size)
  have R2 := Lib.hid ((R2.out.below hb).more hb.size)
  have R3 := Lib.hid ((R3.out.below hb).more hb.size)
  have BB := Lib.hid (below_via BB.out hb)
  clear hb
  have C4 := hc
  have R4 := hp
  clear hc hp
  obtain ⟨rfl, rfl⟩ := C3.out.same C4.out
  clear C4
  go_wp2_with (first
    | (at_builtin
       have OW : Hid ((wc.alloc (.cells #[] 51)).ownsRow wc.heap.size 51 2 (.slice (some ⟨wc.heap.size, 0, none⟩) 0 0) 0 []) := own_none (w := wc) (by simp) (Nat.le_refl _)
       have OP := Lib.hid (Q0.out.alloc (Nat.le_refl _) (.cells #[] 51))
       refine Pairs.wpList_append_pairs rfl (.tmp 72) (.tmp 73) _ rfl wc.heap.size 51 i0 (.agg #[.int .i64 0, .int .i64 0]) Try.underlying22 HI.out HZ0.out HZ1.out HZ2.out rfl (.slice (some ⟨wc.heap.size, 0, none⟩) 0 0) 0 [] rfl OW.out wc.heap.size _ ts rfl OP.out (by have := HT.out; unfold maxLen; omega) (by have := HT.out; omega) (by simp) ?_
       intro v3 x6 hown hgrow
       rw [Nat.zero_add, List.nil_append] at hown
       have hb : Below wc.heap.size wc x6 := below_append (below_new (Below.refl _ _) _) (Nat.le_refl _) OW.out hgrow
       have Q1 := Lib.hid (Prs.of_own rfl hown)
       obtain ⟨AQ1, cQ1, rfl⟩ := own_shape hown
       clear hown hgrow OW OP
       have P0 := Lib.hid ((P0.out.below hb).more hb.size)
       have Q0 := Lib.hid ((Q0.out.below hb).more hb.size)
       have WA := Lib.hid ((WA.out.below hb).more hb.size)
       have P1 := Lib.hid ((P1.out.below hb).more hb.size)
       have R1 := Lib.hid ((R1.out.below hb).more hb.size)
       have R2 := Lib.hid ((R2.out.below hb).more hb.size)
       have R3 := Lib.hid ((R3.out.below hb).more hb.size)
       have R4 := Lib.hid ((R4.out.below hb).more hb.size)
       have BB := Lib.hid (below_via BB.out hb)
       clear hb)
    | fail)
  have hcc := u_both zs ts _ _ _ x6 (Nat.le_refl _) P1.out Q1.out HL.out HT.out
  refine hcc.mono ?_
  clear hcc
  rintro e x7 ⟨u, s5, n5, rfl, hc, hp, hb⟩
  have P0 := Lib.hid ((P0.out.below hb).more hb.size)
  have Q0 := Lib.hid ((Q0.out.below hb).more hb.size)
  have WA := Lib.hid ((WA.out.below hb).more hb.size)
  have P1 := Lib.hid ((P1.out.below hb).more hb.size)
  have R1 := Lib.hid ((R1.out.below hb).more hb.size)
  have R2 := Lib.hid ((R2.out.below hb).more hb.size)
  have R3 := Lib.hid ((R3.out.below hb).more hb.size)
  have R4 := Lib.hid ((R4.out.below hb).more hb.size)
  have Q1 := Lib.hid ((Q1.out.below hb).more hb.size)
  have BB := Lib.hid (below_via BB.out hb)
  clear hb
  have C5 := Lib.hid hc
  clear hc
  obtain ⟨AR5, cR5, rfl⟩ := hp.shape
  have R5 := Lib.hid hp
  clear hp
  go_wp2_with fail
  have hcc := own_any zs _ _ x7 (Nat.le_refl _) P0.out (by have := HL.out; omega)
  refine hcc.mono ?_
  clear hcc
  rintro e x8 ⟨u, rfl, hp, hb⟩
  have P0 := Lib.hid ((P0.out.below hb).more hb.size)
  have Q0 := Lib.hid ((Q0.out.below hb).more hb.size)
  have WA := Lib.hid ((WA.out.below hb).more hb.size)
  have P1 := Lib.hid ((P1.out.below hb).more hb.size)
  have R1 := Lib.hid ((R1.out.below hb).more hb.size)
  have R2 := Lib.hid ((R2.out.below hb).more hb.size)
  have R3 := Lib.hid ((R3.out.below hb).more hb.size)
  have R4 := Lib.hid ((R4.out.below hb).more hb.size)
  have Q1 := Lib.hid ((Q1.out.below hb).more hb.size)
  have R5 := Lib.hid ((R5.out.below hb).more hb.size)
  have BB := Lib.hid (below_via BB.out hb)
  clear hb
  obtain ⟨AO1, cO1, rfl⟩ := hp.shape
  have O1 := Lib.hid hp
  clear hp
  go_wp2_with fail
  have hcc := own_any ts _ _ x8 (Nat.le_refl _) Q0.out (by have := HT.out; omega)
  refine hcc.mono ?_
  clear hcc
  rintro e x9 ⟨u, rfl, hp, hb⟩
  have P0 := Lib.hid ((P0.out.below hb).more hb.size)
  have Q0 := Lib.hid ((Q0.out.below hb).more hb.size)
  have WA := Lib.hid ((WA.out.below hb).more hb.size)
  have P1 := Lib.hid ((P1.out.below hb).more hb.size)
  have R1 := Lib.hid ((R1.out.below hb).more hb.size)
  have R2 := Lib.hid ((R2.out.below hb).more hb.size)
  have R3 := Lib.hid ((R3.out.below hb).more hb.size)
  have R4 := Lib.hid ((R4.out.below hb).more hb.size)
  have Q1 := Lib.hid ((Q1.out.below hb).more hb.size)
  have R5 := Lib.hid ((R5.out.below hb).more hb.size)
  have O1 := Lib.hid ((O1.out.below hb).more hb.size)
  have BB := Lib.hid (below_via BB.out hb)
  clear hb
  obtain ⟨AO2, cO2, rfl⟩ := hp.shape
  have O2 := Lib.hid hp
  clear hp
  go_wp2_with fail
  have hcc := r_both zs ts _ _ _ x9 (Nat.le_refl _) O1.out O2.out
  refine hcc.mono ?_
  clear hcc
  rintro e x10 ⟨u, s6, n6, rfl, hc, hp, hb⟩
  have P0 := Lib.hid ((P0.out.below hb).more hb.size)
  have Q0 := Lib.hid ((Q0.out.below hb).more hb.size)
  have WA := Lib.hid ((WA.out.below hb).more hb.size)
  have P1 := Lib.hid ((P1.out.below hb).more hb.size)
  have R1 := Lib.hid ((R1.out.below hb).more hb.size)
  have R2 := Lib.hid ((R2.out.below hb).more hb.size)
  have R3 := Lib.hid ((R3.out.below hb).more hb.size)
  have R4 := Lib.hid ((R4.out.below hb).more hb.size)
  have Q1 := Lib.hid ((Q1.out.below hb).more hb.size)
  have R5 := Lib.hid ((R5.out.below hb).more hb.size)
  have O1 := Lib.hid ((O1.out.below hb).more hb.size)
  have O2 := Lib.hid ((O2.out.below hb).more hb.size)
  have BB := Lib.hid (below_via BB.out hb)
  clear hb
  have C6 := Lib.hid hc
  clear hc
  obtain ⟨AR6, cR6, rfl⟩ := hp.shape
  have R6 := Lib.hid hp
  clear hp
  obtain ⟨rfl, rfl⟩ := C5.out.same C6.out
  clear C6
  clear O1 O2
  go_wp2_with fail
  have hcc := same_any s1 _ _ _ x10 R1.out R2.out
  refine hcc.mono ?_
  clear hcc
  rintro e x11 ⟨rfl, nn, hw⟩
  have hb := quiet_below hw
  clear hw nn
  have P0 := Lib.hid ((P0.out.below hb).more hb.size)
  have Q0 := Lib.hid ((Q0.out.below hb).more hb.size)
  have WA := Lib.hid ((WA.out.below hb).more hb.size)
  have P1 := Lib.hid ((P1.out.below hb).more hb.size)
  have R1 := Lib.hid ((R1.out.below hb).more hb.size)
  have R2 := Lib.hid ((R2.out.below hb).more hb.size)
  have R3 := Lib.hid ((R3.out.below hb).more hb.size)
  have R4 := Lib.hid ((R4.out.below hb).more hb.size)
  have Q1 := Lib.hid ((Q1.out.below hb).more hb.size)
  have R5 := Lib.hid ((R5.out.below hb).more hb.size)
  have R6 := Lib.hid ((R6.out.below hb).more hb.size)
  have BB := Lib.hid (below_via BB.out hb)
  clear hb
  go_wp2_with fail
  have hcc := same_any s3 _ _ _ x11 R3.out R4.out
  refine hcc.mono ?_
  clear hcc
  rintro e x12 ⟨rfl, nn, hw⟩
  have hb := quiet_below hw
  clear hw nn
  have P0 := Lib.hid ((P0.out.below hb).more hb.size)
  have Q0 := Lib.hid ((Q0.out.below hb).more hb.size)
  have WA := Lib.hid ((WA.out.below hb).more hb.size)
  have P1 := Lib.hid ((P1.out.below hb).more hb.size)
  have R1 := Lib.hid ((R1.out.below hb).more hb.size)
  have R2 := Lib.hid ((R2.out.below hb).more hb.size)
  have R3 := Lib.hid ((R3.out.below hb).more hb.size)
  have R4 := Lib.hid ((R4.out.below hb).more hb.size)
  have Q1 := Lib.hid ((Q1.out.below hb).more hb.size)
  have R5 := Lib.hid ((R5.out.below hb).more hb.size)
  have R6 := Lib.hid ((R6.out.below hb).more hb.size)
  have BB := Lib.hid (below_via BB.out hb)
  clear hb
  go_wp2_with fail
  have hcc := same_any s5 _ _ _ x12 R5.out R6.out
  refine hcc.mono ?_
  clear hcc
  rintro e x13 ⟨rfl, nn, hw⟩
  have hb := quiet_below hw
  clear hw nn
  have P0 := Lib.hid ((P0.out.below hb).more hb.size)
  have Q0 := Lib.hid ((Q0.out.below hb).more hb.size)
  have WA := Lib.hid ((WA.out.below hb).more hb.size)
  have P1 := Lib.hid ((P1.out.below hb).more hb.size)
  have R1 := Lib.hid ((R1.out.below hb).more hb.size)
  have R2 := Lib.hid ((R2.out.below hb).more hb.size)
  have R3 := Lib.hid ((R3.out.below hb).more hb.size)
  have R4 := Lib.hid ((R4.out.below hb).more hb.size)
  have Q1 := Lib.hid ((Q1.out.below hb).more hb.size)
  have R5 := Lib.hid ((R5.out.below hb).more hb.size)
  have R6 := Lib.hid ((R6.out.below hb).more hb.size)
  have BB := Lib.hid (below_via BB.out hb)
  clear hb
  go_wp2_with fail
  have hcc := own_any zs _ _ x13 (Nat.le_refl _) P0.out (by have := HL.out; omega)
  refine hcc.mono ?_
  clear hcc
  rintro e x14 ⟨u, rfl, hp, hb⟩
  have P0 := Lib.hid ((P0.out.below hb).more hb.size)
  have Q0 := Lib.hid ((Q0.out.below hb).more hb.size)
  have WA := Lib.hid ((WA.out.below hb).more hb.size)
  have P1 := Lib.hid ((P1.out.below hb).more hb.size)
  have R1 := Lib.hid ((R1.out.below hb).more hb.size)
  have R2 := Lib.hid ((R2.out.below hb).more hb.size)
  have R3 := Lib.hid ((R3.out.below hb).more hb.size)
  have R4 := Lib.hid ((R4.out.below hb).more hb.size)
  have Q1 := Lib.hid ((Q1.out.below hb).more hb.size)
  have R5 := Lib.hid ((R5.out.below hb).more hb.size)
  have R6 := Lib.hid ((R6.out.below hb).more hb.size)
  have BB := Lib.hid (below_via BB.out hb)
  clear hb
  obtain ⟨AO3, cO3, rfl⟩ := hp.shape
  have O3 := Lib.hid hp
  clear hp
  go_wp2_with fail
  have hcc := same_any zs _ _ _ x14 P1.out O3.out
  refine hcc.mono ?_
  clear hcc
  rintro e x15 ⟨rfl, nn, hw⟩
  have hb := quiet_below hw
  clear hw nn
  have P0 := Lib.hid ((P0.out.below hb).more hb.size)
  have Q0 := Lib.hid ((Q0.out.below hb).more hb.size)
  have WA := Lib.hid ((WA.out.below hb).more hb.size)
  have P1 := Lib.hid ((P1.out.below hb).more hb.size)
  have R1 := Lib.hid ((R1.out.below hb).more hb.size)
  have R2 := Lib.hid ((R2.out.below hb).more hb.size)
  have R3 := Lib.hid ((R3.out.below hb).more hb.size)
  have R4 := Lib.hid ((R4.out.below hb).more hb.size)
  have Q1 := Lib.hid ((Q1.out.below hb).more hb.size)
  have R5 := Lib.hid ((R5.out.below hb).more hb.size)
  have R6 := Lib.hid ((R6.out.below hb).more hb.size)
  have O3 := Lib.hid ((O3.out.below hb).more hb.size)
  have BB := Lib.hid (below_via BB.out hb)
  clear hb
  go_wp2_with fail
  refine (wakes_span _).mono ?_
  rintro e wk ⟨rfl, hb⟩
  have BB := Lib.hid (below_via BB.out hb)
  clear hb
  go_wp2_with fail
  go_ret
  exact ⟨rfl, BB.out⟩
set_option maxRecDepth 20000 in
theorem spanChanges_long (zs ts : List (Int × Int)) (a b : Int) (v u : Value) (w : World) (hv : Prs w w.heap.size v zs) (hu : Prs w w.heap.size u ts) (hs : 200 < zs.length ∨ 200 < ts.length) :
    Calls Try.prog 4 #[v, u, .agg #[.int .i64 a, .int .i64 b]] w fun e w' => e = .returned (.bool true) ∧ Below w.heap.size w w' := by
  obtain ⟨A, c, rfl⟩ := hv.shape
  obtain ⟨A', c', rfl⟩ := hu.shape
  by_cases h : 200 < zs.length
  · have t0 : decide ((200 : Int) < (zs.length : Int)) = true := decide_eq_true (by omega)
    clear h
    clear hv hu hs
    go_enter Try.func4, Try.ntmps4
    go_wp2_with fail
    refine (wakes_span _).mono ?_
    rintro e wk ⟨rfl, hb⟩
    go_wp2_with fail
    go_ret
    exact ⟨rfl, below_via (below_new (Below.refl _ _) _) hb⟩
  · have t0 : decide ((200 : Int) < (zs.length : Int)) = false := decide_eq_false (by omega)
    have t1 : decide ((200 : Int) < (ts.length : Int)) = true := decide_eq_true (by omega)
    clear h
    clear hv hu hs
    go_enter Try.func4, Try.ntmps4
    go_wp2_with fail
    refine (wakes_span _).mono ?_
    rintro e wk ⟨rfl, hb⟩
    go_wp2_with fail
    go_ret
    exact ⟨rfl, below_via (below_new (Below.refl _ _) _) hb⟩
theorem spanChanges_walk (zs ts : List (Int × Int)) (a b : Int) (v u : Value) (w : World) (hv : Prs w w.heap.size v zs) (hu : Prs w w.heap.size u ts) :
    Calls Try.prog 4 #[v, u, .agg #[.int .i64 a, .int .i64 b]] w fun e w' => e = .returned (.bool true) ∧ Below w.heap.size w w' := by
  by_cases h : zs.length ≤ 200
  · by_cases h2 : ts.length ≤ 200
    · exact spanChanges_short zs ts a b v u w hv hu h h2
    · exact spanChanges_long zs ts a b v u w hv hu (Or.inr (by omega))
  · exact spanChanges_long zs ts a b v u w hv hu (Or.inl (by omega))

set_option maxRecDepth 100000 in
theorem spanChanges_lifted (os : Os) (started : os.Started) (H : Type) (enc : TypeId × Value → H) :
    ReturnsInHanded {} Try.checked os 4 .any (Rows.spanChangesSpec.pre6 enc Try.prog Try.f4 Rows.spanChangesRow.domain false) (Rows.spanChangesSpec.post enc Try.prog Try.f4 false true false false) := by
  refine Shell.law_lifted (C := Try.checked) (tb := 4) (by kernel_rfl) started (by kernel_rfl) Try.func4
    (ChangeSpec.witness6 (enc := enc) (C := Try.checked) false ⟨#[], #[Value.slice none 0 0, Value.slice none 0 0, .agg #[.int .i64 0, .int .i64 0]], []⟩ 8 (by kernel_rfl) (by kernel_rfl) (by kernel_rfl) (by kernel_rfl))
    (by kernel_rfl) (by kernel_rfl) rfl rfl Try.underlying4 ?_
  intro W base args ds p hval0 hA0
  have hval : ∀ (j : Nat) t v, Try.f4.params[j]? = some t → args[j]? = some v → Value.okWide Try.prog W .any base t v := hval0
  have hA : DataW.TrodAll enc Try.prog W 0 (fun _ => true) true Try.f4.params.toList args.toList ds p := hA0
  clear hval0 hA0
  rw [Try.params4] at hA hval
  obtain ⟨v0, vs0, d0, ds0, p0, q0, hargs, rfl, rfl, h0, r0⟩ := trodAll_cons hA
  obtain ⟨v1, vs1, d1, ds1, p1, q1, rfl, rfl, rfl, h1, r1⟩ := trodAll_cons r0
  obtain ⟨v2, vs2, d2, ds2, p2, q2, rfl, rfl, rfl, h2, r2⟩ := trodAll_cons r1
  obtain ⟨rfl, rfl, rfl⟩ := trodAll_nil r2
  obtain rfl : args = #[v0, v1, v2] := by cases args; simp_all
  refine ⟨rfl, ?_⟩
  obtain ⟨zs, hzs, -⟩ := Pairs.open_pairs Try.underlying22 Try.underlying51 (by kernel_rfl) rfl rfl rfl rfl Try.underlying3 (by kernel_rfl) (hval 0 22 v0 rfl rfl) h0
  obtain ⟨ts, hts, -⟩ := Pairs.open_pairs Try.underlying22 Try.underlying51 (by kernel_rfl) rfl rfl rfl rfl Try.underlying3 (by kernel_rfl) (hval 1 22 v1 rfl rfl) h1
  obtain ⟨zl, hzl, rfl, -⟩ := Shell.open_arr Try.underlying33 Try.underlying3 (by kernel_rfl) (by kernel_rfl) (hval 2 33 v2 rfl rfl) h2
  obtain ⟨a, b, rfl⟩ := Shell.list2 zl hzl
  exact spanChanges_walk zs ts a b v0 v1 W hzs hts

theorem spanChanges_over : Rows.spanChangesRow.holds Try.pinned (OpenSpec.ofChange Rows.spanChangesSpec) :=
  OpenClaim.holds_of_wide 4 Try.f4 rfl rfl rfl rfl rfl rfl rfl ⟨rfl, rfl, rfl, rfl, rfl⟩ rfl rfl rfl rfl rfl (by kernel_rfl) Try.func4 (by kernel_rfl)
    (of_decide_eq_true (by kernel_rfl)) (by unfold Func.isWrapper; first | (rw [if_pos (by decide +kernel)]; kernel_rfl) | (rw [if_neg (by decide +kernel)]; exact ⟨rfl, rfl⟩))
    (fun os st H enc _ => spanChanges_lifted os st H enc)

/-- The statement. -/
theorem spanChanges_proved : Rows.SpanChangesSaid := spanChanges_over
end Go.Proofs.Ytjcgclfcompioaa.Law
