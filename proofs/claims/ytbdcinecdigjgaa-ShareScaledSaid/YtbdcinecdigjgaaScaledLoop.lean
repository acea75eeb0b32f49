/- How the law of scaled weights lays its two rows of weights. -/
import Derived.Test.YtbdcinecdigjgaaShell
import Derived.Test.YtbdcinecdigjgaaShareWakes
import Derived.Test.YtbdcinecdigjgaaScaledSum
import Derived.Test.YtbdcinecdigjgaaTwo
import Derived.Deep.QuietTactic
import Derived.BigQuiet
import Derived.Deep.RegionHeld3
import Derived.Deep.DeepCutAuto
namespace Go.Proofs.Ytbdcinecdigjgaa.Law
open Go.ChangeShapes Go.WideShapes Go.ChangeAt Go.RowKit Bits Money Slice Stable Share Law2

def wX (zs : List Int) (i : Nat) : Value := .int .i64 (zs.getD i 0)
def wY (zs : List Int) (m : Int) (i : Nat) : Value := .int .i64 (zs.getD i 0 * m)
def someB (zs : List Int) (j : Nat) : Bool := (List.range j).any fun i => decide (0 < zs.getD i 0)

theorem wX_all (zs : List Int) : (List.range zs.length).map (wX zs) = zs.map (Value.int .i64) := by
  refine List.ext_getElem (by simp) fun i h1 h2 => ?_
  simp at h1
  simp [wX, List.getD_eq_getElem?_getD, h1]
theorem wY_all (zs : List Int) (m : Int) : (List.range zs.length).map (wY zs m) = (scaleL zs m).map (Value.int .i64) := by
  unfold scaleL
  rw [List.map_map]
  rfl
section
variable {B : Nat} {w wo wa : World} {o o' : Obj} {r : Option Nat}
theorem bg0 (h : Below B w wo) (hB : B ≤ wo.heap.size) (hg : wo.grownBy wa r) (hr : ∀ g, r = some g → B ≤ g) : Below B w wa := h.grown hg hB hr
theorem bg1 (h : Below B w wo) (hB : B ≤ wo.heap.size) (hg : (wo.drew.alloc o).grownBy wa r) (hr : ∀ g, r = some g → B ≤ g) : Below B w wa := (h.drew.alloc hB o).grown hg (by simp; omega) hr
theorem bg2 (h : Below B w wo) (hB : B ≤ wo.heap.size) (hg : ((wo.drew.alloc o).alloc o').grownBy wa r) (hr : ∀ g, r = some g → B ≤ g) : Below B w wa := ((h.drew.alloc hB o).alloc (by simp; omega) o').grown hg (by simp; omega) hr
theorem bg3 (h : Below B w wo) (hB : B ≤ wo.heap.size) (hg : (wo.alloc o).grownBy wa r) (hr : ∀ g, r = some g → B ≤ g) : Below B w wa := (h.alloc hB o).grown hg (by simp; omega) hr
end

set_option maxRecDepth 100000 in
set_option maxHeartbeats 3200000 in
theorem scaled_walk (t : Int) (zs : List Int) (kk : Int) (v : Value) (w : World) (t0 : 0 ≤ t) (t1 : t ≤ 4294967295) (k0 : 0 ≤ kk) (k1 : kk ≤ 255) (hz : ∀ i, i < zs.length → 0 ≤ zs.getD i 0 ∧ zs.getD i 0 ≤ 65535) (hv : Ints w w.heap.size .u16 v zs) (hl1 : 1 ≤ zs.length) (hl2 : zs.length ≤ 100) :
    Calls Try.prog 7 #[.int .u32 t, v, .int .u8 kk] w fun e w' => e = .returned (.bool true) ∧ Below w.heap.size w w' := by
  obtain ⟨i0, hi0, hz0, hz1, hz2⟩ := info_parts i64_info
  obtain ⟨A, c, rfl, hl, hn, hc⟩ := hv
  obtain ⟨b, off, rfl, hb, hc⟩ := hc hl1
  have HC := Lib.hid hc
  have HZ := Lib.hid hz
  have HI := Lib.hid hi0
  have HZ0 := Lib.hid hz0
  have HZ1 := Lib.hid hz1
  have HZ2 := Lib.hid hz2
  clear hc hn hi0 hz0 hz1 hz2 hz
  have g1 : decide ((zs.length : Int) < 1) = false := decide_eq_false (by omega)
  have g2 : decide ((100 : Int) < zs.length) = false := decide_eq_false (by omega)
  go_enter Try.func7, Try.ntmps7
  go_wp2_with fail
  clear g1 g2
  go_loopw [7, 8, 9, 10] (fun a b' s i wr => ∃ (j : Nat) (va vb : Value), j ≤ zs.length ∧ i = .int .i64 j ∧ va = a ∧ vb = b' ∧ s = .bool (someB zs j) ∧ Hid (Two wr w.heap.size 2 va vb j j (wX zs) (wY zs (kk + 1))) ∧ Hid (Below w.heap.size w wr)) (fun _ _ _ i _ => zs.length - (intOf i).toNat)
  case atStart => exact ⟨0, _, _, Nat.zero_le _, rfl, rfl, rfl, rfl, Two.start _ _ _ _ _, Below.refl _ _⟩
  case round =>
    obtain ⟨j, va, vb, hj, rfl, rfl, rfl, rfl, HT, HB⟩ := hrel
    by_cases hlt : j < zs.length
    · obtain ⟨x0, x1⟩ := HZ.out j hlt
      have hx := (HB.out.cell (p := ⟨b, off + j, none⟩) hb).trans (HC.out j hlt)
      have hm0 : 0 ≤ zs.getD j 0 * (kk + 1) := Int.mul_nonneg x0 (by omega)
      have hm1 : zs.getD j 0 * (kk + 1) ≤ 65535 * 256 := Int.mul_le_mul x1 (by omega) (by omega) (by omega)
      have hX : Hid (wX zs j = .int .i64 (zs.getD j 0)) := rfl
      have hY : Hid (wY zs (kk + 1) j = .int .i64 (zs.getD j 0 * (kk + 1))) := rfl
      have hsb : Hid (someB zs (j + 1) = (someB zs j || decide (0 < zs.getD j 0))) := by show _ = _; unfold someB; rw [List.range_succ, List.any_append]; simp
      have hsz := HB.out.size
      have j0 : (0 : Int) ≤ j := by omega
      have j1 : (j : Int) < zs.length := by omega
      have sa := fun g h => (HT.out.a.lt g h).2
      have sb := fun g h => (HT.out.b.lt g h).2
      have la := fun g h => (HT.out.a.lt g h).1
      have lb := fun g h => (HT.out.b.lt g h).1
      have LA := Lib.hid la
      have LB := Lib.hid lb
      have SA := Lib.hid sa
      have SB := Lib.hid sb
      clear sa sb la lb
      generalize zs.getD j 0 = x at *
      have w1 : IntKind.i64.wrap (kk + 1) = kk + 1 := IntWalk.i64_in _ (by omega)
      have w2 : IntKind.i64.wrap (x * (kk + 1)) = x * (kk + 1) := IntWalk.i64_in _ (by omega)
      have w3 : IntKind.i64.wrap x = x := IntWalk.i64_in _ (by omega)
      have w4 : IntKind.i64.wrap kk = kk := IntWalk.i64_in _ (by omega)
      obtain ⟨wo, rfl⟩ : ∃ wo : World, wo = wr := ⟨_, rfl⟩
      go_wp2_with fail
      have nA : some b ≠ va.ownBlock := fun e => by have := LA.out _ e.symm; omega
      have nB : some b ≠ vb.ownBlock := fun e => by have := LB.out _ e.symm; omega
      have HNA := Lib.hid nA
      have HNB := Lib.hid nB
      clear nA nB
      go_region_held3 (fun w' => w'.cell? ⟨b, off + j, none⟩ = some (.int .u16 x))
        (first
          | go_keep
          | (exact hgb.cell (by first | assumption | (simp [go_sem]; done) | (simp [go_sem]; assumption)) HNB.out)
          | (exact hga.cell (by first | assumption | (simp [go_sem]; done) | (simp [go_sem]; assumption)) HNA.out))
        (first
          | (refine Slice.step_two (by rfl) (.tmp 32) (.tmp 38) _ (by rfl) w.heap.size 2 i0 (.int .i64 0) 8 Try.underlying22 HI.out HZ0.out HZ1.out HZ2.out rfl va vb j j (wX zs) (wY zs (kk + 1)) (by first | exact HT.out.drew.alloc _ | exact (HT.out.drew.alloc _).alloc _) (by rfl) _ (by rfl) (by rw [hX.out]; simp [go_sem]) (by rw [hX.out]; rfl) (by unfold maxLen; omega) (by omega) (by simp; omega) ?_
             intro ga ca wa hTa hga
             have HBa : Hid (Below w.heap.size w wa) := by first | exact bg1 HB.out hsz hga LA.out | exact bg2 HB.out hsz hga LA.out)
          | (refine Slice.step_two (by rfl) (.tmp 40) (.tmp 50) _ (by rfl) w.heap.size 2 i0 (.int .i64 0) 8 Try.underlying22 HI.out HZ0.out HZ1.out HZ2.out rfl vb (.slice (some ⟨ga, 0, none⟩) (j + 1) ca) j (j + 1) (wY zs (kk + 1)) (wX zs) (by first | exact hTa.swap | exact (hTa.alloc _).swap) (by rfl) _ (by rfl)
               (by first | (rw [hY.out]; simp [go_sem]; done) | (rw [hY.out]; exact hga.cell (by simp [go_sem]) (fun e => by have h9 := SA.out _ e.symm; dsimp only at h9; omega))) (by rw [hY.out]; rfl) (by unfold maxLen; omega) (by omega) (by first | exact HBa.out.size | (simp; have := HBa.out.size; omega)) ?_
             intro gb cb wb hTb hgb
             have HBb : Hid (Below w.heap.size w wb) := by first | exact bg0 HBa.out HBa.out.size hgb LB.out | exact bg3 HBa.out HBa.out.size hgb LB.out))
      all_goals (have HTN := Lib.hid hTb.swap; clear hTa hTb hga hgb)
      all_goals
        rcases Bool.eq_false_or_eq_true (someB zs j) with hs | hs
        · have hs2 := hsb.out
          rw [hs, Bool.true_or] at hs2
          have HS2 := Lib.hid hs2
          clear hs2
          rw [hs]
          clear hs
          go_wp2_with fail
          go_roundw
          case rel => exact ⟨j + 1, _, _, hlt, by go_num, rfl, rfl, by rw [HS2.out], HTN.out, HBb.out⟩
          case measure => simp [intOf]; omega
        · have hs2 := hsb.out
          rw [hs, Bool.false_or] at hs2
          have HS2 := Lib.hid hs2
          clear hs2
          rw [hs]
          clear hs
          go_wp2_with fail
          go_roundw
          case rel => exact ⟨j + 1, _, _, hlt, by go_num, rfl, rfl, by rw [HS2.out], HTN.out, HBb.out⟩
          case measure => simp [intOf]; omega
    · obtain rfl : j = zs.length := by omega
      obtain ⟨wo, rfl⟩ : ∃ wo : World, wo = wr := ⟨_, rfl⟩
      have hsm := scale_small hl2 HZ.out (by omega : 1 ≤ kk + 1) (by omega)
      obtain ⟨A1, c1, rfl⟩ := own_slice HT.out.a
      obtain ⟨A2, c2, rfl⟩ := own_slice HT.out.b
      have hia : Ints wo wo.heap.size .i64 (.slice A1 zs.length c1) zs := Ints.of_own (n := zs.length) rfl (by rw [← wX_all zs]; exact HT.out.a)
      have hib : Ints wo wo.heap.size .i64 (.slice A2 zs.length c2) (scaleL zs (kk + 1)) := Ints.of_own (n := zs.length) (scaleL_len zs (kk + 1)).symm (by rw [← wY_all zs]; exact HT.out.b)
      have HIA := Lib.hid hia
      have HIB := Lib.hid hib
      have HSM := Lib.hid hsm
      clear hia hib hsm HT
      cases hs : someB zs zs.length with
      | false =>
        have hp : pre (wt zs) zs.length = 0 := small_none HSM.out.1 hs
        have s1 : splitS t zs = none := by rw [small_split HSM.out.1 t0 (by omega), if_pos hp]
        have s2 : splitS t (scaleL zs (kk + 1)) = none := by rw [small_split HSM.out.2.1 t0 (by omega), if_pos (by rw [pre_scaled, hp]; simp)]
        have s3 : splitS t (zs ++ [0]) = none := by rw [small_split HSM.out.2.2 t0 (by omega), if_pos (by rw [pre_more, hp])]
        have S1 := Lib.hid s1
        have S2 := Lib.hid s2
        have S3 := Lib.hid s3
        clear hs hp s1 s2 s3
        go_wp2_with fail
        refine (split_not t zs _ _ HIA.out S1.out).mono ?_
        rintro e w1 ⟨rfl, hb1⟩
        have HB1 := Lib.hid (below_via HB.out hb1)
        have HIA1 := Lib.hid ((HIA.out.below hb1).more hb1.size)
        have HIB1 := Lib.hid ((HIB.out.below hb1).more hb1.size)
        clear hb1
        go_wp2_with fail
        refine (split_not t _ _ _ HIB1.out S2.out).mono ?_
        rintro e w2 ⟨rfl, hb2⟩
        have HB2 := Lib.hid (below_via HB1.out hb2)
        have HIA2 := Lib.hid ((HIA1.out.below hb2).more hb2.size)
        clear hb2
        go_wp2_with (first
          | (at_builtin
             refine Slice.wpList_append_ints rfl (.tmp 77) (.tmp 78) _ rfl w2.heap.size 2 i0 (.int .i64 0) 8 Try.underlying22 HI.out HZ0.out HZ1.out HZ2.out rfl (.slice (some ⟨w2.heap.size, 0, none⟩) 0 0) 0 [] rfl
               (World.ownsRow_made w2 #[] 0 (Nat.le_refl _) (by simp) (by simp)) w2.heap.size .i64 (.slice A1 zs.length c1) zs rfl (HIA2.out.alloc (Nat.le_refl _) _) (by unfold maxLen; omega) (by omega) (by simp) ?_
             intro v3 w3 hown3 hgrow3
             have HO3 := Lib.hid hown3
             have HB3 : Hid (Below w2.heap.size w2 w3) := (below_new (Below.refl _ _) _).grown hgrow3 (below_new (Below.refl _ _) _).size (fun g hg => by
               have e : w2.heap.size = g := by simpa [Value.ownBlock] using hg
               omega)
             clear hown3 hgrow3)
          | (at_builtin
             refine Slice.wpList_append_one rfl (.tmp 79) (.tmp 80) _ rfl w2.heap.size 2 i0 (.int .i64 0) 8 Try.underlying22 HI.out HZ0.out HZ1.out HZ2.out rfl w3 _ (.int .i64 0) rfl v3 (0 + zs.length) _ rfl HO3.out _ rfl rfl (by unfold maxLen; omega) (by omega) HB3.out.size ?_
             intro v4 w4 hown4 hgrow4
             have HO4 := Lib.hid hown4
             have HB4 : Hid (Below w2.heap.size w2 w4) := HB3.out.grown hgrow4 HB3.out.size (fun g hg => (HO3.out.lt g hg).1)
             clear hown4 hgrow4))
        have HI4 : Hid (Ints w4 w4.heap.size .i64 v4 (zs ++ [0])) := Ints.of_own (n := 0 + zs.length + 1) (by simp) (by simpa using HO4.out)
        refine (split_not t _ _ _ HI4.out S3.out).mono ?_
        rintro e w5 ⟨rfl, hb5⟩
        have HB5 := Lib.hid (below_via (below_via HB2.out HB4.out) hb5)
        clear hb5
        go_wp2_with fail
        refine (Law2.wakes_any _).mono ?_
        rintro e w9 ⟨rfl, hb9⟩
        have HB9 := Lib.hid hb9
        clear hb9
        go_wp2_with fail
        go_ret
        exact ⟨rfl, below_via HB5.out HB9.out⟩
      | true =>
        have hp : 0 < pre (wt zs) zs.length := small_some HSM.out.1 hs
        have hne : pre (wt zs) zs.length ≠ 0 := by omega
        have hmp : 0 < kk + 1 := by omega
        have s1 : splitS t zs = some (pre (wt zs) zs.length) := by rw [small_split HSM.out.1 t0 (by omega), if_neg hne]
        have s2 : splitS t (scaleL zs (kk + 1)) = some (pre (wt zs) zs.length * (kk + 1)) := by
          rw [small_split HSM.out.2.1 t0 (by omega), pre_scaled, if_neg]
          have := Int.mul_pos hp hmp
          omega
        have s3 : splitS t (zs ++ [0]) = some (pre (wt zs) zs.length) := by rw [small_split HSM.out.2.2 t0 (by omega), pre_more, if_neg hne]
        generalize hS : pre (wt zs) zs.length = S at *
        obtain ⟨a1, a2, a3⟩ := splitS_some s1
        obtain ⟨b1, b2, b3⟩ := splitS_some s2
        obtain ⟨d1, d2, d3⟩ := splitS_some s3
        have hw := (weights_of a1 a2 a3).1
        have HW := Lib.hid hw
        have HA1 := Lib.hid a1
        have HA2 := Lib.hid a2
        have HA3 := Lib.hid a3
        have HB1' := Lib.hid b1
        have HB2' := Lib.hid b2
        have HB3' := Lib.hid b3
        have HD1 := Lib.hid d1
        have HD2 := Lib.hid d2
        have HD3 := Lib.hid d3
        clear hs hp hne s1 s2 s3 hS a1 a2 a3 b1 b2 b3 d1 d2 d3 hw
        go_wp2_with fail
        refine (split_yes merge_law t S zs _ _ HIA.out HA1.out HA2.out HA3.out).mono ?_
        rintro e w1 ⟨Q1, u1, rfl, hq1, hi1, hb1⟩
        have hl1' : (outL t S zs Q1).length = zs.length := by simp [outL]
        obtain ⟨F1, f1, rfl, -, -, -⟩ := id hi1
        have HQ1 := Lib.hid hq1
        have HI1 := Lib.hid hi1
        have HLL := Lib.hid hl1'
        have HB1 := Lib.hid (below_via HB.out hb1)
        have HIA1 := Lib.hid ((HIA.out.below hb1).more hb1.size)
        have HIB1 := Lib.hid ((HIB.out.below hb1).more hb1.size)
        clear hb1 hq1 hi1 hl1'
        go_wp2_with fail
        refine (split_yes merge_law t (S * (kk + 1)) _ _ _ HIB1.out HB1'.out HB2'.out HB3'.out).mono ?_
        rintro e w2 ⟨Q2, u2, rfl, hq2, hi2, hb2⟩
        rw [scaled_same hmp (scaleL_len zs (kk + 1)) (fun i hi => scaleL_at hi) HW.out HQ1.out hq2] at hi2
        obtain ⟨F2, f2, rfl, -, -, -⟩ := id hi2
        have HI2 := Lib.hid hi2
        have HI12 := Lib.hid ((HI1.out.below hb2).more hb2.size)
        have HB2 := Lib.hid (below_via HB1.out hb2)
        have HIA2 := Lib.hid ((HIA1.out.below hb2).more hb2.size)
        clear hb2 hi2 hq2
        go_wp2_with (first
          | (at_builtin
             refine Slice.wpList_append_ints rfl (.tmp 77) (.tmp 78) _ rfl w2.heap.size 2 i0 (.int .i64 0) 8 Try.underlying22 HI.out HZ0.out HZ1.out HZ2.out rfl (.slice (some ⟨w2.heap.size, 0, none⟩) 0 0) 0 [] rfl
               (World.ownsRow_made w2 #[] 0 (Nat.le_refl _) (by simp) (by simp)) w2.heap.size .i64 (.slice A1 zs.length c1) zs rfl (HIA2.out.alloc (Nat.le_refl _) _) (by unfold maxLen; omega) (by omega) (by simp) ?_
             intro v3 w3 hown3 hgrow3
             have HO3 := Lib.hid hown3
             have HB3 : Hid (Below w2.heap.size w2 w3) := (below_new (Below.refl _ _) _).grown hgrow3 (below_new (Below.refl _ _) _).size (fun g hg => by
               have e : w2.heap.size = g := by simpa [Value.ownBlock] using hg
               omega)
             clear hown3 hgrow3)
          | (at_builtin
             refine Slice.wpList_append_one rfl (.tmp 79) (.tmp 80) _ rfl w2.heap.size 2 i0 (.int .i64 0) 8 Try.underlying22 HI.out HZ0.out HZ1.out HZ2.out rfl w3 _ (.int .i64 0) rfl v3 (0 + zs.length) _ rfl HO3.out _ rfl rfl (by unfold maxLen; omega) (by omega) HB3.out.size ?_
             intro v4 w4 hown4 hgrow4
             have HO4 := Lib.hid hown4
             have HB4 : Hid (Below w2.heap.size w2 w4) := HB3.out.grown hgrow4 HB3.out.size (fun g hg => (HO3.out.lt g hg).1)
             clear hown4 hgrow4))
        have HI4 : Hid (Ints w4 w4.heap.size .i64 v4 (zs ++ [0])) := Ints.of_own (n := 0 + zs.length + 1) (by simp) (by simpa using HO4.out)
        have HX4 := Lib.hid ((HI12.out.below HB4.out).more HB4.out.size)
        have HY4 := Lib.hid ((HI2.out.below HB4.out).more HB4.out.size)
        refine (split_yes merge_law t S _ _ _ HI4.out HD1.out HD2.out HD3.out).mono ?_
        rintro e w5 ⟨Q3, u3, rfl, hq3, hi3, hb5⟩
        rw [more_same (by simp) (fun i hi => more_at hi) (more_last zs) HW.out HQ1.out hq3] at hi3
        obtain ⟨F3, f3, rfl, -, -, -⟩ := id hi3
        have HB5 := Lib.hid (below_via (below_via HB2.out HB4.out) hb5)
        have HX5 := Lib.hid ((HX4.out.below hb5).more hb5.size)
        have HY5 := Lib.hid ((HY4.out.below hb5).more hb5.size)
        have HZ5 := Lib.hid hi3
        clear hb5 hi3 hq3 HIA1 HIB1 HIA2 HI1 HI2 HI12 HI4 HX4 HY4 HO3 HO4 HIA HIB
        obtain ⟨P, hPP⟩ : ∃ P : List Int, outL t S zs Q1 = P := ⟨_, rfl⟩
        rw [hPP] at HX5 HY5 HZ5 HLL
        rw [hPP]
        have hPl : 0 < P.length := by have := HLL.out; omega
        have hPm : P.length ≤ 100 := by have := HLL.out; omega
        clear hPP HLL
        go_wp2_with fail
        have k1 := longs_same P (.slice F1 P.length f1) (.slice F2 P.length f2) _ w5 HX5.out HY5.out
        refine k1.mono ?_
        clear k1
        rintro e w6 ⟨rfl, m, rfl⟩
        go_wp2_with (first
          | (at_builtin
             (refine Slice.wpList_append_wanted (by first | rfl | simp [Region.wanted, yielded]) (.tmp 116) (.tmp 117) _ rfl w5.heap.size 2 i0 (.int .i64 0) 8 Try.underlying22 HI.out HZ0.out HZ1.out HZ2.out rfl (.slice (some ⟨w5.heap.size, 0, none⟩) 0 0) 0 [] rfl (World.ownsRow_made (w5.drewN m) #[] 0 (Nat.le_refl _) (by simp) (by simp)) w5.heap.size .i64 (.slice F1 P.length f1) P rfl ((HX5.out.drewN m).alloc (Nat.le_refl _) _) hPl (by unfold maxLen; omega) (by omega) (by simp) ?_)
             intro v7 w7 hown7 hgrow7
             have HO7 := Lib.hid hown7
             have HB7 : Hid (Below w5.heap.size w5 w7) := (below_new (below_drewN (Below.refl _ _) m) _).grown hgrow7 (below_new (below_drewN (Below.refl _ _) m) _).size (fun g hg => by
               have e : w5.heap.size = g := by simpa [Value.ownBlock] using hg
               omega)
             clear hown7 hgrow7)
          | (at_builtin
             (refine Slice.wpList_append_wanted (by first | rfl | simp [Region.wanted, yielded]) (.tmp 118) (.tmp 119) _ rfl w5.heap.size 2 i0 (.int .i64 0) 8 Try.underlying22 HI.out HZ0.out HZ1.out HZ2.out rfl v7 (0 + P.length) _ rfl (HO7.out.alloc _) _ .i64 (.slice (some ⟨w7.heap.size, 0, none⟩) 1 1) [0] rfl (ints_lit w7 2 .i64 [0] (by decide)) (by decide) (by unfold maxLen; simp; omega) (by simp; omega) (by have := HB7.out.size; simp; omega) ?_)
             intro v8 w8 hown8 hgrow8
             have HO8 := Lib.hid hown8
             have HB8 : Hid (Below w5.heap.size w5 w8) := (below_new HB7.out _).grown hgrow8 (below_new HB7.out _).size (fun g hg => (HO7.out.lt g hg).1)
             clear hown8 hgrow8))
        have HI8 : Hid (Ints w8 w8.heap.size .i64 v8 (P ++ [0])) := Ints.of_own (n := 0 + P.length + [(0 : Int)].length) (by simp) (by simpa using HO8.out)
        have hz8 := (HZ5.out.below HB8.out).more HB8.out.size
        rw [show (P ++ [(0 : Int)]).length = P.length + 1 from by simp] at hz8
        have k2 := longs_same (P ++ [0]) v8 (.slice F3 (P.length + 1) f3) _ w8 HI8.out hz8
        clear hz8
        refine k2.mono ?_
        clear k2
        rintro e w9 ⟨rfl, l, rfl⟩
        go_wp2_with fail
        refine (Law2.wakes_any _).mono ?_
        rintro e w10 ⟨rfl, hb9⟩
        have HB9 := Lib.hid hb9
        clear hb9
        go_wp2_with fail
        go_ret
        exact ⟨rfl, below_via (below_drewN (below_via HB5.out HB8.out) _) HB9.out⟩
end Go.Proofs.Ytbdcinecdigjgaa.Law
