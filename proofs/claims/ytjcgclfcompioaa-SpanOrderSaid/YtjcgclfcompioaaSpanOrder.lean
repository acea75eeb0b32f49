/- Whatever order stretches come in, the set is one; days above all of them, in and out again, leave it as it was; no condition. -/
import Derived.Test.YtjcgclfcompioaaShell
import Derived.Test.YtjcgclfcompioaaSpanWakes
import Derived.Test.YtjcgclfcompioaaWords
import Derived.Test.YtjcgclfcompioaaMod
import Derived.Test.YtjcgclfcompioaaOrderMath
import Derived.Deep.DeepCutAuto
import Derived.Deep.CutBlock
import Derived.Deep.RegionHeld3
import Derived.Deep.QuietTactic
import Derived.BigQuiet
import Derived.RegionTactic
import Derived.BigRegion
namespace Go.Proofs.Ytjcgclfcompioaa.Law
open Go.ChangeShapes Go.WideShapes Go.ChangeAt Go.RowKit Pairs Slice Span

theorem words_info : (Try.prog.info? 48).map (fun i => (i.zero, i.size, i.bytes)) = some (some (.agg #[.int .u16 0, .int .u16 0]), 2, 4) := by kernel_rfl
/-- annuitykeep.Mod, its answer named ahead of the call. -/
theorem mod_fixed (x n : Int) (h : 1 ≤ n) (h2 : n ≤ 1000000000) : ∃ p : Nat, (p : Int) < n ∧ ∀ w, Calls Try.prog 23 #[.int .i64 x, .int .i64 n] w fun e w' => e = .returned (.int .i64 (p : Int)) ∧ w = w' := by
  obtain ⟨W1, W2, W3⟩ := Mod.mod_facts x n h h2
  refine ⟨((x.tmod n + n).tmod n).toNat, by rw [Int.toNat_of_nonneg W2]; exact W3, fun w => ?_⟩
  have W2 := Lib.hid W2
  have hn : (n == 0) = false := by rw [beq_eq_false_iff_ne]; omega
  have hn1 : decide (n < 1) = false := decide_eq_false (by omega)
  have hn2 : ¬ n = -1 := by omega
  have hn3 : (n == -1) = false := by rw [beq_eq_false_iff_ne]; exact hn2
  clear h2 W3
  rw [Int.toNat_of_nonneg W2.out]
  go_enter Try.func23, Try.ntmps23
  go_wp2
  go_ret
  exact ⟨rfl, rfl⟩
theorem quiet_of {P : Program} {f : FuncId} {args : Array Value} {w : World} {n : Nat} {v : Value} (h : ∀ w, Calls P f args w fun e w' => e = .returned v ∧ w = w') :
    Calls P f args (w.drewN n) fun e w'' => e = .returned v ∧ ∃ m, w'' = w.drewN m :=
  (h _).mono fun _ _ ⟨he, hm⟩ => ⟨he, n, hm.symm⟩
theorem rem_nat (i n : Nat) : ((i : Int).tmod (n : Int)) = ((i % n : Nat) : Int) := (Int.ofNat_tmod i n).symm
set_option maxRecDepth 20000 in
theorem spanOrder_long (zs : List (Int × Int)) (ts : List Int) (v u : Value) (w : World) (hv : PrsK .u16 w w.heap.size v zs) (hu : Ints w w.heap.size .i64 u ts) (hs : 40 < zs.length) :
    Calls Try.prog 6 #[v, u] w fun e w' => e = .returned (.bool true) ∧ Below w.heap.size w w' := by
  obtain ⟨A, c, rfl⟩ := hv.shape
  obtain ⟨A', c', rfl, -⟩ := hu
  have t0 : decide ((40 : Int) < (zs.length : Int)) = true := decide_eq_true (by omega)
  clear hv
  go_enter Try.func6, Try.ntmps6
  go_wp2_with fail
  refine (wakes_span _).mono ?_
  rintro e wk ⟨rfl, hb⟩
  go_wp2_with fail
  go_ret
  exact ⟨rfl, hb⟩
set_option maxRecDepth 20000 in
theorem spanOrder_long2 (zs : List (Int × Int)) (ts : List Int) (v u : Value) (w : World) (hv : PrsK .u16 w w.heap.size v zs) (hu : Ints w w.heap.size .i64 u ts) (hs : ¬ 40 < zs.length) (ht : 100 < ts.length) :
    Calls Try.prog 6 #[v, u] w fun e w' => e = .returned (.bool true) ∧ Below w.heap.size w w' := by
  have hs' : ¬ ((40 : Int) < (zs.length : Int)) := by omega
  have ht' : (100 : Int) < (ts.length : Int) := by omega
  obtain ⟨A, c, rfl⟩ := hv.shape
  obtain ⟨A', c', rfl, -⟩ := hu
  have t0 : decide ((40 : Int) < (zs.length : Int)) = false := decide_eq_false hs'
  have t1 : decide ((100 : Int) < (ts.length : Int)) = true := decide_eq_true ht'
  clear hv
  go_enter Try.func6, Try.ntmps6
  go_wp2_with fail
  refine (wakes_span _).mono ?_
  rintro e wk ⟨rfl, hb⟩
  go_wp2_with fail
  go_ret
  exact ⟨rfl, hb⟩
set_option maxHeartbeats 4000000 in
set_option maxRecDepth 100000 in
theorem spanOrder_short (zs : List (Int × Int)) (ts : List Int) (v u : Value) (w : World) (hv : PrsK .u16 w w.heap.size v zs) (hu : Ints w w.heap.size .i64 u ts) (hs : zs.length ≤ 40) (ht : ts.length ≤ 100) (hw : WordsIn zs) :
    Calls Try.prog 6 #[v, u] w fun e w' => e = .returned (.bool true) ∧ Below w.heap.size w w' := by
  obtain ⟨i0, hi0, hz0, hz1, hz2⟩ := info_parts span_info
  have HI := Lib.hid hi0
  have HZ0 := Lib.hid hz0
  have HZ1 := Lib.hid hz1
  have HZ2 := Lib.hid hz2
  clear hi0 hz0 hz1 hz2
  obtain ⟨j0, hj0, hy0, hy1, hy2⟩ := info_parts words_info
  have HJ := Lib.hid hj0
  have HY0 := Lib.hid hy0
  have HY1 := Lib.hid hy1
  have HY2 := Lib.hid hy2
  clear hj0 hy0 hy1 hy2
  obtain ⟨A, c, rfl⟩ := hv.shape
  have P0 := Lib.hid hv
  obtain ⟨A', c', rfl, -, -, hT⟩ := hu
  have T0 := Lib.hid hT
  have t0 : decide ((40 : Int) < (zs.length : Int)) = false := decide_eq_false (by omega)
  have t1 : decide ((100 : Int) < (ts.length : Int)) = false := decide_eq_false (by omega)
  have HL := Lib.hid hs
  have HT := Lib.hid ht
  have HW := Lib.hid hw
  have BB := Lib.hid (Below.refl w.heap.size w)
  clear hv hT hw
  go_enter Try.func6, Try.ntmps6
  go_upto_block 0 with (first
    | (at_builtin
       have OW : Hid ((w.alloc (.cells #[] 48)).ownsRow w.heap.size 48 2 (.slice (some ⟨w.heap.size, 0, none⟩) 0 0) 0 []) := own_none (w := w) (by simp) (Nat.le_refl _)
       have OP := Lib.hid (P0.out.alloc (Nat.le_refl _) (.cells #[] 48))
       refine Pairs.wpList_append_words rfl (.tmp 29) (.tmp 30) _ rfl w.heap.size 48 j0 (.agg #[.int .u16 0, .int .u16 0]) 4 Try.underlying46 HJ.out HY0.out HY1.out HY2.out rfl (.slice (some ⟨w.heap.size, 0, none⟩) 0 0) 0 [] rfl OW.out .u16 w.heap.size _ zs rfl OP.out (by have := HL.out; unfold maxLen; omega) (by have := HL.out; omega) (by simp) ?_
       intro v3 wk hown hgrow
       rw [Nat.zero_add, List.nil_append] at hown
       have BK : Hid (Below w.heap.size w wk) := below_append (below_new (Below.refl _ _) _) (Nat.le_refl _) OW.out hgrow
       have OK := Lib.hid hown
       obtain ⟨AK, cK, rfl⟩ := own_shape hown
       clear hown hgrow OW OP)
    | fail)
  go_cut [] (fun wx => ∃ ks : List (Int × Int), Hid (ks.Perm zs) ∧ Hid (wx.ownsRow w.heap.size 48 2 (.slice AK zs.length cK) zs.length (flatK .u16 ks)) ∧ Hid (Below w.heap.size w wx))
  case first =>
    as_aux_lemma =>
      go_wp2_with fail
      go_loopw [6] (fun t wr => ∃ (i : Nat) (ks : List (Int × Int)), i ≤ ts.length ∧ t = .int .i64 i ∧ Hid (ks.Perm zs) ∧ Hid (wr.ownsRow w.heap.size 48 2 (.slice AK zs.length cK) zs.length (flatK .u16 ks)) ∧ Hid (Below w.heap.size w wr)) (fun t _ => ts.length - (intOf t).toNat)
      case atStart => exact ⟨0, zs, Nat.zero_le _, rfl, List.Perm.refl _, OK, BK⟩
      case round =>
        obtain ⟨i, ks, hi, rfl, hp, ho, hb⟩ := hrel
        by_cases hlt : i < ts.length
        · have u0 : decide ((i : Int) < (ts.length : Int)) = true := decide_eq_true (by omega)
          by_cases hz : 0 < zs.length
          · have u1 : decide ((0 : Int) < (zs.length : Int)) = true := decide_eq_true (by omega)
            obtain ⟨g, hA⟩ : ∃ g, AK = some ⟨g, 0, none⟩ := by
              rcases ho.out.2 with ⟨e, h0⟩ | ⟨g, cap, cur, e, -⟩
              · omega
              · injection e with e1
                exact ⟨g, e1⟩
            subst hA
            have hlen := hp.out.length_eq
            obtain ⟨bt, ot, rfl, hbt, hcell⟩ := T0.out (by omega)
            have ht0 := (hb.out.cell (p := ⟨bt, ot + i, none⟩) hbt).trans (hcell i hlt)
            obtain ⟨y, hy, M⟩ := mod_fixed (ts.getD i 0) zs.length (by omega) (by omega)
            have M := Lib.hid M
            generalize ts.getD i 0 = ti at *
            have hx0 := rem_nat i zs.length
            have hxl : i % zs.length < zs.length := Nat.mod_lt _ hz
            generalize i % zs.length = x at *
            have hyl : y < zs.length := by omega
            have n0 : ((zs.length : Int) == 0) = false := by rw [beq_eq_false_iff_ne]; omega
            have n1 : ¬ (zs.length : Int) = -1 := by omega
            have n2 : ((zs.length : Int) == -1) = false := by rw [beq_eq_false_iff_ne]; exact n1
            have i0' : (0 : Int) ≤ i := by omega
            clear hcell
            go_wp2_with fail
            go_quiet ((exact quiet_of M.out))
            have hwx' : ∃ wx, wx = wr.drewN nq := ⟨_, rfl⟩
            obtain ⟨wx, hwx⟩ := hwx'
            rw [← hwx]
            have ho' : wx.ownsRow w.heap.size 48 2 (.slice (some ⟨g, 0, none⟩) zs.length cK) zs.length (flatK .u16 ks) := by rw [hwx]; exact ho.out
            have HB := Lib.hid (show Below w.heap.size w wx by rw [hwx]; exact below_drewN hb.out nq)
            clear hwx hb ho M ht0 hx0 n0 n1 n2
            obtain ⟨x0, x1⟩ := own_words ho' hlen hxl
            obtain ⟨y0, y1⟩ := own_words ho' hlen hyl
            have fx0 := ho'.frozenAt (x * 2)
            have fx1 := ho'.frozenAt (x * 2 + 1)
            have fy0 := ho'.frozenAt (y * 2)
            have fy1 := ho'.frozenAt (y * 2 + 1)
            have hP := Lib.hid ((swap_perm (ks := ks) (x := x) (y := y) (by omega) (by omega)).trans hp.out)
            have hS := own_swap (x := x) (y := y) (p := ks.getD x (0, 0)) (q := ks.getD y (0, 0)) ho'
            have HS := Lib.hid hS
            have hgw := (ho'.lt g rfl)
            clear hS hp ho'
            have lx : ((x : Int)) < (zs.length : Int) := by omega
            have ly : ((y : Int)) < (zs.length : Int) := by omega
            have px : (0 : Int) ≤ x := by omega
            have py : (0 : Int) ≤ y := by omega
            by_cases hxy : x = y
            · subst hxy
              generalize ks.getD x (0, 0) = p at *
              obtain ⟨p0, p1⟩ := p
              go_wp2_with fail
              go_region
              go_wp2_with fail
              go_roundw
              case rel => exact ⟨i + 1, _, by omega, by go_num, hP, HS.out.1.drew, below_drew (HB.out.grown HS.out.2 HB.out.size (fun g' hg => by injection hg with hg; subst hg; exact hgw.1))⟩
              case measure => simp [intOf]; omega
            · generalize ks.getD x (0, 0) = p at *
              generalize ks.getD y (0, 0) = q at *
              obtain ⟨p0, p1⟩ := p
              obtain ⟨q0, q1⟩ := q
              have d0 : ¬ x * 2 = y * 2 := by omega
              have d1 : ¬ x * 2 + 1 = y * 2 := by omega
              have d2 : ¬ x * 2 = y * 2 + 1 := by omega
              have d3 : ¬ x * 2 + 1 = y * 2 + 1 := by omega
              go_wp2_with fail
              go_region
              go_wp2_with fail
              go_roundw
              case rel => exact ⟨i + 1, _, by omega, by go_num, hP, HS.out.1.drew, below_drew (HB.out.grown HS.out.2 HB.out.size (fun g' hg => by injection hg with hg; subst hg; exact hgw.1))⟩
              case measure => simp [intOf]; omega
          · have u1 : decide ((0 : Int) < (zs.length : Int)) = false := decide_eq_false (by omega)
            go_wp2_with fail
            go_meet
            exact ⟨ks, hp, ho, hb⟩
        · have u0 : decide ((i : Int) < (ts.length : Int)) = false := decide_eq_false (by omega)
          go_wp2_with fail
          go_meet
          exact ⟨ks, hp, ho, hb⟩
  case rest =>
  rename World => wk
  obtain ⟨ks, hp, ho, hb⟩ := hcut
  have HP := hp
  have hlen := hp.out.length_eq
  have PK := Lib.hid (PrsK.of_own hlen.symm ho.out)
  have PL := Lib.hid ((P0.out.below hb.out).more hb.out.size)
  have BW := hb
  have WK := Lib.hid (words_perm HW.out hp.out)
  clear hp ho hb OK BK P0 T0
  go_wp2_with fail
  go_loopw [9, 10, 11] (fun s t r wr => ∃ (j : Nat) (az bz : List (Int × Int)) (Aa Ab : Option Addr) (ca cb : Nat), j ≤ zs.length ∧ s = .slice Aa az.length ca ∧ t = .slice Ab bz.length cb ∧ r = .int .i64 j ∧ Hid (Put zs j az) ∧ Hid (Put ks j bz) ∧ Hid (Prs wr wr.heap.size (.slice Aa az.length ca) az) ∧ Hid (Prs wr wr.heap.size (.slice Ab bz.length cb) bz) ∧ Hid (Below wk.heap.size wk wr)) (fun _ _ r _ => zs.length - (intOf r).toNat)
  case atStart => exact ⟨0, [], [], none, none, 0, 0, Nat.zero_le _, rfl, rfl, rfl, put_none _, put_none _, Prs.nil_ _ _, Prs.nil_ _ _, Below.refl _ _⟩
  case round =>
    obtain ⟨j, az, bz, Aa, Ab, ca, cb, hj, rfl, rfl, rfl, ha, hb, pa, pb, hw⟩ := hrel
    by_cases hlt : j < zs.length
    · obtain ⟨A1, c1', e1, -, -, hcell⟩ := PL.out
      injection e1 with e1 e2 e3
      subst e1
      subst e3
      clear e2
      obtain ⟨gl, ol, rfl, hgl, hq⟩ := hcell (by omega)
      obtain ⟨x0, x1⟩ := hq j hlt
      obtain ⟨A2, c2', e1, -, -, hcell2⟩ := PK.out
      injection e1 with e1 e2 e3
      subst e1
      subst e3
      clear e2
      obtain ⟨gk, ok, rfl, hgk, hq2⟩ := hcell2 (by omega)
      obtain ⟨y0, y1⟩ := hq2 j (by omega)
      have X0 := Lib.hid x0
      have X1 := Lib.hid x1
      have Y0 := Lib.hid y0
      have Y1 := Lib.hid y1
      have NA := Lib.hid (fun ss n hc => put_next (zs := ss) (n := n) ha.out hlt HL.out HW.out hc)
      have NB := Lib.hid (fun ss n hc => put_next (zs := ss) (n := n) hb.out (show j < ks.length by omega) (by have := HL.out; omega) WK.out hc)
      have ra := words_at HW.out hlt
      have rb := words_at WK.out (show j < ks.length by omega)
      have sa := str_range ra
      have sb := str_range rb
      have la := Lib.hid (Nat.le_trans ha.out.few (Nat.le_trans hj HL.out))
      have lb := Lib.hid (Nat.le_trans hb.out.few (Nat.le_trans hj HL.out))
      clear hcell hcell2 hq hq2 x0 x1 y0 y1 ha hb
      generalize zs.getD j (0, 0) = p at *
      generalize ks.getD j (0, 0) = q at *
      obtain ⟨p0, p1⟩ := p
      obtain ⟨q0, q1⟩ := q
      change 0 ≤ p0 ∧ p0 < p0 + 1 + p1.tmod 20000 ∧ p0 + 1 + p1.tmod 20000 ≤ 85535 ∧ 0 ≤ p1.tmod 20000 ∧ p1.tmod 20000 < 20000 at sa
      change 0 ≤ q0 ∧ q0 < q0 + 1 + q1.tmod 20000 ∧ q0 + 1 + q1.tmod 20000 ≤ 85535 ∧ 0 ≤ q1.tmod 20000 ∧ q1.tmod 20000 < 20000 at sb
      change 0 ≤ p0 ∧ p0 ≤ 65535 ∧ 0 ≤ p1 ∧ p1 ≤ 65535 at ra
      change 0 ≤ q0 ∧ q0 ≤ 65535 ∧ 0 ≤ q1 ∧ q1 ≤ 65535 at rb
      have z0 := (hw.out.cell (p := ⟨gl, ol + j * 2, none⟩) hgl).trans X0.out
      have z1 := (hw.out.cell (p := ⟨gl, ol + j * 2 + 1, none⟩) hgl).trans X1.out
      have j0 : (0 : Int) ≤ j := by omega
      have u0 : decide ((j : Int) < (zs.length : Int)) = true := decide_eq_true (by omega)
      have RA := Lib.hid ra
      have SA := Lib.hid sa
      have RB := Lib.hid rb
      have SB := Lib.hid sb
      clear ra sa rb sb hlen
      go_upto_region 13 with fail
      go_cut [12, 13] (fun s t wx => ∃ (A' : Option Addr) (c' : Nat) (ss : List (Int × Int)), s = .slice A' ss.length c' ∧ t = .int .i64 0 ∧ Hid (Put zs (j + 1) ss) ∧ Hid (Prs wx wx.heap.size (.slice A' ss.length c') ss) ∧ Hid (Below wr.heap.size wr wx))
      case first =>
        as_aux_lemma =>
          obtain ⟨a1, a2, a3, a4⟩ := RA.out
          obtain ⟨s1, s2, s3, s4, s5⟩ := SA.out
          have e1 : IntKind.i64.wrap p0 = p0 := IntWalk.i64_in _ (by omega)
          have e2 : IntKind.i64.wrap (p0 + 1) = p0 + 1 := IntWalk.i64_in _ (by omega)
          have e3 : IntKind.i64.wrap p1 = p1 := IntWalk.i64_in _ (by omega)
          have e4 : IntKind.i64.wrap (p0 + 1 + p1.tmod 20000) = p0 + 1 + p1.tmod 20000 := IntWalk.i64_in _ (by omega)
          have E := Lib.hid (And.intro e1 (And.intro e2 (And.intro e3 e4)))
          clear e1 e2 e3 e4 s2 s3 s4 s5 s1 a1 a2 a3 a4
          go_region_held3 (fun w' => w'.cell? ⟨gl, ol + j * 2, none⟩ = some (.int .u16 p0) ∧ w'.cell? ⟨gl, ol + j * 2 + 1, none⟩ = some (.int .u16 p1))
            (first
              | exact ⟨c0, c1⟩
              | exact ⟨z0, z1⟩)
            (first
              | (go_at_call 17
                 rw [E.out.1, E.out.2.1, E.out.2.2.1, E.out.2.2.2]
                 have hcc := u_add az p0 (p0 + 1 + p1.tmod 20000) _ _ wr.drew (Nat.le_refl _) pa.out (by have := la.out; omega)
                 refine hcc.mono ?_
                 clear hcc
                 rintro e y1 ⟨u, ss, n, rfl, hc, hp, hb⟩
                 obtain ⟨rfl, hput⟩ := NA.out ss n hc
                 obtain ⟨Au, cu, rfl⟩ := hp.shape
                 have PY := Lib.hid hp
                 have BY := Lib.hid (below_via (below_drew (Below.refl _ _)) hb)
                 have QY := Lib.hid hput
                 have c0 := ((below_via hw.out BY.out).cell (p := ⟨gl, ol + j * 2, none⟩) hgl).trans X0.out
                 have c1 := ((below_via hw.out BY.out).cell (p := ⟨gl, ol + j * 2 + 1, none⟩) hgl).trans X1.out
                 clear hc hp hb hput))
          all_goals
            go_wp2_with fail
            go_meet
            exact ⟨_, _, ss, rfl, rfl, QY, PY, BY⟩
      case rest =>
      rename World => wA
      obtain ⟨A3, c3, az2, rfl, rfl, qa, pa2, hwA⟩ := hcut
      have HWA := Lib.hid (below_via hw.out hwA.out)
      have pb := Lib.hid ((pb.out.below hwA.out).more hwA.out.size)
      have y0 := (HWA.out.cell (p := ⟨gk, ok + j * 2, none⟩) hgk).trans Y0.out
      have y1 := (HWA.out.cell (p := ⟨gk, ok + j * 2 + 1, none⟩) hgk).trans Y1.out
      clear z0 z1 hwA
      have jk : decide ((j : Int) < (zs.length : Int)) = true := u0
      go_upto_region 14 with fail
      go_cut [14, 15] (fun s t wx => ∃ (A' : Option Addr) (c' : Nat) (ss : List (Int × Int)), s = .slice A' ss.length c' ∧ t = .int .i64 0 ∧ Hid (Put ks (j + 1) ss) ∧ Hid (Prs wx wx.heap.size (.slice A' ss.length c') ss) ∧ Hid (Below wA.heap.size wA wx))
      case first =>
        as_aux_lemma =>
          obtain ⟨a1, a2, a3, a4⟩ := RB.out
          obtain ⟨s1, s2, s3, s4, s5⟩ := SB.out
          have e1 : IntKind.i64.wrap q0 = q0 := IntWalk.i64_in _ (by omega)
          have e2 : IntKind.i64.wrap (q0 + 1) = q0 + 1 := IntWalk.i64_in _ (by omega)
          have e3 : IntKind.i64.wrap q1 = q1 := IntWalk.i64_in _ (by omega)
          have e4 : IntKind.i64.wrap (q0 + 1 + q1.tmod 20000) = q0 + 1 + q1.tmod 20000 := IntWalk.i64_in _ (by omega)
          have E := Lib.hid (And.intro e1 (And.intro e2 (And.intro e3 e4)))
          clear e1 e2 e3 e4 s2 s3 s4 s5 s1 a1 a2 a3 a4
          go_region_held3 (fun w' => w'.cell? ⟨gk, ok + j * 2, none⟩ = some (.int .u16 q0) ∧ w'.cell? ⟨gk, ok + j * 2 + 1, none⟩ = some (.int .u16 q1))
            (first
              | exact ⟨c0, c1⟩
              | exact ⟨y0, y1⟩)
            (first
              | (go_at_call 17
                 rw [E.out.1, E.out.2.1, E.out.2.2.1, E.out.2.2.2]
                 have hcc := u_add bz q0 (q0 + 1 + q1.tmod 20000) _ _ wA.drew (Nat.le_refl _) pb.out (by have := lb.out; omega)
                 refine hcc.mono ?_
                 clear hcc
                 rintro e y1 ⟨u, ss, n, rfl, hc, hp, hb⟩
                 obtain ⟨rfl, hput⟩ := NB.out ss n hc
                 obtain ⟨Au, cu, rfl⟩ := hp.shape
                 have PY := Lib.hid hp
                 have BY := Lib.hid (below_via (below_drew (Below.refl _ _)) hb)
                 have QY := Lib.hid hput
                 have c0 := ((below_via HWA.out BY.out).cell (p := ⟨gk, ok + j * 2, none⟩) hgk).trans Y0.out
                 have c1 := ((below_via HWA.out BY.out).cell (p := ⟨gk, ok + j * 2 + 1, none⟩) hgk).trans Y1.out
                 clear hc hp hb hput))
          all_goals
            go_wp2_with fail
            go_meet
            exact ⟨_, _, ss, rfl, rfl, QY, PY, BY⟩
      case rest =>
      rename World => wB
      obtain ⟨A4, c4, bz2, rfl, rfl, qb, pb2, hwB⟩ := hcut
      have HWB := Lib.hid (below_via HWA.out hwB.out)
      have pa2 := Lib.hid ((pa2.out.below hwB.out).more hwB.out.size)
      clear y0 y1 hwB
      go_wp2_with fail
      go_roundw
      case rel => exact ⟨j + 1, az2, bz2, A3, A4, c3, c4, by omega, rfl, rfl, by go_num, qa, qb, pa2, pb2, HWB⟩
      case measure => simp [intOf]; omega
    · have hje : j = zs.length := by omega
      subst hje
      obtain rfl : az = bz := put_same HP.out ha.out hb.out
      have u0 : decide ((zs.length : Int) < (zs.length : Int)) = false := decide_eq_false (by omega)
      have BB := Lib.hid (below_via BW.out hw.out)
      have PA := pa
      have PB := pb
      have QA := ha
      have LA : Hid (az.length ≤ 40) := show _ ≤ _ by have := ha.out.few; have := HL.out; omega
      clear pa pb ha hb hw PK PL hlen
      go_wp2_with fail
      have hcc := own_any az _ _ wr (Nat.le_refl _) PB.out (by have := LA.out; omega)
      refine hcc.mono ?_
      clear hcc
      rintro e x1 ⟨u, rfl, hp, hb⟩
      have PA := Lib.hid ((PA.out.below hb).more hb.size)
      have PB := Lib.hid ((PB.out.below hb).more hb.size)
      have BB := Lib.hid (below_via BB.out hb)
      clear hb
      obtain ⟨AO1, cO1, rfl⟩ := hp.shape
      have O1 := Lib.hid hp
      clear hp
      go_wp2_with fail
      have hcc := same_any az _ _ _ x1 PA.out O1.out
      refine hcc.mono ?_
      clear hcc
      rintro e x2 ⟨rfl, nn, hw⟩
      have hb := quiet_below hw
      clear hw nn
      have PA := Lib.hid ((PA.out.below hb).more hb.size)
      have PB := Lib.hid ((PB.out.below hb).more hb.size)
      have O1 := Lib.hid ((O1.out.below hb).more hb.size)
      have BB := Lib.hid (below_via BB.out hb)
      clear hb
      clear O1 PB
      go_wp2_with (first
        | (at_builtin
           have OW : Hid ((x2.alloc (.cells #[] 51)).ownsRow x2.heap.size 51 2 (.slice (some ⟨x2.heap.size, 0, none⟩) 0 0) 0 []) := own_none (w := x2) (by simp) (Nat.le_refl _)
           have OP := Lib.hid (PA.out.alloc (Nat.le_refl _) (.cells #[] 51))
           refine Pairs.wpList_append_pairs rfl (.tmp 140) (.tmp 141) _ rfl x2.heap.size 51 i0 (.agg #[.int .i64 0, .int .i64 0]) Try.underlying22 HI.out HZ0.out HZ1.out HZ2.out rfl (.slice (some ⟨x2.heap.size, 0, none⟩) 0 0) 0 [] rfl OW.out x2.heap.size _ az rfl OP.out (by have := LA.out; unfold maxLen; omega) (by have := LA.out; omega) (by simp) ?_
           intro v3 x3 hown hgrow
           rw [Nat.zero_add, List.nil_append] at hown
           have hb : Below x2.heap.size x2 x3 := below_append (below_new (Below.refl _ _) _) (Nat.le_refl _) OW.out hgrow
           have P1 := Lib.hid (Prs.of_own rfl hown)
           obtain ⟨AP1, cP1, rfl⟩ := own_shape hown
           clear hown hgrow OW OP
           have PA := Lib.hid ((PA.out.below hb).more hb.size)
           have BB := Lib.hid (below_via BB.out hb)
           clear hb)
        | fail)
      have hcc := u_add az 86000 87000 _ _ x3 (Nat.le_refl _) P1.out (by have := LA.out; omega)
      refine hcc.mono ?_
      clear hcc
      rintro e x4 ⟨u, s1, n1, rfl, hc, hp, hb⟩
      have PA := Lib.hid ((PA.out.below hb).more hb.size)
      have P1 := Lib.hid ((P1.out.below hb).more hb.size)
      have BB := Lib.hid (below_via BB.out hb)
      clear hb
      have C1 := Lib.hid hc
      clear hc
      obtain ⟨AR1, cR1, rfl⟩ := hp.shape
      have R1 := Lib.hid hp
      clear hp
      clear P1
      obtain ⟨rfl, l1, g1, d1, dw, i1⟩ := put_more QA.out HL.out HW.out C1.out
      have L1 := Lib.hid l1
      have G1 := Lib.hid g1
      have D1 := Lib.hid d1
      have DW := Lib.hid dw
      have I1 := Lib.hid i1
      clear C1 l1 g1 d1 dw i1
      go_wp2_with fail
      have hcc := u_cut s1 86000 87000 _ _ x4 (Nat.le_refl _) R1.out (by have := L1.out; omega)
      refine hcc.mono ?_
      clear hcc
      rintro e x5 ⟨u, s2, n2, rfl, hc, hp, hb⟩
      have PA := Lib.hid ((PA.out.below hb).more hb.size)
      have R1 := Lib.hid ((R1.out.below hb).more hb.size)
      have BB := Lib.hid (below_via BB.out hb)
      clear hb
      have C2 := Lib.hid hc
      clear hc
      obtain ⟨AR2, cR2, rfl⟩ := hp.shape
      have R2 := Lib.hid hp
      clear hp
      obtain ⟨rfl, rfl⟩ := put_back QA.out HL.out HW.out I1.out G1.out C2.out
      clear C2
      go_wp2_with fail
      have LS : Hid (s2.length ≤ 40) := LA
      have hcc := u_days s1 _ _ x5 (Nat.le_refl _) R1.out (by have := L1.out; omega)
      refine hcc.mono ?_
      clear hcc
      rintro e x6 ⟨rfl, hb⟩
      have PA := Lib.hid ((PA.out.below hb).more hb.size)
      have R1 := Lib.hid ((R1.out.below hb).more hb.size)
      have R2 := Lib.hid ((R2.out.below hb).more hb.size)
      have BB := Lib.hid (below_via BB.out hb)
      clear hb
      go_wp2_with fail
      have hcc := u_days s2 _ _ x6 (Nat.le_refl _) PA.out (by have := LA.out; omega)
      refine hcc.mono ?_
      clear hcc
      rintro e x7 ⟨rfl, hb⟩
      have PA := Lib.hid ((PA.out.below hb).more hb.size)
      have R1 := Lib.hid ((R1.out.below hb).more hb.size)
      have R2 := Lib.hid ((R2.out.below hb).more hb.size)
      have BB := Lib.hid (below_via BB.out hb)
      clear hb
      rw [D1.out]
      have dw := DW.out
      go_wp2_with fail
      have hcc := own_any s2 _ _ x7 (Nat.le_refl _) PA.out (by have := LA.out; omega)
      refine hcc.mono ?_
      clear hcc
      rintro e x8 ⟨u, rfl, hp, hb⟩
      have PA := Lib.hid ((PA.out.below hb).more hb.size)
      have R1 := Lib.hid ((R1.out.below hb).more hb.size)
      have R2 := Lib.hid ((R2.out.below hb).more hb.size)
      have BB := Lib.hid (below_via BB.out hb)
      clear hb
      obtain ⟨AO2, cO2, rfl⟩ := hp.shape
      have O2 := Lib.hid hp
      clear hp
      go_wp2_with fail
      have hcc := same_any s2 _ _ _ x8 R2.out O2.out
      refine hcc.mono ?_
      clear hcc
      rintro e x9 ⟨rfl, nn, hw⟩
      have hb := quiet_below hw
      clear hw nn
      have PA := Lib.hid ((PA.out.below hb).more hb.size)
      have R1 := Lib.hid ((R1.out.below hb).more hb.size)
      have R2 := Lib.hid ((R2.out.below hb).more hb.size)
      have O2 := Lib.hid ((O2.out.below hb).more hb.size)
      have BB := Lib.hid (below_via BB.out hb)
      clear hb
      go_wp2_with fail
      refine (wakes_span _).mono ?_
      rintro e wk ⟨rfl, hb⟩
      have BB := Lib.hid (below_via BB.out hb)
      clear hb
      go_wp2_with fail
      go_ret
      exact ⟨rfl, BB.out⟩
theorem u16_in {s : Int} (h : (Lit.int .u16 s).wf = true) : 0 ≤ s ∧ s ≤ 65535 := by
  simpa [Lit.wf, IntKind.min, IntKind.max, IntKind.bits, IntKind.signed] using h
theorem words_of {zs : List (Int × Int)} (h : ∀ z ∈ zs, (Lit.int .u16 z.1).wf = true ∧ (Lit.int .u16 z.2).wf = true) : WordsIn zs := fun p hp =>
  ⟨(u16_in (h p hp).1).1, (u16_in (h p hp).1).2, (u16_in (h p hp).2).1, (u16_in (h p hp).2).2⟩
theorem spanOrder_walk (zs : List (Int × Int)) (ts : List Int) (v u : Value) (w : World) (hv : PrsK .u16 w w.heap.size v zs) (hu : Ints w w.heap.size .i64 u ts) (hw : WordsIn zs) :
    Calls Try.prog 6 #[v, u] w fun e w' => e = .returned (.bool true) ∧ Below w.heap.size w w' := by
  by_cases h : 40 < zs.length
  · exact spanOrder_long zs ts v u w hv hu h
  · by_cases h2 : 100 < ts.length
    · exact spanOrder_long2 zs ts v u w hv hu h h2
    · exact spanOrder_short zs ts v u w hv hu (by omega) (by omega) hw

set_option maxRecDepth 100000 in
theorem spanOrder_lifted (os : Os) (started : os.Started) (H : Type) (enc : TypeId × Value → H) :
    ReturnsInHanded {} Try.checked os 6 .any (Rows.spanOrderSpec.pre6 enc Try.prog Try.f6 Rows.spanOrderRow.domain false) (Rows.spanOrderSpec.post enc Try.prog Try.f6 false true false false) := by
  refine Shell.law_lifted (C := Try.checked) (tb := 4) (by kernel_rfl) started (by kernel_rfl) Try.func6
    (ChangeSpec.witness6 (enc := enc) (C := Try.checked) false ⟨#[], #[Value.slice none 0 0, Value.slice none 0 0], []⟩ 8 (by kernel_rfl) (by kernel_rfl) (by kernel_rfl) (by kernel_rfl))
    (by kernel_rfl) (by kernel_rfl) rfl rfl Try.underlying4 ?_
  intro W base args ds p hval0 hA0
  have hval : ∀ (j : Nat) t v, Try.f6.params[j]? = some t → args[j]? = some v → Value.okWide Try.prog W .any base t v := hval0
  have hA : DataW.TrodAll enc Try.prog W 0 (fun _ => true) true Try.f6.params.toList args.toList ds p := hA0
  clear hval0 hA0
  rw [Try.params6] at hA hval
  obtain ⟨v0, vs0, d0, ds0, p0, q0, hargs, rfl, rfl, h0, r0⟩ := trodAll_cons hA
  obtain ⟨v1, vs1, d1, ds1, p1, q1, rfl, rfl, rfl, h1, r1⟩ := trodAll_cons r0
  obtain ⟨rfl, rfl, rfl⟩ := trodAll_nil r1
  obtain rfl : args = #[v0, v1] := by cases args; simp_all
  refine ⟨rfl, ?_⟩
  obtain ⟨zs, hzs, hwf⟩ := Pairs.open_words Try.underlying46 Try.underlying48 (by kernel_rfl) Try.underlying47 (by kernel_rfl) (hval 0 46 v0 rfl rfl) h0
  obtain ⟨ts, hts, -⟩ := Slice.open_slice Try.underlying44 Try.underlying3 (by kernel_rfl) (hval 1 44 v1 rfl rfl) h1
  exact spanOrder_walk zs ts v0 v1 W hzs hts (words_of hwf)

theorem spanOrder_over : Rows.spanOrderRow.holds Try.pinned (OpenSpec.ofChange Rows.spanOrderSpec) :=
  OpenClaim.holds_of_wide 6 Try.f6 rfl rfl rfl rfl rfl rfl rfl ⟨rfl, rfl, rfl, rfl, rfl⟩ rfl rfl rfl rfl rfl (by kernel_rfl) Try.func6 (by kernel_rfl)
    (of_decide_eq_true (by kernel_rfl)) (by unfold Func.isWrapper; first | (rw [if_pos (by decide +kernel)]; kernel_rfl) | (rw [if_neg (by decide +kernel)]; exact ⟨rfl, rfl⟩))
    (fun os st H enc _ => spanOrder_lifted os st H enc)

/-- The statement. -/
theorem spanOrder_proved : Rows.SpanOrderSaid := spanOrder_over
end Go.Proofs.Ytjcgclfcompioaa.Law
