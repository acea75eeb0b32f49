/- The program's own package span: Good, Days, Has, Add, Cut, Both, at any stretches. -/
import Derived.Test.YtjcgclfcompioaaSpanF
import Derived.Test.YtjcgclfcompioaaSpanOwn
import Derived.Deep.DeepCutAuto
import Derived.Deep.QuietTactic
import Derived.BigQuiet
namespace Go.Proofs.Ytjcgclfcompioaa.Span
open Go.ChangeShapes Go.WideShapes Go.ChangeAt Go.RowKit Pairs Slice

theorem prs_tail {w : World} {B c : Nat} {ad : Addr} {p : Int × Int} {r : List (Int × Int)} (h : Prs w B (.slice (some ad) (p :: r).length c) (p :: r)) :
    (c = 1 → Prs w B (.slice (some ad) r.length 0) r) ∧ (c ≠ 1 → Prs w B (.slice (some (ad.add 2)) r.length (c - 1)) r) := by
  have := prs_drop h (q := 1) (by simp)
  refine ⟨fun e => ?_, fun e => ?_⟩
  · subst e
    rw [if_pos rfl] at this
    exact this
  · rw [if_neg e] at this
    exact this
theorem own_keep {w w' : World} {base n size : Nat} {e : TypeId} {v : Value} {xs : List Value} (h : w.ownsRow base e size v n xs) (hb : Below w.heap.size w w') : w'.ownsRow base e size v n xs :=
  h.kept (Pairs.grown_below hb none) (by cases v.ownBlock <;> simp)
theorem cutL_if (p1 p2 q1 q2 : Int) : cutL (p1, p2) (q1, q2) = if max p1 q1 < min p2 q2 then [(max p1 q1, min p2 q2)] else [] := rfl
def lenV : Value → Nat
  | .slice _ n _ => n
  | _ => 0
/-- The two sets gone through as far as two of their ends; what they have in common so far. -/
structure BState (a b : List (Int × Int)) (w : World) (B : Nat) (a' b' out : List (Int × Int)) (va vb u : Value) (wr : World) : Prop where
  zip : Zip a b a' b' out
  pa : Prs w B va a'
  pb : Prs w B vb b'
  below : Below w.heap.size w wr
  own : wr.ownsRow w.heap.size 51 2 u out.length (flat out)
set_option maxHeartbeats 1000000 in
theorem u_both (a b : List (Int × Int)) (va vb : Value) (B : Nat) (w : World) (hB : B ≤ w.heap.size) (ha : Prs w B va a) (hb : Prs w B vb b) (la : a.length ≤ 2000) (lb : b.length ≤ 2000) :
    Calls Try.prog 21 #[va, vb] w fun e w' => ∃ v zs n, e = .returned (.tuple #[v, .int .i64 n]) ∧ Chg andF a b (goodB a && goodB b) true zs n ∧ Prs w' w'.heap.size v zs ∧ Below w.heap.size w w' := by
  have G1 := u_good a va B w hB ha la
  have G2 := fun w1 (h : Below w.heap.size w w1) => u_good b vb B w1 (Nat.le_trans hB h.size) (hb.below (h.mono hB)) lb
  obtain ⟨Aa, ca, rfl⟩ := ha.shape
  obtain ⟨Ab, cb, rfl⟩ := hb.shape
  have HA := Lib.hid ha
  have HB := Lib.hid hb
  obtain ⟨i0, hi0, hz0, hz1, hz2⟩ := info_parts span_info
  have HI := Lib.hid hi0
  have HZ0 := Lib.hid hz0
  have HZ1 := Lib.hid hz1
  have HZ2 := Lib.hid hz2
  clear ha hb hi0 hz0 hz1 hz2
  cases hg : goodB a with
  | false =>
    rw [hg] at G1
    clear hg G2
    go_enter Try.func21, Try.ntmps21
    go_wp2_with fail
    refine G1.mono ?_
    rintro e w1 ⟨rfl, h1⟩
    have B1 := Lib.hid h1
    clear h1
    go_wp2_with fail
    go_ret2
    exact ⟨_, [], 11, rfl, chg_form rfl, Prs.nil_ _ _, B1.out⟩
  | true =>
    rw [hg] at G1
    cases hg2 : goodB b with
    | false =>
      rw [hg2] at G2
      clear hg hg2
      go_enter Try.func21, Try.ntmps21
      go_wp2_with fail
      refine G1.mono ?_
      rintro e w1 ⟨rfl, h1⟩
      have C := G2 w1 h1
      have B1 := Lib.hid h1
      clear h1 G2
      go_wp2_with fail
      refine C.mono ?_
      rintro e w2 ⟨rfl, h2⟩
      have B2 := Lib.hid (below_via B1.out h2)
      clear h2
      go_wp2_with fail
      go_ret2
      exact ⟨_, [], 11, rfl, chg_form rfl, Prs.nil_ _ _, B2.out⟩
    | true =>
      rw [hg2] at G2
      have NA := Lib.hid (good_norm hg)
      have NB := Lib.hid (good_norm hg2)
      clear hg hg2
      go_enter Try.func21, Try.ntmps21
      go_wp2_with fail
      refine G1.mono ?_
      rintro e w1 ⟨rfl, h1⟩
      have C := G2 w1 h1
      have B1 := Lib.hid h1
      clear h1 G2 G1
      go_wp2_with fail
      refine C.mono ?_
      rintro e w2 ⟨rfl, h2⟩
      have B2 := Lib.hid (below_via B1.out h2)
      clear h2 B1 C
      go_wp2_with fail
      go_loopw [0, 1, 6] (fun s t u wr => ∃ (a' b' out : List (Int × Int)) (A1 A2 A3 : Option Addr) (c1 c2 c3 : Nat), s = .slice A1 a'.length c1 ∧ t = .slice A2 b'.length c2 ∧ u = .slice A3 out.length c3 ∧ Hid (BState a b w B a' b' out (.slice A1 a'.length c1) (.slice A2 b'.length c2) (.slice A3 out.length c3) wr)) (fun s t _ _ => lenV s + lenV t)
      case atStart => exact ⟨a, b, [], _, _, none, _, _, 0, rfl, rfl, rfl, zip_start NA.out.1 NB.out.1, HA.out, HB.out, B2.out, World.ownsRow_nil _ _ _ _⟩
      case round =>
        obtain ⟨a', b', out, A1, A2, A3, c1, c2, c3, rfl, rfl, rfl, HS⟩ := hrel
        cases a' with
        | nil =>
          have HJ := Lib.hid (zip_end HS.out.zip (Or.inl rfl))
          have PO := Lib.hid (Prs.of_own rfl HS.out.own)
          have BO := Lib.hid HS.out.below
          clear HS
          go_wp2_with fail
          refine (u_few out _ wr PO.out).mono ?_
          rintro e w5 ⟨u, rfl, hu, rfl⟩
          have PU := Lib.hid hu
          clear hu
          go_wp2_with fail
          go_ret2
          exact ⟨_, _, _, rfl, chg_yes rfl rfl HJ.out, PU.out, BO.out⟩
        | cons p ra =>
          cases b' with
          | nil =>
            have HJ := Lib.hid (zip_end HS.out.zip (Or.inr rfl))
            have PO := Lib.hid (Prs.of_own rfl HS.out.own)
            have BO := Lib.hid HS.out.below
            clear HS
            go_wp2_with fail
            refine (u_few out _ wr PO.out).mono ?_
            rintro e w5 ⟨u, rfl, hu, rfl⟩
            have PU := Lib.hid hu
            clear hu
            go_wp2_with fail
            go_ret2
            exact ⟨_, _, _, rfl, chg_yes rfl rfl HJ.out, PU.out, BO.out⟩
          | cons q rb =>
            obtain ⟨A1', c1', e1, -, hn1, hcell1⟩ := HS.out.pa
            injection e1 with e1 _ e3
            subst e1
            subst e3
            obtain ⟨g1, o1, rfl, hg1, hq1⟩ := hcell1 (by simp)
            obtain ⟨A2', c2', e1, -, hn2, hcell2⟩ := HS.out.pb
            injection e1 with e1 _ e3
            subst e1
            subst e3
            obtain ⟨g2, o2, rfl, hg2, hq2⟩ := hcell2 (by simp)
            obtain ⟨x1, y1⟩ := hq1 0 (by simp)
            obtain ⟨x2, y2⟩ := hq2 0 (by simp)
            have lw : B ≤ w.heap.size := hB
            have y1w := y1
            have y2w := y2
            have x1 := (HS.out.below.cell (p := ⟨g1, o1 + 0 * 2, none⟩) (by show g1 < _; omega)).trans x1
            have y1 := (HS.out.below.cell (p := ⟨g1, o1 + 0 * 2 + 1, none⟩) (by show g1 < _; omega)).trans y1
            have x2 := (HS.out.below.cell (p := ⟨g2, o2 + 0 * 2, none⟩) (by show g2 < _; omega)).trans x2
            have y2 := (HS.out.below.cell (p := ⟨g2, o2 + 0 * 2 + 1, none⟩) (by show g2 < _; omega)).trans y2
            rw [Nat.zero_mul, Nat.add_zero, List.getD_cons_zero] at x1 y1 x2 y2
            rw [Nat.zero_mul, Nat.add_zero, List.getD_cons_zero] at y1w y2w
            clear hcell1 hcell2 hq1 hq2 hn1 hn2
            have hs := HS.out.below.size
            have b1 : g1 < wr.heap.size := by omega
            have b2 : g2 < wr.heap.size := by omega
            obtain ⟨p1, p2⟩ := p
            obtain ⟨q1, q2⟩ := q
            have l1 : (((p1, p2) :: ra).length : Int) > 0 := by simp
            have l2 : (((q1, q2) :: rb).length : Int) > 0 := by simp
            have d1 : g1 < w.heap.size := by omega
            have d2 : g2 < w.heap.size := by omega
            have HL : Hid (out.length ≤ 4000) := show _ ≤ _ by have := HS.out.zip.few; omega
            have CQ := Lib.hid (cutL_if p1 p2 q1 q2)
            have Y1 := Lib.hid y1w
            have Y2 := Lib.hid y2w
            clear y1w y2w
            go_upto_region 5 with fail
            go_cut [7] (fun t wx => t = .pointer (some ⟨wr.heap.size, 0, none⟩) ∧ Hid (wx.cell? ⟨wr.heap.size, 0, none⟩ = some (.int .i64 (max p1 q1))) ∧ Hid (wx.cell? ⟨wr.heap.size, 1, none⟩ = some (.int .i64 (min p2 q2))) ∧ Hid (Below wr.heap.size wr wx))
            case first =>
              as_aux_lemma =>
                have x1' := (World.cell?_alloc_lt (w := wr) (o := .cells #[.int .i64 0, .int .i64 0] 51) (a := ⟨g1, o1, none⟩) b1).trans x1
                have y1' := (World.cell?_alloc_lt (w := wr) (o := .cells #[.int .i64 0, .int .i64 0] 51) (a := ⟨g1, o1 + 1, none⟩) b1).trans y1
                have x2' := (World.cell?_alloc_lt (w := wr) (o := .cells #[.int .i64 0, .int .i64 0] 51) (a := ⟨g2, o2, none⟩) b2).trans x2
                have y2' := (World.cell?_alloc_lt (w := wr) (o := .cells #[.int .i64 0, .int .i64 0] 51) (a := ⟨g2, o2 + 1, none⟩) b2).trans y2
                by_cases m1 : q1 ≤ p1
                · by_cases m3 : p2 ≤ q2
                  · go_region
                    go_wp2_with fail
                    go_meet
                    exact ⟨rfl, show _ = _ by rw [show max p1 q1 = p1 by omega]; exact World.cell?_alloc_new .., show _ = _ by rw [show min p2 q2 = p2 by omega]; exact World.cell?_alloc_new .., below_drewN (below_new (Below.refl _ _) _) 1⟩
                  · go_region
                    go_wp2_with fail
                    go_meet
                    exact ⟨rfl, show _ = _ by rw [show max p1 q1 = p1 by omega]; exact World.cell?_alloc_new .., show _ = _ by rw [show min p2 q2 = q2 by omega]; exact World.cell?_alloc_new .., below_drewN (below_new (Below.refl _ _) _) 1⟩
                · by_cases m3 : p2 ≤ q2
                  · go_region
                    go_wp2_with fail
                    go_meet
                    exact ⟨rfl, show _ = _ by rw [show max p1 q1 = q1 by omega]; exact World.cell?_alloc_new .., show _ = _ by rw [show min p2 q2 = p2 by omega]; exact World.cell?_alloc_new .., below_drewN (below_new (Below.refl _ _) _) 1⟩
                  · go_region
                    go_wp2_with fail
                    go_meet
                    exact ⟨rfl, show _ = _ by rw [show max p1 q1 = q1 by omega]; exact World.cell?_alloc_new .., show _ = _ by rw [show min p2 q2 = q2 by omega]; exact World.cell?_alloc_new .., below_drewN (below_new (Below.refl _ _) _) 1⟩
            case rest =>
            obtain ⟨rfl, s0, s1, hb⟩ := hcut
            have BA := Lib.hid (below_via HS.out.below hb.out)
            have OA := Lib.hid (own_keep HS.out.own hb.out)
            have s0 := s0.out
            have s1 := s1.out
            clear x1 y1 x2 y2 hb b1 b2 hs
            generalize max p1 q1 = X at *
            generalize min p2 q2 = Y at *
            generalize wr.heap.size = gx at *
            obtain ⟨no, hno⟩ : ∃ no, no = out ++ cutL (p1, p2) (q1, q2) := ⟨_, rfl⟩
            have HNO := Lib.hid hno
            rw [CQ.out] at hno
            go_upto_if 47 with (fail)
            go_cut [6] (fun u wx => ∃ (A4 : Option Addr) (c4 : Nat), u = .slice A4 no.length c4 ∧ Hid (wx.ownsRow w.heap.size 51 2 (.slice A4 no.length c4) no.length (flat no)) ∧ Hid (Below w.heap.size w wx))
            case first =>
              as_aux_lemma =>
                by_cases m4 : X < Y
                · rw [if_pos m4] at hno
                  subst hno
                  have t4 := decide_eq_true m4
                  go_wp2_with (first
                    | (at_builtin
                       refine Pairs.wpList_append_pair rfl (.tmp 48) (.tmp 50) _ rfl w.heap.size 51 i0 (.agg #[.int .i64 0, .int .i64 0]) Try.underlying22 HI.out HZ0.out HZ1.out HZ2.out rfl _ _ (X, Y) _ out.length _ rfl OA.out _ rfl rfl (by have := HL.out; unfold maxLen; omega) (by have := HL.out; omega) BA.out.size ?_
                       intro v3 w3 hown hgrow
                       rw [← flat_append, show out.length + 1 = (out ++ [(X, Y)]).length by simp] at hown
                       have B3 : Hid (Below w.heap.size w w3) := BA.out.grown hgrow BA.out.size (fun g hg => (OA.out.lt g hg).1)
                       have O3 := Lib.hid hown
                       obtain ⟨A4, c4, rfl⟩ := own_shape hown
                       clear hown hgrow OA BA)
                    | fail)
                  go_meet
                  exact ⟨A4, c4, by simp, O3, B3⟩
                · rw [if_neg m4, List.append_nil] at hno
                  subst hno
                  have t4 := decide_eq_false m4
                  go_wp2_with fail
                  go_meet
                  exact ⟨_, _, rfl, OA, BA⟩
            case rest =>
            obtain ⟨A4, c4, rfl, O4, B4⟩ := hcut
            have y1 := (B4.out.cell (p := ⟨g1, o1 + 1, none⟩) d1).trans Y1.out
            have y2 := (B4.out.cell (p := ⟨g2, o2 + 1, none⟩) d2).trans Y2.out
            clear s0 s1 BA OA hno CQ
            by_cases m2 : p2 < q2
            · have t2 := decide_eq_true m2
              have Z := Lib.hid (zip_left HS.out.zip m2)
              rw [← HNO.out] at Z
              obtain ⟨z1, z2⟩ := prs_tail HS.out.pa
              have PO := Lib.hid HS.out.pb
              clear HS HNO
              by_cases hc : c1 = 1
              · have PN : Hid (Prs w B (.slice (some ⟨g1, o1, none⟩) ra.length (0)) ra) := z1 hc
                subst hc
                clear z1 z2
                go_wp2_with fail
                go_quiet (fail)
                go_wp2_with fail
                go_roundw
                case rel => exact ⟨ra, (q1, q2) :: rb, no, some ⟨g1, o1, none⟩, some ⟨g2, o2, none⟩, A4, 0, c2, c4, rfl, rfl, rfl, Z.out, PN.out, PO.out, below_drewN B4.out nq, O4.out⟩
                case measure => simp [lenV]
              · have PN : Hid (Prs w B (.slice (some ⟨g1, o1 + 2, none⟩) ra.length (c1 - 1)) ra) := z2 hc
                clear z1 z2
                go_wp2_with fail
                go_quiet (fail)
                go_wp2_with fail
                go_roundw
                case rel => exact ⟨ra, (q1, q2) :: rb, no, some ⟨g1, o1 + 2, none⟩, some ⟨g2, o2, none⟩, A4, c1 - 1, c2, c4, rfl, rfl, rfl, Z.out, PN.out, PO.out, below_drewN B4.out nq, O4.out⟩
                case measure => simp [lenV]
            · have t2 := decide_eq_false m2
              have Z := Lib.hid (zip_right HS.out.zip m2)
              rw [← HNO.out] at Z
              obtain ⟨z1, z2⟩ := prs_tail HS.out.pb
              have PO := Lib.hid HS.out.pa
              clear HS HNO
              by_cases hc : c2 = 1
              · have PN : Hid (Prs w B (.slice (some ⟨g2, o2, none⟩) rb.length (0)) rb) := z1 hc
                subst hc
                clear z1 z2
                go_wp2_with fail
                go_quiet (fail)
                go_wp2_with fail
                go_roundw
                case rel => exact ⟨(p1, p2) :: ra, rb, no, some ⟨g1, o1, none⟩, some ⟨g2, o2, none⟩, A4, c1, 0, c4, rfl, rfl, rfl, Z.out, PO.out, PN.out, below_drewN B4.out nq, O4.out⟩
                case measure => simp [lenV]
              · have PN : Hid (Prs w B (.slice (some ⟨g2, o2 + 2, none⟩) rb.length (c2 - 1)) rb) := z2 hc
                clear z1 z2
                go_wp2_with fail
                go_quiet (fail)
                go_wp2_with fail
                go_roundw
                case rel => exact ⟨(p1, p2) :: ra, rb, no, some ⟨g1, o1, none⟩, some ⟨g2, o2 + 2, none⟩, A4, c1, c2 - 1, c4, rfl, rfl, rfl, Z.out, PO.out, PN.out, below_drewN B4.out nq, O4.out⟩
                case measure => simp [lenV]
end Go.Proofs.Ytjcgclfcompioaa.Span
