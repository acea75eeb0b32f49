/- The document's own joined in its way 1: the days of two sets, end by end. -/
import Derived.Test.YtjcgclfcompioaaRefJoin
namespace Go.Proofs.Ytjcgclfcompioaa.Span
open Go.ChangeShapes Go.WideShapes Go.ChangeAt Go.RowKit Pairs Slice

set_option maxHeartbeats 4000000 in
set_option maxRecDepth 20000 in
theorem r_joined1 (a b : List (Int × Int)) (va vb : Value) (B : Nat) (w : World) (hB : B ≤ w.heap.size) (ha : Prs w B va a) (hb : Prs w B vb b) (ga : goodB a = true) (gb : goodB b = true) :
    Calls Try.prog 32 #[va, vb, .int .i64 1] w fun e w' => ∃ v zs, e = .returned (.tuple #[v, .int .i64 (resE zs)]) ∧ IsJ lessF a b zs ∧ Prs w' w'.heap.size v (resL zs) ∧ Below w.heap.size w w' := by
  obtain ⟨na, la⟩ := good_norm ga
  obtain ⟨nb, lb⟩ := good_norm gb
  have C := r_cuts a b va vb B w hB ha hb la lb
  obtain ⟨Aa, ca, rfl⟩ := ha.shape
  obtain ⟨Ab, cb, rfl⟩ := hb.shape
  have HA := Lib.hid ha
  have HB := Lib.hid hb
  have NA := Lib.hid na
  have NB := Lib.hid nb
  obtain ⟨i0, hi0, hz0, hz1, hz2⟩ := info_parts ref_info
  have HI := Lib.hid hi0
  have HZ0 := Lib.hid hz0
  have HZ1 := Lib.hid hz1
  have HZ2 := Lib.hid hz2
  clear ha hb ga gb la lb na nb hi0 hz0 hz1 hz2
  go_enter Try.func32, Try.ntmps32
  go_wp2_with fail
  refine C.mono ?_
  clear C
  rintro e w2 ⟨vc, c, rfl, hc, hr, he, hl, hb2⟩
  have EN := Lib.hid (ended_of NA.out NB.out hr he)
  have LC := Lib.hid hl
  have B2 := Lib.hid hb2
  have PA : Hid (Prs w2 w2.heap.size (.slice Aa a.length ca) a) := (HA.out.keep fun x o hx => hb2.cell (p := ⟨x, o, none⟩) (Nat.lt_of_lt_of_le hx hB)).more (Nat.le_trans hB hb2.size)
  have PB : Hid (Prs w2 w2.heap.size (.slice Ab b.length cb) b) := (HB.out.keep fun x o hx => hb2.cell (p := ⟨x, o, none⟩) (Nat.lt_of_lt_of_le hx hB)).more (Nat.le_trans hB hb2.size)
  obtain ⟨Ac, cc, rfl, hcl, -, hcell⟩ := hc
  have HC := Lib.hid hcell
  clear hr he hl hb2 hcell HA HB
  go_wp2_with fail
  go_loopw [8, 10] (fun o t wr => ∃ (i : Nat) (out : List (Int × Int)) (u : Value), i ≤ c.length ∧ (0 < c.length → i < c.length) ∧ t = .int .i64 i ∧ o = u ∧ JState lessF a b c w2 i out u wr) (fun _ t _ => c.length - (intOf t).toNat)
  case atStart => exact ⟨0, [], _, Nat.zero_le _, fun h => h, rfl, rfl, Below.refl _ _, World.ownsRow_nil _ _ _ _, fun h => joins_start rfl EN.out h, fun _ => rfl, Nat.le_refl _⟩
  case round =>
    obtain ⟨i, out, u, hi, hi2, rfl, rfl, hst⟩ := hrel
    obtain ⟨Au, cu, rfl⟩ := own_shape hst.own
    have HS := Lib.hid hst
    clear hst
    by_cases hlt : i + 1 < c.length
    · obtain ⟨b', off, rfl, hb', hcell⟩ := HC.out (by omega)
      have hx := (HS.out.below.cell (p := ⟨b', off + i, none⟩) hb').trans (hcell i (by omega))
      have hy := (HS.out.below.cell (p := ⟨b', off + (i + 1), none⟩) hb').trans (hcell (i + 1) hlt)
      have J := Lib.hid (HS.out.joins (by omega))
      have RA := fun n => r_in a (c.getD i 0) _ w2.heap.size (wr.drewN n) ((PA.out.below HS.out.below).drewN n)
      have RB := fun n => r_in b (c.getD i 0) _ w2.heap.size (wr.drewN n) ((PB.out.below HS.out.below).drewN n)
      have SKIP := fun h => joins_skip EN.out hlt J.out h
      have MORE := fun h h2 => joins_more EN.out hlt J.out h h2
      have GROW := fun (init : List (Int × Int)) (q : Int × Int) (ho : out = init ++ [q]) h h2 => joins_grow EN.out hlt (ho ▸ J.out) h h2
      obtain ⟨t0, hlt', hlt2, w1, w2', w3⟩ := next_facts hlt LC.out
      have HL := Lib.hid hlt
      clear hcell hlt hi hi2
      generalize hci : c.getD i 0 = ci at *
      generalize hcj : c.getD (i + 1) 0 = cj at *
      have HMO := Lib.hid MORE
      have HSK := Lib.hid SKIP
      have HGR := Lib.hid GROW
      clear MORE SKIP GROW
      have HCI := Lib.hid hci
      have HCJ := Lib.hid hcj
      clear hci hcj
      cases hx1 : hasB a ci with
      | false =>
        rw [hx1] at RA
        cases hy1 : hasB b ci with
        | false =>
          rw [hy1] at RB
          have HRA := Lib.hid RA
          have HRB := Lib.hid RB
          have HX1 := Lib.hid hx1
          have HY1 := Lib.hid hy1
          clear RA RB hx1 hy1
          have HN := Lib.hid (HSK.out (by rw [HX1.out, HY1.out]; rfl))
          go_wp2_with fail
          go_quiet (first | with_reducible exact quiet_left (HRA.out _) | with_reducible exact quiet_left (HRB.out _))
          clear HRA HRB
          go_wp2_with fail
          go_roundw
          case rel => exact ⟨i + 1, out, _, Nat.le_of_lt HL.out, fun _ => HL.out, rfl, rfl, jState_skip HS.out HL.out HN.out _⟩
          case measure => simp [intOf]; have := HL.out; omega
        | true =>
          rw [hy1] at RB
          have HRA := Lib.hid RA
          have HRB := Lib.hid RB
          have HX1 := Lib.hid hx1
          have HY1 := Lib.hid hy1
          clear RA RB hx1 hy1
          have HN := Lib.hid (HSK.out (by rw [HX1.out, HY1.out]; rfl))
          go_wp2_with fail
          go_quiet (first | with_reducible exact quiet_left (HRA.out _) | with_reducible exact quiet_left (HRB.out _))
          clear HRA HRB
          go_wp2_with fail
          go_roundw
          case rel => exact ⟨i + 1, out, _, Nat.le_of_lt HL.out, fun _ => HL.out, rfl, rfl, jState_skip HS.out HL.out HN.out _⟩
          case measure => simp [intOf]; have := HL.out; omega
      | true =>
        rw [hx1] at RA
        cases hy1 : hasB b ci with
        | false =>
          rw [hy1] at RB
          have HRA := Lib.hid RA
          have HRB := Lib.hid RB
          have HX1 := Lib.hid hx1
          have HY1 := Lib.hid hy1
          clear RA RB hx1 hy1
          have HF : Hid (lessF (hasB a ci) (hasB b ci) = true) := show _ = _ by rw [HX1.out, HY1.out]; rfl
          rcases nil_or_end out with h0 | ⟨init, q, h0⟩
          · subst h0
            have HN := Lib.hid (HMO.out HF.out (by rw [← HCI.out]; exact last_nil EN.out (by have := HL.out; omega)))
            have HLEN : Hid ((([] : List (Int × Int)).length) ≤ 4000) := show _ ≤ _ by simp
            have HOR : Hid (wr.ownsRow w2.heap.size 53 2 (.slice Au 0 cu) 0 (flat [])) := HS.out.own
            go_wp2_with fail
            go_quiet (first | with_reducible exact quiet_left (HRA.out _) | with_reducible exact quiet_left (HRB.out _))
            clear HRA HRB
            go_wp2_with fail
            go_quiet (fail)
            go_wp2_with fail
            go_region_law (refine step_pair rfl (.tmp 96) (.tmp 107) _ rfl w2.heap.size 53 i0 (.agg #[.int .i64 0, .int .i64 0]) Try.underlying24 HI.out HZ0.out HZ1.out HZ2.out rfl (ci, cj) _ 0 _ (by rfl) (World.ownsRow.alloc (World.ownsRow.drew HOR.out) _) _ (by rfl) (by exact (ends_cells _ _ _ _).1) (by exact (ends_cells _ _ _ _).2) (small_room HLEN.out).1 (small_room HLEN.out).2 (by have := HS.out.below.size; simp; omega) ?_
                           intro gg cap w3 hown hgrow
                           have HS3 := Lib.hid (jState_new (w3 := w3) HS.out HL.out HN.out (by exact below_new (below_drewN (Below.refl _ _) _) _) hown hgrow)
                           clear hown hgrow)
            all_goals
              go_wp2_with fail
              go_roundw
              case rel => exact ⟨i + 1, _, _, Nat.le_of_lt HL.out, fun _ => HL.out, rfl, rfl, HS3.out⟩
              case measure => simp [intOf]; have := HL.out; omega
          · subst h0
            obtain ⟨g, cap, e0, hq, hf⟩ := jState_form HS.out
            have elen : (init ++ [q]).length = init.length + 1 := by simp
            rw [elen] at e0 ⊢
            injection e0 with e1 e2 e3
            subst e1
            subst e3
            have HLEN : Hid (init.length + 1 ≤ 4000) := show _ ≤ _ by have := HS.out.len; have := LC.out; have := HL.out; omega
            obtain ⟨k0, k0', k4, k5, k1, k2, k3⟩ := small_facts HLEN.out
            have HGI := Lib.hid (HGR.out init q rfl HF.out)
            have HMI := Lib.hid (HMO.out HF.out)
            have HLQ : Hid (lastTo (-1) (init ++ [q]) = q.2) := lastTo_end q (-1) init
            obtain ⟨q0, q1⟩ := q
            by_cases hqe : q1 = ci
            · have HN := Lib.hid (HGI.out hqe)
              have tq : (q1 == ci) = true := by rw [hqe]; simp
              have HS1 := HS.out
              rw [elen] at HS1
              have GR := fun n => jState_grow HS1 HL.out HN.out n
              clear HS1
              have GR := Lib.hid GR
              clear HGI HMI HLQ hqe
              go_wp2_with fail
              go_quiet (first | with_reducible exact quiet_left (HRA.out _) | with_reducible exact quiet_left (HRB.out _))
              clear HRA HRB
              go_wp2_with fail
              go_quiet (fail)
              go_wp2_with fail
              go_roundw
              case rel => exact ⟨i + 1, _, _, Nat.le_of_lt HL.out, fun _ => HL.out, rfl, rfl, GR.out _⟩
              case measure => simp [intOf]; have := HL.out; omega
            · have HN := Lib.hid (HMI.out (by rw [HLQ.out]; exact hqe))
              have tq : (q1 == ci) = false := by simpa using hqe
              have HOR := Lib.hid (jState_own HS.out)
              rw [elen] at HOR
              clear HGI HMI HLQ hqe
              go_wp2_with fail
              go_quiet (first | with_reducible exact quiet_left (HRA.out _) | with_reducible exact quiet_left (HRB.out _))
              clear HRA HRB
              go_wp2_with fail
              go_quiet (fail)
              go_wp2_with fail
              go_region_law (refine step_pair rfl (.tmp 96) (.tmp 107) _ rfl w2.heap.size 53 i0 (.agg #[.int .i64 0, .int .i64 0]) Try.underlying24 HI.out HZ0.out HZ1.out HZ2.out rfl (ci, cj) _ (init.length + 1) _ (by rfl) (World.ownsRow.alloc (World.ownsRow.drew HOR.out) _) _ (by rfl) (by exact (ends_cells _ _ _ _).1) (by exact (ends_cells _ _ _ _).2) (small_room HLEN.out).1 (small_room HLEN.out).2 (by have := HS.out.below.size; simp; omega) ?_
                             intro gg cap w3 hown hgrow
                             have HS3 := Lib.hid (jState_end (w3 := w3) HS.out HL.out HN.out (by exact below_new (below_drewN (Below.refl _ _) _) _) hown hgrow)
                             clear hown hgrow)
              all_goals
                go_wp2_with fail
                go_roundw
                case rel => exact ⟨i + 1, _, _, Nat.le_of_lt HL.out, fun _ => HL.out, rfl, rfl, HS3.out⟩
                case measure => simp [intOf]; have := HL.out; omega
        | true =>
          rw [hy1] at RB
          have HRA := Lib.hid RA
          have HRB := Lib.hid RB
          have HX1 := Lib.hid hx1
          have HY1 := Lib.hid hy1
          clear RA RB hx1 hy1
          have HN := Lib.hid (HSK.out (by rw [HX1.out, HY1.out]; rfl))
          go_wp2_with fail
          go_quiet (first | with_reducible exact quiet_left (HRA.out _) | with_reducible exact quiet_left (HRB.out _))
          clear HRA HRB
          go_wp2_with fail
          go_roundw
          case rel => exact ⟨i + 1, out, _, Nat.le_of_lt HL.out, fun _ => HL.out, rfl, rfl, jState_skip HS.out HL.out HN.out _⟩
          case measure => simp [intOf]; have := HL.out; omega
    · have t0 := last_facts hlt
      have hi4 := Nat.le_trans hi LC.out
      have hj : IsJ lessF a b out := by
        by_cases h0 : 0 < c.length
        · exact joins_end rfl EN.out (by have := hi2 h0; omega) (HS.out.joins h0)
        · rw [HS.out.none (by omega)]
          exact joins_none rfl EN.out (by omega)
      have HJ := Lib.hid hj
      have OL : Hid (out.length ≤ 4000) := show _ ≤ _ by have := HS.out.len; have := LC.out; omega
      by_cases hbig : out.length ≤ 1000
      · obtain ⟨t1, t2⟩ := big_facts hbig
        have RL : Hid (resL out = out ∧ resE out = 0) := show _ ∧ _ by unfold resL resE; rw [if_pos hbig, if_pos hbig]; exact ⟨rfl, rfl⟩
        clear hj hi2
        go_wp2_with fail
        go_ret2
        exact ⟨_, out, by rw [RL.out.2]; rfl, HJ.out, by rw [RL.out.1]; exact Prs.of_own rfl HS.out.own, B2.out.trans (HS.out.below.mono B2.out.size)⟩
      · obtain ⟨t1, t2⟩ := big_facts' hbig
        have RL : Hid (resL out = [] ∧ resE out = 3) := show _ ∧ _ by unfold resL resE; rw [if_neg hbig, if_neg hbig]; exact ⟨rfl, rfl⟩
        clear hj hi2
        go_wp2_with fail
        go_ret2
        exact ⟨_, out, by rw [RL.out.2]; rfl, HJ.out, by rw [RL.out.1]; exact Prs.nil_ _ _, B2.out.trans (HS.out.below.mono B2.out.size)⟩
end Go.Proofs.Ytjcgclfcompioaa.Span
