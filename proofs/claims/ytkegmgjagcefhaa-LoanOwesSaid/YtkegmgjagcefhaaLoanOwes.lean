/- What a loan owes rises by interest, fees and draws alone; capitalizing changes nothing of it; what is paid is what it owes less; whatever is told is good; no condition. -/
import Derived.Test.YtkegmgjagcefhaaShell
import Derived.Test.YtkegmgjagcefhaaOpenLn
import Derived.Test.YtkegmgjagcefhaaLoanParts
import Derived.Test.YtkegmgjagcefhaaMod
import Derived.Deep.DeepCutAuto
namespace Go.Proofs.Ytkegmgjagcefhaa.Law
open Go.ChangeShapes Go.WideShapes Go.ChangeAt Go.RowKit Accr Box Loan RLoan

theorem mod4 (x : Int) (w : World) : Calls Try.prog 26 #[.int .i64 x, .int .i64 4] w fun e w' => e = .returned (.int .i64 ((x.tmod 4 + 4).tmod 4)) ∧ w = w' := by
  obtain ⟨W1, W2, W3⟩ := Mod.mod_facts x 4 (by omega) (by omega)
  clear W2 W3
  go_enter Try.func26, Try.ntmps26
  go_wp2
  go_ret
  exact ⟨rfl, rfl⟩
set_option maxRecDepth 20000 in
set_option maxHeartbeats 2000000 in
theorem owes_err (l : Ln) (m0 m1 m2 m3 st : Int) (w : World) (hx : (owesR l).2 ≠ 0) : Calls Try.prog 5 #[.agg l.cells, .agg #[.int .i64 m0, .int .i64 m1, .int .i64 m2, .int .i64 m3], .int .i64 st] w fun e w' => e = .returned (.bool true) ∧ Below w.heap.size w w' := by
  obtain ⟨g, w0, e0, f0, hB, hb⟩ := boxd_new w l.cells 23
  obtain ⟨k, w1, e1, f1, hK, hb2⟩ := boxd_new w0 #[.int .i64 m0, .int .i64 m1, .int .i64 m2, .int .i64 m3] 45
  have b1 : k = g + 1 := by rw [e1, f0, Deep.nblk_alloc, ← e0]
  have HL : Hid (Boxd w1 g l.cells 23) := hB.below hb2
  have HK : Hid (Boxd w1 k #[.int .i64 m0, .int .i64 m1, .int .i64 m2, .int .i64 m3] 45) := hK
  have HW : Hid (Below w.heap.size w w1) := below_to hb hb2
  clear hB hK hb hb2
  have HSL := Lib.hid (ln_info l)
  have KW := Lib.hid wakes_loan
  have K1 := Lib.hid (fun W => c_owes l W)
  have t1 : ((owesR l).2 != 0) = true := by rw [bne_iff_ne]; exact hx
  clear hx
  generalize (owesR l).1 = v at *
  generalize (owesR l).2 = x at *
  generalize l.cells = C at *
  go_enter Try.func5, Try.ntmps5
  go_upto_region 1 with fail
  rw [← f0, ← e0]
  rw [← f1, ← b1]
  clear e0 f0 e1 f1 b1
  go_wp2_with (first
    | (refine o_load rfl 23 _ rfl _ rfl _ _ _ HL.out Try.underlying23 rfl HSL.out ?_)
    | (go_at_call 8; with_reducible refine (K1.out _).mono ?_; rintro e y1 ⟨rfl, hb⟩; replace HL := Lib.hid (HL.out.below hb); replace HK := Lib.hid (HK.out.below hb); replace HW := Lib.hid (below_to HW.out hb); clear hb)
    | (go_at_call 17; with_reducible refine (KW.out _).mono ?_; rintro e y2 ⟨rfl, hb⟩; replace HL := Lib.hid (HL.out.below hb); replace HK := Lib.hid (HK.out.below hb); replace HW := Lib.hid (below_to HW.out hb); clear hb))
  go_ret
  exact ⟨rfl, HW.out⟩
set_option maxRecDepth 20000 in
set_option maxHeartbeats 40000000 in
theorem owes_none (l : Ln) (m0 m1 m2 m3 st : Int) (w : World) (hg : goodL l = true) (hs : sumL l ≤ 10000000000000) : Calls Try.prog 5 #[.agg l.cells, .agg #[.int .i64 m0, .int .i64 m1, .int .i64 m2, .int .i64 m3], .int .i64 st] w fun e w' => e = .returned (.bool true) ∧ Below w.heap.size w w' := by
  obtain ⟨g, w0, e0, f0, hB, hb⟩ := boxd_new w l.cells 23
  obtain ⟨k, w1, e1, f1, hK, hb2⟩ := boxd_new w0 #[.int .i64 m0, .int .i64 m1, .int .i64 m2, .int .i64 m3] 45
  have b1 : k = g + 1 := by rw [e1, f0, Deep.nblk_alloc, ← e0]
  have HL : Hid (Boxd w1 g l.cells 23) := hB.below hb2
  have HK : Hid (Boxd w1 k #[.int .i64 m0, .int .i64 m1, .int .i64 m2, .int .i64 m3] 45) := hK
  have HW : Hid (Below w.heap.size w w1) := below_to hb hb2
  clear hB hK hb hb2
  have HSL := Lib.hid (ln_info l)
  have KW := Lib.hid wakes_loan
  have KO : Hid (∀ W, Calls Try.prog 8 #[.agg l.cells] W fun e w' => e = .returned (.tuple #[.int .i64 (sumL l), .int .i64 0]) ∧ Below W.heap.size W w') := fun W => by have q := c_owes l W; rw [owes_is hg hs] at q; exact q
  have hsn := sum_nn (goodL_iff.1 hg)
  obtain ⟨W1, W2, W3⟩ := Mod.mod_facts st 4 (by omega) (by omega)
  have KM := Lib.hid (fun W => mod4 st W)
  obtain ⟨c6, n6, x6, k6, h6⟩ := close_part (how := 1 + (st.tmod 4 + 4).tmod 4) hg hs (by omega) (by omega)
  have W4 : wrap64 (1 + (st.tmod 4 + 4).tmod 4) = 1 + (st.tmod 4 + 4).tmod 4 := by unfold wrap64; omega
  have W5 : IntKind.i64.wrap (1 + (st.tmod 4 + 4).tmod 4) = 1 + (st.tmod 4 + 4).tmod 4 := IntWalk.i64_in _ (by omega)
  clear W1 W2 W3
  obtain ⟨c1, x1, k1, h1⟩ := cap_part hg hs
  obtain ⟨c2, x2, k2, h2⟩ := fee_part (a := m0) hg
  obtain ⟨c3, x3, k3, h3⟩ := draw_part (a := m0) hg
  obtain ⟨c4, x4, k4, h4⟩ := pay_part (f := m1) (i := m2) (p := m3) hg hs
  obtain ⟨c5, x5, k5, h5⟩ := turn_part (s := st) hg hs
  have K1 := Lib.hid k1
  have H1 := Lib.hid h1
  clear k1 h1
  have HS1 := Lib.hid (ln_info c1)
  have HO1 := Lib.hid (ln_one c1)
  have HZ1 : Hid (13 = (c1).cells.size) := show _ = _ from rfl
  have K2 := Lib.hid k2
  have H2 := Lib.hid h2
  clear k2 h2
  have HS2 := Lib.hid (ln_info c2)
  have HO2 := Lib.hid (ln_one c2)
  have HZ2 : Hid (13 = (c2).cells.size) := show _ = _ from rfl
  have K3 := Lib.hid k3
  have H3 := Lib.hid h3
  clear k3 h3
  have HS3 := Lib.hid (ln_info c3)
  have HO3 := Lib.hid (ln_one c3)
  have HZ3 : Hid (13 = (c3).cells.size) := show _ = _ from rfl
  have K4 := Lib.hid k4
  have H4 := Lib.hid h4
  clear k4 h4
  have HS4 := Lib.hid (ln_info c4)
  have HO4 := Lib.hid (ln_one c4)
  have HZ4 : Hid (13 = (c4).cells.size) := show _ = _ from rfl
  have K5 := Lib.hid k5
  have H5 := Lib.hid h5
  clear k5 h5
  have HS5 := Lib.hid (ln_info c5)
  have HO5 := Lib.hid (ln_one c5)
  have HZ5 : Hid (13 = (c5).cells.size) := show _ = _ from rfl
  have K6 := Lib.hid k6
  have H6 := Lib.hid h6
  clear k6 h6
  have HS6 := Lib.hid (ln_info c6)
  have HO6 := Lib.hid (ln_one c6)
  have HZ6 : Hid (13 = (c6).cells.size) := show _ = _ from rfl
  have XL8 : Hid (l.cells[8]? = some (.int .i64 l.closed)) := show _ = _ from rfl
  have BS : Hid (0 ≤ sumL l ∧ sumL l ≤ 10000000000000) := show _ ∧ _ from ⟨hsn, hs⟩
  clear hg hs hsn
  generalize c1.cells = D1 at *
  generalize c2.cells = D2 at *
  generalize c3.cells = D3 at *
  generalize c4.cells = D4 at *
  generalize c5.cells = D5 at *
  generalize c6.cells = D6 at *
  generalize sumL l = S at *
  generalize l.closed = lc at *
  generalize l.cells = C at *
  generalize hq : (st.tmod 4 + 4).tmod 4 = q at *
  have sS : (S == S) = true := by simp
  have sN : (S != S) = false := by simp
  go_enter Try.func5, Try.ntmps5
  go_upto_region 1 with fail
  rw [← f0, ← e0]
  rw [← f1, ← b1]
  clear e0 f0 e1 f1 b1
  go_upto_if 48 with (first
    | (refine o_load rfl 23 _ rfl _ rfl _ _ _ HL.out Try.underlying23 rfl HSL.out ?_)
    | (go_at_call 8; with_reducible refine (KO.out _).mono ?_; rintro e y1 ⟨rfl, hb⟩; replace HL := Lib.hid (HL.out.below hb); replace HK := Lib.hid (HK.out.below hb); replace HW := Lib.hid (below_to HW.out hb); clear hb)
    | (go_at_call 12; with_reducible refine (K1.out _).mono ?_; rintro e y2 ⟨rfl, hb⟩; replace HL := Lib.hid (HL.out.below hb); replace HK := Lib.hid (HK.out.below hb); replace HW := Lib.hid (below_to HW.out hb); clear hb)
    | (refine o_store rfl 23 _ _ rfl rfl y2.heap.size _ rfl rfl _ _ (heap_alloc_last _ _) HS1.out HZ1.out HO1.out ?_; intro z2 hr ho; replace HL := Lib.hid ((HL.out.below (below_one _ _)).one ho (Nat.ne_of_lt HL.out.lt)); replace HK := Lib.hid ((HK.out.below (below_one _ _)).one ho (Nat.ne_of_lt HK.out.lt)); have HA := Lib.hid hr; replace HW := Lib.hid (below_one_of (below_to HW.out (below_one _ _)) ho HW.out.size (below_to HW.out (below_one _ _)).size); clear hr ho))
  go_cut [] (fun wx => Hid (Boxd wx g C 23) ∧ Hid (Boxd wx k #[.int .i64 m0, .int .i64 m1, .int .i64 m2, .int .i64 m3] 45) ∧ Hid (Below w.heap.size w wx))
  case first => as_aux_lemma =>
    rcases H1.out with hx | ⟨hx, q1, q2, q3, q4⟩
    · have tx : (x1 == 0) = false := by rw [beq_eq_false_iff_ne]; exact hx
      clear hx
      go_wp2_with fail
      go_meet
      exact ⟨HL.out, HK.out, HW.out⟩
    · have tx : (x1 == 0) = true := by rw [hx]; rfl
      clear hx
      have Q1 := Lib.hid q1
      have Q2 := Lib.hid q2
      have Q3 := Lib.hid q3
      have t2 : decide (1000000 ≤ c1.intr) = false := decide_eq_false (by omega)
      clear q1 q2 q3 q4
      go_wp2_with (first
        | (refine o_load rfl 23 _ rfl _ rfl _ _ _ HA.out Try.underlying23 rfl HS1.out ?_)
        | (go_at_call 8; with_reducible refine (Q1.out _).mono ?_; rintro e y3 ⟨rfl, hb⟩; replace HL := Lib.hid (HL.out.below hb); replace HK := Lib.hid (HK.out.below hb); replace HA := Lib.hid (HA.out.below hb); replace HW := Lib.hid (below_to HW.out hb); clear hb)
        | (go_at_call 15; with_reducible refine (Q2.out _).mono ?_; rintro e y4 ⟨rfl, hb⟩; replace HL := Lib.hid (HL.out.below hb); replace HK := Lib.hid (HK.out.below hb); replace HA := Lib.hid (HA.out.below hb); replace HW := Lib.hid (below_to HW.out hb); clear hb; have a2 := (HA.out.cell (i := 2)).trans Q3.out))
      go_meet
      exact ⟨HL.out, HK.out, HW.out⟩
  case rest =>
  obtain ⟨HL, HK, HW⟩ := hcut
  have k0 := (HK.out.cell (i := 0)).trans (show (#[.int .i64 m0, .int .i64 m1, .int .i64 m2, .int .i64 m3] : Array Value)[0]? = some (.int .i64 m0) from rfl)
  go_upto_if 79 with (first
    | (refine o_load rfl 23 _ rfl _ rfl _ _ _ HL.out Try.underlying23 rfl HSL.out ?_)
    | (go_at_call 20; with_reducible refine (K2.out _).mono ?_; rintro e y1 ⟨rfl, hb⟩; replace HL := Lib.hid (HL.out.below hb); replace HK := Lib.hid (HK.out.below hb); replace HW := Lib.hid (below_to HW.out hb); clear hb)
    | (refine o_store rfl 23 _ _ rfl rfl y1.heap.size _ rfl rfl _ _ (heap_alloc_last _ _) HS2.out HZ2.out HO2.out ?_; intro z1 hr ho; replace HL := Lib.hid ((HL.out.below (below_one _ _)).one ho (Nat.ne_of_lt HL.out.lt)); replace HK := Lib.hid ((HK.out.below (below_one _ _)).one ho (Nat.ne_of_lt HK.out.lt)); have HA := Lib.hid hr; replace HW := Lib.hid (below_one_of (below_to HW.out (below_one _ _)) ho HW.out.size (below_to HW.out (below_one _ _)).size); clear hr ho))
  go_cut [] (fun wx => Hid (Boxd wx g C 23) ∧ Hid (Boxd wx k #[.int .i64 m0, .int .i64 m1, .int .i64 m2, .int .i64 m3] 45) ∧ Hid (Below w.heap.size w wx))
  case first => as_aux_lemma =>
    rcases H2.out with hx | ⟨hx, q1, q2, q3⟩
    · have tx : (x2 == 0) = false := by rw [beq_eq_false_iff_ne]; exact hx
      clear hx
      go_wp2_with fail
      go_meet
      exact ⟨HL.out, HK.out, HW.out⟩
    · have tx : (x2 == 0) = true := by rw [hx]; rfl
      clear hx
      have Q2 := Lib.hid q2
      have BS2 := BS.out
      have u1 : wrap64 (S + m0) = S + m0 := by unfold wrap64; omega
      have u2 : (S + m0 != S + m0) = false := by simp
      clear q2 q1 BS2
      rcases q3 with q3 | q3
      · have Q3 := Lib.hid q3
        clear q3
        go_wp2_with (first
          | (refine o_load rfl 23 _ rfl _ rfl _ _ _ HA.out Try.underlying23 rfl HS2.out ?_)
          | (go_at_call 8; with_reducible refine (Q3.out _).mono ?_; rintro e y2 ⟨rfl, hb⟩; replace HL := Lib.hid (HL.out.below hb); replace HK := Lib.hid (HK.out.below hb); replace HA := Lib.hid (HA.out.below hb); replace HW := Lib.hid (below_to HW.out hb); clear hb; have k0 := (HK.out.cell (i := 0)).trans (show (#[.int .i64 m0, .int .i64 m1, .int .i64 m2, .int .i64 m3] : Array Value)[0]? = some (.int .i64 m0) from rfl))
          | (go_at_call 15; with_reducible refine (Q2.out _).mono ?_; rintro e y3 ⟨rfl, hb⟩; replace HL := Lib.hid (HL.out.below hb); replace HK := Lib.hid (HK.out.below hb); replace HA := Lib.hid (HA.out.below hb); replace HW := Lib.hid (below_to HW.out hb); clear hb))
        go_meet
        exact ⟨HL.out, HK.out, HW.out⟩
      · have Q3 := Lib.hid q3
        clear q3
        go_wp2_with (first
          | (refine o_load rfl 23 _ rfl _ rfl _ _ _ HA.out Try.underlying23 rfl HS2.out ?_)
          | (go_at_call 8; with_reducible refine (Q3.out _).mono ?_; rintro e y2 ⟨rfl, hb⟩; replace HL := Lib.hid (HL.out.below hb); replace HK := Lib.hid (HK.out.below hb); replace HA := Lib.hid (HA.out.below hb); replace HW := Lib.hid (below_to HW.out hb); clear hb; have k0 := (HK.out.cell (i := 0)).trans (show (#[.int .i64 m0, .int .i64 m1, .int .i64 m2, .int .i64 m3] : Array Value)[0]? = some (.int .i64 m0) from rfl))
          | (go_at_call 15; with_reducible refine (Q2.out _).mono ?_; rintro e y3 ⟨rfl, hb⟩; replace HL := Lib.hid (HL.out.below hb); replace HK := Lib.hid (HK.out.below hb); replace HA := Lib.hid (HA.out.below hb); replace HW := Lib.hid (below_to HW.out hb); clear hb))
        go_meet
        exact ⟨HL.out, HK.out, HW.out⟩
  case rest =>
  obtain ⟨HL, HK, HW⟩ := hcut
  have k0 := (HK.out.cell (i := 0)).trans (show (#[.int .i64 m0, .int .i64 m1, .int .i64 m2, .int .i64 m3] : Array Value)[0]? = some (.int .i64 m0) from rfl)
  go_upto_if 108 with (first
    | (refine o_load rfl 23 _ rfl _ rfl _ _ _ HL.out Try.underlying23 rfl HSL.out ?_)
    | (go_at_call 22; with_reducible refine (K3.out _).mono ?_; rintro e y1 ⟨rfl, hb⟩; replace HL := Lib.hid (HL.out.below hb); replace HK := Lib.hid (HK.out.below hb); replace HW := Lib.hid (below_to HW.out hb); clear hb)
    | (refine o_store rfl 23 _ _ rfl rfl y1.heap.size _ rfl rfl _ _ (heap_alloc_last _ _) HS3.out HZ3.out HO3.out ?_; intro z1 hr ho; replace HL := Lib.hid ((HL.out.below (below_one _ _)).one ho (Nat.ne_of_lt HL.out.lt)); replace HK := Lib.hid ((HK.out.below (below_one _ _)).one ho (Nat.ne_of_lt HK.out.lt)); have HA := Lib.hid hr; replace HW := Lib.hid (below_one_of (below_to HW.out (below_one _ _)) ho HW.out.size (below_to HW.out (below_one _ _)).size); clear hr ho))
  go_cut [] (fun wx => Hid (Boxd wx g C 23) ∧ Hid (Boxd wx k #[.int .i64 m0, .int .i64 m1, .int .i64 m2, .int .i64 m3] 45) ∧ Hid (Below w.heap.size w wx))
  case first => as_aux_lemma =>
    rcases H3.out with hx | ⟨hx, q1, q2, q3⟩
    · have tx : (x3 == 0) = false := by rw [beq_eq_false_iff_ne]; exact hx
      clear hx
      go_wp2_with fail
      go_meet
      exact ⟨HL.out, HK.out, HW.out⟩
    · have tx : (x3 == 0) = true := by rw [hx]; rfl
      clear hx
      have Q2 := Lib.hid q2
      have BS2 := BS.out
      have u1 : wrap64 (S + m0) = S + m0 := by unfold wrap64; omega
      have u2 : (S + m0 != S + m0) = false := by simp
      clear q2 q1 BS2
      rcases q3 with q3 | q3
      · have Q3 := Lib.hid q3
        clear q3
        go_wp2_with (first
          | (refine o_load rfl 23 _ rfl _ rfl _ _ _ HA.out Try.underlying23 rfl HS3.out ?_)
          | (go_at_call 8; with_reducible refine (Q3.out _).mono ?_; rintro e y2 ⟨rfl, hb⟩; replace HL := Lib.hid (HL.out.below hb); replace HK := Lib.hid (HK.out.below hb); replace HA := Lib.hid (HA.out.below hb); replace HW := Lib.hid (below_to HW.out hb); clear hb; have k0 := (HK.out.cell (i := 0)).trans (show (#[.int .i64 m0, .int .i64 m1, .int .i64 m2, .int .i64 m3] : Array Value)[0]? = some (.int .i64 m0) from rfl))
          | (go_at_call 15; with_reducible refine (Q2.out _).mono ?_; rintro e y3 ⟨rfl, hb⟩; replace HL := Lib.hid (HL.out.below hb); replace HK := Lib.hid (HK.out.below hb); replace HA := Lib.hid (HA.out.below hb); replace HW := Lib.hid (below_to HW.out hb); clear hb))
        go_meet
        exact ⟨HL.out, HK.out, HW.out⟩
      · have Q3 := Lib.hid q3
        clear q3
        go_wp2_with (first
          | (refine o_load rfl 23 _ rfl _ rfl _ _ _ HA.out Try.underlying23 rfl HS3.out ?_)
          | (go_at_call 8; with_reducible refine (Q3.out _).mono ?_; rintro e y2 ⟨rfl, hb⟩; replace HL := Lib.hid (HL.out.below hb); replace HK := Lib.hid (HK.out.below hb); replace HA := Lib.hid (HA.out.below hb); replace HW := Lib.hid (below_to HW.out hb); clear hb; have k0 := (HK.out.cell (i := 0)).trans (show (#[.int .i64 m0, .int .i64 m1, .int .i64 m2, .int .i64 m3] : Array Value)[0]? = some (.int .i64 m0) from rfl))
          | (go_at_call 15; with_reducible refine (Q2.out _).mono ?_; rintro e y3 ⟨rfl, hb⟩; replace HL := Lib.hid (HL.out.below hb); replace HK := Lib.hid (HK.out.below hb); replace HA := Lib.hid (HA.out.below hb); replace HW := Lib.hid (below_to HW.out hb); clear hb))
        go_meet
        exact ⟨HL.out, HK.out, HW.out⟩
  case rest =>
  obtain ⟨HL, HK, HW⟩ := hcut
  have k1 := (HK.out.cell (i := 1)).trans (show (#[.int .i64 m0, .int .i64 m1, .int .i64 m2, .int .i64 m3] : Array Value)[1]? = some (.int .i64 m1) from rfl)
  have k2 := (HK.out.cell (i := 2)).trans (show (#[.int .i64 m0, .int .i64 m1, .int .i64 m2, .int .i64 m3] : Array Value)[2]? = some (.int .i64 m2) from rfl)
  have k3 := (HK.out.cell (i := 3)).trans (show (#[.int .i64 m0, .int .i64 m1, .int .i64 m2, .int .i64 m3] : Array Value)[3]? = some (.int .i64 m3) from rfl)
  go_upto_if 141 with (first
    | (refine o_load rfl 23 _ rfl _ rfl _ _ _ HL.out Try.underlying23 rfl HSL.out ?_)
    | (go_at_call 24; with_reducible refine (K4.out _).mono ?_; rintro e y1 ⟨rfl, hb⟩; replace HL := Lib.hid (HL.out.below hb); replace HK := Lib.hid (HK.out.below hb); replace HW := Lib.hid (below_to HW.out hb); clear hb)
    | (refine o_store rfl 23 _ _ rfl rfl y1.heap.size _ rfl rfl _ _ (heap_alloc_last _ _) HS4.out HZ4.out HO4.out ?_; intro z1 hr ho; replace HL := Lib.hid ((HL.out.below (below_one _ _)).one ho (Nat.ne_of_lt HL.out.lt)); replace HK := Lib.hid ((HK.out.below (below_one _ _)).one ho (Nat.ne_of_lt HK.out.lt)); have HA := Lib.hid hr; replace HW := Lib.hid (below_one_of (below_to HW.out (below_one _ _)) ho HW.out.size (below_to HW.out (below_one _ _)).size); clear hr ho))
  go_cut [] (fun wx => Hid (Boxd wx g C 23) ∧ Hid (Boxd wx k #[.int .i64 m0, .int .i64 m1, .int .i64 m2, .int .i64 m3] 45) ∧ Hid (Below w.heap.size w wx))
  case first => as_aux_lemma =>
    rcases H4.out with hx | ⟨hx, q0, q1, q2, q3, q4⟩
    · have tx : (x4 == 0) = false := by rw [beq_eq_false_iff_ne]; exact hx
      clear hx
      go_wp2_with fail
      go_meet
      exact ⟨HL.out, HK.out, HW.out⟩
    · have tx : (x4 == 0) = true := by rw [hx]; rfl
      clear hx
      have Q1 := Lib.hid q1
      have Q2 := Lib.hid q2
      have Q3 := Lib.hid q3
      have BS2 := BS.out
      obtain ⟨z1, z2, z3, z4⟩ := q0
      have u1 : wrap64 (S - m1) = S - m1 := by unfold wrap64; omega
      have u2 : wrap64 (S - m1 - m2) = S - m1 - m2 := by unfold wrap64; omega
      have u3 : wrap64 (S - m1 - m2 - m3) = S - m1 - m2 - m3 := by unfold wrap64; omega
      have u4 : (S - m1 - m2 - m3 != S - m1 - m2 - m3) = false := by simp
      clear q1 q2 q3 BS2 z1 z2 z3 z4
      by_cases hz : S - m1 - m2 - m3 = 0
      · have u5 : (S - m1 - m2 - m3 == 0) = true := by rw [hz]; rfl
        have u6 : (c4.closed == 1) = true := by rw [q4.1 hz]; rfl
        clear hz q4
        go_wp2_with (first
          | (refine o_load rfl 23 _ rfl _ rfl _ _ _ HA.out Try.underlying23 rfl HS4.out ?_)
          | (go_at_call 8; with_reducible refine (Q1.out _).mono ?_; rintro e y2 ⟨rfl, hb⟩; replace HL := Lib.hid (HL.out.below hb); replace HK := Lib.hid (HK.out.below hb); replace HA := Lib.hid (HA.out.below hb); replace HW := Lib.hid (below_to HW.out hb); clear hb; have k1 := (HK.out.cell (i := 1)).trans (show (#[.int .i64 m0, .int .i64 m1, .int .i64 m2, .int .i64 m3] : Array Value)[1]? = some (.int .i64 m1) from rfl); have k2 := (HK.out.cell (i := 2)).trans (show (#[.int .i64 m0, .int .i64 m1, .int .i64 m2, .int .i64 m3] : Array Value)[2]? = some (.int .i64 m2) from rfl); have k3 := (HK.out.cell (i := 3)).trans (show (#[.int .i64 m0, .int .i64 m1, .int .i64 m2, .int .i64 m3] : Array Value)[3]? = some (.int .i64 m3) from rfl))
          | (go_at_call 15; with_reducible refine (Q2.out _).mono ?_; rintro e y3 ⟨rfl, hb⟩; replace HL := Lib.hid (HL.out.below hb); replace HK := Lib.hid (HK.out.below hb); replace HA := Lib.hid (HA.out.below hb); replace HW := Lib.hid (below_to HW.out hb); clear hb; have a8 := (HA.out.cell (i := 8)).trans Q3.out))
        go_meet
        exact ⟨HL.out, HK.out, HW.out⟩
      · have u5 : (S - m1 - m2 - m3 == 0) = false := by rw [beq_eq_false_iff_ne]; exact hz
        have u6 : (c4.closed == 1) = false := by rw [beq_eq_false_iff_ne]; exact fun h => hz (q4.2 h)
        clear hz q4
        go_wp2_with (first
          | (refine o_load rfl 23 _ rfl _ rfl _ _ _ HA.out Try.underlying23 rfl HS4.out ?_)
          | (go_at_call 8; with_reducible refine (Q1.out _).mono ?_; rintro e y2 ⟨rfl, hb⟩; replace HL := Lib.hid (HL.out.below hb); replace HK := Lib.hid (HK.out.below hb); replace HA := Lib.hid (HA.out.below hb); replace HW := Lib.hid (below_to HW.out hb); clear hb; have k1 := (HK.out.cell (i := 1)).trans (show (#[.int .i64 m0, .int .i64 m1, .int .i64 m2, .int .i64 m3] : Array Value)[1]? = some (.int .i64 m1) from rfl); have k2 := (HK.out.cell (i := 2)).trans (show (#[.int .i64 m0, .int .i64 m1, .int .i64 m2, .int .i64 m3] : Array Value)[2]? = some (.int .i64 m2) from rfl); have k3 := (HK.out.cell (i := 3)).trans (show (#[.int .i64 m0, .int .i64 m1, .int .i64 m2, .int .i64 m3] : Array Value)[3]? = some (.int .i64 m3) from rfl))
          | (go_at_call 15; with_reducible refine (Q2.out _).mono ?_; rintro e y3 ⟨rfl, hb⟩; replace HL := Lib.hid (HL.out.below hb); replace HK := Lib.hid (HK.out.below hb); replace HA := Lib.hid (HA.out.below hb); replace HW := Lib.hid (below_to HW.out hb); clear hb; have a8 := (HA.out.cell (i := 8)).trans Q3.out))
        go_meet
        exact ⟨HL.out, HK.out, HW.out⟩
  case rest =>
  obtain ⟨HL, HK, HW⟩ := hcut
  go_upto_if 183 with (first
    | (refine o_load rfl 23 _ rfl _ rfl _ _ _ HL.out Try.underlying23 rfl HSL.out ?_)
    | (go_at_call 18; with_reducible refine (K5.out _).mono ?_; rintro e y1 ⟨rfl, hb⟩; replace HL := Lib.hid (HL.out.below hb); replace HK := Lib.hid (HK.out.below hb); replace HW := Lib.hid (below_to HW.out hb); clear hb)
    | (refine o_store rfl 23 _ _ rfl rfl y1.heap.size _ rfl rfl _ _ (heap_alloc_last _ _) HS5.out HZ5.out HO5.out ?_; intro z1 hr ho; replace HL := Lib.hid ((HL.out.below (below_one _ _)).one ho (Nat.ne_of_lt HL.out.lt)); replace HK := Lib.hid ((HK.out.below (below_one _ _)).one ho (Nat.ne_of_lt HK.out.lt)); have HA := Lib.hid hr; replace HW := Lib.hid (below_one_of (below_to HW.out (below_one _ _)) ho HW.out.size (below_to HW.out (below_one _ _)).size); clear hr ho))
  go_cut [] (fun wx => Hid (Boxd wx g C 23) ∧ Hid (Boxd wx k #[.int .i64 m0, .int .i64 m1, .int .i64 m2, .int .i64 m3] 45) ∧ Hid (Below w.heap.size w wx))
  case first => as_aux_lemma =>
    rcases H5.out with hx | ⟨hx, q1, q2, q3⟩
    · have tx : (x5 == 0) = false := by rw [beq_eq_false_iff_ne]; exact hx
      clear hx
      go_wp2_with fail
      go_meet
      exact ⟨HL.out, HK.out, HW.out⟩
    · have tx : (x5 == 0) = true := by rw [hx]; rfl
      clear hx
      have Q1 := Lib.hid q1
      have Q2 := Lib.hid q2
      have Q3 := Lib.hid q3
      have u1 : (st != st) = false := by simp
      clear q1 q2 q3
      go_wp2_with (first
        | (refine o_load rfl 23 _ rfl _ rfl _ _ _ HA.out Try.underlying23 rfl HS5.out ?_)
        | (go_at_call 8; with_reducible refine (Q1.out _).mono ?_; rintro e y2 ⟨rfl, hb⟩; replace HL := Lib.hid (HL.out.below hb); replace HK := Lib.hid (HK.out.below hb); replace HA := Lib.hid (HA.out.below hb); replace HW := Lib.hid (below_to HW.out hb); clear hb)
        | (go_at_call 15; with_reducible refine (Q2.out _).mono ?_; rintro e y3 ⟨rfl, hb⟩; replace HL := Lib.hid (HL.out.below hb); replace HK := Lib.hid (HK.out.below hb); replace HA := Lib.hid (HA.out.below hb); replace HW := Lib.hid (below_to HW.out hb); clear hb; have a7 := (HA.out.cell (i := 7)).trans Q3.out))
      go_meet
      exact ⟨HL.out, HK.out, HW.out⟩
  case rest =>
  obtain ⟨HL, HK, HW⟩ := hcut
  go_upto_region 29 with fail
  go_cut [29, 30, 31] (fun s29 s30 s31 wx => ∃ g6 : Nat, s29 = .pointer (some ⟨g6, 0, none⟩) ∧ s30 = .int .i64 n6 ∧ s31 = .int .i64 x6 ∧ Hid (Boxd wx g6 D6 23) ∧ Hid (Boxd wx g C 23) ∧ Hid (Below w.heap.size w wx))
  case first => as_aux_lemma =>
    have hS0 : Boxd wc.drew g C 23 := HL.out
    replace HL : Hid (Boxd wc.drew g C 23) := HL.out
    replace HW : Hid (Below w.heap.size w wc.drew) := below_drawn HW.out
    clear HK
    refine wp_region_held_drew (S := (fun W => Boxd W g C 23)) (by kernel_rfl) hS0 (fun hHeld => ?_)
    clear hHeld
    generalize wc.drew = y0 at *
    refine take_row 0 208 rfl rfl (by kernel_rfl) (by kernel_rfl) (by kernel_rfl) 23 _ rfl _ rfl _ _ Try.underlying23 rfl HSL.out (fun _ h => h) (fun _ _ _ h => h) (by rfl) (by assumption) ?_
    (try simp only [Act.put, List.setIfInBounds_toArray, List.set_cons_zero, List.set_cons_succ])
    refine ByHand.take_yes (v := ?_) 1 209 rfl rfl (by kernel_rfl) (by kernel_rfl) (by kernel_rfl) (fun _ _ _ h => h) (by rfl) ?_ (by assumption) ?_
    rotate_left
    · intro w' hSw
      (try dsimp only at hSw)
      go_simp
      all_goals with_reducible rfl
    (try simp only [Act.put, List.setIfInBounds_toArray, List.set_cons_zero, List.set_cons_succ])
    refine wpAnyH_ready (rs := [2, 9]) (by kernel_rfl) (by simp) (AllReadyH.cons rfl (fun K hK => ?_) (AllReadyH.cons rfl (fun K hK => ?_) AllReadyH.nil))
    · go_simp
      refine (KM.out _).mono ?_
      rintro e w' ⟨rfl, rfl⟩
      go_wp2_with fail
      refine hK.out _ _ ?_ (fun hHeld => ?_)
      · exact hS0
      clear hK K
      (try simp only [Act.put, List.setIfInBounds_toArray, List.set_cons_zero, List.set_cons_succ])
      refine ByHand.take_yes (v := ?_) 3 211 rfl rfl (by kernel_rfl) (by kernel_rfl) (by kernel_rfl) (fun _ _ _ h => h) (by rfl) ?_ (by assumption) ?_
      rotate_left
      · intro w' hSw
        (try dsimp only at hSw)
        go_simp
        all_goals with_reducible rfl
      (try simp only [Act.put, List.setIfInBounds_toArray, List.set_cons_zero, List.set_cons_succ])
      refine wpAnyH_ready (rs := [4, 9]) (by kernel_rfl) (by simp) (AllReadyH.cons rfl (fun K hK => ?_) (AllReadyH.cons rfl (fun K hK => ?_) AllReadyH.nil))
      · go_simp
        refine (K6.out _).mono ?_
        rintro e y6 ⟨rfl, hb⟩
        replace HL := Lib.hid (HL.out.below hb)
        replace HW := Lib.hid (below_to HW.out hb)
        clear hb
        go_wp2_with fail
        refine hK.out _ _ ?_ (fun hHeld => ?_)
        · exact HL.out
        clear hK K
        (try simp only [Act.put, List.setIfInBounds_toArray, List.set_cons_zero, List.set_cons_succ])
        refine ByHand.take_yes (v := ?_) 5 207 rfl rfl (by kernel_rfl) (by kernel_rfl) (by kernel_rfl) (fun _ _ _ h => h) (by rfl) ?_ (by assumption) ?_
        rotate_left
        · intro w' hSw
          (try dsimp only at hSw)
          go_simp
          all_goals with_reducible rfl
        (try simp only [Act.put, List.setIfInBounds_toArray, List.set_cons_zero, List.set_cons_succ])
        refine ByHand.take_yes (v := ?_) 6 213 rfl rfl (by kernel_rfl) (by kernel_rfl) (by kernel_rfl) (fun _ _ _ h => h) (by rfl) ?_ (by assumption) ?_
        rotate_left
        · intro w' hSw
          (try dsimp only at hSw)
          go_simp
          all_goals with_reducible rfl
        (try simp only [Act.put, List.setIfInBounds_toArray, List.set_cons_zero, List.set_cons_succ])
        refine ByHand.take_yes (v := ?_) 7 214 rfl rfl (by kernel_rfl) (by kernel_rfl) (by kernel_rfl) (fun _ _ _ h => h) (by rfl) ?_ (by assumption) ?_
        rotate_left
        · intro w' hSw
          (try dsimp only at hSw)
          go_simp
          all_goals with_reducible rfl
        (try simp only [Act.put, List.setIfInBounds_toArray, List.set_cons_zero, List.set_cons_succ])
        refine ByHand.take_yes (v := ?_) 8 215 rfl rfl (by kernel_rfl) (by kernel_rfl) (by kernel_rfl) (fun _ _ _ h => h) (by rfl) ?_ (by assumption) ?_
        rotate_left
        · intro w' hSw
          (try dsimp only at hSw)
          go_simp
          all_goals with_reducible rfl
        (try simp only [Act.put, List.setIfInBounds_toArray, List.set_cons_zero, List.set_cons_succ])
        refine wpAnyH_ready (rs := [9]) (by kernel_rfl) (by simp) (AllReadyH.cons rfl (fun K hK => ?_) AllReadyH.nil)
        go_simp
        obtain ⟨g6, z5, e6, f6, hB6, hb6⟩ := boxd_new y6 #[.int .i64 0, .int .i64 0, .int .i64 0, .int .i64 0, .int .i64 0, .int .i64 0, .bool false, .int .i64 0, .int .i64 0, .int .i64 0, .int .i64 0, .int .i64 0, .int .i64 0] 23
        rw [← f6, ← e6]
        have HR := Lib.hid hB6
        have LG : Hid (w.heap.size ≤ g6 ∧ ¬ g = g6) := show _ ∧ ¬ _ from ⟨by rw [e6]; exact HW.out.size, by rw [e6]; exact Nat.ne_of_lt HL.out.lt⟩
        replace HL := Lib.hid (HL.out.below hb6)
        replace HW := Lib.hid (below_to HW.out hb6)
        clear hB6 hb6 e6 f6
        refine hK.out _ _ ?_ (fun hHeld => ?_)
        · exact HL.out
        clear hK K
        (try simp only [Act.put, List.setIfInBounds_toArray, List.set_cons_zero, List.set_cons_succ])
        refine wpAnyH_ready (rs := [10]) (by kernel_rfl) (by simp) (AllReadyH.cons rfl (fun K hK => ?_) AllReadyH.nil)
        rw [if_pos (by rfl)]
        refine wp_store_row 23 _ _ rfl g6 D6 rfl rfl 23 _ HR.out HS6.out HZ6.out HO6.out ?_
        have HA := Lib.hid (boxd_row (D := D6) HR.out)
        have ho := one_row z5 g6 D6
        replace HL := Lib.hid (HL.out.one ho LG.out.2)
        replace HW := Lib.hid (below_one_of HW.out ho LG.out.1 HW.out.size)
        clear ho HR
        refine hK.out _ _ ?_ (fun hHeld => ?_)
        · exact HL.out
        clear hK K
        (try simp only [Act.put, List.setIfInBounds_toArray])
        refine ByHand.take_yes (v := ?_) 11 30 rfl rfl (by kernel_rfl) (by kernel_rfl) (by kernel_rfl) (fun _ _ _ h => h) (by rfl) ?_ (by assumption) ?_
        rotate_left
        · intro w' hSw
          (try dsimp only at hSw)
          go_simp
          all_goals with_reducible rfl
        (try simp only [Act.put])
        refine ByHand.take_yes (v := ?_) 12 31 rfl rfl (by kernel_rfl) (by kernel_rfl) (by kernel_rfl) (fun _ _ _ h => h) (by rfl) ?_ (by assumption) ?_
        rotate_left
        · intro w' hSw
          (try dsimp only at hSw)
          go_simp
          all_goals with_reducible rfl
        (try simp only [Act.put])
        refine wpAnyH_done (by kernel_rfl) ?_ _
        go_wp2_with fail
        go_meet
        exact ⟨g6, rfl, rfl, rfl, HA.out, HL.out, HW.out⟩
      · go_simp
        obtain ⟨g6, z5, e6, f6, hB6, hb6⟩ := boxd_new y0 #[.int .i64 0, .int .i64 0, .int .i64 0, .int .i64 0, .int .i64 0, .int .i64 0, .bool false, .int .i64 0, .int .i64 0, .int .i64 0, .int .i64 0, .int .i64 0, .int .i64 0] 23
        rw [← f6, ← e6]
        have HR := Lib.hid hB6
        have LG : Hid (w.heap.size ≤ g6 ∧ ¬ g = g6) := show _ ∧ ¬ _ from ⟨by rw [e6]; exact HW.out.size, by rw [e6]; exact Nat.ne_of_lt HL.out.lt⟩
        replace HL := Lib.hid (HL.out.below hb6)
        replace HW := Lib.hid (below_to HW.out hb6)
        clear hB6 hb6 e6 f6
        refine hK.out _ _ ?_ (fun hHeld => ?_)
        · exact HL.out
        clear hK K
        (try simp only [Act.put, List.setIfInBounds_toArray, List.set_cons_zero, List.set_cons_succ])
        refine wpAnyH_ready (rs := [4]) (by kernel_rfl) (by simp) (AllReadyH.cons rfl (fun K hK => ?_) AllReadyH.nil)
        go_simp
        refine (K6.out _).mono ?_
        rintro e y6 ⟨rfl, hb⟩
        replace HL := Lib.hid (HL.out.below hb)
        replace HR := Lib.hid (HR.out.below hb)
        replace HW := Lib.hid (below_to HW.out hb)
        clear hb
        go_wp2_with fail
        refine hK.out _ _ ?_ (fun hHeld => ?_)
        · exact HL.out
        clear hK K
        (try simp only [Act.put, List.setIfInBounds_toArray, List.set_cons_zero, List.set_cons_succ])
        refine ByHand.take_yes (v := ?_) 5 207 rfl rfl (by kernel_rfl) (by kernel_rfl) (by kernel_rfl) (fun _ _ _ h => h) (by rfl) ?_ (by assumption) ?_
        rotate_left
        · intro w' hSw
          (try dsimp only at hSw)
          go_simp
          all_goals with_reducible rfl
        (try simp only [Act.put, List.setIfInBounds_toArray, List.set_cons_zero, List.set_cons_succ])
        refine ByHand.take_yes (v := ?_) 6 213 rfl rfl (by kernel_rfl) (by kernel_rfl) (by kernel_rfl) (fun _ _ _ h => h) (by rfl) ?_ (by assumption) ?_
        rotate_left
        · intro w' hSw
          (try dsimp only at hSw)
          go_simp
          all_goals with_reducible rfl
        (try simp only [Act.put, List.setIfInBounds_toArray, List.set_cons_zero, List.set_cons_succ])
        refine ByHand.take_yes (v := ?_) 7 214 rfl rfl (by kernel_rfl) (by kernel_rfl) (by kernel_rfl) (fun _ _ _ h => h) (by rfl) ?_ (by assumption) ?_
        rotate_left
        · intro w' hSw
          (try dsimp only at hSw)
          go_simp
          all_goals with_reducible rfl
        (try simp only [Act.put, List.setIfInBounds_toArray, List.set_cons_zero, List.set_cons_succ])
        refine ByHand.take_yes (v := ?_) 8 215 rfl rfl (by kernel_rfl) (by kernel_rfl) (by kernel_rfl) (fun _ _ _ h => h) (by rfl) ?_ (by assumption) ?_
        rotate_left
        · intro w' hSw
          (try dsimp only at hSw)
          go_simp
          all_goals with_reducible rfl
        (try simp only [Act.put, List.setIfInBounds_toArray, List.set_cons_zero, List.set_cons_succ])
        refine wpAnyH_ready (rs := [10]) (by kernel_rfl) (by simp) (AllReadyH.cons rfl (fun K hK => ?_) AllReadyH.nil)
        rw [if_pos (by rfl)]
        refine wp_store_row 23 _ _ rfl g6 D6 rfl rfl 23 _ HR.out HS6.out HZ6.out HO6.out ?_
        have HA := Lib.hid (boxd_row (D := D6) HR.out)
        have ho := one_row y6 g6 D6
        replace HL := Lib.hid (HL.out.one ho LG.out.2)
        replace HW := Lib.hid (below_one_of HW.out ho LG.out.1 HW.out.size)
        clear ho HR
        refine hK.out _ _ ?_ (fun hHeld => ?_)
        · exact HL.out
        clear hK K
        (try simp only [Act.put, List.setIfInBounds_toArray])
        refine ByHand.take_yes (v := ?_) 11 30 rfl rfl (by kernel_rfl) (by kernel_rfl) (by kernel_rfl) (fun _ _ _ h => h) (by rfl) ?_ (by assumption) ?_
        rotate_left
        · intro w' hSw
          (try dsimp only at hSw)
          go_simp
          all_goals with_reducible rfl
        (try simp only [Act.put])
        refine ByHand.take_yes (v := ?_) 12 31 rfl rfl (by kernel_rfl) (by kernel_rfl) (by kernel_rfl) (fun _ _ _ h => h) (by rfl) ?_ (by assumption) ?_
        rotate_left
        · intro w' hSw
          (try dsimp only at hSw)
          go_simp
          all_goals with_reducible rfl
        (try simp only [Act.put])
        refine wpAnyH_done (by kernel_rfl) ?_ _
        go_wp2_with fail
        go_meet
        exact ⟨g6, rfl, rfl, rfl, HA.out, HL.out, HW.out⟩
    · go_simp
      obtain ⟨g6, z5, e6, f6, hB6, hb6⟩ := boxd_new y0 #[.int .i64 0, .int .i64 0, .int .i64 0, .int .i64 0, .int .i64 0, .int .i64 0, .bool false, .int .i64 0, .int .i64 0, .int .i64 0, .int .i64 0, .int .i64 0, .int .i64 0] 23
      rw [← f6, ← e6]
      have HR := Lib.hid hB6
      have LG : Hid (w.heap.size ≤ g6 ∧ ¬ g = g6) := show _ ∧ ¬ _ from ⟨by rw [e6]; exact HW.out.size, by rw [e6]; exact Nat.ne_of_lt HL.out.lt⟩
      replace HL := Lib.hid (HL.out.below hb6)
      replace HW := Lib.hid (below_to HW.out hb6)
      clear hB6 hb6 e6 f6
      refine hK.out _ _ ?_ (fun hHeld => ?_)
      · exact HL.out
      clear hK K
      (try simp only [Act.put, List.setIfInBounds_toArray, List.set_cons_zero, List.set_cons_succ])
      refine wpAnyH_ready (rs := [2]) (by kernel_rfl) (by simp) (AllReadyH.cons rfl (fun K hK => ?_) AllReadyH.nil)
      go_simp
      refine (KM.out _).mono ?_
      rintro e w' ⟨rfl, rfl⟩
      go_wp2_with fail
      refine hK.out _ _ ?_ (fun hHeld => ?_)
      · exact HL.out
      clear hK K
      (try simp only [Act.put, List.setIfInBounds_toArray, List.set_cons_zero, List.set_cons_succ])
      refine ByHand.take_yes (v := ?_) 3 211 rfl rfl (by kernel_rfl) (by kernel_rfl) (by kernel_rfl) (fun _ _ _ h => h) (by rfl) ?_ (by assumption) ?_
      rotate_left
      · intro w' hSw
        (try dsimp only at hSw)
        go_simp
        all_goals with_reducible rfl
      (try simp only [Act.put, List.setIfInBounds_toArray, List.set_cons_zero, List.set_cons_succ])
      refine wpAnyH_ready (rs := [4]) (by kernel_rfl) (by simp) (AllReadyH.cons rfl (fun K hK => ?_) AllReadyH.nil)
      go_simp
      refine (K6.out _).mono ?_
      rintro e y6 ⟨rfl, hb⟩
      replace HL := Lib.hid (HL.out.below hb)
      replace HR := Lib.hid (HR.out.below hb)
      replace HW := Lib.hid (below_to HW.out hb)
      clear hb
      go_wp2_with fail
      refine hK.out _ _ ?_ (fun hHeld => ?_)
      · exact HL.out
      clear hK K
      (try simp only [Act.put, List.setIfInBounds_toArray, List.set_cons_zero, List.set_cons_succ])
      refine ByHand.take_yes (v := ?_) 5 207 rfl rfl (by kernel_rfl) (by kernel_rfl) (by kernel_rfl) (fun _ _ _ h => h) (by rfl) ?_ (by assumption) ?_
      rotate_left
      · intro w' hSw
        (try dsimp only at hSw)
        go_simp
        all_goals with_reducible rfl
      (try simp only [Act.put, List.setIfInBounds_toArray, List.set_cons_zero, List.set_cons_succ])
      refine ByHand.take_yes (v := ?_) 6 213 rfl rfl (by kernel_rfl) (by kernel_rfl) (by kernel_rfl) (fun _ _ _ h => h) (by rfl) ?_ (by assumption) ?_
      rotate_left
      · intro w' hSw
        (try dsimp only at hSw)
        go_simp
        all_goals with_reducible rfl
      (try simp only [Act.put, List.setIfInBounds_toArray, List.set_cons_zero, List.set_cons_succ])
      refine ByHand.take_yes (v := ?_) 7 214 rfl rfl (by kernel_rfl) (by kernel_rfl) (by kernel_rfl) (fun _ _ _ h => h) (by rfl) ?_ (by assumption) ?_
      rotate_left
      · intro w' hSw
        (try dsimp only at hSw)
        go_simp
        all_goals with_reducible rfl
      (try simp only [Act.put, List.setIfInBounds_toArray, List.set_cons_zero, List.set_cons_succ])
      refine ByHand.take_yes (v := ?_) 8 215 rfl rfl (by kernel_rfl) (by kernel_rfl) (by kernel_rfl) (fun _ _ _ h => h) (by rfl) ?_ (by assumption) ?_
      rotate_left
      · intro w' hSw
        (try dsimp only at hSw)
        go_simp
        all_goals with_reducible rfl
      (try simp only [Act.put, List.setIfInBounds_toArray, List.set_cons_zero, List.set_cons_succ])
      refine wpAnyH_ready (rs := [10]) (by kernel_rfl) (by simp) (AllReadyH.cons rfl (fun K hK => ?_) AllReadyH.nil)
      rw [if_pos (by rfl)]
      refine wp_store_row 23 _ _ rfl g6 D6 rfl rfl 23 _ HR.out HS6.out HZ6.out HO6.out ?_
      have HA := Lib.hid (boxd_row (D := D6) HR.out)
      have ho := one_row y6 g6 D6
      replace HL := Lib.hid (HL.out.one ho LG.out.2)
      replace HW := Lib.hid (below_one_of HW.out ho LG.out.1 HW.out.size)
      clear ho HR
      refine hK.out _ _ ?_ (fun hHeld => ?_)
      · exact HL.out
      clear hK K
      (try simp only [Act.put, List.setIfInBounds_toArray])
      refine ByHand.take_yes (v := ?_) 11 30 rfl rfl (by kernel_rfl) (by kernel_rfl) (by kernel_rfl) (fun _ _ _ h => h) (by rfl) ?_ (by assumption) ?_
      rotate_left
      · intro w' hSw
        (try dsimp only at hSw)
        go_simp
        all_goals with_reducible rfl
      (try simp only [Act.put])
      refine ByHand.take_yes (v := ?_) 12 31 rfl rfl (by kernel_rfl) (by kernel_rfl) (by kernel_rfl) (fun _ _ _ h => h) (by rfl) ?_ (by assumption) ?_
      rotate_left
      · intro w' hSw
        (try dsimp only at hSw)
        go_simp
        all_goals with_reducible rfl
      (try simp only [Act.put])
      refine wpAnyH_done (by kernel_rfl) ?_ _
      go_wp2_with fail
      go_meet
      exact ⟨g6, rfl, rfl, rfl, HA.out, HL.out, HW.out⟩
  case rest =>
  obtain ⟨g6, rfl, rfl, rfl, HA, HL, HW⟩ := hcut
  have l8 := (HL.out.cell (i := 8)).trans XL8.out
  rcases H6.out with ⟨hc, hx, hS⟩ | ⟨hc, hx, hn, q1, q2, q3⟩
  · have u1 : (lc != 0) = true := by rw [bne_iff_ne]; exact hc
    have u2 : (x6 == 61) = true := by rw [hx]; rfl
    have u3 : (S == 0) = true := by rw [hS]; rfl
    clear hc hx hS H6
    go_wp2_with (first
      | (go_at_call 17; with_reducible refine (KW.out _).mono ?_; rintro e y21 ⟨rfl, hb⟩; replace HL := Lib.hid (HL.out.below hb); replace HA := Lib.hid (HA.out.below hb); replace HW := Lib.hid (below_to HW.out hb); clear hb))
    go_ret
    exact ⟨rfl, HW.out⟩
  · have u1 : (lc != 0) = false := by rw [hc]; rfl
    have u2 : (x6 == 0) = true := by rw [hx]; rfl
    have Q1 := Lib.hid q1
    have Q2 := Lib.hid q2
    have Q3 := Lib.hid q3
    clear hc hx q1 q2 q3 H6
    subst hn
    go_upto_region 33 with (first
      | (refine o_load rfl 23 _ rfl _ rfl _ _ _ HA.out Try.underlying23 rfl HS6.out ?_)
      | (go_at_call 8; with_reducible refine (Q1.out _).mono ?_; rintro e y21 ⟨rfl, hb⟩; replace HL := Lib.hid (HL.out.below hb); replace HA := Lib.hid (HA.out.below hb); replace HW := Lib.hid (below_to HW.out hb); clear hb))
    have a8 := (HA.out.cell (i := 8)).trans Q3.out
    have u4 : ((1 + q : Int) == 1 + q) = true := by simp
    have hS0 : y21.drew.cell? ⟨g6, 8, none⟩ = some (.int .i64 (1 + q)) ∧ Boxd y21.drew g6 D6 23 := ⟨a8, HA.out⟩
    replace HA : Hid (Boxd y21.drew g6 D6 23) := HA.out
    replace HW : Hid (Below w.heap.size w y21.drew) := below_drawn HW.out
    refine wp_region_held_drew (S := (fun W => W.cell? ⟨g6, 8, none⟩ = some (.int .i64 (1 + q)) ∧ Boxd W g6 D6 23)) (by kernel_rfl) hS0 (fun hHeld => ?_)
    refine ByHand.take_yes (v := ?_) 0 233 rfl rfl (by kernel_rfl) (by kernel_rfl) (by kernel_rfl) (fun _ _ _ h => h) (by rfl) ?_ (by assumption) ?_
    rotate_left
    · intro w' hSw
      (try dsimp only at hSw)
      go_simp
      all_goals with_reducible rfl
    (try simp only [Act.put, List.setIfInBounds_toArray, List.set_cons_zero, List.set_cons_succ])
    refine ByHand.take_yes (v := ?_) 1 234 rfl rfl (by kernel_rfl) (by kernel_rfl) (by kernel_rfl) (fun _ _ _ h => h) (by rfl) ?_ (by assumption) ?_
    rotate_left
    · intro w' hSw
      (try dsimp only at hSw)
      go_simp
      all_goals with_reducible rfl
    (try simp only [Act.put, List.setIfInBounds_toArray, List.set_cons_zero, List.set_cons_succ])
    refine ByHand.take_yes (v := ?_) 2 235 rfl rfl (by kernel_rfl) (by kernel_rfl) (by kernel_rfl) (fun _ _ _ h => h) (by rfl) ?_ (by assumption) ?_
    rotate_left
    · intro w' hSw
      (try dsimp only at hSw)
      go_simp
      all_goals with_reducible rfl
    (try simp only [Act.put, List.setIfInBounds_toArray, List.set_cons_zero, List.set_cons_succ])
    refine ByHand.take_yes (v := ?_) 3 236 rfl rfl (by kernel_rfl) (by kernel_rfl) (by kernel_rfl) (fun _ _ _ h => h) (by rfl) ?_ (by assumption) ?_
    rotate_left
    · intro w' hSw
      (try dsimp only at hSw)
      go_simp
      all_goals with_reducible rfl
    (try simp only [Act.put, List.setIfInBounds_toArray, List.set_cons_zero, List.set_cons_succ])
    refine ByHand.take_yes (v := ?_) 4 237 rfl rfl (by kernel_rfl) (by kernel_rfl) (by kernel_rfl) (fun _ _ _ h => h) (by rfl) ?_ (by assumption) ?_
    rotate_left
    · intro w' hSw
      (try dsimp only at hSw)
      go_simp
      all_goals with_reducible rfl
    (try simp only [Act.put, List.setIfInBounds_toArray, List.set_cons_zero, List.set_cons_succ])
    refine ByHand.take_yes (v := ?_) 5 238 rfl rfl (by kernel_rfl) (by kernel_rfl) (by kernel_rfl) (fun _ _ _ h => h) (by rfl) ?_ (by assumption) ?_
    rotate_left
    · intro w' hSw
      (try dsimp only at hSw)
      go_simp
      all_goals with_reducible rfl
    (try simp only [Act.put, List.setIfInBounds_toArray, List.set_cons_zero, List.set_cons_succ])
    refine ByHand.take_yes (v := ?_) 6 239 rfl rfl (by kernel_rfl) (by kernel_rfl) (by kernel_rfl) (fun _ _ _ h => h) (by rfl) ?_ (by assumption) ?_
    rotate_left
    · intro w' hSw
      (try dsimp only at hSw)
      go_simp
      all_goals with_reducible rfl
    (try simp only [Act.put, List.setIfInBounds_toArray, List.set_cons_zero, List.set_cons_succ])
    refine ByHand.take_yes (v := ?_) 7 240 rfl rfl (by kernel_rfl) (by kernel_rfl) (by kernel_rfl) (fun _ _ _ h => h) (by rfl) ?_ (by assumption) ?_
    rotate_left
    · intro w' hSw
      (try dsimp only at hSw)
      go_simp
      all_goals with_reducible rfl
    (try simp only [Act.put, List.setIfInBounds_toArray, List.set_cons_zero, List.set_cons_succ])
    refine ByHand.take_yes (v := ?_) 8 241 rfl rfl (by kernel_rfl) (by kernel_rfl) (by kernel_rfl) (fun _ _ _ h => h) (by rfl) ?_ (by assumption) ?_
    rotate_left
    · intro w' hSw
      (try dsimp only at hSw)
      go_simp
      all_goals with_reducible rfl
    (try simp only [Act.put, List.setIfInBounds_toArray, List.set_cons_zero, List.set_cons_succ])
    refine ByHand.take_yes (v := ?_) 9 242 rfl rfl (by kernel_rfl) (by kernel_rfl) (by kernel_rfl) (fun _ _ _ h => h) (by rfl) ?_ (by assumption) ?_
    rotate_left
    · intro w' hSw
      (try dsimp only at hSw)
      go_simp
      all_goals with_reducible rfl
    (try simp only [Act.put, List.setIfInBounds_toArray, List.set_cons_zero, List.set_cons_succ])
    refine ByHand.take_yes (v := ?_) 10 243 rfl rfl (by kernel_rfl) (by kernel_rfl) (by kernel_rfl) (fun _ _ _ h => h) (by rfl) ?_ (by assumption) ?_
    rotate_left
    · intro w' hSw
      (try dsimp only at hSw)
      go_simp
      all_goals with_reducible rfl
    (try simp only [Act.put, List.setIfInBounds_toArray, List.set_cons_zero, List.set_cons_succ])
    refine ByHand.take_yes (v := ?_) 11 244 rfl rfl (by kernel_rfl) (by kernel_rfl) (by kernel_rfl) (fun _ _ _ h => h) (by rfl) ?_ (by assumption) ?_
    rotate_left
    · intro w' hSw
      (try dsimp only at hSw)
      go_simp
      all_goals with_reducible rfl
    (try simp only [Act.put, List.setIfInBounds_toArray, List.set_cons_zero, List.set_cons_succ])
    refine ByHand.take_yes (v := ?_) 12 245 rfl rfl (by kernel_rfl) (by kernel_rfl) (by kernel_rfl) (fun _ _ _ h => h) (by rfl) ?_ (by assumption) ?_
    rotate_left
    · intro w' hSw
      (try dsimp only at hSw)
      go_simp
      all_goals with_reducible rfl
    (try simp only [Act.put, List.setIfInBounds_toArray, List.set_cons_zero, List.set_cons_succ])
    refine ByHand.take_yes (v := ?_) 13 246 rfl rfl (by kernel_rfl) (by kernel_rfl) (by kernel_rfl) (fun _ _ _ h => h) (by rfl) ?_ (by assumption) ?_
    rotate_left
    · intro w' hSw
      (try dsimp only at hSw)
      go_simp
      all_goals with_reducible rfl
    (try simp only [Act.put, List.setIfInBounds_toArray, List.set_cons_zero, List.set_cons_succ])
    refine ByHand.take_yes (v := ?_) 14 247 rfl rfl (by kernel_rfl) (by kernel_rfl) (by kernel_rfl) (fun _ _ _ h => h) (by rfl) ?_ (by assumption) ?_
    rotate_left
    · intro w' hSw
      (try dsimp only at hSw)
      go_simp
      all_goals with_reducible rfl
    (try simp only [Act.put, List.setIfInBounds_toArray, List.set_cons_zero, List.set_cons_succ])
    refine ByHand.take_yes (v := ?_) 15 248 rfl rfl (by kernel_rfl) (by kernel_rfl) (by kernel_rfl) (fun _ _ _ h => h) (by rfl) ?_ (by assumption) ?_
    rotate_left
    · intro w' hSw
      (try dsimp only at hSw)
      go_simp
      all_goals with_reducible rfl
    (try simp only [Act.put, List.setIfInBounds_toArray, List.set_cons_zero, List.set_cons_succ])
    refine take_row 16 249 rfl rfl (by kernel_rfl) (by kernel_rfl) (by kernel_rfl) 23 _ rfl _ rfl _ _ Try.underlying23 rfl HS6.out (fun _ h => h.2) (fun _ _ _ h => h) (by rfl) (by assumption) ?_
    (try simp only [Act.put, List.setIfInBounds_toArray, List.set_cons_zero, List.set_cons_succ])
    refine wpAnyH_ready (rs := [17]) (by kernel_rfl) (by simp) (AllReadyH.cons rfl (fun K hK => ?_) AllReadyH.nil)
    go_simp
    refine (Q2.out _).mono ?_
    rintro e u7 ⟨rfl, hb⟩
    replace HA := Lib.hid (HA.out.below hb)
    replace HW := Lib.hid (below_to HW.out hb)
    clear hb
    have hS_u7 := And.intro ((HA.out.cell (i := 8)).trans Q3.out) HA.out
    go_wp2_with fail
    refine hK.out _ _ ?_ (fun hHeld => ?_)
    · exact hS_u7
    clear hK K
    (try simp only [Act.put, List.setIfInBounds_toArray, List.set_cons_zero, List.set_cons_succ])
    refine ByHand.take_yes (v := ?_) 18 251 rfl rfl (by kernel_rfl) (by kernel_rfl) (by kernel_rfl) (fun _ _ _ h => h) (by rfl) ?_ (by assumption) ?_
    rotate_left
    · intro w' hSw
      (try dsimp only at hSw)
      go_simp
      all_goals with_reducible rfl
    (try simp only [Act.put, List.setIfInBounds_toArray, List.set_cons_zero, List.set_cons_succ])
    refine ByHand.take_yes (v := ?_) 19 252 rfl rfl (by kernel_rfl) (by kernel_rfl) (by kernel_rfl) (fun _ _ _ h => h) (by rfl) ?_ (by assumption) ?_
    rotate_left
    · intro w' hSw
      (try dsimp only at hSw)
      go_simp
      all_goals with_reducible rfl
    (try simp only [Act.put, List.setIfInBounds_toArray, List.set_cons_zero, List.set_cons_succ])
    refine ByHand.take_yes (v := ?_) 20 253 rfl rfl (by kernel_rfl) (by kernel_rfl) (by kernel_rfl) (fun _ _ _ h => h) (by rfl) ?_ (by assumption) ?_
    rotate_left
    · intro w' hSw
      (try dsimp only at hSw)
      go_simp
      all_goals with_reducible rfl
    (try simp only [Act.put, List.setIfInBounds_toArray, List.set_cons_zero, List.set_cons_succ])
    refine ByHand.take_yes (v := ?_) 21 254 rfl rfl (by kernel_rfl) (by kernel_rfl) (by kernel_rfl) (fun _ _ _ h => h) (by rfl) ?_ (by assumption) ?_
    rotate_left
    · intro w' hSw
      (try dsimp only at hSw)
      go_simp
      all_goals with_reducible rfl
    (try simp only [Act.put, List.setIfInBounds_toArray, List.set_cons_zero, List.set_cons_succ])
    refine ByHand.take_yes (v := ?_) 22 255 rfl rfl (by kernel_rfl) (by kernel_rfl) (by kernel_rfl) (fun _ _ _ h => h) (by rfl) ?_ (by assumption) ?_
    rotate_left
    · intro w' hSw
      (try dsimp only at hSw)
      go_simp
      all_goals with_reducible rfl
    (try simp only [Act.put, List.setIfInBounds_toArray, List.set_cons_zero, List.set_cons_succ])
    refine wpAnyH_ready (rs := [23]) (by kernel_rfl) (by simp) (AllReadyH.cons rfl (fun K hK => ?_) AllReadyH.nil)
    go_simp
    refine (KM.out _).mono ?_
    rintro e w' ⟨rfl, rfl⟩
    go_wp2_with fail
    refine hK.out _ _ ?_ (fun hHeld => ?_)
    · exact hS_u7
    clear hK K
    (try simp only [Act.put, List.setIfInBounds_toArray, List.set_cons_zero, List.set_cons_succ])
    refine ByHand.take_yes (v := ?_) 24 257 rfl rfl (by kernel_rfl) (by kernel_rfl) (by kernel_rfl) (fun _ _ _ h => h) (by rfl) ?_ (by assumption) ?_
    rotate_left
    · intro w' hSw
      (try dsimp only at hSw)
      go_simp
      all_goals with_reducible rfl
    (try simp only [Act.put, List.setIfInBounds_toArray, List.set_cons_zero, List.set_cons_succ])
    refine ByHand.take_yes (v := ?_) 25 258 rfl rfl (by kernel_rfl) (by kernel_rfl) (by kernel_rfl) (fun _ _ _ h => h) (by rfl) ?_ (by assumption) ?_
    rotate_left
    · intro w' hSw
      (try dsimp only at hSw)
      go_simp
      all_goals with_reducible rfl
    (try simp only [Act.put, List.setIfInBounds_toArray, List.set_cons_zero, List.set_cons_succ])
    refine ByHand.take_yes (v := ?_) 26 259 rfl rfl (by kernel_rfl) (by kernel_rfl) (by kernel_rfl) (fun _ _ _ h => h) (by rfl) ?_ (by assumption) ?_
    rotate_left
    · intro w' hSw
      (try dsimp only at hSw)
      go_simp
      all_goals with_reducible rfl
    (try simp only [Act.put, List.setIfInBounds_toArray, List.set_cons_zero, List.set_cons_succ])
    refine ByHand.take_yes (v := ?_) 27 260 rfl rfl (by kernel_rfl) (by kernel_rfl) (by kernel_rfl) (fun _ _ _ h => h) (by rfl) ?_ (by assumption) ?_
    rotate_left
    · intro w' hSw
      (try dsimp only at hSw)
      go_simp
      all_goals with_reducible rfl
    (try simp only [Act.put, List.setIfInBounds_toArray, List.set_cons_zero, List.set_cons_succ])
    refine wpAnyH_ready (rs := [28]) (by kernel_rfl) (by simp) (AllReadyH.cons rfl (fun K hK => ?_) AllReadyH.nil)
    go_simp
    refine (KW.out _).mono ?_
    rintro e u8 ⟨rfl, hb⟩
    replace HA := Lib.hid (HA.out.below hb)
    replace HW := Lib.hid (below_to HW.out hb)
    clear hb
    have hS_u8 := And.intro ((HA.out.cell (i := 8)).trans Q3.out) HA.out
    go_wp2_with fail
    refine hK.out _ _ ?_ (fun hHeld => ?_)
    · exact hS_u8
    clear hK K
    (try simp only [Act.put, List.setIfInBounds_toArray, List.set_cons_zero, List.set_cons_succ])
    refine ByHand.take_yes (v := ?_) 29 262 rfl rfl (by kernel_rfl) (by kernel_rfl) (by kernel_rfl) (fun _ _ _ h => h) (by rfl) ?_ (by assumption) ?_
    rotate_left
    · intro w' hSw
      (try dsimp only at hSw)
      go_simp
      all_goals with_reducible rfl
    (try simp only [Act.put, List.setIfInBounds_toArray, List.set_cons_zero, List.set_cons_succ])
    refine ByHand.take_yes (v := ?_) 30 6 rfl rfl (by kernel_rfl) (by kernel_rfl) (by kernel_rfl) (fun _ _ _ h => h) (by rfl) ?_ (by assumption) ?_
    rotate_left
    · intro w' hSw
      (try dsimp only at hSw)
      go_simp
      all_goals with_reducible rfl
    (try simp only [Act.put, List.setIfInBounds_toArray, List.set_cons_zero, List.set_cons_succ])
    refine wpAnyH_done (by kernel_rfl) ?_ _
    go_wp2_with fail
    go_ret
    exact ⟨rfl, HW.out⟩
theorem owes_walk (l : Ln) (m0 m1 m2 m3 st : Int) (w : World) : Calls Try.prog 5 #[.agg l.cells, .agg #[.int .i64 m0, .int .i64 m1, .int .i64 m2, .int .i64 m3], .int .i64 st] w fun e w' => e = .returned (.bool true) ∧ Below w.heap.size w w' := by
  rcases owes_two l with hx | ⟨hg, hs, -⟩
  · exact owes_err l m0 m1 m2 m3 st w hx
  · exact owes_none l m0 m1 m2 m3 st w hg hs
theorem list4 {α : Type} (l : List α) (h : l.length = 4) : ∃ a b c d, l = [a, b, c, d] := by
  match l, h with
  | [a, b, c, d], _ => exact ⟨a, b, c, d, rfl⟩
set_option maxRecDepth 100000 in
theorem loanOwes_lifted (os : Os) (started : os.Started) (H : Type) (enc : TypeId × Value → H) :
    ReturnsInHanded {} Try.checked os 5 .any (Rows.loanOwesSpec.pre6 enc Try.prog Try.f5 Rows.loanOwesRow.domain false) (Rows.loanOwesSpec.post enc Try.prog Try.f5 false true false false) := by
  refine Shell.law_lifted (C := Try.checked) (tb := 4) (by kernel_rfl) started (by kernel_rfl) Try.func5
    (ChangeSpec.witness6 (enc := enc) (C := Try.checked) false ⟨#[], #[Value.agg #[.int .i64 0, .int .i64 0, .int .i64 0, .int .i64 0, .int .i64 0, .int .i64 0, .bool false, .int .i64 0, .int .i64 0, .int .i64 0, .int .i64 0, .int .i64 0, .int .i64 0], Value.agg #[.int .i64 0, .int .i64 0, .int .i64 0, .int .i64 0], .int .i64 0], []⟩ 8 (by kernel_rfl) (by kernel_rfl) (by kernel_rfl) (by kernel_rfl))
    (by kernel_rfl) (by kernel_rfl) rfl rfl Try.underlying4 ?_
  intro W base args ds p hval0 hA0
  have hval : ∀ (j : Nat) t v, Try.f5.params[j]? = some t → args[j]? = some v → Value.okWide Try.prog W .any base t v := hval0
  have hA : DataW.TrodAll enc Try.prog W 0 (fun _ => true) true Try.f5.params.toList args.toList ds p := hA0
  clear hval0 hA0
  rw [Try.params5] at hA hval
  obtain ⟨v0, vs0, d0, ds0, p0, q0, hargs, rfl, rfl, h0, r0⟩ := trodAll_cons hA
  obtain ⟨v1, vs1, d1, ds1, p1, q1, rfl, rfl, rfl, h1, r1⟩ := trodAll_cons r0
  obtain ⟨v2, vs2, d2, ds2, p2, q2, rfl, rfl, rfl, h2, r2⟩ := trodAll_cons r1
  obtain ⟨rfl, rfl, rfl⟩ := trodAll_nil r2
  obtain rfl : args = #[v0, v1, v2] := by cases args; simp_all
  refine ⟨rfl, ?_⟩
  obtain ⟨l, rfl, hf0⟩ := open_ln (hval 0 23 v0 rfl rfl) h0
  obtain ⟨zs1, hzl1, rfl, hz1⟩ := Shell.open_arr Try.underlying45 Try.underlying2 (by kernel_rfl) (by kernel_rfl) (hval 1 45 v1 rfl rfl) h1
  obtain ⟨n0, n1, n2, n3, rfl⟩ := list4 zs1 hzl1
  obtain ⟨st, rfl, -, -, g2⟩ := open_int Try.underlying3 (hval 2 3 v2 rfl rfl) h2
  exact owes_walk l n0 n1 n2 n3 st W

theorem loanOwes_over : Rows.loanOwesRow.holds Try.pinned (OpenSpec.ofChange Rows.loanOwesSpec) :=
  OpenClaim.holds_of_wide 5 Try.f5 rfl rfl rfl rfl rfl rfl rfl ⟨rfl, rfl, rfl, rfl, rfl⟩ rfl rfl rfl rfl rfl (by kernel_rfl) Try.func5 (by kernel_rfl)
    (of_decide_eq_true (by kernel_rfl)) (by unfold Func.isWrapper; first | (rw [if_pos (by decide +kernel)]; kernel_rfl) | (rw [if_neg (by decide +kernel)]; exact ⟨rfl, rfl⟩))
    (fun os st H enc _ => loanOwes_lifted os st H enc)

/-- The statement. -/
theorem loanOwes_proved : Rows.LoanOwesSaid := loanOwes_over
end Go.Proofs.Ytkegmgjagcefhaa.Law
