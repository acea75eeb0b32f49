/- Of layer 18: what a plan asks of one loan. -/
import Derived.Test.YtkddiaiohnbjpaaGreatDoorPlanC6
import Derived.Test.YtkddiaiohnbjpaaGreatDoorPlanC7
namespace Go.Proofs.YtkddiaiohnbjpaaGreatDoor.Plan
open Go.ChangeShapes Go.WideShapes Go.ChangeAt Go.RowKit Loan Money Box Rws Slice MapF

theorem cfg_info (mon : Int) (pv : Value) : (Tryz.prog.info? 45).map (·.size) = some (cfg mon pv).size := by
  show _ = some 2
  kernel_rfl
theorem sc_info (s : Sc) (lv bv : Value) : (Tryz.prog.info? 38).map (·.size) = some (s.cells lv bv).size := by
  show _ = some 13
  kernel_rfl
theorem c_asker (mon : Int) (zs : List Int) (s : Sc) (L : List Ln) (pv lv bv v : Value) (B p1 p2 : Nat) (w : World) (hB : B ≤ w.heap.size) (hp : Ints w B .i64 pv zs) (hv : Lns w B v L) (hN : L.length ≤ 1000) (h0 : 0 < L.length) (hpr : ∀ l ∈ L, 0 ≤ l.prin)
    (h1 : Boxd w p1 (cfg mon pv) 45) (h2 : Boxd w p2 (s.cells lv bv) 38) :
    Calls Tryz.prog 38 #[v, .pointer (some ⟨p1, 0, none⟩), .pointer (some ⟨p2, 0, none⟩)] w fun e w' => ∃ Q, Fits zs s.fam s.inc L Q ∧ Told (incR zs s.fam s.inc L Q) w e w' := by
  have K := Lib.hid (fun (_ : Unit) => c_income mon zs s L pv lv bv v B w hB hp hv hN h0 hpr)
  have H1 := Lib.hid h1
  have H2 := Lib.hid h2
  have S1 := Lib.hid (cfg_info mon pv)
  have S2 := Lib.hid (sc_info s lv bv)
  obtain ⟨A2, k, rfl⟩ := hv.shape
  clear hB hp hv hpr h1 h2
  generalize cfg mon pv = C1 at *
  generalize s.cells lv bv = C2 at *
  go_enter Tryz.func38, Tryz.ntmps38
  go_wp2_with (first
    | (refine o_load rfl 45 _ rfl p1 rfl _ _ _ H1.out Tryz.underlying45 rfl S1.out ?_)
    | (refine o_load rfl 38 _ rfl p2 rfl _ _ _ H2.out Tryz.underlying38 rfl S2.out ?_)
    | (go_at_call 39; (refine (K.out ()).mono ?_); rintro e y ⟨Q, hq, u, E, rfl, hE, hu, hn, hb⟩; have HR := Lib.hid (And.intro hq (And.intro hE (And.intro hu (And.intro hn hb)))); clear hq hE hu hn hb))
  go_ret2
  exact ⟨Q, HR.out.1, _, _, rfl, HR.out.2.1, HR.out.2.2.1, HR.out.2.2.2.1, HR.out.2.2.2.2⟩
theorem each_any (how day : Int) (L : List Ln) (v : Value) (B gb : Nat) (w : World) (hB : B ≤ w.heap.size) (hv : Lns w B v L) (hN : L.length ≤ 1000) (h : Ready w how day (fEach gb)) (L1 : Date.Laid w) (L2 : Step.Laid w) :
    Calls Tryz.prog 108 #[v, .pointer (some ⟨gb, 0, none⟩)] w (Told (eachR (askR how day) L) w) := by
  obtain ⟨g, gd, e, h⟩ := h
  injection e with _ _ e
  injection e with e
  injection e with e
  injection e with e
  injection e with e
  injection e with e
  subst e
  rcases h with ⟨rfl, c⟩ | ⟨rfl, c⟩ | ⟨rfl, c, d⟩
  · exact each_1 L day v B gb w hB hv hN c
  · exact each_2 L day v B gb w hB hv hN c
  · exact each_3 L day v B gb gd w hB hv hN c L1 L2 d
theorem of_one {how day : Int} {l : Ln} (hh : 1 ≤ how ∧ how ≤ 3) (hd : Date.dayB day = true) (hg : goodL l = true) (hp : partB l = true) :
    ((ofR how day l).2 = 0 ∧ capR (eachR (askR how day) [l]) [l] = ([(ofR how day l).1], 0)) ∨ ((ofR how day l).2 ≠ 0 ∧ (ofR how day l).1 = 0 ∧ capR (eachR (askR how day) [l]) [l] = ([], (ofR how day l).2)) := by
  have he : errs (ofR how day) [l] = (ofR how day l).2 := by
    unfold errs errs
    split
    · next h => exact h.symm
    · rfl
  rcases of_each hh hd (L := [l]) (fun x hx => by rw [List.mem_singleton] at hx; rw [hx]; exact ⟨hg, hp⟩) with ⟨h1, h2⟩ | ⟨h1, h2⟩
  · exact Or.inl ⟨by rw [← he]; exact h1, h2⟩
  · rw [he] at h1 h2
    refine Or.inr ⟨h1, ?_, h2⟩
    have e : ofR how day l = ofO how day l := by unfold ofR; rw [if_pos ⟨hg, hh, hd⟩, if_pos hp]
    rw [e] at h1 ⊢
    unfold ofO at *
    by_cases a : (askR how day l).2 = 0
    · rw [if_pos a] at h1 ⊢
      by_cases b : (owesR l).2 = 0
      · rw [if_pos b] at h1; exact absurd rfl h1
      · rw [if_neg b]
    · rw [if_neg a]
set_option maxRecDepth 20000 in
set_option maxHeartbeats 2000000 in
theorem of_far (l : Ln) (how day : Int) (w : World) (L1 : Date.Laid w) (L2 : Step.Laid w) (hh : In64 how) (hk : ¬ (1 ≤ how ∧ how ≤ 3)) : Calls Tryz.prog 28 #[.agg l.cells, .int .i64 how, .int .i64 day] w fun e w' => e = .returned (.tuple #[.int .i64 0, .int .i64 1]) ∧ Below w.heap.size w w' := by
  obtain ⟨g, wb, e1, e2, hB, hb⟩ := boxd_new w l.cells 23
  have HB := Lib.hid hB
  have HW := Lib.hid hb
  have HL : Hid (Date.Laid wb ∧ Step.Laid wb) := ⟨L1.of hb, L2.of hb⟩
  have HS := Lib.hid (ln_info l)
  have KP := Lib.hid (fun W => c_plans day W)
  have KG := Lib.hid (fun W => good_c l W)
  have KD := Lib.hid (fun W L => Date.d_good day W L)
  have KT := Lib.hid (fun W => c_part l W)
  have HH := Lib.hid hh
  clear hB hb L1 L2 hh
  have HK := Lib.hid hk
  clear hk
  generalize l.cells = C at *
  go_enter Tryz.func28, Tryz.ntmps28
  go_upto_region 1 with fail
  rw [← e2, ← e1]
  clear e1 e2
  go_wp2_with (first
    | (go_at_call 37; (with_reducible refine (KP.out _).mono ?_); rintro e y ⟨m, f, rfl, hm, hp, hb⟩; have hf := hp.no how HK.out; have hlook := hp.map.look_ok Tryz.underlying71 (zero_fn y) HH.out; rw [hf] at hlook; simp only [Option.getD_none, Option.isSome_none] at hlook; clear hf hp; replace HB := Lib.hid (HB.out.below hb); replace HW := Lib.hid (below_to HW.out hb); replace HL := Lib.hid (And.intro (HL.out.1.of hb) (HL.out.2.of hb)); clear hb hm))
  go_ret2
  exact ⟨rfl, HW.out⟩
set_option maxRecDepth 20000 in
set_option maxHeartbeats 2000000 in
theorem of_bad (l : Ln) (how day : Int) (w : World) (L1 : Date.Laid w) (L2 : Step.Laid w) (hh : In64 how) (hk : 1 ≤ how ∧ how ≤ 3) (hg : goodL l = false) : Calls Tryz.prog 28 #[.agg l.cells, .int .i64 how, .int .i64 day] w fun e w' => e = .returned (.tuple #[.int .i64 0, .int .i64 1]) ∧ Below w.heap.size w w' := by
  obtain ⟨g, wb, e1, e2, hB, hb⟩ := boxd_new w l.cells 23
  have HB := Lib.hid hB
  have HW := Lib.hid hb
  have HL : Hid (Date.Laid wb ∧ Step.Laid wb) := ⟨L1.of hb, L2.of hb⟩
  have HS := Lib.hid (ln_info l)
  have KP := Lib.hid (fun W => c_plans day W)
  have KG := Lib.hid (fun W => good_c l W)
  have KD := Lib.hid (fun W L => Date.d_good day W L)
  have KT := Lib.hid (fun W => c_part l W)
  have HH := Lib.hid hh
  clear hB hb L1 L2 hh
  have HK := Lib.hid hk
  clear hk
  rw [hg] at KG
  clear hg
  generalize l.cells = C at *
  go_enter Tryz.func28, Tryz.ntmps28
  go_upto_region 1 with fail
  rw [← e2, ← e1]
  clear e1 e2
  go_wp2_with (first
    | (go_at_call 37; (with_reducible refine (KP.out _).mono ?_); rintro e y ⟨m, f, rfl, hm, hp, hb⟩; obtain ⟨V, hf, hr⟩ := hp.yes how HK.out.1 HK.out.2; have hlook := hp.map.look_ok Tryz.underlying71 (zero_fn y) HH.out; rw [hf] at hlook; simp only [Option.getD_some, Option.isSome_some] at hlook; have HR := Lib.hid hr; obtain ⟨gb, gd, rfl, -⟩ := id hr; clear hf hr hp; replace HB := Lib.hid (HB.out.below hb); replace HW := Lib.hid (below_to HW.out hb); replace HL := Lib.hid (And.intro (HL.out.1.of hb) (HL.out.2.of hb)); clear hb hm)
    | (refine o_load (by rfl) 23 _ rfl _ rfl _ _ _ HB.out Tryz.underlying23 rfl HS.out ?_)
    | (go_at_call 24; (with_reducible refine (KG.out _).mono ?_); rintro e y2 ⟨rfl, hb⟩; replace HB := Lib.hid (HB.out.below hb); replace HW := Lib.hid (below_to HW.out hb); replace HL := Lib.hid (And.intro (HL.out.1.of hb) (HL.out.2.of hb)); replace HR := Lib.hid (HR.out.below hb); clear hb))
  go_ret2
  exact ⟨rfl, HW.out⟩
set_option maxRecDepth 20000 in
set_option maxHeartbeats 2000000 in
theorem of_day (l : Ln) (how day : Int) (w : World) (L1 : Date.Laid w) (L2 : Step.Laid w) (hh : In64 how) (hk : 1 ≤ how ∧ how ≤ 3) (hg : goodL l = true) (hd : Date.dayB day = false) : Calls Tryz.prog 28 #[.agg l.cells, .int .i64 how, .int .i64 day] w fun e w' => e = .returned (.tuple #[.int .i64 0, .int .i64 1]) ∧ Below w.heap.size w w' := by
  obtain ⟨g, wb, e1, e2, hB, hb⟩ := boxd_new w l.cells 23
  have HB := Lib.hid hB
  have HW := Lib.hid hb
  have HL : Hid (Date.Laid wb ∧ Step.Laid wb) := ⟨L1.of hb, L2.of hb⟩
  have HS := Lib.hid (ln_info l)
  have KP := Lib.hid (fun W => c_plans day W)
  have KG := Lib.hid (fun W => good_c l W)
  have KD := Lib.hid (fun W L => Date.d_good day W L)
  have KT := Lib.hid (fun W => c_part l W)
  have HH := Lib.hid hh
  clear hB hb L1 L2 hh
  have HK := Lib.hid hk
  clear hk
  rw [hg] at KG
  rw [hd] at KD
  clear hg hd
  generalize l.cells = C at *
  go_enter Tryz.func28, Tryz.ntmps28
  go_upto_region 1 with fail
  rw [← e2, ← e1]
  clear e1 e2
  go_wp2_with (first
    | (go_at_call 37; (with_reducible refine (KP.out _).mono ?_); rintro e y ⟨m, f, rfl, hm, hp, hb⟩; obtain ⟨V, hf, hr⟩ := hp.yes how HK.out.1 HK.out.2; have hlook := hp.map.look_ok Tryz.underlying71 (zero_fn y) HH.out; rw [hf] at hlook; simp only [Option.getD_some, Option.isSome_some] at hlook; have HR := Lib.hid hr; obtain ⟨gb, gd, rfl, -⟩ := id hr; clear hf hr hp; replace HB := Lib.hid (HB.out.below hb); replace HW := Lib.hid (below_to HW.out hb); replace HL := Lib.hid (And.intro (HL.out.1.of hb) (HL.out.2.of hb)); clear hb hm)
    | (refine o_load (by rfl) 23 _ rfl _ rfl _ _ _ HB.out Tryz.underlying23 rfl HS.out ?_)
    | (go_at_call 24; (with_reducible refine (KG.out _).mono ?_); rintro e y2 ⟨rfl, hb⟩; replace HB := Lib.hid (HB.out.below hb); replace HW := Lib.hid (below_to HW.out hb); replace HL := Lib.hid (And.intro (HL.out.1.of hb) (HL.out.2.of hb)); replace HR := Lib.hid (HR.out.below hb); clear hb)
    | (go_at_call 33; (with_reducible refine (KD.out _ HL.out.1).mono ?_); rintro e y3 ⟨rfl, hb⟩; replace HB := Lib.hid (HB.out.below hb); replace HW := Lib.hid (below_to HW.out hb); replace HL := Lib.hid (And.intro (HL.out.1.of hb) (HL.out.2.of hb)); replace HR := Lib.hid (HR.out.below hb); clear hb))
  go_ret2
  exact ⟨rfl, HW.out⟩
set_option maxRecDepth 20000 in
set_option maxHeartbeats 2000000 in
theorem of_none (l : Ln) (how day : Int) (w : World) (L1 : Date.Laid w) (L2 : Step.Laid w) (hh : In64 how) (hk : 1 ≤ how ∧ how ≤ 3) (hg : goodL l = true) (hd : Date.dayB day = true) (hp : partB l = false) : Calls Tryz.prog 28 #[.agg l.cells, .int .i64 how, .int .i64 day] w fun e w' => e = .returned (.tuple #[.int .i64 0, .int .i64 0]) ∧ Below w.heap.size w w' := by
  obtain ⟨g, wb, e1, e2, hB, hb⟩ := boxd_new w l.cells 23
  have HB := Lib.hid hB
  have HW := Lib.hid hb
  have HL : Hid (Date.Laid wb ∧ Step.Laid wb) := ⟨L1.of hb, L2.of hb⟩
  have HS := Lib.hid (ln_info l)
  have KP := Lib.hid (fun W => c_plans day W)
  have KG := Lib.hid (fun W => good_c l W)
  have KD := Lib.hid (fun W L => Date.d_good day W L)
  have KT := Lib.hid (fun W => c_part l W)
  have HH := Lib.hid hh
  clear hB hb L1 L2 hh
  have HK := Lib.hid hk
  clear hk
  rw [hg] at KG
  rw [hd] at KD
  rw [hp] at KT
  clear hg hd hp
  generalize l.cells = C at *
  go_enter Tryz.func28, Tryz.ntmps28
  go_upto_region 1 with fail
  rw [← e2, ← e1]
  clear e1 e2
  go_wp2_with (first
    | (go_at_call 37; (with_reducible refine (KP.out _).mono ?_); rintro e y ⟨m, f, rfl, hm, hp, hb⟩; obtain ⟨V, hf, hr⟩ := hp.yes how HK.out.1 HK.out.2; have hlook := hp.map.look_ok Tryz.underlying71 (zero_fn y) HH.out; rw [hf] at hlook; simp only [Option.getD_some, Option.isSome_some] at hlook; have HR := Lib.hid hr; obtain ⟨gb, gd, rfl, -⟩ := id hr; clear hf hr hp; replace HB := Lib.hid (HB.out.below hb); replace HW := Lib.hid (below_to HW.out hb); replace HL := Lib.hid (And.intro (HL.out.1.of hb) (HL.out.2.of hb)); clear hb hm)
    | (refine o_load (by rfl) 23 _ rfl _ rfl _ _ _ HB.out Tryz.underlying23 rfl HS.out ?_)
    | (go_at_call 24; (with_reducible refine (KG.out _).mono ?_); rintro e y2 ⟨rfl, hb⟩; replace HB := Lib.hid (HB.out.below hb); replace HW := Lib.hid (below_to HW.out hb); replace HL := Lib.hid (And.intro (HL.out.1.of hb) (HL.out.2.of hb)); replace HR := Lib.hid (HR.out.below hb); clear hb)
    | (go_at_call 33; (with_reducible refine (KD.out _ HL.out.1).mono ?_); rintro e y3 ⟨rfl, hb⟩; replace HB := Lib.hid (HB.out.below hb); replace HW := Lib.hid (below_to HW.out hb); replace HL := Lib.hid (And.intro (HL.out.1.of hb) (HL.out.2.of hb)); replace HR := Lib.hid (HR.out.below hb); clear hb)
    | (go_at_call 69; (with_reducible refine (KT.out _).mono ?_); rintro e y4 ⟨rfl, hb⟩; replace HB := Lib.hid (HB.out.below hb); replace HW := Lib.hid (below_to HW.out hb); replace HL := Lib.hid (And.intro (HL.out.1.of hb) (HL.out.2.of hb)); replace HR := Lib.hid (HR.out.below hb); clear hb))
  go_ret2
  exact ⟨rfl, HW.out⟩
set_option maxRecDepth 20000 in
set_option maxHeartbeats 2000000 in
theorem of_part (l : Ln) (how day : Int) (w : World) (L1 : Date.Laid w) (L2 : Step.Laid w) (hh : In64 how) (hk : 1 ≤ how ∧ how ≤ 3) (hg : goodL l = true) (hd : Date.dayB day = true) (hp : partB l = true) : Calls Tryz.prog 28 #[.agg l.cells, .int .i64 how, .int .i64 day] w fun e w' => e = .returned (.tuple #[.int .i64 (ofR how day l).1, .int .i64 (ofR how day l).2]) ∧ Below w.heap.size w w' := by
  have HO := Lib.hid (of_one hk hd hg hp)
  obtain ⟨g, wb, e1, e2, hB, hb⟩ := boxd_new w l.cells 23
  have HB := Lib.hid hB
  have HW := Lib.hid hb
  have HL : Hid (Date.Laid wb ∧ Step.Laid wb) := ⟨L1.of hb, L2.of hb⟩
  have HS := Lib.hid (ln_info l)
  have KP := Lib.hid (fun W => c_plans day W)
  have KG := Lib.hid (fun W => good_c l W)
  have KD := Lib.hid (fun W L => Date.d_good day W L)
  have KT := Lib.hid (fun W => c_part l W)
  have HH := Lib.hid hh
  clear hB hb L1 L2 hh
  have HK := Lib.hid hk
  clear hk
  rw [hg] at KG
  rw [hd] at KD
  rw [hp] at KT
  clear hg hd hp
  have KS := Lib.hid (fun W => run_one l W)
  have KLN : Hid (∀ W : World, Lns (W.alloc (.cells l.cells 23)) (W.heap.size + 1) (.slice (some ⟨W.heap.size, 0, none⟩) 1 1) [l]) := fun W =>
    ⟨some ⟨W.heap.size, 0, none⟩, 1, rfl, by simp, ⟨fun h => (by cases h), by simp⟩, fun _ => ⟨W.heap.size, 0, rfl, by omega, fun i x hi j v hj => by
      match i, hi with
      | 0, hi =>
        have e : l = x := by simpa using hi
        subst e
        rw [show 0 + 0 * 13 + j = j by omega, World.cell?_alloc_new]
        simpa using hj⟩⟩
  generalize hR : capR (eachR (askR how day) [l]) [l] = R at *
  have HRR := Lib.hid hR
  clear hR
  generalize (ofR how day l).1 = ov at *
  generalize (ofR how day l).2 = oe at *
  have KC : Hid (∀ (W : World) (gb : Nat), Ready W how day (fEach gb) → Date.Laid W → Step.Laid W → Calls Tryz.prog 40 #[fEach gb, .slice (some ⟨W.heap.size, 0, none⟩) 1 1] (W.alloc (.cells l.cells 23)) (Told R (W.alloc (.cells l.cells 23)))) := fun W gb hr l1 l2 => by
    have hb := below_one W (.cells l.cells 23)
    rw [← HRR.out]
    exact capped_1 _ [l] _ (W.heap.size + 1) gb _ (by simp) (KLN.out W) (by simp) each_len (each_any how day [l] _ (W.heap.size + 1) gb _ (by simp) (KLN.out W) (by simp) (hr.below hb) (l1.of hb) (l2.of hb))
  generalize l.cells = C at *
  go_enter Tryz.func28, Tryz.ntmps28
  go_upto_region 1 with fail
  rw [← e2, ← e1]
  clear e1 e2
  go_upto_region 7 with (first
    | (go_at_call 37; (with_reducible refine (KP.out _).mono ?_); rintro e y ⟨m, f, rfl, hm, hp, hb⟩; obtain ⟨V, hf, hr⟩ := hp.yes how HK.out.1 HK.out.2; have hlook := hp.map.look_ok Tryz.underlying71 (zero_fn y) HH.out; rw [hf] at hlook; simp only [Option.getD_some, Option.isSome_some] at hlook; have HR := Lib.hid hr; obtain ⟨gb, gd, rfl, -⟩ := id hr; clear hf hr hp; replace HB := Lib.hid (HB.out.below hb); replace HW := Lib.hid (below_to HW.out hb); replace HL := Lib.hid (And.intro (HL.out.1.of hb) (HL.out.2.of hb)); clear hb hm)
    | (refine o_load (by rfl) 23 _ rfl _ rfl _ _ _ HB.out Tryz.underlying23 rfl HS.out ?_)
    | (go_at_call 24; (with_reducible refine (KG.out _).mono ?_); rintro e y2 ⟨rfl, hb⟩; replace HB := Lib.hid (HB.out.below hb); replace HW := Lib.hid (below_to HW.out hb); replace HL := Lib.hid (And.intro (HL.out.1.of hb) (HL.out.2.of hb)); replace HR := Lib.hid (HR.out.below hb); clear hb)
    | (go_at_call 33; (with_reducible refine (KD.out _ HL.out.1).mono ?_); rintro e y3 ⟨rfl, hb⟩; replace HB := Lib.hid (HB.out.below hb); replace HW := Lib.hid (below_to HW.out hb); replace HL := Lib.hid (And.intro (HL.out.1.of hb) (HL.out.2.of hb)); replace HR := Lib.hid (HR.out.below hb); clear hb)
    | (go_at_call 69; (with_reducible refine (KT.out _).mono ?_); rintro e y4 ⟨rfl, hb⟩; replace HB := Lib.hid (HB.out.below hb); replace HW := Lib.hid (below_to HW.out hb); replace HL := Lib.hid (And.intro (HL.out.1.of hb) (HL.out.2.of hb)); replace HR := Lib.hid (HR.out.below hb); clear hb)
    | (refine wpList_slice (by rfl) _ _ _ rfl _ _ (by simp [Act.eval, Act.put]) (KS.out _) ?_)
    | (go_at_call 40; (refine (KC.out _ _ HR.out HL.out.1 HL.out.2).mono ?_); rintro e y5 ⟨u, E, rfl, hE, hu, hn, hb⟩; have HZ := Lib.hid (And.intro hE (And.intro hu (And.intro hn ((HW.out.alloc HW.out.size _).trans (hb.mono (HW.out.alloc HW.out.size _).size))))); clear hE hu hn hb))
  rcases HO.out with ⟨h1, h2⟩ | ⟨h1, h2, h3⟩
  · have hE : E = 0 := by rw [HZ.out.1, h2]
    obtain ⟨g5, hug, hg5, hr⟩ := HZ.out.2.1 hE
    rw [h2] at hug hr
    have c5 : y5.cell? ⟨g5, 0, none⟩ = some (.int .i64 ov) := hr.cell (i := 0) (by simp)
    have HZ4 := Lib.hid HZ.out.2.2.2
    clear hr hg5 HZ h2
    subst hE hug
    have HO1 := Lib.hid h1
    clear h1
    go_wp2_with fail
    go_ret2
    exact ⟨by rw [HO1.out]; rfl, HZ4.out⟩
  · have hE : E = oe := by rw [HZ.out.1, h3]
    have t0 : (oe != 0) = true := by rw [bne_iff_ne]; exact h1
    have hu := HZ.out.2.2.1 (by rw [hE]; exact h1)
    have HZ4 := Lib.hid HZ.out.2.2.2
    have HO2 := Lib.hid h2
    clear HZ h1 h2 h3
    subst hE hu
    go_wp2_with fail
    go_ret2
    exact ⟨by rw [HO2.out]; rfl, HZ4.out⟩
theorem c_of (l : Ln) (how day : Int) (w : World) (L1 : Date.Laid w) (L2 : Step.Laid w) (hh : In64 how) : Calls Tryz.prog 28 #[.agg l.cells, .int .i64 how, .int .i64 day] w fun e w' => e = .returned (.tuple #[.int .i64 (ofR how day l).1, .int .i64 (ofR how day l).2]) ∧ Below w.heap.size w w' := by
  by_cases hk : 1 ≤ how ∧ how ≤ 3
  · cases hg : goodL l with
    | false =>
      rw [show ofR how day l = (0, 1) by unfold ofR; rw [if_neg (by rw [hg]; simp)]]
      exact of_bad l how day w L1 L2 hh hk hg
    | true =>
      cases hd : Date.dayB day with
      | false =>
        rw [show ofR how day l = (0, 1) by unfold ofR; rw [if_neg (by rw [hd]; simp)]]
        exact of_day l how day w L1 L2 hh hk hg hd
      | true =>
        cases hp : partB l with
        | false =>
          rw [show ofR how day l = (0, 0) by unfold ofR; rw [if_pos ⟨hg, hk, hd⟩, if_neg (by rw [hp]; simp)]]
          exact of_none l how day w L1 L2 hh hk hg hd hp
        | true => exact of_part l how day w L1 L2 hh hk hg hd hp
  · rw [show ofR how day l = (0, 1) by unfold ofR; rw [if_neg (fun h => hk h.2.1)]]
    exact of_far l how day w L1 L2 hh hk
end Go.Proofs.YtkddiaiohnbjpaaGreatDoor.Plan
