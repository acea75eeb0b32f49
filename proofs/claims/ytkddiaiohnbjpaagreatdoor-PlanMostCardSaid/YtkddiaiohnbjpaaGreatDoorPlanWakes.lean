/- The examples that every law of layer 18 asks beside its own sentence. -/
import Derived.Test.YtkddiaiohnbjpaaGreatDoorPlanC9
import Derived.Test.YtkddiaiohnbjpaaGreatDoorPlanSet
import Derived.Test.YtkddiaiohnbjpaaGreatDoorGRDue
import Derived.Test.YtkddiaiohnbjpaaGreatDoorGAdd
namespace Go.Proofs.YtkddiaiohnbjpaaGreatDoor.Law
open Go.ChangeShapes Go.WideShapes Go.ChangeAt Go.RowKit Loan Money Box Rws Slice Plan

def pw0 : Ln := { ln0 with id := 1, prin := 120000, status := 5, entered := 0 }
def pw1 : Ln := { pw0 with level := 1000, far := 400 }
def psw : Sc := ⟨0, 4, 30, 12000, 1, 0, 0, 0, 0, 0, 0⟩
theorem ex_near : Level.oV 120000 0 120 = 1000 ∧ Level.oE 120000 0 120 = 0 := by
  have h : Level.okOf 120000 0 120 = true := by decide +kernel
  have g : Level.gr 120000 0 ≤ 10000000000000 := by decide +kernel
  refine ⟨?_, (Level.oV_yes h g).2⟩
  rw [(Level.oV_yes h g).1]
  exact Level.of_is 119 (by decide) (by decide) g (by decide) (by decide +kernel) (by decide +kernel)
theorem ex_far : Level.oV 120000 0 300 = 400 ∧ Level.oE 120000 0 300 = 0 := by
  have h : Level.okOf 120000 0 300 = true := by decide +kernel
  have g : Level.gr 120000 0 ≤ 10000000000000 := by decide +kernel
  refine ⟨?_, (Level.oV_yes h g).2⟩
  rw [(Level.oV_yes h g).1]
  exact Level.of_is 299 (by decide) (by decide) g (by decide) (by decide +kernel) (by decide +kernel)
theorem ex_set : setR pw0 = (pw1, 0) := by
  unfold setR
  rw [if_pos (show goodL pw0 = true by decide +kernel), if_pos (show pw0.closed = 0 from rfl)]
  rw [if_pos (show Level.oE pw0.prin pw0.ppm 120 = 0 from ex_near.2), if_pos (show Level.oE pw0.prin pw0.ppm 300 = 0 from ex_far.2)]
  rw [show Level.oV pw0.prin pw0.ppm 120 = 1000 from ex_near.1, show Level.oV pw0.prin pw0.ppm 300 = 400 from ex_far.1]
  rfl
theorem ex_of : ofR 1 40 pw1 = (1000, 0) := by kernel_rfl
theorem tab_0 : Income.Tab [0] := ⟨by decide, by decide, fun j hj => by
  obtain rfl : j = 0 := by simp at hj; omega
  exact ⟨by decide, by decide⟩, fun j hj => by simp at hj⟩
theorem ex_inc : Income.aV [0] 1 12000 = 100 ∧ Income.aE [0] 1 12000 = 0 := by
  obtain ⟨h1, h2⟩ := Income.a_yes (zs := [0]) (f := 1) (n := 12000) ⟨⟨tab_0, by decide, by decide⟩, by decide, by decide⟩
  exact ⟨h1.trans (by decide +kernel), h2⟩
theorem ex_holds : holdsI 4 30 40 = 4 := by kernel_rfl
theorem ex_split : Share.splitS 100 [120000] = some 120000 := by decide +kernel
theorem ex_incR (Q : Nat → Nat) : incR [0] 1 12000 [pw1] Q = ([100], 0) := by
  unfold incR
  rw [if_pos ex_inc.2, if_neg (by decide), ex_inc.1]
  rw [show prins [pw1] = [120000] from rfl, ex_split]
  show (Share.outL 100 120000 [120000] Q, (0 : Int)) = ([100], 0)
  have e : Share.outL 100 120000 [120000] Q = [Share.outS 100 120000 (Share.wt [120000]) 1 Q 0] := rfl
  rw [e]
  unfold Share.outS
  rw [show (Share.lft 100 120000 (Share.wt [120000]) 1).toNat = 0 by decide +kernel, Share.bump_zero]
  rw [show Share.quo 100 120000 (Share.wt [120000]) 0 = 100 by decide +kernel]
  rfl
theorem ex_asks (Q : Nat → Nat) : asksR [0] psw 40 [pw1] Q = ([1], [100], 0) := by
  unfold asksR
  rw [if_pos ⟨Income.tabB_yes tab_0, by decide, by decide +kernel⟩]
  rw [show [pw1].filter partB = [pw1] by kernel_rfl, if_neg (by decide)]
  unfold asksC planR
  rw [show holdsI psw.plan psw.since 40 = 4 from ex_holds, if_pos rfl]
  rw [show incR [0] psw.fam psw.inc [pw1] Q = ([100], 0) from ex_incR Q]
  kernel_rfl
theorem lit_l (w : World) (T : TypeId) (z : Int) : Ints (w.alloc (.cells #[.int .i64 z] T)) (w.heap.size + 1) .i64 (.slice (some ⟨w.heap.size, 0, none⟩) 1 1) [z] :=
  ⟨some ⟨w.heap.size, 0, none⟩, 1, rfl, by simp, fun h => (by cases h), fun _ => ⟨w.heap.size, 0, rfl, by omega, fun i hi => by
    obtain rfl : i = 0 := by simpa using hi
    rw [World.cell?_alloc_new]; rfl⟩⟩
theorem lns_one (w : World) (l : Ln) : Lns (w.alloc (.cells l.cells 23)) (w.heap.size + 1) (.slice (some ⟨w.heap.size, 0, none⟩) 1 1) [l] :=
  ⟨some ⟨w.heap.size, 0, none⟩, 1, rfl, by simp, ⟨fun h => (by cases h), by simp⟩, fun _ => ⟨w.heap.size, 0, rfl, by omega, fun i x hi j v hj => by
    match i, hi with
    | 0, hi =>
      have e : l = x := by simpa using hi
      subst e
      rw [show 0 + 0 * 13 + j = j by omega, World.cell?_alloc_new]
      simpa using hj⟩⟩
/-- Both listed tables lie as they are listed. -/
def Both (w : World) : Prop := Date.Laid w ∧ Step.Laid w
theorem Both.date {w : World} (h : Both w) : Date.Laid w := h.1
theorem Both.step {w : World} (h : Both w) : Step.Laid w := h.2
theorem Both.of {w w' : World} (h : Both w) (hb : Below w.heap.size w w') : Both w' := ⟨h.1.of hb, h.2.of hb⟩
set_option maxRecDepth 20000 in
set_option maxHeartbeats 4000000 in
theorem wakes_plan (w : World) (L : Both w) : Calls Tryz.prog 10 #[] w fun e w' => e = .returned (.bool true) ∧ Below w.heap.size w w' := by
  have K1 : Hid (∀ W, Calls Tryz.prog 7 #[.agg #[.int .i64 1, .int .i64 120000, .int .i64 0, .int .i64 0, .int .i64 0, .int .i64 0, .bool false, .int .i64 5, .int .i64 0, .int .i64 0, .int .i64 0, .int .i64 0, .int .i64 0]] W fun e w' => e = .returned (.tuple #[.agg pw1.cells, .int .i64 0]) ∧ Below W.heap.size W w') := fun W => by
    have h := c_set pw0 W
    rw [ex_set] at h
    exact h
  have K2 : Hid (∀ W, Both W → Calls Tryz.prog 28 #[.agg pw1.cells, .int .i64 1, .int .i64 40] W fun e w' => e = .returned (.tuple #[.int .i64 1000, .int .i64 0]) ∧ Below W.heap.size W w') := fun W hL => by
    have h := c_of pw1 1 40 W hL.1 hL.2 (in_small (by omega) (by omega))
    rwa [ex_of] at h
  have K3 : Hid (∀ W : World, Both W → Calls Tryz.prog 13 #[.agg #[.int .i64 0, .slice (some ⟨W.heap.size, 0, none⟩) 1 1], .agg #[.int .i64 0, .slice (some ⟨W.heap.size + 1, 0, none⟩) 1 1, .int .i64 4, .int .i64 30, .int .i64 12000, .int .i64 1, .slice none 0 0, .int .i64 0, .int .i64 0, .int .i64 0, .int .i64 0, .int .i64 0, .int .i64 0], .int .i64 40] ((W.alloc (.cells #[.int .i64 0] 2)).alloc (.cells pw1.cells 23)) fun e w' => ∃ u1 u2, e = .returned (.tuple #[u1, u2, .int .i64 0]) ∧ Ints w' w'.heap.size .i64 u1 [1] ∧ Ints w' w'.heap.size .i64 u2 [100] ∧ Below W.heap.size W w') := fun W hL => by
    have hb : Below W.heap.size W ((W.alloc (.cells #[.int .i64 0] 2)).alloc (.cells pw1.cells 23)) := below_to (below_one _ _) (below_one _ _)
    have h1 : Ints ((W.alloc (.cells #[.int .i64 0] 2)).alloc (.cells pw1.cells 23)) (W.heap.size + 2) .i64 (.slice (some ⟨W.heap.size, 0, none⟩) 1 1) [0] := ((lit_l W _ 0).alloc (by simp) _).more (by omega)
    have h2 : Lns ((W.alloc (.cells #[.int .i64 0] 2)).alloc (.cells pw1.cells 23)) (W.heap.size + 2) (.slice (some ⟨W.heap.size + 1, 0, none⟩) 1 1) [pw1] := by
      have h := lns_one (W.alloc (.cells #[.int .i64 0] 2)) pw1
      simpa using h
    refine (c_asks 0 [0] psw 40 [pw1] _ _ (.slice none 0 0) (W.heap.size + 2) _ (by simp) h1 h2 (by simp) (in_small (by decide) (by decide)) (hL.1.of hb) (hL.2.of hb)).mono fun e w' he => ?_
    obtain ⟨Q, -, u1, u2, he, h3, h4, h5⟩ := he
    rw [ex_asks] at he h3 h4
    exact ⟨u1, u2, he, h3, h4, below_to hb h5⟩
  have K4 := Lib.hid (fun W => c_counts 1 W)
  have K5 := Lib.hid (fun W => c_counts 2 W)
  rw [show countsB 1 = true from rfl] at K4
  rw [show countsB 2 = false from rfl] at K5
  have KR := Lib.hid (fun W => run_one pw1 W)
  have XA : Hid (pw1.cells[10]? = some (.int .i64 1000)) := show _ = _ from rfl
  have XB : Hid (pw1.cells[11]? = some (.int .i64 400)) := show _ = _ from rfl
  have HSA := Lib.hid (ln_info pw1)
  have HOA := Lib.hid (ln_one pw1)
  have HZA : Hid (13 = (pw1).cells.size) := show _ = _ from rfl
  have HW := Lib.hid (Below.refl w.heap.size w)
  have HL := Lib.hid L
  clear L
  generalize pw1.cells = C1 at *
  go_enter Tryz.func10, Tryz.ntmps10
  go_upto_region 2 with (first
    | (go_at_call 7; (with_reducible refine (K1.out _).mono ?_); rintro e y1 ⟨rfl, hb⟩; replace HW := Lib.hid (below_to HW.out hb); replace HL := Lib.hid (HL.out.of hb); clear hb)
    | (refine o_store rfl 23 _ _ rfl rfl y1.heap.size _ rfl rfl _ _ (heap_alloc_last _ _) HSA.out HZA.out HOA.out ?_; intro z1 hr ho; have HA := Lib.hid hr; replace HL := Lib.hid (HL.out.of (below_one_of (below_one _ _) ho (Nat.le_refl _) (below_one y1 _).size)); replace HW := Lib.hid (below_one_of (below_to HW.out (below_one _ _)) ho HW.out.size (below_to HW.out (below_one _ _)).size); clear hr ho))
  go_upto_region 3 with (first
    | (refine o_load rfl 23 _ rfl _ rfl _ _ _ HA.out Tryz.underlying23 rfl HSA.out ?_)
    | (go_at_call 28; (with_reducible refine (K2.out _ HL.out).mono ?_); rintro e y2 ⟨rfl, hb⟩; replace HA := Lib.hid (HA.out.below hb); replace HW := Lib.hid (below_to HW.out hb); replace HL := Lib.hid (HL.out.of hb); clear hb))
  go_upto_region 4 with (first
    | (refine o_load rfl 23 _ rfl _ rfl _ _ _ (HA.out.below (below_one _ _)) Tryz.underlying23 rfl HSA.out ?_)
    | (refine wpList_slice (by rfl) 33 _ _ rfl _ _ (by simp [Act.eval, Act.put]) (KR.out _) ?_)
    | (go_at_call 13; (refine (K3.out y2 HL.out).mono ?_); rintro e y3 ⟨u1, u2, rfl, h1, h2, hb⟩; replace HA := Lib.hid (HA.out.below hb); replace HW := Lib.hid (below_to HW.out hb); have H1 := Lib.hid h1; have H2 := Lib.hid h2; clear hb h1 h2))
  have a1 := (HA.out.cell (i := 10)).trans XA.out
  have a2 := (HA.out.cell (i := 11)).trans XB.out
  obtain ⟨A1, k1, rfl, -⟩ := id H1.out
  obtain ⟨A2, k2, rfl, -⟩ := id H2.out
  go_wp2_with (first
    | (go_at_call 15; (refine (Due.ints_same [1] _ _ (y3.heap.size + 1) _ ((H1.out.alloc (Nat.le_refl _) _).more (Nat.le_succ _)) (lit_l y3 _ 1)).mono ?_); rintro e y4 ⟨rfl, n4, hw⟩; have HW4 : Hid (Below w.heap.size w y4) := (show Below _ _ _ by rw [hw]; exact below_drewN (below_to HW.out (below_one _ _)) _); have H4 : Hid (Ints y4 y4.heap.size .i64 (.slice A2 1 k2) [100]) := (show Ints _ _ _ _ _ by rw [hw]; exact (H2.out.alloc (Nat.le_refl _) _).more (by simp)); clear hw)
    | (go_at_call 16; (refine (Money.longs_same [100] _ _ (y4.heap.size + 1) _ ((H4.out.alloc (Nat.le_refl _) _).more (Nat.le_succ _)) (lit_l y4 _ 100)).mono ?_); rintro e y5 ⟨rfl, n5, hw⟩; have HW5 : Hid (Below w.heap.size w y5) := (show Below _ _ _ by rw [hw]; exact below_drewN (below_to HW4.out (below_one _ _)) _); clear hw)
    | (go_at_call 29; (with_reducible refine (K4.out _).mono ?_); rintro e y6 ⟨rfl, rfl⟩)
    | (go_at_call 29; (with_reducible refine (K5.out _).mono ?_); rintro e y6 ⟨rfl, rfl⟩))
  go_ret
  exact ⟨rfl, HW5.out⟩
end Go.Proofs.YtkddiaiohnbjpaaGreatDoor.Law
