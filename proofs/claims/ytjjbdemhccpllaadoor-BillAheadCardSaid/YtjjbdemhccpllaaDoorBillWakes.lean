/- The examples that every law of layer 19 asks beside its own sentence; what stands while such a law goes. -/
import Derived.Test.YtjjbdemhccpllaaDoorBillC5
import Derived.Test.YtjjbdemhccpllaaDoorKeepMany
namespace Go.Proofs.YtjjbdemhccpllaaDoor.Law
open Go.ChangeShapes Go.WideShapes Go.ChangeAt Go.RowKit Loan Money Box Rws Slice Plan Bill Date Cal

theorem lit_i (w : World) (T : TypeId) (z : Int) : Ints (w.alloc (.cells #[.int .i64 z] T)) (w.heap.size + 1) .i64 (.slice (some ⟨w.heap.size, 0, none⟩) 1 1) [z] :=
  ⟨some ⟨w.heap.size, 0, none⟩, 1, rfl, by simp, fun h => (by cases h), fun _ => ⟨w.heap.size, 0, rfl, by omega, fun i hi => by
    obtain rfl : i = 0 := by simpa using hi
    rw [World.cell?_alloc_new]
    rfl⟩⟩
def xb0 : Bl := ⟨1, 5, 5, -1, 1, .slice none 0 0, [3]⟩
def xb1 : Bl := ⟨2, 5, 4, -1, 1, .slice none 0 0, []⟩
def xc0 : Bl := ⟨1, 5, 0, 40, 1, .slice none 0 0, [3]⟩
def xc1 : Bl := ⟨2, 5, 2, -1, 1, .slice none 0 0, []⟩
theorem ex_i1 : issE [] 1 5 0 = 0 ∧ issK [] 1 5 0 = 0 ∧ issL [] 1 5 0 1 [3] = [xb0] := by
  have h : issE [] 1 5 0 = 0 := by decide +kernel
  refine ⟨h, ?_, ?_⟩
  · unfold issK
    rw [if_pos h]
    decide
  · unfold issL
    rw [if_pos h]
    rfl
theorem ex_i2 : issE [xb0] 2 5 1 = 0 ∧ issK [xb0] 2 5 1 = 0 ∧ issL [xb0] 2 5 1 1 [] = [xb0, xb1] := by
  have h : issE [xb0] 2 5 1 = 0 := by decide +kernel
  refine ⟨h, ?_, ?_⟩
  · unfold issK
    rw [if_pos h]
    decide
  · unfold issL
    rw [if_pos h]
    rfl
theorem ex_c : creE [xb0, xb1] 7 40 = 0 ∧ creK [xb0, xb1] 7 40 = 0 ∧ creL [xb0, xb1] 7 40 = [xc0, xc1] := by
  have h : creE [xb0, xb1] 7 40 = 0 := by decide +kernel
  refine ⟨h, ?_, ?_⟩
  · unfold creK
    rw [if_pos h]
    decide +kernel
  · unfold creL
    rw [if_pos h]
    rfl
theorem ex_o : openI [xc0, xc1] = 1 := by decide +kernel
theorem ex_l : lateI [xc0, xc1] 65 = 5 := by
  unfold lateI
  rw [ex_o]
  decide +kernel
set_option maxRecDepth 20000 in
set_option maxHeartbeats 1000000 in
theorem wakes_bill (w : World) (L : Laid w) : Calls Tryd.prog 9 #[] w fun e w' => e = .returned (.bool true) ∧ Below w.heap.size w w' := by
  have LD := Lib.hid L
  have K1 : Hid (∀ W vi Bi, Below w.heap.size w W → Bi ≤ W.heap.size → Ints W Bi .i64 vi [3] → Calls Tryd.prog 21 #[.slice none 0 0, .int .i64 1, .int .i64 5, .int .i64 0, .int .i64 1, vi] W (ToldB [xb0] 0 0 W)) := fun W vi Bi hb hBi hi => by
    have h := b_issue [] 1 5 0 1 [3] (.slice none 0 0) vi 0 Bi W (Nat.zero_le _) hBi ⟨Rws.nil_ _ _, fun b hb => by cases hb⟩ hi (by decide) (fun b hb => by cases hb) (by decide) (L.of hb)
    rw [ex_i1.1, ex_i1.2.1, ex_i1.2.2] at h
    exact h
  have K2 : Hid (∀ W v M1, Below w.heap.size w W → AlikeB [xb0] M1 → Bls W W.heap.size v M1 → Calls Tryd.prog 21 #[v, .int .i64 2, .int .i64 5, .int .i64 1, .int .i64 1, .slice none 0 0] W fun e w' => ∃ u M', e = .returned (.tuple #[u, .int .i64 0, .int .i64 0]) ∧ AlikeB [xb0, xb1] M' ∧ Cop W.heap.size w' u M' ∧ Below W.heap.size W w') := fun W v M1 hb ha hv => by
    have hl : M1.length = 1 := ha.1
    have hids : ∀ b ∈ M1, b.ids.length ≤ 1000 := alike_ids ha (fun b hb => by
      obtain rfl := List.mem_singleton.1 hb
      decide)
    have h := b_issue M1 2 5 1 1 [] v (.slice none 0 0) W.heap.size 0 W (Nat.le_refl _) (Nat.zero_le _) hv (Ints.nil_ _ _ _) (by omega) hids (by decide) (L.of hb)
    obtain ⟨q1, q2⟩ := issL_alike 2 5 1 1 [] ha
    rw [issE_alike 2 5 1 ha, q2, ex_i2.1, ex_i2.2.1] at h
    rw [ex_i2.2.2] at q1
    exact h.mono fun e w' ⟨u, M', h1, h2, h3, h4⟩ => ⟨u, M', h1, alike_trans q1 h2, h3, h4⟩
  have K3 : Hid (∀ W v M2, Below w.heap.size w W → AlikeB [xb0, xb1] M2 → Bls W W.heap.size v M2 → Calls Tryd.prog 23 #[v, .int .i64 7, .int .i64 40] W fun e w' => ∃ u M', e = .returned (.tuple #[u, .int .i64 0, .int .i64 0]) ∧ AlikeB [xc0, xc1] M' ∧ Cop W.heap.size w' u M' ∧ Below W.heap.size W w') := fun W v M2 hb ha hv => by
    have hl : M2.length = 2 := ha.1
    have hids : ∀ b ∈ M2, b.ids.length ≤ 1000 := alike_ids ha (fun b hb => by
      rcases List.mem_cons.1 hb with rfl | hb
      · decide
      · obtain rfl := List.mem_singleton.1 hb
        decide)
    have h := b_credit M2 7 40 v W.heap.size W (Nat.le_refl _) hv (by omega) hids (L.of hb)
    obtain ⟨q1, q2⟩ := creL_alike 7 40 ha
    rw [creE_alike 7 40 ha, q2, ex_c.1, ex_c.2.1] at h
    rw [ex_c.2.2] at q1
    exact h.mono fun e w' ⟨u, M', h1, h2, h3, h4⟩ => ⟨u, M', h1, alike_trans q1 h2, h3, h4⟩
  have K4 : Hid (∀ W v M3, Below w.heap.size w W → AlikeB [xc0, xc1] M3 → Bls W W.heap.size v M3 → Calls Tryd.prog 15 #[v] W fun e w' => e = .returned (.int .i64 1) ∧ Below W.heap.size W w') := fun W v M3 hb ha hv => by
    have h := b_open M3 v W.heap.size W (Nat.le_refl _) hv (L.of hb)
    rw [open_alike ha, ex_o] at h
    exact h
  have K5 : Hid (∀ W v M3, Below w.heap.size w W → AlikeB [xc0, xc1] M3 → Bls W W.heap.size v M3 → Calls Tryd.prog 17 #[v, .int .i64 65] W fun e w' => e = .returned (.int .i64 5) ∧ Below W.heap.size W w') := fun W v M3 hb ha hv => by
    have h := b_late M3 65 v W.heap.size W (Nat.le_refl _) hv (L.of hb)
    rw [late_alike 65 ha, ex_l] at h
    exact h
  clear L
  go_enter Tryd.func9, Tryd.ntmps9
  have HI : Hid (Ints (w.alloc (.cells #[.int .i64 3] 3)) (w.heap.size + 1) .i64 (.slice (some ⟨w.heap.size, 0, none⟩) 1 1) [3] ∧ Below w.heap.size w (w.alloc (.cells #[.int .i64 3] 3)) ∧ w.heap.size + 1 ≤ (w.alloc (.cells #[.int .i64 3] 3)).heap.size) := ⟨lit_i _ _ _, below_one _ _, by simp⟩
  go_upto_region 2 with (first
    | (go_at_call 21; (refine (K1.out _ _ _ HI.out.2.1 HI.out.2.2 HI.out.1).mono ?_); rintro e y1 ⟨u1, M1, rfl, ha, hc, hb⟩; have HA1 := Lib.hid ha; have HV1 := Lib.hid hc.bls; have HW1 := Lib.hid (below_to HI.out.2.1 hb); obtain ⟨A1, c1, rfl⟩ := own_slice' hc.row; clear ha hc hb))
  go_upto_region 3 with (first
    | (go_at_call 21; (refine (K2.out _ _ _ HW1.out HA1.out HV1.out).mono ?_); rintro e y2 ⟨u2, M2, rfl, ha, hc, hb⟩; have HA2 := Lib.hid ha; have HV2 := Lib.hid hc.bls; have HW2 := Lib.hid (below_to HW1.out hb); obtain ⟨A2, c2, rfl⟩ := own_slice' hc.row; clear ha hc hb))
  have HCE : Hid (∀ (W : World) (A : Option Addr) (c : Nat) (M3 : List Bl), AlikeB [xc0, xc1] M3 → Cop y2.heap.size W (.slice A M3.length c) M3 → ∃ g A5 c5, A = some ⟨g, 0, none⟩ ∧ M3.length = 2 ∧ W.cell? ⟨g, 2, none⟩ = some (.int .i64 0) ∧ W.cell? ⟨g, 3, none⟩ = some (.int .i64 40) ∧ W.cell? ⟨g, 8, none⟩ = some (.int .i64 2) ∧ W.cell? ⟨g, 5, none⟩ = some (.slice A5 1 c5)) := fun W A c M3 ha hc => by
    have hl : M3.length = 2 := ha.1
    obtain ⟨v0, hv0⟩ := ha.2 0 xc0 rfl
    obtain ⟨v1, hv1⟩ := ha.2 1 xc1 rfl
    obtain ⟨g, c', e, -⟩ := own_form hc.row (by omega)
    injection e with e
    subst e
    obtain ⟨A5, c5, h5, -⟩ := hc.bls.2 _ (List.mem_of_getElem? hv0)
    have h6 : v0 = .slice A5 1 c5 := h5
    have r0 := hc.bls.1.at_ hv0
    have r1 := hc.bls.1.at_ hv1
    exact ⟨g, A5, c5, rfl, hl, r0 2 _ rfl, r0 3 _ rfl, r1 2 _ rfl, r0 5 _ (by rw [← h6]; rfl)⟩
  go_wp2_with (first
    | (go_at_call 23; (refine (K3.out _ _ _ HW2.out HA2.out HV2.out).mono ?_); rintro e y3 ⟨u3, M3, rfl, ha, hc, hb⟩; have HA3 := Lib.hid ha; have HC3 := Lib.hid hc; have HV3 := Lib.hid hc.bls; have HW3 := Lib.hid (below_to HW2.out hb); obtain ⟨A3, c3, rfl⟩ := own_slice' hc.row; obtain ⟨g, A5, c5, rfl, hl3, d1, d2, d3, d4⟩ := HCE.out _ _ _ _ ha hc; rw [hl3]; rw [hl3] at HV3; clear ha hc hb)
    | (go_at_call 15; (refine (K4.out _ _ _ HW3.out HA3.out HV3.out).mono ?_); rintro e y4 ⟨rfl, hb⟩; have HW4 := Lib.hid (below_to HW3.out hb); have HC4 := Lib.hid (HC3.out.below hb); have HV4 := Lib.hid HC4.out.bls; rw [hl3] at HV4; clear hb)
    | (go_at_call 17; (refine (K5.out _ _ _ HW4.out HA3.out HV4.out).mono ?_); rintro e y5 ⟨rfl, hb⟩; have HW5 := Lib.hid (below_to HW4.out hb); obtain ⟨g', A6, c6, e7, -, -, -, -, d5⟩ := HCE.out _ _ _ _ HA3.out (by have hh := HC4.out.below hb; rw [hl3] at hh; rw [hl3]; exact hh); injection e7 with e7; injection e7 with e7; subst e7; clear hb))
  go_ret
  exact ⟨rfl, HW5.out⟩
/-- What stands while a law over bills goes: the listed table, the bills that came in. -/
structure Bo (w0 W : World) (M : List Bl) (v : Value) : Prop where
  low : Below w0.heap.size w0 W
  laid : Laid W
  bls : Bls W w0.heap.size v M
theorem Bo.below {w0 W W' : World} {M : List Bl} {v : Value} (h : Bo w0 W M v) (hb : Below W.heap.size W W') : Bo w0 W' M v :=
  ⟨below_to h.low hb, h.laid.of hb, h.bls.below (hb.mono h.low.size)⟩
theorem bls_below {W W' : World} {v : Value} {M : List Bl} (h : Bls W W.heap.size v M) (hb : Below W.heap.size W W') : Bls W' W'.heap.size v M :=
  ⟨(h.1.below hb).more hb.size, fun b hm => ((h.2 b hm).below hb).more hb.size⟩
theorem bls_up {W : World} {B B' : Nat} {v : Value} {M : List Bl} (h : Bls W B v M) (hB : B ≤ B') : Bls W B' v M := ⟨h.1.more hB, fun b hm => (h.2 b hm).more hB⟩
set_option maxRecDepth 20000 in
theorem large_any (M : List Bl) (v : Value) (w0 w : World) (h : Bo w0 w M v) : Calls Tryd.prog 8 #[v] w fun e w' => e = .returned (.bool (manyB M)) ∧ Below w.heap.size w w' := by
  obtain ⟨A, k, hv⟩ := h.bls.1.shape
  have K := Lib.hid (fun (_ : Unit) => c_many #[.int .i64 0, .slice none 0 0, .int .i64 0, .int .i64 0, .int .i64 0, .int .i64 0, v, .int .i64 0, .int .i64 0, .int .i64 0, .int .i64 0, .int .i64 0, .int .i64 0] 0 v M w0.heap.size w h.low.size rfl rfl h.bls)
  subst hv
  clear h
  go_enter Tryd.func8, Tryd.ntmps8
  go_wp2_with (first
    | (go_at_call 27; (refine (K.out ()).mono ?_); rintro e y ⟨rfl, hb⟩; have HY := Lib.hid hb; clear hb))
  go_ret
  exact ⟨rfl, HY.out⟩
end Go.Proofs.YtjjbdemhccpllaaDoor.Law
