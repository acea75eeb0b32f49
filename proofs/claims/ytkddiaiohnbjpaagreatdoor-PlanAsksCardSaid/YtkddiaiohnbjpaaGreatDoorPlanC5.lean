/- Of layer 18: what a plan asks, but of none more than it owes. -/
import Derived.Test.YtkddiaiohnbjpaaGreatDoorPlanC3
import Derived.Test.YtkddiaiohnbjpaaGreatDoorGLoan
namespace Go.Proofs.YtkddiaiohnbjpaaGreatDoor.Plan
open Go.ChangeShapes Go.WideShapes Go.ChangeAt Go.RowKit Loan Money Box Rws Slice

/-- The less of what is asked and what is owed for the first j, behind them what is asked. -/
def cut (A : List Int) (L : List Ln) (j i : Nat) : Value := if i < j then .int .i64 (lessI (A.getD i 0) (owesR (L.getD i ln0)).1) else .int .i64 (A.getD i 0)
theorem cut_step {A : List Int} {L : List Ln} {j : Nat} {x : Ln} (hx : L[j]? = some x) (i : Nat) : cut A L (j + 1) i = if i = j then .int .i64 (lessI (A.getD j 0) (owesR x).1) else cut A L j i := by
  unfold cut
  by_cases h : i = j
  · subst h
    rw [if_pos (by omega), if_pos rfl, List.getD_eq_getElem?_getD (l := L), hx]; rfl
  · by_cases k : i < j
    · rw [if_pos (by omega), if_neg h, if_pos k]
    · rw [if_neg (by omega), if_neg h, if_neg k]
theorem cut_end {A : List Int} {L : List Ln} {B g : Nat} {w : World} {T : TypeId} (hg : B ≤ g) (h : w.rowIs g T L.length (cut A L L.length)) : Owned B w T (.slice (some ⟨g, 0, none⟩) L.length L.length) (lessV A L) := by
  refine ⟨g, by rw [lessV_len], hg, ?_⟩
  rw [lessV_len]
  refine h.congr fun i hi => ?_
  unfold cut rowP
  rw [if_pos hi, lessV_at (List.getElem?_eq_getElem hi), List.getD_eq_getElem?_getD (l := L), List.getElem?_eq_getElem hi]
  rfl
/-- What a plan tells, as memory has it. -/
def Told (R : List Int × Int) (w : World) (e : Ending) (w' : World) : Prop := ∃ u E, e = .returned (.tuple #[u, .int .i64 E]) ∧ E = R.2 ∧ (E = 0 → Owned w.heap.size w' 2 u R.1) ∧ (E ≠ 0 → u = .slice none 0 0) ∧ Below w.heap.size w w'
set_option maxRecDepth 20000 in
set_option maxHeartbeats 2000000 in
theorem capped_1 (R : List Int × Int) (L : List Ln) (v : Value) (B p1 : Nat) (w : World) (hB : B ≤ w.heap.size) (hv : Lns w B v L) (hN : L.length ≤ 1000) (hR : R.2 = 0 → R.1.length = L.length)
    (hK : Calls Tryz.prog 108 #[v, .pointer (some ⟨p1, 0, none⟩)] w (Told R w)) :
    Calls Tryz.prog 40 #[.func (.func 108) #[] #[.pointer (some ⟨p1, 0, none⟩)], v] w (Told (capR R L) w) := by
  obtain ⟨A, k, rfl⟩ := hv.shape
  have HV : Hid (Lns w B (.slice A L.length k) L) := hv
  have HB := Lib.hid hB
  have HK := Lib.hid (fun (_ : Unit) => hK)
  have HN := Lib.hid hN
  have HR := Lib.hid hR
  clear hv hB hK hR
  go_enter Tryz.func40, Tryz.ntmps40
  go_wp2_with fail
  refine (HK.out ()).mono ?_
  rintro e w1 ⟨u, E, rfl, hE, hu, hn, hb⟩
  have HW := Lib.hid hb
  have HU := Lib.hid hu
  have HE := Lib.hid hE
  clear hb hu hE
  by_cases h0 : E = 0
  · obtain ⟨g, hug, hg, hr⟩ := HU.out h0
    have hz : R.2 = 0 := by rw [← HE.out]; exact h0
    have hlen := HR.out hz
    rw [hlen] at hug hr
    have HZ := Lib.hid hz
    have HG := Lib.hid hg
    have HROW := Lib.hid hr
    clear hg hr hz hn HU HE
    subst h0 hug
    go_wp2_with fail
    go_loopw [22] (fun t wr => ∃ j : Nat, j ≤ L.length ∧ t = .int .i64 j ∧ Hid ((∀ i, i < j → ∀ y, L[i]? = some y → (owesR y).2 = 0) ∧ wr.rowIs g 2 L.length (cut R.1 L j) ∧ Below w.heap.size w wr)) (fun t _ => L.length - (intOf t).toNat)
    case atStart => exact ⟨0, Nat.zero_le _, rfl, fun i hi => absurd hi (Nat.not_lt_zero _), HROW.out.congr fun i _ => by unfold cut rowP; rw [if_neg (Nat.not_lt_zero _)], HW.out⟩
    case round =>
      obtain ⟨j, hj, rfl, HX⟩ := hrel
      rename_i wr
      clear HROW HW
      by_cases hlt : j < L.length
      · obtain ⟨b, off, k', e0, hb, -⟩ := HV.out.open (by omega)
        injection e0 with e0 _ e2
        subst e0 e2
        obtain ⟨x, hx⟩ : ∃ x, L[j]? = some x := ⟨_, List.getElem?_eq_getElem hlt⟩
        have HM : Hid (wr.rangeAt b (off + j * 13) x.cells.toList) := range_keep (HV.out.at_ hx) (HX.out.2.2.mono HB.out) hb
        have HS := Lib.hid (ln_info' x)
        have KO := Lib.hid (fun W => c_owes x W)
        by_cases he : (owesR x).2 = 0
        · have HE : Hid (∀ i, i < j + 1 → ∀ y, L[i]? = some y → (owesR y).2 = 0) := fun i hi y hy => by
            by_cases hij : i = j
            · subst hij
              rw [hx] at hy
              injection hy with hy
              rw [← hy]; exact he
            · exact HX.out.1 i (by omega) y hy
          have HU := Lib.hid (cut_step (A := R.1) hx)
          have t0 : ((owesR x).2 != 0) = false := by rw [he]; rfl
          have HP : Hid (cut R.1 L j j = .int .i64 (R.1.getD j 0)) := by show _ = _; unfold cut; rw [if_neg (Nat.lt_irrefl _)]
          clear he hx
          generalize (owesR x).2 = oe at *
          obtain ⟨q, hq⟩ : ∃ q, lessI (R.1.getD j 0) (owesR x).1 = q := ⟨_, rfl⟩
          rw [hq] at HU
          unfold lessI at hq
          generalize (owesR x).1 = ov at *
          generalize R.1.getD j 0 = av at *
          generalize x.cells = C at *
          go_upto_region 10 with (first
            | (refine load_mid_want (by rfl) 23 _ rfl _ _ rfl C _ HM.out Tryz.underlying23 rfl HS.out ?_)
            | (go_at_call 82; (with_reducible refine (KO.out _).mono ?_); rintro e y ⟨rfl, hb⟩; have HY : Hid (y.rowIs g 2 L.length (cut R.1 L j) ∧ Below w.heap.size w y) := ⟨HX.out.2.1.of_block (hb.block _ HX.out.2.1.lt), below_to HX.out.2.2 hb⟩; clear hb))
          have hp := HY.out.1.cell hlt
          rw [HP.out] at hp
          have hf := HY.out.1.frozen j
          go_wp2_with fail
          go_roundw
          case rel => exact ⟨j + 1, by omega, rfl, HE.out, (HY.out.1.set j _).congr fun i _ => (HU.out i).symm, HY.out.2.setCell HG.out _⟩
          case measure => simp [intOf]; omega
        · have HE : Hid ((owesR x).2 = (capR R L).2) := by
            have hz := errs_at hx (fun i hi y hy => HX.out.1 i hi y hy) he
            show _ = _
            unfold capR
            rw [if_pos HZ.out, if_neg (by rw [hz]; exact he), hz]
          have HNE := Lib.hid he
          have t0 : ((owesR x).2 != 0) = true := by rw [bne_iff_ne]; exact he
          clear hx he
          generalize (owesR x).2 = oe at *
          generalize (owesR x).1 = ov at *
          generalize x.cells = C at *
          go_wp2_with (first
            | (refine load_mid_want (by rfl) 23 _ rfl _ _ rfl C _ HM.out Tryz.underlying23 rfl HS.out ?_)
            | (go_at_call 82; (with_reducible refine (KO.out _).mono ?_); rintro e y ⟨rfl, hb⟩; have HY : Hid (Below w.heap.size w y) := below_to HX.out.2.2 hb; clear hb))
          go_ret2
          exact ⟨_, _, rfl, HE.out, fun h => absurd h HNE.out, fun _ => rfl, HY.out⟩
      · obtain rfl : j = L.length := by omega
        have HE : Hid (capR R L = (lessV R.1 L, 0)) := by
          show _ = _
          unfold capR
          rw [if_pos HZ.out, if_pos (errs_all HX.out.1)]
        go_wp2_with fail
        go_ret2
        exact ⟨_, 0, rfl, by rw [HE.out], fun _ => by rw [HE.out]; exact cut_end HG.out HX.out.2.1, fun h => absurd rfl h, HX.out.2.2⟩
  · have HE2 : Hid (E = (capR R L).2) := by
      show _ = _
      unfold capR
      rw [if_neg (by rw [← HE.out]; exact h0)]
      exact HE.out
    have t0 : (E != 0) = true := by rw [bne_iff_ne]; exact h0
    have HN0 := Lib.hid h0
    clear h0 HE HU
    have hu := hn HN0.out
    subst hu
    clear hn
    go_wp2_with fail
    go_ret2
    exact ⟨_, _, rfl, HE2.out, fun h => absurd h HN0.out, fun _ => rfl, HW.out⟩
set_option maxRecDepth 20000 in
set_option maxHeartbeats 2000000 in
theorem capped_q (R : (Nat → Nat) → List Int × Int) (FT : (Nat → Nat) → Prop) (L : List Ln) (v : Value) (B p1 p2 : Nat) (w : World) (hB : B ≤ w.heap.size) (hv : Lns w B v L) (hN : L.length ≤ 1000) (hR : ∀ Q, (R Q).2 = 0 → (R Q).1.length = L.length)
    (hK : Calls Tryz.prog 38 #[v, .pointer (some ⟨p1, 0, none⟩), .pointer (some ⟨p2, 0, none⟩)] w (fun e w' => ∃ Q, FT Q ∧ Told (R Q) w e w')) :
    Calls Tryz.prog 40 #[.func (.func 38) #[] #[.pointer (some ⟨p1, 0, none⟩), .pointer (some ⟨p2, 0, none⟩)], v] w (fun e w' => ∃ Q, FT Q ∧ Told (capR (R Q) L) w e w') := by
  obtain ⟨A, k, rfl⟩ := hv.shape
  have HV : Hid (Lns w B (.slice A L.length k) L) := hv
  have HB := Lib.hid hB
  have HK := Lib.hid (fun (_ : Unit) => hK)
  have HN := Lib.hid hN
  have HR := Lib.hid hR
  clear hv hB hK hR
  go_enter Tryz.func40, Tryz.ntmps40
  go_wp2_with fail
  refine (HK.out ()).mono ?_
  rintro e w1 ⟨Q, hq, u, E, rfl, hE, hu, hn, hb⟩
  have HQ := Lib.hid hq
  clear hq
  have HW := Lib.hid hb
  have HU := Lib.hid hu
  have HE := Lib.hid hE
  clear hb hu hE
  by_cases h0 : E = 0
  · obtain ⟨g, hug, hg, hr⟩ := HU.out h0
    have hz : (R Q).2 = 0 := by rw [← HE.out]; exact h0
    have hlen := HR.out Q hz
    rw [hlen] at hug hr
    have HZ := Lib.hid hz
    have HG := Lib.hid hg
    have HROW := Lib.hid hr
    clear hg hr hz hn HU HE
    subst h0 hug
    go_wp2_with fail
    go_loopw [22] (fun t wr => ∃ j : Nat, j ≤ L.length ∧ t = .int .i64 j ∧ Hid ((∀ i, i < j → ∀ y, L[i]? = some y → (owesR y).2 = 0) ∧ wr.rowIs g 2 L.length (cut (R Q).1 L j) ∧ Below w.heap.size w wr)) (fun t _ => L.length - (intOf t).toNat)
    case atStart => exact ⟨0, Nat.zero_le _, rfl, fun i hi => absurd hi (Nat.not_lt_zero _), HROW.out.congr fun i _ => by unfold cut rowP; rw [if_neg (Nat.not_lt_zero _)], HW.out⟩
    case round =>
      obtain ⟨j, hj, rfl, HX⟩ := hrel
      rename_i wr
      clear HROW HW
      by_cases hlt : j < L.length
      · obtain ⟨b, off, k', e0, hb, -⟩ := HV.out.open (by omega)
        injection e0 with e0 _ e2
        subst e0 e2
        obtain ⟨x, hx⟩ : ∃ x, L[j]? = some x := ⟨_, List.getElem?_eq_getElem hlt⟩
        have HM : Hid (wr.rangeAt b (off + j * 13) x.cells.toList) := range_keep (HV.out.at_ hx) (HX.out.2.2.mono HB.out) hb
        have HS := Lib.hid (ln_info' x)
        have KO := Lib.hid (fun W => c_owes x W)
        by_cases he : (owesR x).2 = 0
        · have HE : Hid (∀ i, i < j + 1 → ∀ y, L[i]? = some y → (owesR y).2 = 0) := fun i hi y hy => by
            by_cases hij : i = j
            · subst hij
              rw [hx] at hy
              injection hy with hy
              rw [← hy]; exact he
            · exact HX.out.1 i (by omega) y hy
          have HU := Lib.hid (cut_step (A := (R Q).1) hx)
          have t0 : ((owesR x).2 != 0) = false := by rw [he]; rfl
          have HP : Hid (cut (R Q).1 L j j = .int .i64 ((R Q).1.getD j 0)) := by show _ = _; unfold cut; rw [if_neg (Nat.lt_irrefl _)]
          clear he hx
          generalize (owesR x).2 = oe at *
          obtain ⟨q, hq⟩ : ∃ q, lessI ((R Q).1.getD j 0) (owesR x).1 = q := ⟨_, rfl⟩
          rw [hq] at HU
          unfold lessI at hq
          generalize (owesR x).1 = ov at *
          generalize (R Q).1.getD j 0 = av at *
          generalize x.cells = C at *
          go_upto_region 10 with (first
            | (refine load_mid_want (by rfl) 23 _ rfl _ _ rfl C _ HM.out Tryz.underlying23 rfl HS.out ?_)
            | (go_at_call 82; (with_reducible refine (KO.out _).mono ?_); rintro e y ⟨rfl, hb⟩; have HY : Hid (y.rowIs g 2 L.length (cut (R Q).1 L j) ∧ Below w.heap.size w y) := ⟨HX.out.2.1.of_block (hb.block _ HX.out.2.1.lt), below_to HX.out.2.2 hb⟩; clear hb))
          have hp := HY.out.1.cell hlt
          rw [HP.out] at hp
          have hf := HY.out.1.frozen j
          go_wp2_with fail
          go_roundw
          case rel => exact ⟨j + 1, by omega, rfl, HE.out, (HY.out.1.set j _).congr fun i _ => (HU.out i).symm, HY.out.2.setCell HG.out _⟩
          case measure => simp [intOf]; omega
        · have HE : Hid ((owesR x).2 = (capR (R Q) L).2) := by
            have hz := errs_at hx (fun i hi y hy => HX.out.1 i hi y hy) he
            show _ = _
            unfold capR
            rw [if_pos HZ.out, if_neg (by rw [hz]; exact he), hz]
          have HNE := Lib.hid he
          have t0 : ((owesR x).2 != 0) = true := by rw [bne_iff_ne]; exact he
          clear hx he
          generalize (owesR x).2 = oe at *
          generalize (owesR x).1 = ov at *
          generalize x.cells = C at *
          go_wp2_with (first
            | (refine load_mid_want (by rfl) 23 _ rfl _ _ rfl C _ HM.out Tryz.underlying23 rfl HS.out ?_)
            | (go_at_call 82; (with_reducible refine (KO.out _).mono ?_); rintro e y ⟨rfl, hb⟩; have HY : Hid (Below w.heap.size w y) := below_to HX.out.2.2 hb; clear hb))
          go_ret2
          exact ⟨Q, HQ.out, _, _, rfl, HE.out, fun h => absurd h HNE.out, fun _ => rfl, HY.out⟩
      · obtain rfl : j = L.length := by omega
        have HE : Hid (capR (R Q) L = (lessV (R Q).1 L, 0)) := by
          show _ = _
          unfold capR
          rw [if_pos HZ.out, if_pos (errs_all HX.out.1)]
        go_wp2_with fail
        go_ret2
        exact ⟨Q, HQ.out, _, 0, rfl, by rw [HE.out], fun _ => by rw [HE.out]; exact cut_end HG.out HX.out.2.1, fun h => absurd rfl h, HX.out.2.2⟩
  · have HE2 : Hid (E = (capR (R Q) L).2) := by
      show _ = _
      unfold capR
      rw [if_neg (by rw [← HE.out]; exact h0)]
      exact HE.out
    have t0 : (E != 0) = true := by rw [bne_iff_ne]; exact h0
    have HN0 := Lib.hid h0
    clear h0 HE HU
    have hu := hn HN0.out
    subst hu
    clear hn
    go_wp2_with fail
    go_ret2
    exact ⟨Q, HQ.out, _, _, rfl, HE2.out, fun h => absurd h HN0.out, fun _ => rfl, HW.out⟩
end Go.Proofs.YtkddiaiohnbjpaaGreatDoor.Plan
