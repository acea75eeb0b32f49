/- Opened again and again it tells the same; of what was on the disk ahead of Format nothing is read behind it. For all texts. -/
import Derived.Test.YtdnodampmpdfbaaGA
import Derived.Test.YtdnodampmpdfbaaJournKeep
import Derived.Deep.RegionHeld3
import Derived.Deep.DeepCutAuto
import Derived.Deep.CutBlock
import Derived.ChangeMaps5
namespace Go.Proofs.Ytdnodampmpdfbaa.Law
open Go.ChangeShapes Go.WideShapes Go.ChangeAt Go.RowKit Go.Deep Els Go.Proofs.Ytdnodampmpdfbaa.Frame Disk Jour Slice

set_option maxRecDepth 20000 in
set_option maxHeartbeats 16000000 in
theorem journal_again (elder recs : List ByteArray) (v0 v1 : Value) (w : World) (hv0 : Txts w w.heap.size v0 elder) (hv1 : Txts w w.heap.size v1 recs) :
    Calls Try.prog 4 #[v0, v1] w fun e w' => e = .returned (.bool true) ∧ Below w.heap.size w w' := by
  obtain ⟨A0, c0, rfl, hn0, -, hc0⟩ := hv0
  obtain ⟨A1, c1, rfl, hn1, -, hc1⟩ := hv1
  have HC0 := Lib.hid hc0
  have HC1 := Lib.hid hc1
  clear hc0 hc1
  have NW := Lib.hid (l_new 120 w w (Below.refl _ _) (by decide) (by decide))
  have FM : Hid (∀ W g b, LD w W g b (newD 120) → Calls Try.prog 9 #[.pointer (some ⟨g, 0, none⟩), .string ⟨#[101, 108, 100, 101, 114]⟩] W fun e w' => ∃ gj' V' q' j' m', e = .returned (.tuple #[.pointer (some ⟨gj', 0, none⟩), .int .i64 0]) ∧ KU w w' 120 true gj' g b V' q' j' (.slice none 0 0) [] m' 0) := fun W g b h =>
    (ku_first (K := 120) (s := ⟨#[101, 108, 100, 101, 114]⟩) (by decide) (by decide) (by decide) (by decide) h).mono fun e w' kk => by
      obtain ⟨gj', V', q', j', m', k1, -, -, k4⟩ := kk
      exact ⟨gj', V', q', j', m', k1, k4⟩
  have FM2 : Hid (∀ (W : World) (gj g b : Nat) (V : Value) (q : DSt) (j : JSt) (m i : Nat), i ≤ 30 → KU w W 120 true gj g b V q j (.slice none 0 0) [] m i → Calls Try.prog 9 #[.pointer (some ⟨g, 0, none⟩), .string ⟨#[]⟩] W fun e w' => ∃ gj' V' q' j' m', e = .returned (.tuple #[.pointer (some ⟨gj', 0, none⟩), .int .i64 0]) ∧ j'.base = ⟨#[]⟩ ∧ j'.recs = [] ∧ KU w w' 120 false gj' g b V' q' j' (.slice none 0 0) [] m' 31) := fun W gj g b V q j m i hi h =>
    (ku_format (s := ⟨#[]⟩) h (by omega) (by decide) (by decide)).mono fun e w' kk => by
      obtain ⟨gj', V', q', j', m', k1, k2, k3, k4⟩ := kk
      exact ⟨gj', V', q', j', m', k1, k2, k3, k4.later 31 (by omega)⟩
  have RC : Hid (∀ (W : World) (K : Nat) (ao : Bool) (gj g b : Nat) (V : Value) (q : DSt) (j : JSt) (V8 : Value) (rs : List ByteArray) (m i : Nat), KU w W K ao gj g b V q j V8 rs m i → Calls Try.prog 19 #[.pointer (some ⟨gj, 0, none⟩)] W fun e w' => ∃ A n c, e = .returned (.slice A n c) ∧ KU w w' K ao gj g b V q j V8 rs m i ∧ Txts w' w'.heap.size (.slice A n c) j.recs) := fun W K ao gj g b V q j V8 rs m i h =>
    (ku_records h).mono fun e w' kk => by
      obtain ⟨A, n, c, k1, k2, k3, -⟩ := kk
      exact ⟨A, n, c, k1, k2, Els.of_own (l := j.recs) rfl k3⟩
  have TX : Hid (∀ (W : World) (K : Nat) (ao : Bool) (gj g b : Nat) (V : Value) (q : DSt) (j : JSt) (V8 : Value) (rs : List ByteArray) (m i : Nat) (v : Value), KU w W K ao gj g b V q j V8 rs m i → Txts W W.heap.size v rs → Calls Try.prog 18 #[v, V8] W fun e w' => e = .returned (.bool true) ∧ KU w w' K ao gj g b V q j V8 rs m i) := fun W K ao gj g b V q j V8 rs m i v h hx => ku_texts h hx
  go_enter Try.func4, Try.ntmps4
  go_wp2_with fail
  refine NW.out.mono ?_
  rintro e w1 ⟨g, b, rfl, h1, -⟩
  have H1 := Lib.hid h1
  clear h1 NW
  go_wp2_with fail
  refine (FM.out _ _ _ H1.out).mono ?_
  rintro e w2 ⟨gj0, V0, q0, j0, m0, rfl, h2⟩
  have H2 := Lib.hid h2
  clear h2 H1 FM
  by_cases h30 : 30 < elder.length
  · have t1 : decide ((30 : Int) < elder.length) = true := decide_eq_true (by omega)
    go_wp2_with fail
    refine (wakes_journal _).mono ?_
    rintro e w9 ⟨rfl, hb⟩
    have B9 := Lib.hid (H2.out.lj.below.trans (hb.mono H2.out.lj.below.size))
    clear hb
    go_wp2_with fail
    go_ret
    exact ⟨rfl, B9.out⟩
  have t1 : decide ((30 : Int) < elder.length) = false := decide_eq_false (by omega)
  by_cases h20 : 20 < recs.length
  · have t2 : decide ((20 : Int) < recs.length) = true := decide_eq_true (by omega)
    go_wp2_with fail
    refine (wakes_journal _).mono ?_
    rintro e w9 ⟨rfl, hb⟩
    have B9 := Lib.hid (H2.out.lj.below.trans (hb.mono H2.out.lj.below.size))
    clear hb
    go_wp2_with fail
    go_ret
    exact ⟨rfl, B9.out⟩
  have t2 : decide ((20 : Int) < recs.length) = false := decide_eq_false (by omega)
  go_wp2_with fail
  go_loopw [9] (fun s9 wr => ∃ (i : Nat) (V : Value) (q : DSt) (j : JSt) (m : Nat), i ≤ elder.length ∧ s9 = .int .i64 i ∧ Hid (KU w wr 120 true gj0 g b V q j (.slice none 0 0) [] m i)) (fun s9 _ => elder.length - (intOf s9).toNat)
  case atStart => exact ⟨0, V0, q0, j0, m0, by omega, rfl, H2.out⟩
  case round =>
    clear H2
    obtain ⟨i, V, q, j, m, hi, rfl, H⟩ := hrel
    by_cases hlt : i < elder.length
    · have t3 : decide (i < elder.length) = true := decide_eq_true hlt
      have t3' : decide ((i : Int) < elder.length) = true := decide_eq_true (by omega)
      obtain ⟨b0, off, rfl, hb0, hx⟩ := HC0.out (by omega)
      obtain ⟨x, hx0⟩ : ∃ x, elder[i]? = some x := ⟨_, List.getElem?_eq_getElem hlt⟩
      have hcx := hx i x hx0
      have cx := (H.out.lj.below.cell (p := ⟨b0, off + i, none⟩) hb0).trans hcx
      have h0 : (0 : Int) ≤ i := by omega
      clear hx hx0 hcx
      by_cases hxs : x.size ≤ 2000
      · have t4 : decide ((2000 : Int) < x.size) = false := decide_eq_false (by omega)
        have HXS : Hid (x.size ≤ 60000) := show x.size ≤ 60000 by omega
        have r5 : Int.tmod (i : Int) 5 = ((i % 5 : Nat) : Int) := rfl
        obtain ⟨y, hy⟩ : ∃ y, i % 5 = y := ⟨_, rfl⟩
        rw [hy] at r5
        clear hy hxs
        by_cases hy2 : y = 2
        · subst hy2
          go_wp2_with fail
          refine (ku_save H.out (by omega) HXS.out).mono ?_
          rintro e w3 ⟨er, rfl, hcase⟩
          have hk : ∃ V q j m, KU w w3 120 true gj0 g b V q j (.slice none 0 0) [] m (i + 1) := by
            rcases hcase with ⟨-, V', q', j', m', -, -, -, h⟩ | ⟨-, -, V', h⟩
            · exact ⟨_, _, _, _, h⟩
            · exact ⟨_, _, _, _, h⟩
          obtain ⟨V2, q2, j2, m2, h3⟩ := hk
          have H3 := Lib.hid h3
          clear h3 hcase H cx
          go_wp2_with fail
          go_roundw
          case rel => exact ⟨i + 1, V2, q2, j2, m2, by omega, by go_num, H3.out⟩
          case measure => simp [intOf]; omega
        · have t5 : ((y : Int) == (2 : Int)) = false := by rw [beq_eq_false_iff_ne]; omega
          have t5' : decide (y = 2) = false := decide_eq_false hy2
          have t5'' : decide ((y : Int) = 2) = false := decide_eq_false (by omega)
          go_wp2_with fail
          refine (ku_append H.out (by omega) HXS.out).mono ?_
          rintro e w3 ⟨er, rfl, hcase⟩
          have hk : ∃ V q j m, KU w w3 120 true gj0 g b V q j (.slice none 0 0) [] m (i + 1) := by
            rcases hcase with ⟨-, V', q', j', m', -, -, -, h⟩ | ⟨-, V', h⟩
            · exact ⟨_, _, _, _, h⟩
            · exact ⟨_, _, _, _, h⟩
          obtain ⟨V2, q2, j2, m2, h3⟩ := hk
          have H3 := Lib.hid h3
          clear h3 hcase H cx
          go_wp2_with fail
          go_roundw
          case rel => exact ⟨i + 1, V2, q2, j2, m2, by omega, by go_num, H3.out⟩
          case measure => simp [intOf]; omega
      · have t4 : decide ((2000 : Int) < x.size) = true := decide_eq_true (by omega)
        go_wp2_with fail
        refine (wakes_journal _).mono ?_
        rintro e w9 ⟨rfl, hb⟩
        have B9 := Lib.hid (H.out.lj.below.trans (hb.mono H.out.lj.below.size))
        clear hb
        go_wp2_with fail
        go_ret
        exact ⟨rfl, B9.out⟩
    · obtain rfl : i = elder.length := by omega
      have t3 : decide (elder.length < elder.length) = false := decide_eq_false (by omega)
      have t3' : decide ((elder.length : Int) < elder.length) = false := decide_eq_false (by omega)
      go_wp2_with fail
      refine (FM2.out _ _ _ _ _ _ _ _ _ (by omega) H.out).mono ?_
      rintro e w4 ⟨gj4, V4, q4, j4, m4, rfl, hb4, hr4, h4⟩
      have HS0 : Hid (KU w w4 120 false gj4 g b V4 q4 j4 (.slice none 0 0) j4.recs m4 (31 + 0) ∧ j4.base = ⟨#[]⟩ ∧ 0 = j4.recs.length) := show _ from ⟨by rw [hr4]; exact h4, hb4, by rw [hr4]; rfl⟩
      clear hb4 hr4 h4 H FM2 t3 t3' hlt
      go_wp2_with fail
      go_loopw [7, 10, 11] (fun s7 s10 s11 wr => ∃ (i gj : Nat) (V : Value) (q : DSt) (j : JSt) (m : Nat) (A8 : Option Addr) (k8 c8 : Nat), i ≤ recs.length ∧ s7 = .pointer (some ⟨gj, 0, none⟩) ∧ s10 = .slice A8 k8 c8 ∧ s11 = .int .i64 i ∧ Hid (j.base = ⟨#[]⟩) ∧ Hid (k8 = j.recs.length) ∧ Hid (KU w wr 120 false gj g b V q j (.slice A8 k8 c8) j.recs m (31 + i))) (fun _ _ s11 _ => recs.length - (intOf s11).toNat)
      case atStart => exact ⟨0, gj4, V4, q4, j4, m4, none, 0, 0, by omega, rfl, rfl, rfl, HS0.out.2.1, HS0.out.2.2, HS0.out.1⟩
      case round =>
        clear HS0
        obtain ⟨i, gj, V, q, j, m, A8, k8, c8, hi, rfl, rfl, rfl, HB0, HL8, H⟩ := hrel
        by_cases hlt : i < recs.length
        · have t3 : decide (i < recs.length) = true := decide_eq_true hlt
          have t3' : decide ((i : Int) < recs.length) = true := decide_eq_true (by omega)
          obtain ⟨b1, off1, rfl, hb1, hx⟩ := HC1.out (by omega)
          obtain ⟨x, hx0⟩ : ∃ x, recs[i]? = some x := ⟨_, List.getElem?_eq_getElem hlt⟩
          have hcx := hx i x hx0
          have HX : Hid (∀ W, Below w.heap.size w W → W.cell? ⟨b1, off1 + i, none⟩ = some (.string x)) := fun W hW => (hW.cell (p := ⟨b1, off1 + i, none⟩) hb1).trans hcx
          have cx := HX.out _ H.out.lj.below
          have h0 : (0 : Int) ≤ i := by omega
          clear hx hx0 hcx
          by_cases hxs : x.size ≤ 2000
          · have t4 : decide ((2000 : Int) < x.size) = false := decide_eq_false (by omega)
            have HXS : Hid (x.size ≤ 60000) := show x.size ≤ 60000 by omega
            clear hxs
            go_wp2_with fail
            refine (ku_append H.out (by omega) HXS.out).mono ?_
            rintro e w4 ⟨er, rfl, hcase⟩
            clear cx
            rcases hcase with ⟨rfl, V2, q2, j2, m2, e1, e2, e3, h4⟩ | ⟨rfl, V2, h4⟩
            · have cx := HX.out _ h4.lj.below
              have HB := Lib.hid (e1.trans HB0.out)
              have hrl : j.recs.length ≤ 5000 := H.out.few
              have OW := Lib.hid h4.own
              have GR : Hid (∀ W' V8', W'.ownsRow w.heap.size 9 1 V8' (j.recs.length + 1) (j.recs.map Value.string ++ [.string x]) → w4.grownBy W' (Value.slice A8 k8 c8).ownBlock → (∀ k, V8'.ownBlock = some k → (Value.slice A8 k8 c8).ownBlock = some k ∨ w4.heap.size ≤ k) → KU w W' 120 false gj g b V2 q2 j2 V8' j2.recs m2 (31 + (i + 1))) := fun W' V8' ho hg hv => by
                have ho' : W'.ownsRow w.heap.size 9 1 V8' (j.recs ++ [x]).length ((j.recs ++ [x]).map Value.string) := by rw [List.length_append, List.map_append]; exact ho
                rw [e2]; exact h4.grow hg ho' hv
              have HRL : Hid (j.recs.length + 1 = j2.recs.length) := show _ = _ from by rw [e2, List.length_append]; rfl
              have HBS := Lib.hid h4.lj.below.size
              clear e1 e2 e3 h4 H
              obtain ⟨ji, hi0, hi1, hi2, hi3⟩ := Frame.str_info
              have HJ0 := Lib.hid hi0
              have HZ0 := Lib.hid hi1
              have HZ1 := Lib.hid hi2
              have HZ2 := Lib.hid hi3
              clear hi0 hi1 hi2 hi3
              generalize hrr : j.recs = rs at *
              go_upto_region 27 with (first
                | (at_builtin
                   refine wpList_append_more rfl (.tmp 120) (.tmp 125) _ rfl w.heap.size 9 ji (.string ⟨#[]⟩) 16 Try.underlying22 HJ0.out HZ0.out HZ1.out HZ2.out rfl w4 9 (.string x) rfl (.slice A8 k8 c8) rs.length _ rfl OW.out w4.heap.size rfl rfl (by unfold maxLen; omega) (by omega) HBS.out ?_
                   intro v' w' ho hgr hvv
                   have H4 := Lib.hid (GR.out _ _ ho hgr hvv)
                   obtain ⟨k9, hk9⟩ : ∃ k9, rs.length + 1 = k9 := ⟨_, rfl⟩
                   have HL9 := Lib.hid (hk9.symm.trans HRL.out)
                   rw [hk9] at ho
                   obtain ⟨A9, c9, rfl⟩ := Slice.own_slice ho
                   clear ho hgr hvv cx hk9))
              go_wp2_with fail
              obtain ⟨n1, hn1⟩ : ∃ n1, j2.next = n1 := ⟨_, rfl⟩
              have HN1 := Lib.hid hn1
              clear hn1
              obtain ⟨L1, hL1⟩ : ∃ L1, leftN q2 j2 = L1 := ⟨_, rfl⟩
              have HL1 := Lib.hid hL1
              clear hL1
              have f0 : ((n1 : Int) != (n1 : Int)) = false := bne_self_eq_false _
              have f1 : (L1 != L1) = false := bne_self_eq_false _
              have NX : Hid (∀ (W : World) (gj : Nat) (V : Value) (i : Nat), KU w W 120 false gj g b V q2 j2 (.slice A9 k9 c9) j2.recs m2 i → Calls Try.prog 20 #[.pointer (some ⟨gj, 0, none⟩)] W fun e w' => e = .returned (.int .u32 (n1 : Nat)) ∧ W = w') := fun W gj V i h => by have := ku_next h; rwa [HN1.out] at this
              have LF : Hid (∀ (W : World) (gj : Nat) (V : Value) (i : Nat), KU w W 120 false gj g b V q2 j2 (.slice A9 k9 c9) j2.recs m2 i → Calls Try.prog 21 #[.pointer (some ⟨gj, 0, none⟩)] W fun e w' => e = .returned (.int .i64 L1) ∧ KU w w' 120 false gj g b V q2 j2 (.slice A9 k9 c9) j2.recs m2 i) := fun W gj V i h => by have := ku_left h; rwa [HL1.out] at this
              have BS : Hid (∀ (W : World) (gj : Nat) (V : Value) (i : Nat), KU w W 120 false gj g b V q2 j2 (.slice A9 k9 c9) j2.recs m2 i → Calls Try.prog 17 #[.pointer (some ⟨gj, 0, none⟩)] W fun e w' => e = .returned (.string ⟨#[]⟩) ∧ KU w w' 120 false gj g b V q2 j2 (.slice A9 k9 c9) j2.recs m2 i) := fun W gj V i h => by have := ku_base h; rwa [HB.out] at this
              go_loopw [7, 13] (fun s7 s13 wr => ∃ (k gj : Nat) (V : Value), k ≤ 2 ∧ s7 = .pointer (some ⟨gj, 0, none⟩) ∧ s13 = .int .i64 k ∧ Hid (KU w wr 120 false gj g b V q2 j2 (.slice A9 k9 c9) j2.recs m2 (31 + (i + 1)))) (fun _ s13 _ => 2 - (intOf s13).toNat)
              case atStart => exact ⟨0, _, V2, by omega, rfl, rfl, H4.out⟩
              case round =>
                clear H4
                obtain ⟨k, gj3, V3, hk, rfl, rfl, H⟩ := hrel
                by_cases hk2 : k < 2
                · have t7 : decide ((k : Int) < 2) = true := decide_eq_true (by omega)
                  go_wp2_with fail
                  refine (NX.out _ _ _ _ H.out).mono ?_
                  rintro e w3 ⟨rfl, rfl⟩
                  go_wp2_with fail
                  refine (LF.out _ _ _ _ H.out).mono ?_
                  rintro e w4 ⟨rfl, h4⟩
                  have G4 := Lib.hid h4
                  clear h4 H
                  go_wp2_with fail
                  refine (ku_open G4.out).mono ?_
                  rintro e w5 ⟨gj5, V5, rfl, h5⟩
                  have G5 := Lib.hid h5
                  clear h5 G4
                  go_wp2_with fail
                  refine (BS.out _ _ _ _ G5.out).mono ?_
                  rintro e w6 ⟨rfl, h6⟩
                  have G6 := Lib.hid h6
                  clear h6 G5
                  go_wp2_with fail
                  refine (RC.out _ _ _ _ _ _ _ _ _ _ _ _ _ G6.out).mono ?_
                  rintro e w7 ⟨A7, n7, c7, rfl, h7, t7⟩
                  have G7 := Lib.hid h7
                  have T7 := Lib.hid t7
                  clear h7 t7 G6
                  go_wp2_with fail
                  refine (TX.out _ _ _ _ _ _ _ _ _ _ _ _ _ _ G7.out T7.out).mono ?_
                  rintro e w8 ⟨rfl, h8⟩
                  have G8 := Lib.hid h8
                  clear h8 G7 T7
                  go_wp2_with fail
                  refine (NX.out _ _ _ _ G8.out).mono ?_
                  rintro e w9 ⟨rfl, rfl⟩
                  go_wp2_with fail
                  refine (LF.out _ _ _ _ G8.out).mono ?_
                  rintro e w9 ⟨rfl, h9⟩
                  have G9 := Lib.hid h9
                  clear h9 G8
                  go_wp2_with fail
                  go_roundw
                  case rel => exact ⟨k + 1, gj5, V5, by omega, rfl, by go_num, G9.out⟩
                  case measure => simp [intOf]; omega
                · obtain rfl : k = 2 := by omega
                  have t7 : decide (((2 : Nat) : Int) < 2) = false := rfl
                  go_wp2_with fail
                  go_roundw
                  case rel => exact ⟨i + 1, gj3, V3, q2, j2, m2, A9, k9, c9, by omega, rfl, rfl, by go_num, HB.out, HL9.out, H.out⟩
                  case measure => simp [intOf]; omega
            · have cx := HX.out _ h4.lj.below
              have H4 : Hid (KU w w4 120 false gj g b V2 q j (.slice A8 k8 c8) j.recs m (31 + (i + 1))) := h4
              have HB := HB0
              have HL9 := HL8
              clear h4 H HB0 HL8
              generalize hq2 : q = q2 at *
              generalize hj2 : j = j2 at *
              generalize hm2 : m = m2 at *
              generalize hA9 : A8 = A9 at *
              generalize hk9 : k8 = k9 at *
              generalize hc9 : c8 = c9 at *
              clear hq2 hj2 hm2 hA9 hk9 hc9
              go_wp2_with fail
              obtain ⟨n1, hn1⟩ : ∃ n1, j2.next = n1 := ⟨_, rfl⟩
              have HN1 := Lib.hid hn1
              clear hn1
              obtain ⟨L1, hL1⟩ : ∃ L1, leftN q2 j2 = L1 := ⟨_, rfl⟩
              have HL1 := Lib.hid hL1
              clear hL1
              have f0 : ((n1 : Int) != (n1 : Int)) = false := bne_self_eq_false _
              have f1 : (L1 != L1) = false := bne_self_eq_false _
              have NX : Hid (∀ (W : World) (gj : Nat) (V : Value) (i : Nat), KU w W 120 false gj g b V q2 j2 (.slice A9 k9 c9) j2.recs m2 i → Calls Try.prog 20 #[.pointer (some ⟨gj, 0, none⟩)] W fun e w' => e = .returned (.int .u32 (n1 : Nat)) ∧ W = w') := fun W gj V i h => by have := ku_next h; rwa [HN1.out] at this
              have LF : Hid (∀ (W : World) (gj : Nat) (V : Value) (i : Nat), KU w W 120 false gj g b V q2 j2 (.slice A9 k9 c9) j2.recs m2 i → Calls Try.prog 21 #[.pointer (some ⟨gj, 0, none⟩)] W fun e w' => e = .returned (.int .i64 L1) ∧ KU w w' 120 false gj g b V q2 j2 (.slice A9 k9 c9) j2.recs m2 i) := fun W gj V i h => by have := ku_left h; rwa [HL1.out] at this
              have BS : Hid (∀ (W : World) (gj : Nat) (V : Value) (i : Nat), KU w W 120 false gj g b V q2 j2 (.slice A9 k9 c9) j2.recs m2 i → Calls Try.prog 17 #[.pointer (some ⟨gj, 0, none⟩)] W fun e w' => e = .returned (.string ⟨#[]⟩) ∧ KU w w' 120 false gj g b V q2 j2 (.slice A9 k9 c9) j2.recs m2 i) := fun W gj V i h => by have := ku_base h; rwa [HB.out] at this
              go_loopw [7, 13] (fun s7 s13 wr => ∃ (k gj : Nat) (V : Value), k ≤ 2 ∧ s7 = .pointer (some ⟨gj, 0, none⟩) ∧ s13 = .int .i64 k ∧ Hid (KU w wr 120 false gj g b V q2 j2 (.slice A9 k9 c9) j2.recs m2 (31 + (i + 1)))) (fun _ s13 _ => 2 - (intOf s13).toNat)
              case atStart => exact ⟨0, _, V2, by omega, rfl, rfl, H4.out⟩
              case round =>
                clear H4
                obtain ⟨k, gj3, V3, hk, rfl, rfl, H⟩ := hrel
                by_cases hk2 : k < 2
                · have t7 : decide ((k : Int) < 2) = true := decide_eq_true (by omega)
                  go_wp2_with fail
                  refine (NX.out _ _ _ _ H.out).mono ?_
                  rintro e w3 ⟨rfl, rfl⟩
                  go_wp2_with fail
                  refine (LF.out _ _ _ _ H.out).mono ?_
                  rintro e w4 ⟨rfl, h4⟩
                  have G4 := Lib.hid h4
                  clear h4 H
                  go_wp2_with fail
                  refine (ku_open G4.out).mono ?_
                  rintro e w5 ⟨gj5, V5, rfl, h5⟩
                  have G5 := Lib.hid h5
                  clear h5 G4
                  go_wp2_with fail
                  refine (BS.out _ _ _ _ G5.out).mono ?_
                  rintro e w6 ⟨rfl, h6⟩
                  have G6 := Lib.hid h6
                  clear h6 G5
                  go_wp2_with fail
                  refine (RC.out _ _ _ _ _ _ _ _ _ _ _ _ _ G6.out).mono ?_
                  rintro e w7 ⟨A7, n7, c7, rfl, h7, t7⟩
                  have G7 := Lib.hid h7
                  have T7 := Lib.hid t7
                  clear h7 t7 G6
                  go_wp2_with fail
                  refine (TX.out _ _ _ _ _ _ _ _ _ _ _ _ _ _ G7.out T7.out).mono ?_
                  rintro e w8 ⟨rfl, h8⟩
                  have G8 := Lib.hid h8
                  clear h8 G7 T7
                  go_wp2_with fail
                  refine (NX.out _ _ _ _ G8.out).mono ?_
                  rintro e w9 ⟨rfl, rfl⟩
                  go_wp2_with fail
                  refine (LF.out _ _ _ _ G8.out).mono ?_
                  rintro e w9 ⟨rfl, h9⟩
                  have G9 := Lib.hid h9
                  clear h9 G8
                  go_wp2_with fail
                  go_roundw
                  case rel => exact ⟨k + 1, gj5, V5, by omega, rfl, by go_num, G9.out⟩
                  case measure => simp [intOf]; omega
                · obtain rfl : k = 2 := by omega
                  have t7 : decide (((2 : Nat) : Int) < 2) = false := rfl
                  go_wp2_with fail
                  go_roundw
                  case rel => exact ⟨i + 1, gj3, V3, q2, j2, m2, A9, k9, c9, by omega, rfl, rfl, by go_num, HB.out, HL9.out, H.out⟩
                  case measure => simp [intOf]; omega
          · have t4 : decide ((2000 : Int) < x.size) = true := decide_eq_true (by omega)
            go_wp2_with fail
            refine (wakes_journal _).mono ?_
            rintro e w9 ⟨rfl, hb⟩
            have B9 := Lib.hid (H.out.lj.below.trans (hb.mono H.out.lj.below.size))
            clear hb
            go_wp2_with fail
            go_ret
            exact ⟨rfl, B9.out⟩
        · obtain rfl : i = recs.length := by omega
          have t3 : decide (recs.length < recs.length) = false := decide_eq_false (by omega)
          have t3' : decide ((recs.length : Int) < recs.length) = false := decide_eq_false (by omega)
          go_wp2_with fail
          refine (wakes_journal _).mono ?_
          rintro e w9 ⟨rfl, hb⟩
          have B9 := Lib.hid (H.out.lj.below.trans (hb.mono H.out.lj.below.size))
          clear hb
          go_wp2_with fail
          go_ret
          exact ⟨rfl, B9.out⟩

set_option maxRecDepth 100000 in
theorem journalAgain_lifted (os : Os) (started : os.Started) (H : Type) (enc : TypeId × Value → H) :
    ReturnsInHanded {} Try.checked os 4 .any (Rows.journalAgainSpec.pre6 enc Try.prog Try.f4 Rows.journalAgainRow.domain false) (Rows.journalAgainSpec.post enc Try.prog Try.f4 false true false false) := by
  refine Shell.law_lifted (C := Try.checked) (tb := 4) (by kernel_rfl) started (by kernel_rfl) Try.func4
    (ChangeSpec.witness6 (enc := enc) (C := Try.checked) false ⟨#[], #[.slice none 0 0, .slice none 0 0], []⟩ 8 (by kernel_rfl) (by kernel_rfl) (by kernel_rfl) (by kernel_rfl))
    (by kernel_rfl) (by kernel_rfl) rfl rfl Try.underlying4 ?_
  intro W base args ds p hval0 hA0
  have hval : ∀ (j : Nat) t v, Try.f4.params[j]? = some t → args[j]? = some v → Value.okWide Try.prog W .any base t v := hval0
  have hA : DataW.TrodAll enc Try.prog W 0 (fun _ => true) true Try.f4.params.toList args.toList ds p := hA0
  clear hval0 hA0
  rw [Try.params4] at hA hval
  obtain ⟨v0, vs0, d0, ds0, p0, q0, hargs, rfl, rfl, h0, r0⟩ := trodAll_cons hA
  obtain ⟨v1, vs1, d1, ds1, p1, q1, rfl, rfl, rfl, h1, r1⟩ := trodAll_cons r0
  obtain ⟨rfl, rfl, rfl⟩ := trodAll_nil r1
  obtain rfl : args = #[v0, v1] := by cases args; simp_all
  refine ⟨rfl, ?_⟩
  obtain ⟨l0, hv0, -⟩ := open_texts Try.underlying22 Try.underlying9 (by kernel_rfl) (hval 0 22 v0 rfl rfl) h0
  obtain ⟨l1, hv1, -⟩ := open_texts Try.underlying22 Try.underlying9 (by kernel_rfl) (hval 1 22 v1 rfl rfl) h1
  exact journal_again l0 l1 v0 v1 W hv0 hv1

theorem journalAgain_over : Rows.journalAgainRow.holds Try.pinned (OpenSpec.ofChange Rows.journalAgainSpec) :=
  OpenClaim.holds_of_wide 4 Try.f4 rfl rfl rfl rfl rfl rfl rfl ⟨rfl, rfl, rfl, rfl, rfl⟩ rfl rfl rfl rfl rfl (by kernel_rfl) Try.func4 (by kernel_rfl)
    (of_decide_eq_true (by kernel_rfl)) (by unfold Func.isWrapper; first | (rw [if_pos (by decide +kernel)]; kernel_rfl) | (rw [if_neg (by decide +kernel)]; exact ⟨rfl, rfl⟩))
    (fun os st H enc _ => journalAgain_lifted os st H enc)

/-- The statement. -/
theorem journalAgain_proved : Rows.JournalAgainSaid := journalAgain_over
end Go.Proofs.Ytdnodampmpdfbaa.Law
