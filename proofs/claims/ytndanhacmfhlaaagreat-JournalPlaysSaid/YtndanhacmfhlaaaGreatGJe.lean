/- The program's own package journal: Open. The program's own package journal: Format. The program's own package journal, as the laws ask it; the first example. The program's own package journal: the first example. -/
import Derived.Test.YtndanhacmfhlaaaGreatGJd
import Derived.Test.YtndanhacmfhlaaaGreatGJm
import Derived.Test.YtndanhacmfhlaaaGreatGFr
namespace Go.Proofs.YtndanhacmfhlaaaGreat.Jour
open Go.ChangeShapes Go.WideShapes Go.ChangeAt Go.RowKit Go.Deep Els Go.Proofs.YtndanhacmfhlaaaGreat.Frame Disk

theorem head_skip {q : DSt} {k top : Nat} (h : headNum (q.S.getD k none_) k ≤ top) : headOk q k top = false := by
  unfold headNum at h
  unfold headOk
  generalize okR [q.S.getD k none_] (numV (q.S.getD k none_)) = y at *
  generalize okR (areaL q k) (numV (q.S.getD k none_)) = z at *
  by_cases h1 : (y && (decide (readS [q.S.getD k none_] (numV (q.S.getD k none_)) = headB k) && decide (numV (q.S.getD k none_) ≤ most))) = true
  · rw [if_pos h1] at h
    simp only [Bool.and_eq_true, decide_eq_true_iff] at h1
    rw [decide_eq_false (show ¬ (numV (q.S.getD k none_) ≤ most ∧ top < numV (q.S.getD k none_)) from fun e => by omega)]
    simp
  · simp only [Bool.and_eq_true, decide_eq_true_iff] at h1
    rw [Bool.eq_false_iff]
    intro h2
    simp only [Bool.and_eq_true, decide_eq_true_iff] at h2
    exact h1 ⟨h2.1, h2.2.1, h2.2.2.2.1⟩
theorem head_take {q : DSt} {k top : Nat} (h : top < headNum (q.S.getD k none_) k) : headNum (q.S.getD k none_) k = numV (q.S.getD k none_) ∧ headOk q k top = okR (areaL q k) (numV (q.S.getD k none_)) ∧ numV (q.S.getD k none_) ≤ most := by
  unfold headNum at h ⊢
  unfold headOk
  by_cases h1 : (okR [q.S.getD k none_] (numV (q.S.getD k none_)) && (decide (readS [q.S.getD k none_] (numV (q.S.getD k none_)) = headB k) && decide (numV (q.S.getD k none_) ≤ most))) = true
  · rw [if_pos h1] at h ⊢
    simp only [Bool.and_eq_true, decide_eq_true_iff] at h1
    obtain ⟨a1, a2, a3⟩ := h1
    refine ⟨rfl, ?_, a3⟩
    rw [a1, decide_eq_true a2, decide_eq_true ⟨a3, h⟩]
    simp
  · rw [if_neg h1] at h
    omega
theorem area_of_sct {w : World} {r : Nat} {q : DSt} {a : Nat} (h : SctAt w r q) (hk : 8 ≤ q.S.length ∧ q.S.length ≤ 4096) (ha : a ≤ 1) : Txts w w.heap.size (.slice (some ⟨r, startD q a, none⟩) (roomD q) (q.S.length - startD q a)) (areaL q a) := by
  obtain ⟨h1, h2, h3⟩ := area_len (q := q) hk.1 ha
  refine ⟨_, _, by rw [h2], by rw [h2]; omega, ⟨fun h => (by cases h), by rw [h2]; omega⟩, fun _ => ⟨r, startD q a, rfl, h.lt, fun i x hi => ?_⟩⟩
  have hlt : i < roomD q := by have := (List.getElem?_eq_some_iff.1 hi).1; rwa [h2] at this
  rw [h.cell (i := startD q a + i) (by omega)]
  unfold areaL at hi
  rw [List.getElem?_take_of_lt hlt, List.getElem?_drop] at hi
  show some (Value.string (q.S.getD (startD q a + i) none_)) = _
  rw [List.getD_eq_getElem?_getD, hi]; rfl
theorem area_mem {q : DSt} {a : Nat} {x : ByteArray} (hz : ∀ i, i < q.S.length → (q.S.getD i none_).size = 256) (h : x ∈ areaL q a) : x.size = 256 := by
  unfold areaL at h
  have h := List.mem_of_mem_drop (List.mem_of_mem_take h)
  obtain ⟨i, hi⟩ := List.mem_iff_getElem?.1 h
  have := hz i (List.getElem?_eq_some_iff.1 hi).1
  rwa [List.getD_eq_getElem?_getD, hi] at this
theorem own_low {w : World} {base n size : Nat} {e : TypeId} {v : Value} {xs : List Value} (h : w.ownsRow base e size v n xs) : w.ownsRow 0 e size v n xs := by
  obtain ⟨hl, ⟨rfl, h0⟩ | ⟨g, cap, cur, rfl, hb, hr⟩⟩ := h
  · exact ⟨hl, Or.inl ⟨rfl, h0⟩⟩
  · exact ⟨hl, Or.inr ⟨g, cap, cur, rfl, Nat.zero_le _, hr⟩⟩
theorem own_base {w : World} {base base' n size : Nat} {e : TypeId} {v : Value} {xs : List Value} (h : w.ownsRow base e size v n xs) (hb : base' ≤ base) : w.ownsRow base' e size v n xs := by
  obtain ⟨hl, ⟨rfl, h0⟩ | ⟨g, cap, cur, rfl, hb', hr⟩⟩ := h
  · exact ⟨hl, Or.inl ⟨rfl, h0⟩⟩
  · exact ⟨hl, Or.inr ⟨g, cap, cur, rfl, Nat.le_trans hb hb', hr⟩⟩
theorem best_lt (q : DSt) : ∀ k, (bestK q k).1 < 4294967296
  | 0 => (by decide : (0 : Nat) < 4294967296)
  | k + 1 => by
    by_cases h : headOk q k (bestK q k).1 = true
    · rw [best_yes h]; exact numV_lt _
    · rw [best_no (by simpa using h)]; exact best_lt q k
theorem headNum_lt (x : ByteArray) (a : Nat) : headNum x a < 4294967296 := by
  unfold headNum
  split
  · exact numV_lt _
  · decide
/-- The best head so far: none, or a journal of the call's own. -/
def BestP (q : DSt) (w W : World) (g : Nat) (T : Value) : Option JSt → Prop
  | none => T = .pointer none
  | some j => ∃ gj V, T = .pointer (some ⟨gj, 0, none⟩) ∧ W.rowIs gj 74 7 (pcell g V (goK q 5000 j)) ∧ W.ownsRow w.heap.size 9 1 V (goK q 5000 j).recs.length ((goK q 5000 j).recs.map Value.string) ∧ w.heap.size ≤ gj ∧ ∀ c, V.ownBlock = some c → gj < c
theorem BestP.keep {q : DSt} {w W W' : World} {g : Nat} {T : Value} {x : Option JSt} (h : BestP q w W g T x) (hk : ∀ i, w.heap.size ≤ i → i < W.heap.size → W'.heap[i]? = W.heap[i]?) : BestP q w W' g T x := by
  cases x with
  | none => exact h
  | some j =>
    obtain ⟨gj, V, h1, h2, h3, h4, h5⟩ := h
    exact ⟨gj, V, h1, h2.of_block (hk gj h4 h2.lt), own_keep h3 (fun c hc => hk c (h3.lt c hc).1 (h3.lt c hc).2), h4, h5⟩
/-- What Open has told. -/
def OpDid (q : DSt) (x : Option JSt × Int) (g b : Nat) (w : World) (e : Ending) (w' : World) : Prop := match x.1 with
  | none => e = .returned (.tuple #[.pointer none, .int .i64 x.2]) ∧ Dk w' g b q ∧ OnlyF (F2 g b) w w'
  | some j => ∃ gj V, e = .returned (.tuple #[.pointer (some ⟨gj, 0, none⟩), .int .i64 x.2]) ∧ JAt w' gj g b V q j ∧ OnlyF (F2 g b) w w' ∧ w.heap.size ≤ gj ∧ ∀ c, V.ownBlock = some c → w.heap.size ≤ c
set_option maxRecDepth 20000 in
set_option maxHeartbeats 2000000 in
theorem open_unfit (q : DSt) (g b : Nat) (w : World) (h : Dk w g b q) (hl : q.S.length ≤ 4096) (hfit : fitsD q = false) :
    Calls Tryz.prog 19 #[.pointer (some ⟨g, 0, none⟩)] w (OpDid q (none, 1) g b w) := by
  have FT := Lib.hid (j_fits q g b w h hl)
  rw [hfit] at FT
  have H := Lib.hid h
  clear h hfit
  unfold OpDid
  go_enter Tryz.func19, Tryz.ntmps19
  go_wp2_with fail
  refine FT.out.mono ?_
  rintro e w1 ⟨rfl, rfl⟩
  go_wp2_with fail
  go_ret2
  exact ⟨rfl, H.out, OnlyF.refl _ _⟩
theorem open_nil (w : World) : Calls Tryz.prog 19 #[.pointer none] w fun e w' => e = .returned (.tuple #[.pointer none, .int .i64 1]) ∧ Below w.heap.size w w' := by
  have FT := Lib.hid (j_fits_nil w)
  go_enter Tryz.func19, Tryz.ntmps19
  go_wp2_with fail
  refine FT.out.mono ?_
  rintro e w1 ⟨rfl, hb⟩
  have HB := Lib.hid hb
  clear hb
  go_wp2_with fail
  go_ret2
  exact ⟨rfl, HB.out⟩
set_option maxRecDepth 20000 in
set_option maxHeartbeats 2000000 in
theorem open_dead (q : DSt) (g b : Nat) (w : World) (h : Dk w g b q) (hl : q.S.length ≤ 4096) (hfit : fitsD q = true) (hd : q.dead = true) :
    Calls Tryz.prog 19 #[.pointer (some ⟨g, 0, none⟩)] w (OpDid q (none, 74) g b w) := by
  have FT := Lib.hid (j_fits q g b w h hl)
  rw [hfit] at FT
  have h8 : 8 ≤ q.S.length := (of_decide_eq_true hfit).1
  have SC := Lib.hid (j_sectors_dead q g b w h hl (by omega) hd)
  clear h hfit hd
  unfold OpDid
  go_enter Tryz.func19, Tryz.ntmps19
  go_wp2_with fail
  refine FT.out.mono ?_
  rintro e w1 ⟨rfl, rfl⟩
  go_wp2_with fail
  refine SC.out.mono ?_
  rintro e w1 ⟨rfl, hd, ho⟩
  have D1 := Lib.hid hd
  have O1 := Lib.hid ho
  clear hd ho
  go_wp2_with fail
  go_ret2
  exact ⟨rfl, D1.out, O1.out⟩
set_option maxRecDepth 20000 in
set_option maxHeartbeats 8000000 in
theorem open_live (q : DSt) (g b k m : Nat) (w : World) (h : Dk w g b q) (hf : q.Fit k m) (hl : q.S.length ≤ 600) (hfit : fitsD q = true) (hd : q.dead = false) :
    Calls Tryz.prog 19 #[.pointer (some ⟨g, 0, none⟩)] w (OpDid q (opened q) g b w) := by
  have FT := Lib.hid (j_fits q g b w h (by omega))
  rw [hfit] at FT
  have h8 : 8 ≤ q.S.length := (of_decide_eq_true hfit).1
  have SC := Lib.hid (j_sectors q g b w h (by omega) (by omega) hd)
  have hz : ∀ i, i < q.S.length → (q.S.getD i none_).size = 256 := fun i hi => hf.size i (by rw [← hf.len]; exact hi)
  have HN : Hid (∀ W a, a ≤ 1 → Calls Tryz.prog 52 #[.string (q.S.getD a none_), .int .i64 (a : Nat)] W fun e w' => e = .returned (.int .u32 (headNum (q.S.getD a none_) a : Nat)) ∧ Below W.heap.size W w') := fun W a ha => j_headNum _ a W ha (by rw [hz a (by omega)]; omega)
  have ST : Hid (∀ W a, a ≤ 1 → Dk W g b q → Calls Tryz.prog 49 #[.pointer (some ⟨g, 0, none⟩), .int .i64 (a : Nat)] W fun e w' => e = .returned (.int .i64 (startD q a : Nat)) ∧ W = w') := fun W a ha hW => j_start q g b a W hW (by omega) (by omega) ha
  have RM : Hid (∀ W, Dk W g b q → Calls Tryz.prog 34 #[.pointer (some ⟨g, 0, none⟩)] W fun e w' => e = .returned (.int .i64 (roomD q : Nat)) ∧ W = w') := fun W hW => j_room q g b W hW (by omega) (by omega)
  have HAL : Hid (∀ a, a ≤ 1 → startD q a + roomD q ≤ q.S.length ∧ (areaL q a).length = roomD q ∧ 3 ≤ roomD q) := fun a ha => area_len h8 ha
  have HAT : Hid (∀ (W : World) r a, a ≤ 1 → SctAt W r q → Txts W W.heap.size (.slice (some ⟨r, startD q a, none⟩) (roomD q) (q.S.length - startD q a)) (areaL q a)) := fun W r a ha hS => area_of_sct hS ⟨h8, by omega⟩ ha
  have FD : Hid (∀ (W : World) (a gj r cap : Nat), a ≤ 1 → numV (q.S.getD a none_) ≤ most → r ≠ gj → W.rowIs gj 74 7 (pcell g (.slice none 0 0) (zeroJ q a)) → Txts W W.heap.size (.slice (some ⟨r, startD q a, none⟩) (roomD q) cap) (areaL q a) → Calls Tryz.prog 53 #[.pointer (some ⟨gj, 0, none⟩), .slice (some ⟨r, startD q a, none⟩) (roomD q) cap] W (FindDid q a g gj W)) :=
    fun W a gj r cap ha hn hr hR hT => p_find q a g gj r (startD q a) cap k m W hR hT hr hf ⟨h8, hl⟩ ha hn (fun x hx => by rw [area_mem hz hx]; omega)
  have HO : Hid (opened q = match (bestK q 2).2 with | none => (none, 11) | some j => (some (goK q 5000 j), 0)) := show _ = _ by unfold opened; rw [hfit, hd]; rfl
  have hlg := h.lt
  clear h hfit hd hf hz
  obtain ⟨n, hln⟩ : ∃ n, q.S.length = n := ⟨_, rfl⟩
  rw [hln] at SC HAL HAT h8 hl
  go_enter Tryz.func19, Tryz.ntmps19
  go_wp2_with fail
  refine FT.out.mono ?_
  rintro e w1 ⟨rfl, rfl⟩
  go_wp2_with fail
  refine SC.out.mono ?_
  rintro e w1 ⟨r, rfl, hS, hr, hd, ho⟩
  have D1 := Lib.hid hd
  have O1 := Lib.hid ho
  have S1 := Lib.hid hS
  have hrn : r ≠ g ∧ r ≠ b := by omega
  clear hd ho hS SC FT
  go_wp2_with fail
  go_loopw [6, 7, 22] (fun s6 s7 s22 wr => ∃ i : Nat, i ≤ 2 ∧ s22 = .int .i64 i ∧ s7 = .int .u32 ((bestK q i).1 : Nat) ∧ Hid (BestP q w wr g s6 (bestK q i).2) ∧ Hid (SctAt wr r q) ∧ Hid (Dk wr g b q) ∧ Hid (OnlyF (F2 g b) w wr)) (fun _ _ s22 _ => 2 - (intOf s22).toNat)
  case atStart => exact ⟨0, by omega, rfl, rfl, rfl, S1.out, D1.out, O1.out⟩
  case round =>
    obtain ⟨i, hi, rfl, rfl, HB, HS, HD, HOW⟩ := hrel
    by_cases hlt : i < 2
    · have t1 : decide ((i : Int) < 2) = true := decide_eq_true (by omega)
      have hi1 : i ≤ 1 := by omega
      have hin : (i : Int) < (n : Int) := by omega
      have hc : wr.cell? ⟨r, i, none⟩ = some (.string (q.S.getD i none_)) := HS.out.cell (by rw [hln]; omega)
      have HNi := Lib.hid (HN.out wr i hi1)
      have HSK : Hid (headNum (q.S.getD i none_) i ≤ (bestK q i).1 → bestK q (i + 1) = bestK q i) := fun h => best_no (head_skip h)
      have HTK : Hid ((bestK q i).1 < headNum (q.S.getD i none_) i → headNum (q.S.getD i none_) i = numV (q.S.getD i none_) ∧ numV (q.S.getD i none_) ≤ most ∧ (okR (areaL q i) (numV (q.S.getD i none_)) = false → bestK q (i + 1) = bestK q i) ∧ (okR (areaL q i) (numV (q.S.getD i none_)) = true → bestK q (i + 1) = (numV (q.S.getD i none_), some (headJ q i)))) := fun h => by
        obtain ⟨h1, h2, h3⟩ := head_take h
        exact ⟨h1, h3, fun h4 => best_no (h2.trans h4), fun h4 => best_yes (h2.trans h4)⟩
      have hbl : (bestK q i).1 ≤ 4294967295 := by have := best_lt q i; omega
      have hhl : headNum (q.S.getD i none_) i ≤ 4294967295 := by have := headNum_lt (q.S.getD i none_) i; omega
      obtain ⟨hd, hhd⟩ : ∃ hd, headNum (q.S.getD i none_) i = hd := ⟨_, rfl⟩
      obtain ⟨tp, htp⟩ : ∃ tp, (bestK q i).1 = tp := ⟨_, rfl⟩
      rw [hhd] at HNi HSK HTK hhl
      rw [htp] at HSK HTK hbl ⊢
      have HTP := Lib.hid htp
      generalize hx : q.S.getD i none_ = x at *
      clear hhd htp
      by_cases hle : hd ≤ tp
      · have t2 : decide ((hd : Int) ≤ (tp : Int)) = true := decide_eq_true (by omega)
        have HE := Lib.hid (HSK.out hle)
        go_wp2_with fail
        refine HNi.out.mono ?_
        rintro e w2 ⟨rfl, hb⟩
        have HB2 := Lib.hid (HB.out.keep (fun i _ hi => hb.block i hi))
        have HS2 : Hid (SctAt w2 r q) := HS.out.of_block (hb.block r HS.out.lt)
        have HD2 := Lib.hid (HD.out.keep (hb.block g HD.out.lt.1) (hb.block b HD.out.lt.2))
        have HO2 := Lib.hid (HOW.out.trans (OnlyF.of_below hb))
        clear hb
        go_wp2_with fail
        go_roundw
        case rel => exact ⟨i + 1, by omega, by go_num, (by rw [HE.out, HTP.out]), (by rw [HE.out]; exact HB2.out), HS2.out, HD2.out, HO2.out⟩
        case measure => simp [intOf]; omega
      · have t2 : decide ((hd : Int) ≤ (tp : Int)) = false := decide_eq_false (by omega)
        obtain ⟨e1, e2, e3, e4⟩ := HTK.out (by omega)
        have HE3 := Lib.hid e3
        have HE4 := Lib.hid e4
        have HE1 : Hid (zeroJ q i = ⟨⟨#[]⟩, [], hd, i, 0, false⟩) := show _ = _ by unfold zeroJ; rw [hx, e1]
        have HF := Lib.hid (fun (W : World) gj cap h1 h2 h3 => FD.out W i gj r cap hi1 (by rw [hx]; exact e2) h1 h2 h3)
        obtain ⟨h11, h12, h13⟩ := HAL.out i hi1
        have HEQ := Lib.hid e1
        clear e1 e2 e3 e4 HSK HTK h12
        have HSTi : Hid (∀ W, Dk W g b q → Calls Tryz.prog 49 #[.pointer (some ⟨g, 0, none⟩), .int .i64 (i : Nat)] W fun e w' => e = .returned (.int .i64 (startD q i : Nat)) ∧ W = w') := fun W hW => ST.out W i hi1 hW
        have HATi : Hid (∀ W : World, SctAt W r q → Txts W W.heap.size (.slice (some ⟨r, startD q i, none⟩) (roomD q) (n - startD q i)) (areaL q i)) := fun W hW => HAT.out W r i hi1 hW
        obtain ⟨S0, hS0⟩ : ∃ S0, startD q i = S0 := ⟨_, rfl⟩
        obtain ⟨R, hRR⟩ : ∃ R, roomD q = R := ⟨_, rfl⟩
        have HRM : Hid (∀ W, Dk W g b q → Calls Tryz.prog 34 #[.pointer (some ⟨g, 0, none⟩)] W fun e w' => e = .returned (.int .i64 (R : Nat)) ∧ W = w') := fun W hW => by have := RM.out W hW; rwa [hRR] at this
        rw [hS0, hRR] at h11
        rw [hRR] at h13
        rw [hS0] at HSTi
        rw [hS0, hRR] at HATi HF
        clear hS0 hRR
        go_wp2_with fail
        refine HNi.out.mono ?_
        rintro e w2 ⟨rfl, hb⟩
        have HB2 := Lib.hid (HB.out.keep (fun i _ hi => hb.block i hi))
        have HS2 : Hid (SctAt w2 r q) := HS.out.of_block (hb.block r HS.out.lt)
        have HD2 := Lib.hid (HD.out.keep (hb.block g HD.out.lt.1) (hb.block b HD.out.lt.2))
        have HO2 := Lib.hid (HOW.out.trans (OnlyF.of_below hb))
        clear hb HB HS HD HOW hc HNi
        go_upto_region 14 with fail
        have hrow : (w2.alloc (.cells #[.pointer (some ⟨g, 0, none⟩), .int .i64 (i : Nat), .string ⟨#[]⟩, .slice none 0 0, .int .i64 0, .int .u32 (hd : Nat), .bool false] 74)).rowIs w2.heap.size 74 7 (pcell g (.slice none 0 0) (zeroJ q i)) := World.rowIs_alloc w2 #[.pointer (some ⟨g, 0, none⟩), .int .i64 (i : Nat), .string ⟨#[]⟩, .slice none 0 0, .int .i64 0, .int .u32 (hd : Nat), .bool false] 74 _ (fun k hk => by
          rw [HE1.out]
          match k, hk with
          | 0, _ | 1, _ | 2, _ | 3, _ | 4, _ | 5, _ | 6, _ => rfl)
        have hb3 := (Below.refl w2.heap.size w2).alloc (Nat.le_refl _) (.cells #[.pointer (some ⟨g, 0, none⟩), .int .i64 (i : Nat), .string ⟨#[]⟩, .slice none 0 0, .int .i64 0, .int .u32 (hd : Nat), .bool false] 74)
        have hz3 : (w2.alloc (.cells #[.pointer (some ⟨g, 0, none⟩), .int .i64 (i : Nat), .string ⟨#[]⟩, .slice none 0 0, .int .i64 0, .int .u32 (hd : Nat), .bool false] 74)).heap.size = w2.heap.size + 1 := by simp
        have HGW : Hid (w.heap.size ≤ w2.heap.size) := HO2.out.size
        have HRL : Hid (r < w2.heap.size ∧ g < w2.heap.size ∧ b < w2.heap.size) := show _ ∧ _ ∧ _ from ⟨HS2.out.lt, HD2.out.lt⟩
        obtain ⟨w3, hw3⟩ : ∃ w3, w2.alloc (.cells #[.pointer (some ⟨g, 0, none⟩), .int .i64 (i : Nat), .string ⟨#[]⟩, .slice none 0 0, .int .i64 0, .int .u32 (hd : Nat), .bool false] 74) = w3 := ⟨_, rfl⟩
        rw [hw3] at hrow hb3 hz3
        obtain ⟨gj, hgj⟩ : ∃ gj, w2.heap.size = gj := ⟨_, rfl⟩
        have HB3 := Lib.hid (HB2.out.keep (fun i _ hi => hb3.block i hi))
        have HS3 : Hid (SctAt w3 r q) := HS2.out.of_block (hb3.block r HS2.out.lt)
        have HD3 := Lib.hid (HD2.out.keep (hb3.block g HD2.out.lt.1) (hb3.block b HD2.out.lt.2))
        have HO3 := Lib.hid (HO2.out.trans (OnlyF.of_below hb3))
        have HBL : Hid (∀ i, i < gj → w3.heap[i]? = w2.heap[i]?) := show ∀ i, _ from fun i hi => hb3.block i (by omega)
        have HB2s := Lib.hid HB2.out
        have HGJ := Lib.hid hgj
        rw [hw3]
        rw [hgj] at hrow hb3 hz3 HGW HRL ⊢
        have HRZ := Lib.hid hrow
        have HZ3 := Lib.hid hz3
        obtain ⟨y, hy⟩ : ∃ y, okR (areaL q i) (numV x) = y := ⟨_, rfl⟩
        have HFY : Hid (∀ W, W.heap = w3.heap → Calls Tryz.prog 53 #[.pointer (some ⟨gj, 0, none⟩), .slice (some ⟨r, S0, none⟩) R (n - S0)] W fun e w' => e = .returned (.bool y) ∧ OnlyF (fun i => i = gj) W w' ∧ (y = true → ∃ V, w'.rowIs gj 74 7 (pcell g V (goK q 5000 (headJ q i))) ∧ w'.ownsRow W.heap.size 9 1 V (goK q 5000 (headJ q i)).recs.length ((goK q 5000 (headJ q i)).recs.map Value.string))) := fun W hW => (HF.out W gj (n - S0) (by have := HRL.out; omega) (HRZ.out.of_block (by rw [hW])) (HATi.out W (HS3.out.of_block (by rw [hW])))).mono (fun e w' h => by
          obtain ⟨h1, h2⟩ := h
          rw [hx, hy] at h2
          rcases h2 with ⟨h3, h4⟩ | ⟨h3, h4, h5⟩
          · subst h3; exact ⟨h4, h1, fun e => (by cases e)⟩
          · subst h3; exact ⟨h4, h1, fun _ => h5⟩)
        have HYE := Lib.hid hy
        clear hrow hb3 hz3 hw3 hgj HF HATi hy HB2 HS2 HD2 HO2 HAT HN ST RM FD
        have y1 : S0 ≤ n := by omega
        have y2 : ¬ n = S0 := by omega
        have y3 : R ≤ n - S0 := by omega
        have y4 : ¬ n - S0 = 0 := by omega
        have y5 : (S0 : Int) ≤ n := by omega
        have y6 : (R : Int) ≤ ((n - S0 : Nat) : Int) := by omega
        have y7 : (0 : Int) ≤ S0 := by omega
        have y8 : (0 : Int) ≤ R := by omega
        have HDd : Hid (Dk w3.drew g b q) := HD3.out.keep rfl rfl
        have HHQ : Hid (w3.drew.heap = w3.heap) := show _ = _ from rfl
        go_region_held3 (fun _ => True)
          (first | exact trivial)
          (first
            | (go_at_call 49
               with_reducible refine (HSTi.out _ HDd.out).mono ?_
               rintro e w4 ⟨rfl, rfl⟩)
            | (go_at_call 34
               with_reducible refine (HRM.out _ HDd.out).mono ?_
               rintro e w4 ⟨rfl, rfl⟩)
            | (go_at_call 53
               with_reducible refine (HFY.out _ HHQ.out).mono ?_
               rintro e w4 ⟨rfl, n1, n2⟩
               have O4 := Lib.hid n1
               have V4 := Lib.hid n2
               clear n1 n2))
        have hgz : gj < w3.drew.heap.size := by rw [HHQ.out, HZ3.out]; omega
        have HK4 : Hid (∀ i, i < gj → w4.heap[i]? = w2.heap[i]?) := show ∀ i, _ from fun i hi => (O4.out.block i (by omega) (by omega)).trans (HBL.out i hi)
        have HKR : Hid (∀ i, i < gj → w4.heap[i]? = w3.heap[i]?) := show ∀ i, _ from fun i hi => O4.out.block i (by omega) (by omega)
        obtain ⟨l1, l2, l3⟩ := HRL.out
        have HS4 : Hid (SctAt w4 r q) := HS3.out.of_block (HKR.out r l1)
        have HD4 := Lib.hid (HD3.out.keep (HKR.out g l2) (HKR.out b l3))
        have HO4 : Hid (OnlyF (F2 g b) w w4) := show OnlyF _ _ _ from ⟨O4.out.os.trans HO3.out.os, O4.out.tape.trans HO3.out.tape, O4.out.output.trans HO3.out.output, Nat.le_trans HO3.out.size O4.out.size, fun i hi hf => (HKR.out i (by have := HGW.out; omega)).trans (HO3.out.block i hi hf)⟩
        clear y1 y2 y3 y4 y5 y6 y7 y8 HS3 HD3 HO3 HB3 HDd
        cases y with
        | false =>
          have HB4 := Lib.hid (HB2s.out.keep (W' := w4) (fun i _ hi => HK4.out i (by rw [← HGJ.out]; exact hi)))
          have HE := Lib.hid (HE3.out HYE.out)
          clear V4 O4
          go_wp2_with fail
          go_roundw
          case rel => exact ⟨i + 1, by omega, by go_num, (by rw [HE.out, HTP.out]), (by rw [HE.out]; exact HB4.out), HS4.out, HD4.out, HO4.out⟩
          case measure => simp [intOf]; omega
        | true =>
          obtain ⟨V, v1, v2⟩ := V4.out rfl
          have HE := Lib.hid (HE4.out HYE.out)
          have HV1 := Lib.hid v1
          have HV2 := Lib.hid v2
          have hw3 : w.heap.size ≤ gj := HGW.out
          clear V4 O4 v1 v2 HB2s
          go_wp2_with fail
          go_roundw
          case rel => exact ⟨i + 1, by omega, by go_num, (by rw [HE.out, HEQ.out]), (by rw [HE.out]; exact ⟨gj, V, rfl, HV1.out, own_base HV2.out (by omega), hw3, fun c hc => by have := (HV2.out.lt c hc).1; omega⟩), HS4.out, HD4.out, HO4.out⟩
          case measure => simp [intOf]; omega
    · obtain rfl : i = 2 := by omega
      have t1 : decide (((2 : Nat) : Int) < 2) = false := rfl
      generalize (bestK q 2).1 = tp at *
      generalize (bestK q 2).2 = B at *
      cases B with
      | none =>
        have hb : _ = Value.pointer none := HB.out
        subst hb
        go_wp2_with fail
        rw [HO.out]
        go_ret2
        exact ⟨rfl, HD.out, HOW.out⟩
      | some j =>
        obtain ⟨gj, V, rfl, hrow, hown, hge, hap⟩ := HB.out
        have HR := Lib.hid hrow
        have HW := Lib.hid hown
        have HAP := Lib.hid hap
        clear hrow hown hap HB
        go_wp2_with fail
        rw [HO.out]
        go_ret2
        exact ⟨gj, V, rfl, ⟨HD.out, HR.out, own_low HW.out, by omega, fun c hc => by have := HAP.out c hc; omega⟩, HOW.out, hge, fun c hc => by have := HAP.out c hc; omega⟩
theorem p_open (q : DSt) (g b k m : Nat) (w : World) (h : Dk w g b q) (hf : q.Fit k m) (hl : q.S.length ≤ 600) :
    Calls Tryz.prog 19 #[.pointer (some ⟨g, 0, none⟩)] w (OpDid q (opened q) g b w) := by
  by_cases hfit : fitsD q = false
  · rw [show opened q = (none, 1) by unfold opened; rw [if_pos hfit]]
    exact open_unfit q g b w h (by omega) hfit
  · have hfit : fitsD q = true := by simpa using hfit
    by_cases hd : q.dead = true
    · rw [show opened q = (none, 74) by unfold opened; rw [hfit, hd]; rfl]
      exact open_dead q g b w h (by omega) hfit hd
    · exact open_live q g b k m w h hf hl hfit (by simpa using hd)
end Go.Proofs.YtndanhacmfhlaaaGreat.Jour
namespace Go.Proofs.YtndanhacmfhlaaaGreat.Jour
open Go.ChangeShapes Go.WideShapes Go.ChangeAt Go.RowKit Go.Deep Els Go.Proofs.YtndanhacmfhlaaaGreat.Frame Disk

/-- What Format has told. -/
def FmDid (x : Opened) (g b : Nat) (w : World) (e : Ending) (w' : World) : Prop :=
  Dk w' g b x.q ∧ OnlyF (F2 g b) w w' ∧ match x.j with
    | none => e = .returned (.tuple #[.pointer none, .int .i64 x.e])
    | some j => ∃ gj V, e = .returned (.tuple #[.pointer (some ⟨gj, 0, none⟩), .int .i64 x.e]) ∧ JAt w' gj g b V x.q j ∧ w.heap.size ≤ gj ∧ ∀ c, V.ownBlock = some c → w.heap.size ≤ c
theorem fmdid_none {q : DSt} {er : Int} {g b : Nat} {w w' : World} (h1 : Dk w' g b q) (h2 : OnlyF (F2 g b) w w') : FmDid ⟨q, none, er⟩ g b w (.returned (.tuple #[.pointer none, .int .i64 er])) w' := ⟨h1, h2, rfl⟩
theorem format_bg {q : DSt} {s : ByteArray} (h1 : fitsD q = true) (h2 : tooE s.size (roomD q : Nat) = 0) (h3 : q.dead = false) (h4 : topN q ≤ 2147483648) : format q s = if (bg q 0 (topN q + 1) s).2 ≠ 0 then ⟨(bg q 0 (topN q + 1) s).1, none, (bg q 0 (topN q + 1) s).2⟩ else ⟨(bg q 0 (topN q + 1) s).1, some ⟨s, [], topN q + 2, 0, sizeN s.size, false⟩, 0⟩ := by
  unfold tooE at h2
  by_cases a1 : 60000 < s.size
  · rw [if_pos a1] at h2; cases h2
  · rw [if_neg a1] at h2
    by_cases a2 : ((roomD q : Nat) : Int) < sizeN s.size
    · rw [if_pos a2] at h2; cases h2
    · unfold format bg
      rw [if_neg (by rw [h1]; decide), if_neg a1, if_neg (by omega), if_neg (by rw [h3]; decide), if_neg (by omega), show startD q 0 = 2 by unfold startD; omega]
      by_cases b1 : (writeR q 2 (topN q + 1) s).2 ≠ 0
      · simp only [if_pos b1]
      · simp only [if_neg b1]
theorem format_no {q : DSt} {s : ByteArray} (h1 : fitsD q = true) (h2 : tooE s.size (roomD q : Nat) ≠ 0) : format q s = ⟨q, none, tooE s.size (roomD q : Nat)⟩ := by
  unfold format
  rw [if_neg (by rw [h1]; decide)]
  by_cases a1 : 60000 < s.size
  · rw [if_pos a1, show tooE s.size (roomD q : Nat) = 2 by unfold tooE; rw [if_pos a1]]
  · rw [if_neg a1]
    by_cases a2 : ((roomD q : Nat) : Int) < sizeN s.size
    · rw [if_pos (show roomD q < sizeN s.size by omega), show tooE s.size (roomD q : Nat) = 73 by unfold tooE; rw [if_neg a1, if_pos a2]]
    · exact absurd (by unfold tooE; rw [if_neg a1, if_neg a2]) h2
theorem format_late {q : DSt} {s : ByteArray} (h1 : fitsD q = true) (h2 : tooE s.size (roomD q : Nat) = 0) : (q.dead = true → format q s = ⟨q, none, 74⟩) ∧ (q.dead = false → 2147483648 < topN q → format q s = ⟨q, none, 73⟩) := by
  unfold tooE at h2
  by_cases a1 : 60000 < s.size
  · rw [if_pos a1] at h2; cases h2
  · rw [if_neg a1] at h2
    by_cases a2 : ((roomD q : Nat) : Int) < sizeN s.size
    · rw [if_pos a2] at h2; cases h2
    · constructor
      · intro h3
        unfold format
        rw [if_neg (by rw [h1]; decide), if_neg a1, if_neg (by omega), if_pos h3]
      · intro h3 h4
        unfold format
        rw [if_neg (by rw [h1]; decide), if_neg a1, if_neg (by omega), if_neg (by rw [h3]; decide), if_pos h4]
theorem format_nil (s : ByteArray) (w : World) : Calls Tryz.prog 8 #[.pointer none, .string s] w fun e w' => e = .returned (.tuple #[.pointer none, .int .i64 1]) ∧ Below w.heap.size w w' := by
  have FT := Lib.hid (j_fits_nil w)
  go_enter Tryz.func8, Tryz.ntmps8
  go_wp2_with fail
  refine FT.out.mono ?_
  rintro e w1 ⟨rfl, hb⟩
  have HB := Lib.hid hb
  clear hb
  go_wp2_with fail
  go_ret2
  exact ⟨rfl, HB.out⟩
theorem pfmt_unfit (q : DSt) (g b : Nat) (s : ByteArray) (w : World) (h : Dk w g b q) (hl : q.S.length ≤ 4096) (hfit : fitsD q = false) :
    Calls Tryz.prog 8 #[.pointer (some ⟨g, 0, none⟩), .string s] w (FmDid ⟨q, none, 1⟩ g b w) := by
  have FT := Lib.hid (j_fits q g b w h hl)
  rw [hfit] at FT
  have H := Lib.hid h
  clear h hfit
  go_enter Tryz.func8, Tryz.ntmps8
  go_wp2_with fail
  refine FT.out.mono ?_
  rintro e w1 ⟨rfl, rfl⟩
  go_wp2_with fail
  go_ret2
  exact fmdid_none H.out (OnlyF.refl _ _)
set_option maxRecDepth 20000 in
set_option maxHeartbeats 2000000 in
theorem pfmt_no (q : DSt) (g b : Nat) (s : ByteArray) (w : World) (h : Dk w g b q) (hl : q.S.length ≤ 4096) (hfit : fitsD q = true) (hs : s.size ≤ 9223372036854775807) (ht : tooE s.size (roomD q : Nat) ≠ 0) :
    Calls Tryz.prog 8 #[.pointer (some ⟨g, 0, none⟩), .string s] w (FmDid ⟨q, none, tooE s.size (roomD q : Nat)⟩ g b w) := by
  have FT := Lib.hid (j_fits q g b w h hl)
  rw [hfit] at FT
  have h8 : 8 ≤ q.S.length := (of_decide_eq_true hfit).1
  have RM := Lib.hid (j_room q g b w h hl (by omega))
  have hb : roomD q ≤ 4096 := by unfold roomD; omega
  have TL := Lib.hid (j_tooLong s (roomD q : Nat) w hs (by omega))
  have H := Lib.hid h
  have t1 : (tooE s.size (roomD q : Nat) != 0) = true := by rw [bne_iff_ne]; exact ht
  clear h hfit ht
  generalize tooE s.size (roomD q : Nat) = er at *
  generalize roomD q = R at *
  go_enter Tryz.func8, Tryz.ntmps8
  go_wp2_with fail
  refine FT.out.mono ?_
  rintro e w1 ⟨rfl, rfl⟩
  go_wp2_with fail
  refine RM.out.mono ?_
  rintro e w1 ⟨rfl, rfl⟩
  go_wp2_with fail
  refine TL.out.mono ?_
  rintro e w1 ⟨rfl, hb⟩
  have HB := Lib.hid hb
  clear hb
  go_wp2_with fail
  go_ret2
  exact fmdid_none (H.out.keep (HB.out.block g H.out.lt.1) (HB.out.block b H.out.lt.2)) (OnlyF.of_below HB.out)
set_option maxRecDepth 20000 in
set_option maxHeartbeats 2000000 in
theorem pfmt_dead (q : DSt) (g b : Nat) (s : ByteArray) (w : World) (h : Dk w g b q) (hl : q.S.length ≤ 4096) (hfit : fitsD q = true) (hs : s.size ≤ 9223372036854775807) (ht : tooE s.size (roomD q : Nat) = 0) (hd : q.dead = true) :
    Calls Tryz.prog 8 #[.pointer (some ⟨g, 0, none⟩), .string s] w (FmDid ⟨q, none, 74⟩ g b w) := by
  have FT := Lib.hid (j_fits q g b w h hl)
  rw [hfit] at FT
  have h8 : 8 ≤ q.S.length := (of_decide_eq_true hfit).1
  have RM := Lib.hid (j_room q g b w h hl (by omega))
  have hb : roomD q ≤ 4096 := by unfold roomD; omega
  have TL := Lib.hid (j_tooLong s (roomD q : Nat) w hs (by omega))
  rw [ht] at TL
  have H := Lib.hid h
  have SC : Hid (∀ W, Dk W g b q → Calls Tryz.prog 35 #[.pointer (some ⟨g, 0, none⟩)] W fun e w' => e = .returned (.tuple #[.slice none 0 0, .int .i64 74]) ∧ Dk w' g b q ∧ OnlyF (F2 g b) W w') := fun W hW => j_sectors_dead q g b W hW hl (by omega) hd
  clear h hfit ht hd
  generalize roomD q = R at *
  go_enter Tryz.func8, Tryz.ntmps8
  go_wp2_with fail
  refine FT.out.mono ?_
  rintro e w1 ⟨rfl, rfl⟩
  go_wp2_with fail
  refine RM.out.mono ?_
  rintro e w1 ⟨rfl, rfl⟩
  go_wp2_with fail
  refine TL.out.mono ?_
  rintro e w1 ⟨rfl, hb⟩
  have HB := Lib.hid hb
  have HD := Lib.hid (H.out.keep (hb.block g H.out.lt.1) (hb.block b H.out.lt.2))
  clear hb
  go_wp2_with fail
  refine (SC.out _ HD.out).mono ?_
  rintro e w2 ⟨rfl, n1, n2⟩
  have D2 := Lib.hid n1
  have O2 := Lib.hid ((OnlyF.of_below HB.out).trans n2)
  clear n1 n2
  go_wp2_with fail
  go_ret2
  exact fmdid_none D2.out O2.out
set_option maxRecDepth 20000 in
set_option maxHeartbeats 4000000 in
theorem pfmt_live (q : DSt) (g b k m : Nat) (s : ByteArray) (w : World) (h : Dk w g b q) (hf : q.Fit k m) (hm : m ≤ 10000000) (hl : q.S.length ≤ 4096) (hfit : fitsD q = true) (hs : s.size ≤ 9223372036854775807) (ht : tooE s.size (roomD q : Nat) = 0) (hd : q.dead = false) :
    Calls Tryz.prog 8 #[.pointer (some ⟨g, 0, none⟩), .string s] w (FmDid (format q s) g b w) := by
  have FT := Lib.hid (j_fits q g b w h hl)
  rw [hfit] at FT
  have h8 : 8 ≤ q.S.length := (of_decide_eq_true hfit).1
  have RM := Lib.hid (j_room q g b w h hl (by omega))
  have hb : roomD q ≤ 4096 := by unfold roomD; omega
  have TL := Lib.hid (j_tooLong s (roomD q : Nat) w hs (by omega))
  rw [ht] at TL
  have H := Lib.hid h
  have SC : Hid (∀ W, Dk W g b q → Calls Tryz.prog 35 #[.pointer (some ⟨g, 0, none⟩)] W fun e w' => ∃ r, e = .returned (.tuple #[.slice (some ⟨r, 0, none⟩) q.S.length q.S.length, .int .i64 0]) ∧ SctAt w' r q ∧ W.heap.size ≤ r ∧ Dk w' g b q ∧ OnlyF (F2 g b) W w') := fun W hW => j_sectors q g b W hW hl (by omega) hd
  have GT : Hid (∀ W r, SctAt W r q → Calls Tryz.prog 36 #[.slice (some ⟨r, 0, none⟩) q.S.length q.S.length] W fun e w' => e = .returned (.int .u32 (topN q : Nat)) ∧ Below W.heap.size W w') := fun W r hS => j_greatest q r W hS hl (fun i hi => by rw [hf.size i (by rw [← hf.len]; exact hi)]; omega)
  have hsz : s.size ≤ 60000 := by
    unfold tooE at ht
    by_cases a1 : 60000 < s.size
    · rw [if_pos a1] at ht; cases ht
    · omega
  have htl : topN q < 4294967296 := topK_lt q _
  by_cases htop : 2147483648 < topN q
  · rw [(format_late hfit ht).2 hd htop]
    have t1 : decide ((2147483648 : Int) < (topN q : Nat)) = true := decide_eq_true (by omega)
    clear h hf hfit ht hd htop
    generalize topN q = T at *
    generalize roomD q = R at *
    generalize q.S.length = n at *
    go_enter Tryz.func8, Tryz.ntmps8
    go_wp2_with fail
    refine FT.out.mono ?_
    rintro e w1 ⟨rfl, rfl⟩
    go_wp2_with fail
    refine RM.out.mono ?_
    rintro e w1 ⟨rfl, rfl⟩
    go_wp2_with fail
    refine TL.out.mono ?_
    rintro e w1 ⟨rfl, hb⟩
    have HB := Lib.hid hb
    have HD := Lib.hid (H.out.keep (hb.block g H.out.lt.1) (hb.block b H.out.lt.2))
    clear hb
    go_wp2_with fail
    refine (SC.out _ HD.out).mono ?_
    rintro e w2 ⟨r, rfl, n1, n2, n3, n4⟩
    have D2 := Lib.hid n3
    have S2 := Lib.hid n1
    have O2 := Lib.hid ((OnlyF.of_below HB.out).trans n4)
    clear n1 n2 n3 n4
    go_wp2_with fail
    refine (GT.out _ r S2.out).mono ?_
    rintro e w3 ⟨rfl, hb⟩
    have D3 := Lib.hid (D2.out.keep (hb.block g D2.out.lt.1) (hb.block b D2.out.lt.2))
    have O3 := Lib.hid (O2.out.trans (OnlyF.of_below hb))
    clear hb
    go_wp2_with fail
    go_ret2
    exact fmdid_none D3.out O3.out
  · have hF := format_bg (s := s) hfit ht hd (by omega)
    have HF := Lib.hid hF
    have t1 : decide ((2147483648 : Int) < (topN q : Nat)) = false := decide_eq_false (by omega)
    have i1 : IntKind.u32.wrap ((topN q : Nat) + 1 : Int) = ((topN q : Nat) : Int) + 1 := IntWalk.u32_in _ (by omega)
    have BG : Hid (∀ (W : World) gj f, Dk W g b q → W.rowIs gj 74 7 f → f 0 = .pointer (some ⟨g, 0, none⟩) → f 5 = .int .u32 (topN q + 1 : Nat) → gj ≠ g ∧ gj ≠ b → Calls Tryz.prog 37 #[.pointer (some ⟨gj, 0, none⟩), .int .i64 0, .string s] W (BgDid q g b gj 0 (topN q + 1) s f W)) :=
      fun W gj f h1 h2 h3 h4 h5 => p_begin q g b gj k m 0 (topN q + 1) s f W h1 hf hm h2 h3 h4 h5 (by omega) (by omega) hsz hl (by omega) (by omega)
    unfold BgDid at BG
    clear h hf hfit ht hd htop hF
    generalize bg q 0 (topN q + 1) s = X at *
    generalize topN q = T at *
    generalize roomD q = R at *
    generalize q.S.length = n at *
    go_enter Tryz.func8, Tryz.ntmps8
    go_wp2_with fail
    refine FT.out.mono ?_
    rintro e w1 ⟨rfl, rfl⟩
    go_wp2_with fail
    refine RM.out.mono ?_
    rintro e w1 ⟨rfl, rfl⟩
    go_wp2_with fail
    refine TL.out.mono ?_
    rintro e w1 ⟨rfl, hb⟩
    have HB := Lib.hid hb
    have HD := Lib.hid (H.out.keep (hb.block g H.out.lt.1) (hb.block b H.out.lt.2))
    clear hb
    go_wp2_with fail
    refine (SC.out _ HD.out).mono ?_
    rintro e w2 ⟨r, rfl, n1, n2, n3, n4⟩
    have D2 := Lib.hid n3
    have S2 := Lib.hid n1
    have O2 := Lib.hid ((OnlyF.of_below HB.out).trans n4)
    clear n1 n2 n3 n4
    go_wp2_with fail
    refine (GT.out _ r S2.out).mono ?_
    rintro e w3 ⟨rfl, hb⟩
    have D3 := Lib.hid (D2.out.keep (hb.block g D2.out.lt.1) (hb.block b D2.out.lt.2))
    have O3 := Lib.hid (O2.out.trans (OnlyF.of_below hb))
    clear hb
    go_upto_region 13 with fail
    have hrow : (w3.alloc (.cells #[.pointer (some ⟨g, 0, none⟩), .int .i64 0, .string ⟨#[]⟩, .slice none 0 0, .int .i64 0, .int .u32 ((T : Int) + 1), .bool false] 74)).rowIs w3.heap.size 74 7 (pcell g (.slice none 0 0) ⟨⟨#[]⟩, [], T + 1, 0, 0, false⟩) := World.rowIs_alloc w3 #[.pointer (some ⟨g, 0, none⟩), .int .i64 0, .string ⟨#[]⟩, .slice none 0 0, .int .i64 0, .int .u32 ((T : Int) + 1), .bool false] 74 _ (fun k hk => by
      match k, hk with
      | 0, _ | 1, _ | 2, _ | 3, _ | 4, _ | 5, _ | 6, _ => rfl)
    have hb4 := (Below.refl w3.heap.size w3).alloc (Nat.le_refl _) (.cells #[.pointer (some ⟨g, 0, none⟩), .int .i64 0, .string ⟨#[]⟩, .slice none 0 0, .int .i64 0, .int .u32 ((T : Int) + 1), .bool false] 74)
    obtain ⟨gj, hgj⟩ : ∃ gj, w3.heap.size = gj := ⟨_, rfl⟩
    have HGW : Hid (w.heap.size ≤ gj) := show _ ≤ _ by rw [← hgj]; exact O3.out.size
    have hne : gj ≠ g ∧ gj ≠ b := by have := D3.out.lt; omega
    have D4 := Lib.hid (D3.out.keep (hb4.block g D3.out.lt.1) (hb4.block b D3.out.lt.2))
    have O4 := Lib.hid (O3.out.trans (OnlyF.of_below hb4))
    rw [hgj] at hrow ⊢
    have R4 := Lib.hid hrow
    generalize w3.alloc (.cells #[.pointer (some ⟨g, 0, none⟩), .int .i64 0, .string ⟨#[]⟩, .slice none 0 0, .int .i64 0, .int .u32 ((T : Int) + 1), .bool false] 74) = w4 at *
    have BGW := Lib.hid (BG.out w4 gj _ D4.out R4.out rfl rfl hne)
    clear hrow hb4 hgj BG D3 O3
    by_cases hx : X.2 = 0
    · have t2 : (X.2 != 0) = false := by rw [hx]; rfl
      have HX := Lib.hid hx
      go_wp2_with fail
      refine BGW.out.mono ?_
      rintro e w5 ⟨rfl, n1, n2, n3⟩
      have D5 := Lib.hid n1
      have R5 := Lib.hid n2
      have O5 := Lib.hid n3
      clear n1 n2 n3 hx
      go_wp2_with fail
      go_ret2
      rw [HF.out, if_neg (by simp [HX.out])]
      refine ⟨D5.out, ⟨O5.out.os.trans O4.out.os, O5.out.tape.trans O4.out.tape, O5.out.output.trans O4.out.output, Nat.le_trans O4.out.size O5.out.size, fun i hi hf => (O5.out.block i (Nat.lt_of_lt_of_le hi O4.out.size) (fun e => ?_)).trans (O4.out.block i hi hf)⟩, gj, .slice none 0 0, rfl, ⟨D5.out, R5.out.congr (fun i hi => ?_), World.ownsRow_nil _ _ _ _, hne, fun c hc => (by cases hc)⟩, HGW.out, fun c hc => (by cases hc)⟩
      · rcases e with e | e
        · have := HGW.out; omega
        · exact hf e
      · unfold bgRow
        rw [if_pos HX.out]
    · have t2 : (X.2 != 0) = true := by rw [bne_iff_ne]; exact hx
      have HX := Lib.hid hx
      go_wp2_with fail
      refine BGW.out.mono ?_
      rintro e w5 ⟨rfl, n1, n2, n3⟩
      have D5 := Lib.hid n1
      have O5 := Lib.hid n3
      clear n1 n2 n3 hx
      go_wp2_with fail
      go_ret2
      rw [HF.out, if_pos HX.out]
      refine ⟨D5.out, ⟨O5.out.os.trans O4.out.os, O5.out.tape.trans O4.out.tape, O5.out.output.trans O4.out.output, Nat.le_trans O4.out.size O5.out.size, fun i hi hf => (O5.out.block i (Nat.lt_of_lt_of_le hi O4.out.size) (fun e => ?_)).trans (O4.out.block i hi hf)⟩, rfl⟩
      rcases e with e | e
      · have := HGW.out; omega
      · exact hf e
theorem p_format (q : DSt) (g b k m : Nat) (s : ByteArray) (w : World) (h : Dk w g b q) (hf : q.Fit k m) (hm : m ≤ 10000000) (hl : q.S.length ≤ 4096) (hs : s.size ≤ 9223372036854775807) :
    Calls Tryz.prog 8 #[.pointer (some ⟨g, 0, none⟩), .string s] w (FmDid (format q s) g b w) := by
  by_cases hfit : fitsD q = false
  · rw [show format q s = ⟨q, none, 1⟩ by unfold format; rw [if_pos hfit]]
    exact pfmt_unfit q g b s w h hl hfit
  · have hfit : fitsD q = true := by simpa using hfit
    by_cases ht : tooE s.size (roomD q : Nat) = 0
    · by_cases hd : q.dead = true
      · rw [(format_late hfit ht).1 hd]
        exact pfmt_dead q g b s w h hl hfit hs ht hd
      · exact pfmt_live q g b k m s w h hf hm hl hfit hs ht (by simpa using hd)
    · rw [format_no hfit ht]
      exact pfmt_no q g b s w h hl hfit hs ht
end Go.Proofs.YtndanhacmfhlaaaGreat.Jour
namespace Go.Proofs.YtndanhacmfhlaaaGreat.Jour
open Go.ChangeShapes Go.WideShapes Go.ChangeAt Go.RowKit Go.Deep Els Go.Proofs.YtndanhacmfhlaaaGreat.Frame Disk

theorem append_qfit {q : DSt} {j : JSt} {s : ByteArray} {k m : Nat} (h : q.Fit k m) : (append q j s).q.Fit k (m + 300) := by
  unfold append
  split
  · exact h.more (by omega)
  · split
    · exact h.more (by omega)
    · split
      · exact h.more (by omega)
      · dsimp only
        split
        · exact write_fit _ _ _ _ h
        · exact write_fit _ _ _ _ h
theorem save_qfit {q : DSt} {j : JSt} {s : ByteArray} {k m : Nat} (h : q.Fit k m) : (save q j s).q.Fit k (m + 600) := by
  unfold save
  split
  · exact h.more (by omega)
  · split
    · exact h.more (by omega)
    · split
      · exact h.more (by omega)
      · dsimp only
        split
        · exact (write_fit _ _ _ _ h).more (by omega)
        · split
          · exact (write_fit _ _ _ _ (write_fit _ _ _ _ h)).more (by omega)
          · exact (write_fit _ _ _ _ (write_fit _ _ _ _ h)).more (by omega)
theorem format_qfit {q : DSt} {s : ByteArray} {k m : Nat} (h : q.Fit k m) : (format q s).q.Fit k (m + 600) := by
  unfold format
  split
  · exact h.more (by omega)
  · split
    · exact h.more (by omega)
    · split
      · exact h.more (by omega)
      · split
        · exact h.more (by omega)
        · split
          · exact h.more (by omega)
          · dsimp only
            split
            · exact (write_fit _ _ _ _ h).more (by omega)
            · split
              · exact (write_fit _ _ _ _ (write_fit _ _ _ _ h)).more (by omega)
              · exact (write_fit _ _ _ _ (write_fit _ _ _ _ h)).more (by omega)
theorem inv_fit {q : DSt} {j : JSt} {m : Nat} (h : Inv q j m) : j.Fit q := by
  have h1 := h.used
  have h2 : lenL (j.base :: j.recs) = sizeN j.base.size + lenL j.recs := rfl
  have h3 := lenL_ge j.recs
  have h4 := size_pos j.base.size
  have h5 := h.top
  exact ⟨h.area, h.room, by omega, by omega⟩
/-- A disk of the call's own. -/
structure LD (w W : World) (g b : Nat) (q : DSt) : Prop where
  dk : Dk W g b q
  below : Below w.heap.size w W
  lo : w.heap.size ≤ g ∧ w.heap.size ≤ b
/-- A journal of the call's own, its records at V. -/
structure LJ (w W : World) (gj g b : Nat) (V : Value) (q : DSt) (j : JSt) : Prop where
  at_ : JAt W gj g b V q j
  below : Below w.heap.size w W
  lo : w.heap.size ≤ gj ∧ w.heap.size ≤ g ∧ w.heap.size ≤ b
  vlo : ∀ c, V.ownBlock = some c → w.heap.size ≤ c
section
variable {w W W' : World} {gj g b : Nat} {V : Value} {q q' : DSt} {j : JSt}
theorem LD.only (h : LD w W g b q) (hd : Dk W' g b q') (ho : OnlyF (F2 g b) W W') : LD w W' g b q' :=
  ⟨hd, only_far h.below ho (fun i hi => by have := h.lo; rcases hi with rfl | rfl; exact this.1; exact this.2) h.below.size, h.lo⟩
theorem LJ.j4 (h : LJ w W gj g b V q j) : ∀ i, J4 gj g b V i → w.heap.size ≤ i := fun i hi => by
  have := h.lo
  rcases hi with (rfl | rfl | rfl) | hi
  · exact this.1
  · exact this.2.1
  · exact this.2.2
  · exact h.vlo i hi
theorem LJ.did {x : Done} {e : Ending} (h : LJ w W gj g b V q j) (hd : PDid x gj g b V W e W') : e = .returned (.int .i64 x.e) ∧ ∃ V', LJ w W' gj g b V' x.q x.j ∧ OnlyF (J4 gj g b V) W W' ∧ ∀ c, V'.ownBlock = some c → V.ownBlock = some c ∨ W.heap.size ≤ c := by
  obtain ⟨h1, V', h2, h3, h4⟩ := hd
  exact ⟨h1, V', ⟨h2, only_far h.below h3 h.j4 h.below.size, h.lo, fun c hc => (h4 c hc).elim (h.vlo c) (fun hh => Nat.le_trans h.below.size hh)⟩, h3, h4⟩
theorem LJ.more (h : LJ w W gj g b V q j) (hb : Below W.heap.size W W') : LJ w W' gj g b V q j := ⟨h.at_.below hb, h.below.trans (hb.mono h.below.size), h.lo, h.vlo⟩
theorem LJ.heap (h : LJ w W gj g b V q j) (n : Nat) : LJ w (W.drewN n) gj g b V q j := ⟨h.at_.heap rfl, ⟨h.below.os, h.below.tape, h.below.output, h.below.size, h.below.block⟩, h.lo, h.vlo⟩
theorem LJ.ld (h : LJ w W gj g b V q j) : LD w W g b q := ⟨h.at_.dk, h.below, h.lo.2⟩
theorem LD.more (h : LD w W g b q) (hb : Below W.heap.size W W') : LD w W' g b q := ⟨h.dk.keep (hb.block g h.dk.lt.1) (hb.block b h.dk.lt.2), h.below.trans (hb.mono h.below.size), h.lo⟩
/-- The disk turns, the journal's own cells stay. -/
theorem LJ.disk (h : LJ w W gj g b V q j) (hd : Dk W' g b q') (ho : OnlyF (F2 g b) W W') : LJ w W' gj g b V q' j :=
  ⟨h.at_.disk hd ho, only_far h.below ho (fun i hi => by have := h.lo; rcases hi with rfl | rfl; exact this.2.1; exact this.2.2) h.below.size, h.lo, h.vlo⟩
end
theorem l_new (k : Nat) (w W : World) (hb : Below w.heap.size w W) (h1 : 1 ≤ k) (h2 : k ≤ 4096) : Calls Tryz.prog 6 #[.int .i64 (k : Nat)] W fun e w' => ∃ g b, e = .returned (.tuple #[.pointer (some ⟨g, 0, none⟩), .int .i64 0]) ∧ LD w w' g b (newD k) ∧ Below W.heap.size W w' ∧ W.heap.size ≤ g ∧ W.heap.size ≤ b :=
  (k_new k W h1 h2).mono fun e w' h => by
    obtain ⟨a, F, h1, ⟨g, b, h2, h3, h4⟩, h5, h6⟩ := h
    injection h2 with h2
    injection h2 with h2
    subst h2
    have l1 := h6 g ((h3 g).2 (Or.inl rfl))
    have l2 := h6 b ((h3 b).2 (Or.inr rfl))
    exact ⟨g, b, h1, ⟨h4, hb.trans (h5.mono hb.size), Nat.le_trans hb.size l1, Nat.le_trans hb.size l2⟩, h5, l1, l2⟩
theorem l_format {w W : World} {g b k m : Nat} {q q' : DSt} {j : JSt} (s : ByteArray) (h : LD w W g b q) (hf : q.Fit k m) (hm : m ≤ 10000000) (hl : q.S.length ≤ 4096) (hs : s.size ≤ 9223372036854775807) (he : format q s = ⟨q', some j, 0⟩) :
    Calls Tryz.prog 8 #[.pointer (some ⟨g, 0, none⟩), .string s] W fun e w' => ∃ gj V, e = .returned (.tuple #[.pointer (some ⟨gj, 0, none⟩), .int .i64 0]) ∧ LJ w w' gj g b V q' j ∧ OnlyF (F2 g b) W w' ∧ W.heap.size ≤ gj ∧ ∀ c, V.ownBlock = some c → W.heap.size ≤ c :=
  (p_format q g b k m s W h.dk hf hm hl hs).mono fun e w' hd => by
    rw [he] at hd
    obtain ⟨h1, h2, gj, V, h3, h4, h5, h6⟩ := hd
    have hb := h.only h1 h2
    exact ⟨gj, V, h3, ⟨h4, hb.below, ⟨Nat.le_trans h.below.size h5, h.lo⟩, fun c hc => Nat.le_trans h.below.size (h6 c hc)⟩, h2, h5, h6⟩
theorem l_open {w W : World} {g b k m : Nat} {q : DSt} {j : JSt} (h : LD w W g b q) (hf : q.Fit k m) (hl : q.S.length ≤ 600) (he : opened q = (some j, 0)) :
    Calls Tryz.prog 19 #[.pointer (some ⟨g, 0, none⟩)] W fun e w' => ∃ gj V, e = .returned (.tuple #[.pointer (some ⟨gj, 0, none⟩), .int .i64 0]) ∧ LJ w w' gj g b V q j ∧ OnlyF (F2 g b) W w' ∧ W.heap.size ≤ gj ∧ ∀ c, V.ownBlock = some c → W.heap.size ≤ c :=
  (p_open q g b k m W h.dk hf hl).mono fun e w' hd => by
    rw [he] at hd
    obtain ⟨gj, V, h3, h4, h2, h5, h6⟩ := hd
    have hb := h.only h4.dk h2
    exact ⟨gj, V, h3, ⟨h4, hb.below, ⟨Nat.le_trans h.below.size h5, h.lo⟩, fun c hc => Nat.le_trans h.below.size (h6 c hc)⟩, h2, h5, h6⟩
theorem l_open_no {w W : World} {g b k m : Nat} {q : DSt} {er : Int} (h : LD w W g b q) (hf : q.Fit k m) (hl : q.S.length ≤ 600) (he : opened q = (none, er)) :
    Calls Tryz.prog 19 #[.pointer (some ⟨g, 0, none⟩)] W fun e w' => e = .returned (.tuple #[.pointer none, .int .i64 er]) ∧ LD w w' g b q ∧ OnlyF (F2 g b) W w' :=
  (p_open q g b k m W h.dk hf hl).mono fun e w' hd => by
    rw [he] at hd
    obtain ⟨h1, h2, h3⟩ := hd
    exact ⟨h1, h.only h2 h3, h3⟩
theorem newD_fits {k : Nat} (h8 : 8 ≤ k) (h2 : k % 2 = 0) : fitsD (newD k) = true := by
  unfold fitsD newD
  simp only [List.length_replicate]
  exact decide_eq_true ⟨h8, h2⟩
theorem newD_at {k i : Nat} (h : i < k) : DSt.at_ (newD k) i = zero256 := by
  show (List.replicate k zero256).getD i none_ = _
  rw [List.getD_eq_getElem?_getD, List.getElem?_replicate, if_pos h]
  rfl
theorem newD_len (k : Nat) : (newD k).S.length = k := by unfold newD; simp
theorem newD_top (k : Nat) : topN (newD k) = 0 := by
  have := top_le (newD k) 0 (newD k).S.length (fun i hi => by rw [newD_len] at hi; rw [newD_at hi, zero_whole.2]; exact Nat.le_refl _)
  unfold topN
  omega
theorem newD_live {k : Nat} (h : k ≤ 4096) : Live (newD k) := Live.of_fit (new_fit h) rfl
theorem newD_old (k : Nat) : AllOld (newD k) 1 := fun i hi => by
  rw [newD_len] at hi
  rw [newD_at hi]
  exact ⟨zero_whole.1, by rw [zero_whole.2]; omega⟩
theorem newD_room (k : Nat) : roomD (newD k) = (k - 2) / 2 := by unfold roomD; rw [newD_len]
/-- A new disk, formatted. -/
theorem new_format {k : Nat} {s : ByteArray} (h8 : 8 ≤ k) (h2 : k % 2 = 0) (hk : k ≤ 4096) (hs : s.size ≤ 60000) (hr : sizeN s.size ≤ (k - 2) / 2) :
    ∃ q, format (newD k) s = ⟨q, some ⟨s, [], 2, 0, sizeN s.size, false⟩, 0⟩ ∧ Inv q ⟨s, [], 2, 0, sizeN s.size, false⟩ 1 ∧ q.dead = false ∧ q.armed = false ∧ q.S.length = k ∧ AllOld q 2 ∧ Live q ∧ q.Fit k 600 := by
  obtain ⟨q', h1, h3, h4, h5, h6, h7, h8'⟩ := format_done (q := newD k) (s := s) (newD_live hk) rfl (newD_fits h8 h2) (by rw [newD_len]; exact hk) hs (by rw [newD_room]; exact hr) (by rw [newD_top]; omega)
  rw [newD_top] at h1 h3 h7
  have hq := format_qfit (s := s) (new_fit hk)
  rw [h1] at hq
  exact ⟨q', h1, h3, h4, h5, h6.trans (newD_len k), h7 (newD_old k), h8', hq⟩
/-- An Append on a disk that nothing cuts. -/
theorem append_sure {q : DSt} {j : JSt} {m : Nat} {s : ByteArray} (h : Inv q j m) (hq : Live q) (hu : q.armed = false) (hd : j.dead = false) (hs : s.size ≤ 60000) :
    ((append q j s).e = 0 ∧ (sizeN s.size : Int) ≤ leftN q j ∧ j.next ≤ Jour.most ∧ (append q j s).j = ⟨j.base, j.recs ++ [s], j.next + 1, j.area, j.used + sizeN s.size, false⟩ ∧ Inv (append q j s).q (append q j s).j m ∧ (append q j s).q.dead = false ∧ (append q j s).q.armed = false ∧ (append q j s).q.writes = q.writes + sizeN s.size ∧ (append q j s).q.S.length = q.S.length ∧ (AllOld q j.next → AllOld (append q j s).q (j.next + 1))) ∨
    (append q j s = ⟨q, j, 73⟩ ∧ (leftN q j < sizeN s.size ∨ Jour.most < j.next)) := by
  obtain ⟨d1, d2, d3, d4, d5, d6⟩ := append_done h hq hd hs (fun e => by rw [hu] at e; cases e)
  rcases d2 with e | e | e
  · obtain ⟨c1, c2, c3, c4, c5, c6⟩ := d3 e
    have := d6.1 (Or.inl e)
    rcases this with ⟨-, c7, c8⟩ | ⟨c7, -⟩
    · exact Or.inl ⟨e, c7, c8, c1, c2, c3, by rw [c4, hu], c5, d1, c6⟩
    · rw [e] at c7; cases c7
  · obtain ⟨c1, c2⟩ := d4 e
    have := d6.1 (Or.inr e)
    rcases this with ⟨c7, -⟩ | ⟨-, c7⟩
    · rw [e] at c7; cases c7
    · refine Or.inr ⟨?_, c7⟩
      generalize append q j s = x at *
      cases x
      simp only at c1 c2 e
      rw [c1, c2, e]
  · have := (d5 e).1
    rw [hu] at this; cases this
end Go.Proofs.YtndanhacmfhlaaaGreat.Jour
namespace Go.Proofs.YtndanhacmfhlaaaGreat.Jour
open Go.ChangeShapes Go.WideShapes Go.ChangeAt Go.RowKit Go.Deep Els Go.Proofs.YtndanhacmfhlaaaGreat.Frame Disk

theorem wakes_plain : ∃ q1 q2 : DSt, format (newD 40) ⟨#[97]⟩ = ⟨q1, some ⟨⟨#[97]⟩, [], 2, 0, 1, false⟩, 0⟩ ∧ q1.Fit 40 600 ∧ q1.S.length = 40 ∧ append q1 ⟨⟨#[97]⟩, [], 2, 0, 1, false⟩ ⟨#[98]⟩ = ⟨q2, ⟨⟨#[97]⟩, [⟨#[98]⟩], 3, 0, 2, false⟩, 0⟩ ∧ q2.Fit 40 900 ∧ q2.S.length = 40 ∧ opened q2 = (some ⟨⟨#[97]⟩, [⟨#[98]⟩], 3, 0, 2, false⟩, 0) := by
  have s1 : sizeN (⟨#[97]⟩ : ByteArray).size = 1 := by unfold sizeN; rw [show (⟨#[97]⟩ : ByteArray).size = 1 from rfl]
  have s2 : sizeN (⟨#[98]⟩ : ByteArray).size = 1 := by unfold sizeN; rw [show (⟨#[98]⟩ : ByteArray).size = 1 from rfl]
  obtain ⟨q1, f1, I1, d1, a1, n1, o1, L1, F1⟩ := new_format (k := 40) (s := ⟨#[97]⟩) (by omega) (by omega) (by omega) (by show 1 ≤ 60000; omega) (by rw [s1]; omega)
  rw [s1] at f1 I1
  have hr : roomD q1 = 19 := by unfold roomD; rw [n1]
  rcases append_sure (s := ⟨#[98]⟩) I1 L1 a1 rfl (by show 1 ≤ 60000; omega) with ⟨e1, -, -, e2, e3, e4, -, -, e5, -⟩ | ⟨-, e1⟩
  · have hq := append_qfit (j := ⟨⟨#[97]⟩, [], 2, 0, 1, false⟩) (s := ⟨#[98]⟩) F1
    have ho := open_inv e3 e4
    rw [s2] at e2
    rw [e2] at ho
    refine ⟨q1, (append q1 ⟨⟨#[97]⟩, [], 2, 0, 1, false⟩ ⟨#[98]⟩).q, f1, F1, n1, ?_, hq, e5.trans n1, ho⟩
    generalize append q1 ⟨⟨#[97]⟩, [], 2, 0, 1, false⟩ ⟨#[98]⟩ = x at *
    cases x
    simp only at e1 e2
    rw [e1, e2]
    rfl
  · rw [s2] at e1
    unfold leftN Jour.most at e1
    rw [hr] at e1
    simp only at e1
    omega
theorem lit_text (w : World) (x : ByteArray) : Txts (w.alloc (.cells #[.string x] 9)) (w.alloc (.cells #[.string x] 9)).heap.size (.slice (some ⟨w.heap.size, 0, none⟩) 1 1) [x] := jone_text w x
set_option maxRecDepth 20000 in
set_option maxHeartbeats 4000000 in
theorem wakes_journal (w : World) : Calls Tryz.prog 5 #[] w fun e w' => e = .returned (.bool true) ∧ Below w.heap.size w w' := by
  obtain ⟨q1, q2, f1, F1, n1, e1, F2', n2, o2⟩ := wakes_plain
  have hf2 : (⟨⟨#[97]⟩, [⟨#[98]⟩], 3, 0, 2, false⟩ : JSt).Fit q2 := ⟨by decide, by unfold roomD; rw [n2]; decide, by decide, by decide⟩
  have hf1 : (⟨⟨#[97]⟩, [], 2, 0, 1, false⟩ : JSt).Fit q1 := ⟨by decide, by unfold roomD; rw [n1]; decide, by decide, by decide⟩
  have NW := Lib.hid (l_new 40 w w (Below.refl _ _) (by decide) (by decide))
  have FM : Hid (∀ W g b, LD w W g b (newD 40) → Calls Tryz.prog 8 #[.pointer (some ⟨g, 0, none⟩), .string ⟨#[97]⟩] W fun e w' => ∃ gj V, e = .returned (.tuple #[.pointer (some ⟨gj, 0, none⟩), .int .i64 0]) ∧ LJ w w' gj g b V q1 ⟨⟨#[97]⟩, [], 2, 0, 1, false⟩) := fun W g b h =>
    (l_format ⟨#[97]⟩ h (new_fit (by decide)) (by decide) (by rw [newD_len]; decide) (by decide) f1).mono fun e w' k => by
      obtain ⟨gj, V, k1, k2, -⟩ := k
      exact ⟨gj, V, k1, k2⟩
  have AP : Hid (∀ W gj g b V, LJ w W gj g b V q1 ⟨⟨#[97]⟩, [], 2, 0, 1, false⟩ → Calls Tryz.prog 11 #[.pointer (some ⟨gj, 0, none⟩), .string ⟨#[98]⟩] W fun e w' => e = .returned (.int .i64 0) ∧ LD w w' g b q2) := fun W gj g b V h =>
    (p_append q1 _ gj g b 40 600 V ⟨#[98]⟩ W h.at_ F1 (by decide) (by rw [n1]; decide) (by rw [n1]; decide) hf1 (by decide) (by decide)).mono fun e w' k => by
      obtain ⟨k1, V', k2, -⟩ := h.did k
      rw [e1] at k1 k2
      exact ⟨k1, k2.ld⟩
  have OP : Hid (∀ W g b, LD w W g b q2 → Calls Tryz.prog 19 #[.pointer (some ⟨g, 0, none⟩)] W fun e w' => ∃ gj V, e = .returned (.tuple #[.pointer (some ⟨gj, 0, none⟩), .int .i64 0]) ∧ LJ w w' gj g b V q2 ⟨⟨#[97]⟩, [⟨#[98]⟩], 3, 0, 2, false⟩) := fun W g b h =>
    (l_open h F2' (by rw [n2]; decide) o2).mono fun e w' k => by
      obtain ⟨gj, V, k1, k2, -⟩ := k
      exact ⟨gj, V, k1, k2⟩
  have BS : Hid (∀ W gj g b V, LJ w W gj g b V q2 ⟨⟨#[97]⟩, [⟨#[98]⟩], 3, 0, 2, false⟩ → Calls Tryz.prog 27 #[.pointer (some ⟨gj, 0, none⟩)] W fun e w' => e = .returned (.string ⟨#[97]⟩) ∧ LJ w w' gj g b V q2 ⟨⟨#[97]⟩, [⟨#[98]⟩], 3, 0, 2, false⟩) := fun W gj g b V h => (p_base q2 _ gj g b V W h.at_ (by decide)).mono fun e w' k => ⟨k.1, h.more k.2⟩
  have RC : Hid (∀ W gj g b V, LJ w W gj g b V q2 ⟨⟨#[97]⟩, [⟨#[98]⟩], 3, 0, 2, false⟩ → Calls Tryz.prog 29 #[.pointer (some ⟨gj, 0, none⟩)] W fun e w' => ∃ v, e = .returned v ∧ LJ w w' gj g b V q2 ⟨⟨#[97]⟩, [⟨#[98]⟩], 3, 0, 2, false⟩ ∧ Txts w' w'.heap.size v [⟨#[98]⟩]) := fun W gj g b V h =>
    (p_records q2 _ gj g b V W h.at_ (by decide) (by intro s hs; simp only [List.mem_singleton] at hs; rw [hs]; decide)).mono fun e w' k => by
      obtain ⟨v, k1, k2, k3⟩ := k
      exact ⟨v, k1, h.more k3, Els.of_own rfl k2⟩
  have NX : Hid (∀ W gj g b V, LJ w W gj g b V q2 ⟨⟨#[97]⟩, [⟨#[98]⟩], 3, 0, 2, false⟩ → Calls Tryz.prog 30 #[.pointer (some ⟨gj, 0, none⟩)] W fun e w' => e = .returned (.int .u32 3) ∧ W = w') := fun W gj g b V h => p_next q2 _ gj g b V W h.at_
  have LF : Hid (∀ W gj g b V, LJ w W gj g b V q2 ⟨⟨#[97]⟩, [⟨#[98]⟩], 3, 0, 2, false⟩ → Calls Tryz.prog 31 #[.pointer (some ⟨gj, 0, none⟩)] W fun e w' => e = .returned (.int .i64 17) ∧ LJ w w' gj g b V q2 ⟨⟨#[97]⟩, [⟨#[98]⟩], 3, 0, 2, false⟩) := fun W gj g b V h => (p_left q2 _ gj g b V W h.at_ (by rw [n2]; decide) (by rw [n2]; decide) hf2).mono fun e w' k => by
    obtain ⟨k1, n, rfl⟩ := k
    rw [show leftN q2 ⟨⟨#[97]⟩, [⟨#[98]⟩], 3, 0, 2, false⟩ = 17 by unfold leftN roomD; rw [n2]; rfl] at k1
    exact ⟨k1, h.heap n⟩
  have TX : Hid (∀ (W : World) v, Txts (W.alloc (.cells #[.string ⟨#[98]⟩] 9)) (W.alloc (.cells #[.string ⟨#[98]⟩] 9)).heap.size v [⟨#[98]⟩] → Calls Tryz.prog 28 #[v, .slice (some ⟨W.heap.size, 0, none⟩) 1 1] (W.alloc (.cells #[.string ⟨#[98]⟩] 9)) fun e w' => e = .returned (.bool true) ∧ ∃ n, w' = (W.alloc (.cells #[.string ⟨#[98]⟩] 9)).drewN n) := fun W v h => texts_same [⟨#[98]⟩] _ _ _ _ _ h (lit_text W ⟨#[98]⟩)
  clear f1 e1 o2 hf1 hf2 F1 F2' n1 n2
  go_enter Tryz.func5, Tryz.ntmps5
  go_wp2_with fail
  refine NW.out.mono ?_
  rintro e w1 ⟨g, b, rfl, h1, -⟩
  have H1 := Lib.hid h1
  clear h1
  go_wp2_with fail
  refine (FM.out _ _ _ H1.out).mono ?_
  rintro e w2 ⟨gj, V, rfl, h2⟩
  have H2 := Lib.hid h2
  clear h2 H1
  go_wp2_with fail
  refine (AP.out _ _ _ _ _ H2.out).mono ?_
  rintro e w3 ⟨rfl, h3⟩
  have H3 := Lib.hid h3
  clear h3 H2
  go_wp2_with fail
  refine (OP.out _ _ _ H3.out).mono ?_
  rintro e w4 ⟨gk, U, rfl, h4⟩
  have H4 := Lib.hid h4
  clear h4 H3
  go_wp2_with fail
  refine (BS.out _ _ _ _ _ H4.out).mono ?_
  rintro e w5 ⟨rfl, h5⟩
  have H5 := Lib.hid h5
  clear h5 H4
  go_wp2_with fail
  refine (RC.out _ _ _ _ _ H5.out).mono ?_
  rintro e w6 ⟨v, rfl, h6, t6⟩
  have H6 := Lib.hid h6
  have T6 := Lib.hid t6
  clear h6 t6 H5
  go_wp2_with fail
  refine (TX.out w6 v ((T6.out.below ((Below.refl w6.heap.size w6).alloc (Nat.le_refl _) _)).more (by simp))).mono ?_
  rintro e w7 ⟨rfl, n7, rfl⟩
  have H7 := Lib.hid ((H6.out.more ((Below.refl w6.heap.size w6).alloc (Nat.le_refl _) (.cells #[.string ⟨#[98]⟩] 9))).heap n7)
  generalize (w6.alloc (.cells #[.string ⟨#[98]⟩] 9)).drewN n7 = w8 at *
  go_wp2_with fail
  refine (NX.out _ _ _ _ _ H7.out).mono ?_
  rintro e w9 ⟨rfl, rfl⟩
  go_wp2_with fail
  refine (LF.out _ _ _ _ _ H7.out).mono ?_
  rintro e w9 ⟨rfl, h9⟩
  have H9 := Lib.hid h9
  clear h9
  go_wp2_with fail
  go_ret
  exact ⟨rfl, H9.out.below⟩
end Go.Proofs.YtndanhacmfhlaaaGreat.Jour
