/- Two disks side by side: the program's and the document's; the checker's own functions. The document's example: a write cut at its third byte. The checker's comparison of two disks. Two disks side by side, and a box besides. Of no one law. What becomes of a disk of eight sectors whose writes a crash cuts. Of no one law. -/
import Derived.Test.YtcicpdakefhmfaaGDc
import Derived.Test.YtcicpdakefhmfaaGA
import Derived.Deep.RegionHeld3
import Derived.Test.YtcicpdakefhmfaaGDk
namespace Go.Proofs.Ytcicpdakefhmfaa.Disk
open Go.ChangeShapes Go.WideShapes Go.ChangeAt Go.RowKit Go.Deep Stp Nul

/-- Side by side, both of the call's own: the document's holds q, the program's p. -/
structure TwoD (w wr : World) (g r : Nat) (F : Nat → Prop) (a : Addr) (q p : DSt) : Prop where
  doc : DocAt wr g r q
  own : DkAt wr F (.pointer (some a)) p
  apart : ¬ F g ∧ ¬ F r
  lowg : w.heap.size ≤ g
  lowr : w.heap.size ≤ r
  low : ∀ i, F i → w.heap.size ≤ i
  below : Below w.heap.size w wr
section
variable {w wr w' : World} {g r : Nat} {F F' : Nat → Prop} {a : Addr} {q p q' p' : DSt}
theorem TwoD.first (h : TwoD w wr g r F a q p) (h1 : DkAt w' F' (.pointer (some a)) p') (h2 : OnlyF F wr w') (h3 : ∀ i, F' i → F i ∨ wr.heap.size ≤ i) : TwoD w w' g r F' a q p' := by
  have lg := h.doc.lt
  have hs := h.below.size
  refine ⟨h.doc.keep (h2.block g lg.1 h.apart.1) (h2.block r lg.2 h.apart.2), h1, ⟨fun e => ?_, fun e => ?_⟩, h.lowg, h.lowr, fun i hi => ?_, only_far h.below h2 h.low hs⟩
  · rcases h3 g e with e | e
    · exact h.apart.1 e
    · omega
  · rcases h3 r e with e | e
    · exact h.apart.2 e
    · omega
  · rcases h3 i hi with e | e
    · exact h.low i e
    · omega
theorem TwoD.second (h : TwoD w wr g r F a q p) (h1 : DocAt w' g r q') (h2 : OnlyTwo g r wr w') : TwoD w w' g r F a q' p :=
  ⟨h1, h.own.keep h2.size (fun i hi => h2.block i (h.own.lt i hi) (fun e => h.apart.1 (e ▸ hi)) (fun e => h.apart.2 (e ▸ hi))), h.apart, h.lowg, h.lowr, h.low, two_far h.below h2 h.lowg h.lowr h.below.size⟩
theorem TwoD.same (h : TwoD w wr g r F a q p) (hh : w'.heap = wr.heap) (ho : w'.os = wr.os) (ht : w'.tape = wr.tape) (hp : w'.output = wr.output) : TwoD w w' g r F a q p :=
  ⟨h.doc.keep (by rw [hh]) (by rw [hh]), h.own.keep (by rw [hh]; exact Nat.le_refl _) (fun i _ => by rw [hh]), h.apart, h.lowg, h.lowr, h.low, ⟨ho.trans h.below.os, ht.trans h.below.tape, hp.trans h.below.output, by rw [hh]; exact h.below.size, fun i hi => by rw [hh]; exact h.below.block i hi⟩⟩
theorem TwoD.drewN (h : TwoD w wr g r F a q p) (n : Nat) : TwoD w (wr.drewN n) g r F a q p := h.same rfl rfl rfl rfl
theorem TwoD.drew (h : TwoD w wr g r F a q p) : TwoD w wr.drew g r F a q p := h.same rfl rfl rfl rfl
end
/-- Is a list of steps one that is gone through? -/
def fairB (l : List St) : Bool := l.all (fun z => decide (z.s.size ≤ 2000)) && decide (l.length ≤ 150)
theorem st_in {l : List St} {i : Nat} (h : i < l.length) : l.getD i st0 ∈ l := by
  rw [List.getD_eq_getElem?_getD, List.getElem?_eq_getElem h]; exact List.getElem_mem h
theorem r_fair (l : List St) (v : Value) (B : Nat) (w : World) (hv : Sts w B v l) : Calls Try.prog 6 #[v] w fun e w' => e = .returned (.bool (fairB l)) ∧ w = w' := by
  obtain ⟨A, c, rfl, hn, -, hc⟩ := hv
  have HC := Lib.hid hc
  clear hc
  have HT : Hid ((∀ j, j < l.length → (l.getD j st0).s.size ≤ 2000) → fairB l = decide (l.length ≤ 150)) := fun h => by
    unfold fairB
    rw [show l.all (fun z => decide (z.s.size ≤ 2000)) = true from List.all_eq_true.2 fun z hz => by
      obtain ⟨j, hj⟩ := List.mem_iff_getElem?.1 hz
      have hlt := (List.getElem?_eq_some_iff.1 hj).1
      have := h j hlt
      rw [List.getD_eq_getElem?_getD, hj] at this
      exact decide_eq_true this]
    rfl
  have HF : Hid (∀ j, j < l.length → ¬ (l.getD j st0).s.size ≤ 2000 → fairB l = false) := fun j hj h => by
    unfold fairB
    rw [show l.all (fun z => decide (z.s.size ≤ 2000)) = false from Bool.eq_false_iff.2 fun e => h (of_decide_eq_true (List.all_eq_true.1 e _ (st_in hj)))]
    rfl
  generalize hR : fairB l = R at *
  clear hR
  go_enter Try.func6, Try.ntmps6
  go_wp2_with fail
  go_loop [3] (fun t => ∃ j : Nat, j ≤ l.length ∧ t = .int .i64 j ∧ Hid (∀ i, i < j → (l.getD i st0).s.size ≤ 2000)) (fun t => l.length - (intOf t).toNat)
  case atStart => exact ⟨0, Nat.zero_le _, rfl, fun i hi => absurd hi (Nat.not_lt_zero _)⟩
  case round =>
    obtain ⟨j, hj, rfl, HA⟩ := hrel
    by_cases hlt : j < l.length
    · obtain ⟨b, off, rfl, -, hx⟩ := HC.out (by omega)
      have x3 := (hx j hlt).2.2.2
      have t1 : decide (j < l.length) = true := decide_eq_true hlt
      have h0 : (0 : Int) ≤ j := by omega
      by_cases hs : (l.getD j st0).s.size ≤ 2000
      · have t2 : decide (2000 < (l.getD j st0).s.size) = false := decide_eq_false (by omega)
        have HA2 : Hid (∀ i, i < j + 1 → (l.getD i st0).s.size ≤ 2000) := fun i hi => by
          by_cases e : i = j
          · rw [e]; exact hs
          · exact HA.out i (by omega)
        clear hs hx HF HT
        generalize (l.getD j st0).s = x at *
        have t2' : decide ((2000 : Int) < x.size) = false := decide_eq_false (by have := of_decide_eq_false t2; omega)
        go_wp2_with fail
        go_round
        case rel => exact ⟨j + 1, by omega, by go_num, HA2⟩
        case measure => simp [intOf]; omega
      · obtain rfl := HF.out j hlt hs
        have t2 : decide ((2000 : Int) < (l.getD j st0).s.size) = true := decide_eq_true (by omega)
        clear hs hx HF HT
        generalize (l.getD j st0).s = x at *
        go_wp2_with fail
        go_ret
        exact ⟨rfl, rfl⟩
    · obtain rfl : j = l.length := by omega
      have t1 : decide (l.length < l.length) = false := decide_eq_false (by omega)
      have E := HT.out HA.out
      clear HF HT HA
      by_cases h150 : l.length ≤ 150
      · rw [decide_eq_true h150] at E
        obtain rfl := E
        have t3 : decide ((l.length : Int) ≤ 150) = true := decide_eq_true (by omega)
        go_wp2_with fail
        go_ret
        exact ⟨rfl, rfl⟩
      · rw [decide_eq_false h150] at E
        obtain rfl := E
        have t3 : decide ((l.length : Int) ≤ 150) = false := decide_eq_false (by omega)
        go_wp2_with fail
        go_ret
        exact ⟨rfl, rfl⟩
/-- A sector of one byte. -/
def blockS (b : Nat) : ByteArray := ⟨Array.replicate 256 (UInt8.ofNat b)⟩
theorem block_size (b : Nat) : (blockS b).size = 256 := by unfold blockS; simp [ByteArray.size]
theorem r_block (b : Nat) (w : World) (hb : b < 256) : Calls Try.prog 21 #[.int .u8 (b : Nat)] w fun e w' => e = .returned (.string (blockS b)) ∧ Below w.heap.size w w' := by
  have hmk0 : ∀ W : World, (Instr.makeSlice 58 (.int .i64 256) (.int .i64 256)).run Try.prog W = .ok (.slice (some ⟨W.heap.size, 0, none⟩) 256 256) (W.alloc (.cells (madeCells #[.int .u8 0] 256) 5)) := make_bytes 256 (by decide)
  have HR0 := Lib.hid (World.rowIs_made w (.int .u8 0) 256 5)
  have HB0 := Lib.hid ((Below.refl w.heap.size w).alloc (Nat.le_refl _) (.cells (madeCells #[.int .u8 0] 256) 5))
  generalize madeCells #[.int .u8 0] 256 = MC at *
  go_enter Try.func21, Try.ntmps21
  go_wp2_with fail
  have hg : w.heap.size ≤ w.heap.size := Nat.le_refl _
  generalize hw1 : w.alloc (.cells MC 5) = w1 at *
  obtain ⟨g, hgd⟩ : ∃ g, w.heap.size = g := ⟨_, rfl⟩
  have HG : Hid (∀ W, Below w.heap.size w W ↔ Below g w W) := fun W => by rw [hgd]
  rw [hgd] at HR0 HB0 ⊢
  clear hg hw1 hgd
  go_loopw [4] (fun t wr => ∃ j : Nat, j ≤ 256 ∧ t = .int .i64 j ∧ Hid (wr.rowIs g 5 256 (fun i => if i < j then .int .u8 (b : Nat) else .int .u8 0)) ∧ Hid (Below g w wr)) (fun t _ => 256 - (intOf t).toNat)
  case atStart => exact ⟨0, Nat.zero_le _, rfl, HR0.out.congr (fun i _ => by rw [if_neg (Nat.not_lt_zero _)]), HB0⟩
  case round =>
    obtain ⟨j, hj, rfl, HR, HB⟩ := hrel
    by_cases hlt : j < 256
    · have t1 : decide ((j : Int) < 256) = true := decide_eq_true (by omega)
      have h0 : (0 : Int) ≤ j := by omega
      have hp : wr.cell? ⟨g, j, none⟩ = some (.int .u8 0) := by rw [HR.out.cell hlt, if_neg (Nat.lt_irrefl _)]
      have hf := HR.out.frozen j
      have ho := HR.out.lt
      have HR2 : Hid ((wr.setCell ⟨g, j, none⟩ (.int .u8 (b : Nat))).rowIs g 5 256 (fun i => if i < j + 1 then .int .u8 (b : Nat) else .int .u8 0)) := (HR.out.set j (.int .u8 (b : Nat))).congr (fun i _ => by
        by_cases h1 : i = j
        · rw [if_pos h1, if_pos (by omega)]
        · rw [if_neg h1]
          by_cases h2 : i < j
          · rw [if_pos h2, if_pos (by omega)]
          · rw [if_neg h2, if_neg (by omega)])
      go_wp2_with fail
      go_roundw
      case rel => exact ⟨j + 1, by omega, by go_num, HR2, HB.out.setCell (p := ⟨g, j, none⟩) (Nat.le_refl _) _⟩
      case measure => simp [intOf]; omega
    · obtain rfl : j = 256 := by omega
      have cv : (convert 58 9 (.slice (some ⟨g, 0, none⟩) 256 256)).run Try.prog wr = .ok (.string (blockS b)) wr := by
        have hl : (List.replicate 256 (UInt8.ofNat b)).length = 256 := List.length_replicate
        have := run_convert_bytes_back (P := Try.prog) wr 58 9 5 ⟨g, 0, none⟩ 256 (List.replicate 256 (UInt8.ofNat b)) Try.underlying58 Try.underlying5 Try.underlying9 (fun j hj => by
          rw [hl] at hj
          rw [Go.WideShapes.add_plain, Nat.zero_add, HR.out.cell hj, if_pos hj]
          have e8 : (UInt8.ofNat b).toNat = b := by rw [UInt8.toNat_ofNat']; omega
          rw [List.getElem_replicate, e8])
        rw [hl] at this
        rw [this]
        unfold blockS
        rw [List.toArray_replicate]
      go_wp2_with fail
      go_ret
      exact ⟨rfl, (HG.out _).2 HB.out⟩
end Go.Proofs.Ytcicpdakefhmfaa.Disk
namespace Go.Proofs.Ytcicpdakefhmfaa.Disk
open Go.ChangeShapes Go.WideShapes Go.ChangeAt Go.RowKit Go.Deep Stp Nul

/-- A disk of the call's own. -/
structure OneD (w wr : World) (F : Nat → Prop) (a : Addr) (p : DSt) : Prop where
  own : DkAt wr F (.pointer (some a)) p
  low : ∀ i, F i → w.heap.size ≤ i
  below : Below w.heap.size w wr
section
variable {w wr w' : World} {F F' : Nat → Prop} {a : Addr} {p p' : DSt}
theorem OneD.did (h : OneD w wr F a p) (h1 : DkAt w' F' (.pointer (some a)) p') (h2 : OnlyF F wr w') (h3 : ∀ i, F' i → F i ∨ wr.heap.size ≤ i) : OneD w w' F' a p' := by
  have hs := h.below.size
  refine ⟨h1, fun i hi => ?_, only_far h.below h2 h.low hs⟩
  rcases h3 i hi with e | e
  · exact h.low i e
  · omega
theorem OneD.more (h : OneD w wr F a p) (hb : Below wr.heap.size wr w') : OneD w w' F a p :=
  ⟨h.own.keep hb.size (fun i hi => hb.block i (h.own.lt i hi)), h.low, h.below.trans (hb.mono h.below.size)⟩
theorem OneD.same (h : OneD w wr F a p) (hh : w'.heap = wr.heap) (ho : w'.os = wr.os) (ht : w'.tape = wr.tape) (hp : w'.output = wr.output) : OneD w w' F a p :=
  ⟨h.own.keep (by rw [hh]; exact Nat.le_refl _) (fun i _ => by rw [hh]), h.low, ⟨ho.trans h.below.os, ht.trans h.below.tape, hp.trans h.below.output, by rw [hh]; exact h.below.size, fun i hi => by rw [hh]; exact h.below.block i hi⟩⟩
theorem OneD.drewN (h : OneD w wr F a p) (n : Nat) : OneD w (wr.drewN n) F a p := h.same rfl rfl rfl rfl
theorem OneD.drew (h : OneD w wr F a p) : OneD w wr.drew F a p := h.same rfl rfl rfl rfl
end
def wq1 : DSt := (newD 8).arm 0 3
def wq2 : DSt := wq1.write 0 (blockS 97)
def wq3 : DSt := wq2.start
theorem wq1_fit : wq1.Fit 8 0 := (new_fit (by decide)).arm 0 3
theorem wq2_fit : wq2.Fit 8 1 := wq1_fit.write 0 _
theorem wq3_fit : wq3.Fit 8 1 := wq2_fit.start
theorem wq1_goes : wq1.goes 0 (blockS 97) = true := goes_iff.2 ⟨rfl, ⟨Int.le_refl 0, by decide⟩, block_size 97⟩
theorem wq1_dies : wq1.dies = true := rfl
theorem wq2_is : wq2 = wq1.cut 0 (blockS 97) := by unfold wq2 DSt.write; rw [if_pos wq1_goes, if_pos wq1_dies]
theorem wq1_err : wq1.writeE 0 (blockS 97) = 74 := by unfold DSt.writeE; rw [if_neg (by decide), if_pos wq1_goes, if_pos wq1_dies]
theorem wq2_dead : wq2.dead = true := by rw [wq2_is]; rfl
theorem wq3_S : wq3.S = (List.replicate 8 zero256).set 0 (torn zero256 (blockS 97) 3) := by unfold wq3; rw [wq2_is]; rfl
theorem aaa : torn zero256 (blockS 97) 3 = ⟨#[97, 97, 97]⟩ ++ nul 253 := by
  unfold torn
  have e1 : (blockS 97).extract 0 3 = ⟨#[97, 97, 97]⟩ := by
    apply ByteArray.ext
    rw [ByteArray.data_extract]
    unfold blockS
    rw [Array.extract_replicate]
    rfl
  have e2 : zero256.extract 3 256 = nul 253 := by
    apply ByteArray.ext
    rw [ByteArray.data_extract]
    unfold zero256 nul
    rw [Array.extract_replicate]
    rfl
  rw [e1, e2]
theorem wq3_read : wq3.readS 0 = ⟨#[97, 97, 97]⟩ ++ nul 253 ∧ wq3.readE 0 = 0 := by
  have hl : wq3.S.length = 8 := wq3_fit.len
  have hh : wq3.has 0 = true := has_iff.2 ⟨Int.le_refl 0, by rw [hl]; decide⟩
  have hd : wq3.dead = false := rfl
  refine ⟨?_, by unfold DSt.readE; rw [if_neg (by rw [hd]; decide), if_pos hh]⟩
  unfold DSt.readS
  rw [if_pos ⟨hd, hh⟩]
  unfold DSt.text
  rw [wq3_S, getD_set, if_pos ⟨rfl, by simp⟩, aaa]
theorem wq3_writes : wq3.writes = 0 := by unfold wq3; rw [wq2_is]; rfl
set_option maxRecDepth 20000 in
set_option maxHeartbeats 1000000 in
theorem wakes_disk (w : World) : Calls Try.prog 7 #[] w fun e w' => e = .returned (.bool true) ∧ Below w.heap.size w w' := by
  have NW : Hid (∀ W, Calls Try.prog 8 #[.int .i64 8] W fun e w' => ∃ a F, e = .returned (.tuple #[.pointer (some a), .int .i64 0]) ∧ OneD W w' F a (newD 8)) := fun W => (k_new 8 W (by decide) (by decide)).mono fun e w' h => by
    obtain ⟨a, F, h1, h2, h3, h4⟩ := h
    exact ⟨a, F, h1, h2, h4, h3⟩
  have AR : Hid (∀ W F a, OneD w W F a (newD 8) → Calls Try.prog 14 #[.pointer (some a), .int .i64 0, .int .i64 3] W fun e w' => e = .returned (.int .i64 0) ∧ ∃ F', OneD w w' F' a wq1) := fun W F a h => (k_arm _ F a 0 3 W 8 0 h.own (new_fit (by decide)) (by decide) (by decide)).mono fun e w' k => by
    obtain ⟨rfl, F', k1, k2, k3⟩ := k
    exact ⟨rfl, F', h.did k1 k2 k3⟩
  have BL : Hid (∀ W F a, OneD w W F a wq1 → Calls Try.prog 21 #[.int .u8 97] W fun e w' => e = .returned (.string (blockS 97)) ∧ OneD w w' F a wq1) := fun W F a h => (r_block 97 W (by decide)).mono fun e w' k => ⟨k.1, h.more k.2⟩
  have WR : Hid (∀ W F a, OneD w W F a wq1 → Calls Try.prog 10 #[.pointer (some a), .int .i64 0, .string (blockS 97)] W fun e w' => e = .returned (.int .i64 74) ∧ ∃ F', OneD w w' F' a wq2) := fun W F a h => (k_write _ F a 0 (blockS 97) W 8 0 h.own wq1_fit (by decide) (by decide) (by rw [block_size]; decide)).mono fun e w' k => by
    obtain ⟨k0, F', k1, k2, k3⟩ := k
    rw [wq1_err] at k0
    exact ⟨k0, F', h.did k1 k2 k3⟩
  have DD : Hid (∀ W F a, OneD w W F a wq2 → Calls Try.prog 18 #[.pointer (some a)] W fun e w' => e = .returned (.bool true) ∧ ∃ F', OneD w w' F' a wq2) := fun W F a h => (k_dead _ F a W 8 1 h.own wq2_fit).mono fun e w' k => by
    obtain ⟨k0, F', k1, k2, k3⟩ := k
    rw [wq2_dead] at k0
    exact ⟨k0, F', h.did k1 k2 k3⟩
  have ST : Hid (∀ W F a, OneD w W F a wq2 → Calls Try.prog 16 #[.pointer (some a)] W fun e w' => e = .returned (.tuple #[]) ∧ ∃ F', OneD w w' F' a wq3) := fun W F a h => (k_start _ F a W 8 1 h.own wq2_fit).mono fun e w' k => by
    obtain ⟨k0, F', k1, k2, k3⟩ := k
    exact ⟨k0, F', h.did k1 k2 k3⟩
  have RD : Hid (∀ W F a, OneD w W F a wq3 → Calls Try.prog 12 #[.pointer (some a), .int .i64 0] W fun e w' => e = .returned (.tuple #[.string (⟨#[97, 97, 97]⟩ ++ nul 253), .int .i64 0]) ∧ ∃ F', OneD w w' F' a wq3) := fun W F a h => (k_read _ F a 0 W 8 1 h.own wq3_fit (by decide)).mono fun e w' k => by
    obtain ⟨k0, F', k1, k2, k3⟩ := k
    rw [wq3_read.1, wq3_read.2] at k0
    exact ⟨k0, F', h.did k1 k2 k3⟩
  have ZR : Hid (∀ W F a, OneD w W F a wq3 → Calls Try.prog 23 #[.int .i64 253] W fun e w' => e = .returned (.string (nul 253)) ∧ OneD w w' F a wq3) := fun W F a h => (k_zeros 253 W (by decide)).mono fun e w' k => ⟨k.1, h.more k.2⟩
  have SZ : Hid (∀ W F a, OneD w W F a wq3 → Calls Try.prog 22 #[.pointer (some a)] W fun e w' => e = .returned (.int .i64 8) ∧ ∃ F', OneD w w' F' a wq3) := fun W F a h => (k_size _ F a W 8 1 h.own wq3_fit).mono fun e w' k => by
    obtain ⟨k0, F', k1, k2, k3⟩ := k
    rw [wq3_fit.len] at k0
    exact ⟨k0, F', h.did k1 k2 k3⟩
  have WS : Hid (∀ W F a, OneD w W F a wq3 → Calls Try.prog 19 #[.pointer (some a)] W fun e w' => e = .returned (.int .i64 0) ∧ ∃ F', OneD w w' F' a wq3) := fun W F a h => (k_writes _ F a W 8 1 h.own wq3_fit).mono fun e w' k => by
    obtain ⟨k0, F', k1, k2, k3⟩ := k
    rw [wq3_writes] at k0
    exact ⟨k0, F', h.did k1 k2 k3⟩
  have hz : (nul 253).size = 253 := nul_size 253
  have z1 : ¬ (9223372036854775807 < (⟨#[97, 97, 97]⟩ : ByteArray).size + (nul 253).size) := by rw [hz]; decide
  generalize nul 253 = Z at *
  generalize blockS 97 = BK at *
  go_enter Try.func7, Try.ntmps7
  go_wp2_with fail
  refine (NW.out w).mono ?_
  rintro e w1 ⟨a, F1, rfl, h1⟩
  have H1 := Lib.hid h1
  clear h1
  go_wp2_with fail
  go_wp2_with (first
    | (with_reducible refine (AR.out _ _ _ H1.out).mono ?_; rintro e w2 ⟨rfl, F2, h⟩; have H2 := Lib.hid h; clear h)
    | (with_reducible refine (BL.out _ _ _ H2.out).mono ?_; rintro e w3 ⟨rfl, h⟩; have H3 := Lib.hid h; clear h)
    | (with_reducible refine (WR.out _ _ _ H3.out).mono ?_; rintro e w4 ⟨rfl, F4, h⟩; have H4 := Lib.hid h; clear h)
    | (with_reducible refine (DD.out _ _ _ H4.out).mono ?_; rintro e w5 ⟨rfl, F5, h⟩; have H5 := Lib.hid h; clear h)
    | (with_reducible refine (ST.out _ _ _ H5.out).mono ?_; rintro e w6 ⟨rfl, F6, h⟩; have H6 := Lib.hid h; clear h)
    | (with_reducible refine (RD.out _ _ _ H6.out).mono ?_; rintro e w7 ⟨rfl, F7, h⟩; have H7 := Lib.hid h; clear h)
    | (with_reducible refine (ZR.out _ _ _ H7.out).mono ?_; rintro e w8 ⟨rfl, h⟩; have H8 := Lib.hid h; clear h)
    | (with_reducible refine (SZ.out _ _ _ H8.out).mono ?_; rintro e w9 ⟨rfl, F9, h⟩; have H9 := Lib.hid h; clear h)
    | (with_reducible refine (WS.out _ _ _ H9.out).mono ?_; rintro e w10 ⟨rfl, F10, h⟩; have H10 := Lib.hid h; clear h))
  go_ret
  exact ⟨rfl, H10.out.below⟩
end Go.Proofs.Ytcicpdakefhmfaa.Disk
namespace Go.Proofs.Ytcicpdakefhmfaa.Disk
open Go.ChangeShapes Go.WideShapes Go.ChangeAt Go.RowKit Go.Deep Stp Nul

def AsTwo (w : World) (g r : Nat) (a : Addr) (q : DSt) (x : Value) (e : Ending) (w' : World) : Prop := e = .returned x ∧ ∃ F, TwoD w w' g r F a q q
theorem TwoD.read {w wr : World} {g r : Nat} {F : Nat → Prop} {a : Addr} {q : DSt} {k m : Nat} (h : TwoD w wr g r F a q q) (hf : q.Fit k m) (i : Int) (hi : -9223372036854775808 ≤ i ∧ i ≤ 9223372036854775807) :
    Calls Try.prog 12 #[.pointer (some a), .int .i64 i] wr (AsTwo w g r a q (.tuple #[.string (q.readS i), .int .i64 (q.readE i)])) :=
  (k_read q F a i wr k m h.own hf hi).mono fun e w' k => by
    obtain ⟨k0, F', k1, k2, k3⟩ := k
    exact ⟨k0, F', h.first k1 k2 k3⟩
set_option maxRecDepth 20000 in
set_option maxHeartbeats 2000000 in
theorem same_two (w wr : World) (g r : Nat) (F : Nat → Prop) (a : Addr) (q : DSt) (k m : Nat) (h : TwoD w wr g r F a q q) (hf : q.Fit k m) :
    Calls Try.prog 20 #[.pointer (some a), .pointer (some ⟨g, 0, none⟩)] wr (AsTwo w g r a q (.bool true)) := by
  have H := Lib.hid h
  obtain ⟨c, -, a0, a1, -, -, -, a5, -⟩ := doc_cells h.doc
  have HC : Hid (∀ W : World, W.heap[g]? = wr.heap[g]? → W.cell? ⟨g, 0, none⟩ = some (.slice (some ⟨r, 0, none⟩) q.S.length c) ∧ W.cell? ⟨g, 1, none⟩ = some (.bool q.dead) ∧ W.cell? ⟨g, 5, none⟩ = some (.int .i64 q.writes)) := fun W hh => by
    refine ⟨?_, ?_, ?_⟩
    · rw [← a0]; exact World.cell?_of_block hh
    · rw [← a1]; exact World.cell?_of_block hh
    · rw [← a5]; exact World.cell?_of_block hh
  have E0 : Hid (wr.drew.heap[g]? = wr.heap[g]?) := rfl
  have C0 := HC.out wr.drew E0.out
  clear a0 a1 a5
  unfold AsTwo
  go_enter Try.func20, Try.ntmps20
  go_wp2_with fail
  have HD := Lib.hid h.drew
  clear h
  go_region_held3 (fun w' => w'.cell? ⟨g, 0, none⟩ = some (.slice (some ⟨r, 0, none⟩) q.S.length c) ∧ w'.cell? ⟨g, 1, none⟩ = some (.bool q.dead) ∧ w'.cell? ⟨g, 5, none⟩ = some (.int .i64 q.writes))
    (first | exact C3 | exact C2 | exact C1 | exact C0)
    (first
      | (go_at_call 18
         with_reducible refine (k_dead q F a wr.drew k m HD.out.own hf).mono ?_
         rintro e w1 ⟨rfl, F1, n1, n2, n3⟩
         have E1 := Lib.hid ((n2.block g HD.out.doc.lt.1 HD.out.apart.1).trans E0.out)
         have H1 := Lib.hid (HD.out.first n1 n2 n3)
         have C1 := HC.out w1 E1.out
         clear n1 n2 n3)
      | (go_at_call 22
         with_reducible refine (k_size q F1 a w1 k m H1.out.own hf).mono ?_
         rintro e w2 ⟨rfl, F2, n1, n2, n3⟩
         have E2 := Lib.hid ((n2.block g H1.out.doc.lt.1 H1.out.apart.1).trans E1.out)
         have H2 := Lib.hid (H1.out.first n1 n2 n3)
         have C2 := HC.out w2 E2.out
         clear n1 n2 n3)
      | (go_at_call 19
         with_reducible refine (k_writes q F2 a w2 k m H2.out.own hf).mono ?_
         rintro e w3 ⟨rfl, F3, n1, n2, n3⟩
         have E3 := Lib.hid ((n2.block g H2.out.doc.lt.1 H2.out.apart.1).trans E2.out)
         have H3 := Lib.hid (H2.out.first n1 n2 n3)
         have C3 := HC.out w3 E3.out
         clear n1 n2 n3))
  clear C0 C1 C2 C3 HD H1 H2 H E0 E1 E2
  have hmost : q.S.length ≤ 4096 := by rw [hf.len]; exact hf.most
  have HF := Lib.hid hf
  go_wp2_with fail
  go_loopw [5] (fun t W => ∃ (n : Nat) (F : Nat → Prop), n ≤ q.S.length + 2 ∧ t = .int .i64 ((n : Int) - 1) ∧ Hid (TwoD w W g r F a q q) ∧ Hid (W.heap[g]? = wr.heap[g]?)) (fun t _ => q.S.length + 2 - ((intOf t) + 1).toNat)
  case atStart => exact ⟨0, F3, Nat.zero_le _, rfl, H3, E3⟩
  case round =>
    obtain ⟨n, F4, hn, rfl, HT, HE⟩ := hrel
    obtain ⟨a0, -, -⟩ := HC.out _ HE.out
    by_cases hlt : n < q.S.length + 2
    · have t1 : decide ((n : Int) - 1 ≤ (q.S.length : Int)) = true := decide_eq_true (by omega)
      have i1 : IntKind.i64.wrap ((n : Int) - 1 + 1) = ((n + 1 : Nat) : Int) - 1 := by rw [IntWalk.i64_in _ (by omega)]; omega
      have RD := Lib.hid (k_read q F4 a ((n : Int) - 1) _ k m HT.out.own HF.out (by omega))
      have RR : Hid (∀ W, DocAt W g r q → Calls Try.prog 13 #[.pointer (some ⟨g, 0, none⟩), .int .i64 ((n : Int) - 1)] W fun e w' => e = .returned (.tuple #[.string (q.readS ((n : Int) - 1)), .int .i64 (q.readE ((n : Int) - 1))]) ∧ W = w') := fun W hW => r_read q g r ((n : Int) - 1) W hW (by omega)
      generalize q.readS ((n : Int) - 1) = s1 at *
      generalize q.readE ((n : Int) - 1) = s2 at *
      go_wp2_with fail
      refine RD.out.mono ?_
      rintro e w5 ⟨rfl, F5, n1, n2, n3⟩
      have E5 := Lib.hid ((n2.block g HT.out.doc.lt.1 HT.out.apart.1).trans HE.out)
      have H5 := Lib.hid (HT.out.first n1 n2 n3)
      clear n1 n2 n3 RD
      go_wp2_with fail
      refine (RR.out w5 H5.out.doc).mono ?_
      rintro e w6 ⟨rfl, rfl⟩
      clear RR a0
      go_wp2_with fail
      go_roundw
      case rel => exact ⟨n + 1, F5, by omega, by first | go_num | (congr 1; omega), H5, E5⟩
      case measure => simp [intOf]; omega
    · obtain rfl : n = q.S.length + 2 := by omega
      have t1 : decide (((q.S.length + 2 : Nat) : Int) - 1 ≤ (q.S.length : Int)) = false := decide_eq_false (by omega)
      go_wp2_with fail
      go_ret
      exact ⟨rfl, F4, HT.out⟩
end Go.Proofs.Ytcicpdakefhmfaa.Disk
namespace Go.Proofs.Ytcicpdakefhmfaa.Disk
open Go.ChangeShapes Go.WideShapes Go.ChangeAt Go.RowKit Go.Deep Stp Nul

def stObj (z : St) : Obj := .cells #[.int .i64 z.kind, .int .i64 z.n, .int .i64 z.part, .string z.s] 33
structure TriD (w wr : World) (g r gx : Nat) (F : Nat → Prop) (a : Addr) (q p : DSt) (z : St) : Prop where
  two : TwoD w wr g r F a q p
  box : wr.heap[gx]? = some (stObj z)
  ne : gx ≠ g ∧ gx ≠ r ∧ ¬ F gx
section
variable {w wr w' : World} {g r gx : Nat} {F F' : Nat → Prop} {a : Addr} {q p q' p' : DSt} {z : St}
theorem TwoD.more (h : TwoD w wr g r F a q p) (hb : Below wr.heap.size wr w') : TwoD w w' g r F a q p :=
  ⟨h.doc.keep (hb.block g h.doc.lt.1) (hb.block r h.doc.lt.2), h.own.keep hb.size (fun i hi => hb.block i (h.own.lt i hi)), h.apart, h.lowg, h.lowr, h.low, h.below.trans (hb.mono h.below.size)⟩
theorem TriD.made (h : TwoD w wr g r F a q p) (z : St) : TriD w (wr.alloc (stObj z)) g r wr.heap.size F a q p z :=
  ⟨h.more ((Below.refl _ _).alloc (Nat.le_refl _) _), heap_alloc_new _ _, by have := h.doc.lt.1; omega, by have := h.doc.lt.2; omega, fun e => by have := h.own.lt _ e; omega⟩
theorem TriD.lt (h : TriD w wr g r gx F a q p z) : gx < wr.heap.size := by
  rcases Nat.lt_or_ge gx wr.heap.size with hlt | hge
  · exact hlt
  · have := h.box; rw [Array.getElem?_eq_none hge] at this; cases this
theorem TriD.first (h : TriD w wr g r gx F a q p z) (h1 : DkAt w' F' (.pointer (some a)) p') (h2 : OnlyF F wr w') (h3 : ∀ i, F' i → F i ∨ wr.heap.size ≤ i) : TriD w w' g r gx F' a q p' z := by
  have hlt := h.lt
  refine ⟨h.two.first h1 h2 h3, (h2.block gx hlt h.ne.2.2).trans h.box, h.ne.1, h.ne.2.1, fun e => ?_⟩
  rcases h3 gx e with e | e
  · exact h.ne.2.2 e
  · omega
theorem TriD.second (h : TriD w wr g r gx F a q p z) (h1 : DocAt w' g r q') (h2 : OnlyTwo g r wr w') : TriD w w' g r gx F a q' p z :=
  ⟨h.two.second h1 h2, (h2.block gx h.lt h.ne.1 h.ne.2.1).trans h.box, h.ne⟩
theorem TriD.drew (h : TriD w wr g r gx F a q p z) : TriD w wr.drew g r gx F a q p z := ⟨h.two.drew, h.box, h.ne⟩
theorem TriD.cells (h : TriD w wr g r gx F a q p z) : wr.cell? ⟨gx, 0, none⟩ = some (.int .i64 z.kind) ∧ wr.cell? ⟨gx, 1, none⟩ = some (.int .i64 z.n) ∧ wr.cell? ⟨gx, 2, none⟩ = some (.int .i64 z.part) ∧ wr.cell? ⟨gx, 3, none⟩ = some (.string z.s) := by
  have hb := h.box
  unfold stObj at hb
  simp only [World.cell?, hb]
  exact ⟨rfl, rfl, rfl, rfl⟩
end
end Go.Proofs.Ytcicpdakefhmfaa.Disk
namespace Go.Proofs.Ytcicpdakefhmfaa.Disk

theorem has_nat {q : DSt} {k m j : Nat} (h : q.Fit k m) (hj : j < k) : q.has j = true := has_iff.2 (by have := h.len; omega)
theorem write_live {q : DSt} {k m j : Nat} {s : ByteArray} (h : q.Fit k m) (hj : j < k) (hd : q.dead = false) (hq : q.dies = false) (hs : s.size = 256) : q.writeE j s = 0 ∧ q.write j s = q.put j s := by
  have hg : q.goes j s = true := goes_iff.2 ⟨hd, by have := h.len; omega, hs⟩
  exact ⟨by unfold DSt.writeE; rw [if_neg (by rw [hd]; decide), if_pos hg, if_neg (by rw [hq]; decide)], by unfold DSt.write; rw [if_pos hg, if_neg (by rw [hq]; decide)]⟩
theorem write_dies {q : DSt} {k m j : Nat} {s : ByteArray} (h : q.Fit k m) (hj : j < k) (hd : q.dead = false) (hq : q.dies = true) (hs : s.size = 256) : q.writeE j s = 74 ∧ q.write j s = q.cut j s := by
  have hg : q.goes j s = true := goes_iff.2 ⟨hd, by have := h.len; omega, hs⟩
  exact ⟨by unfold DSt.writeE; rw [if_neg (by rw [hd]; decide), if_pos hg, if_pos hq], by unfold DSt.write; rw [if_pos hg, if_pos hq]⟩
/-- The first j sectors hold X. -/
structure In1 (X : ByteArray) (q : DSt) (j : Nat) : Prop where
  fit : q.Fit 8 j
  dead : q.dead = false
  armed : q.armed = false
  writes : q.writes = j
  sec : ∀ t, t < j → q.S.getD t none_ = X
theorem in1_new (X : ByteArray) : In1 X (newD 8) 0 := ⟨new_fit (by decide), rfl, rfl, rfl, fun t ht => absurd ht (Nat.not_lt_zero _)⟩
theorem in1_next {X : ByteArray} {q : DSt} {j : Nat} (h : In1 X q j) (hj : j < 8) (hX : X.size = 256) : q.writeE j X = 0 ∧ In1 X (q.write j X) (j + 1) := by
  have hq : q.dies = false := by unfold DSt.dies; rw [h.armed]; rfl
  obtain ⟨e1, e2⟩ := write_live h.fit hj h.dead hq hX
  have hf := h.fit.write j X
  rw [e2] at hf ⊢
  refine ⟨e1, hf, h.dead, h.armed, by show q.writes + 1 = j + 1; rw [h.writes], fun t ht => ?_⟩
  show (q.S.set (j : Int).toNat X).getD t none_ = X
  rw [Int.toNat_natCast, getD_set]
  split
  · rfl
  · rename_i hn
    have hl := h.fit.len
    exact h.sec t (by omega)
/-- Armed with k writes, of which j went by, from behind sector i on. -/
structure In2 (X Y : ByteArray) (k p i : Nat) (q : DSt) (j : Nat) : Prop where
  fit : q.Fit 8 (8 + j)
  dead : q.dead = false
  armed : q.armed = true
  n : q.n = (k : Int) - j
  part : q.part = p
  writes : q.writes = 8 + j
  sec : ∀ o, o < 8 → q.S.getD ((i + o) % 8) none_ = if 1 ≤ o ∧ o ≤ j then Y else X
theorem in2_first {X : ByteArray} (Y : ByteArray) {q : DSt} {k p i : Nat} (h : In1 X q 8) (hk : k ≤ 5) (hp : p < 256) : armE k p = 0 ∧ In2 X Y k p i (q.arm k p) 0 := by
  have ha : armB k p = true := decide_eq_true (by omega)
  have e : q.arm k p = ⟨q.S, q.dead, true, k, p, q.writes⟩ := by unfold DSt.arm; rw [if_pos ha]
  have hf := h.fit.arm k p
  refine ⟨by unfold armE; rw [if_pos ha], ?_⟩
  rw [e] at hf ⊢
  refine ⟨hf, h.dead, rfl, by show (k : Int) = k - ((0 : Nat) : Int); omega, rfl, h.writes, fun o ho => ?_⟩
  rw [if_neg (by omega)]
  exact h.sec _ (Nat.mod_lt _ (by decide))
theorem in2_next {X Y : ByteArray} {q : DSt} {k p i j : Nat} (h : In2 X Y k p i q j) (hj : j < k) (hk : k ≤ 5) (hY : Y.size = 256) : q.writeE ((i + 1 + j) % 8 : Nat) Y = 0 ∧ In2 X Y k p i (q.write ((i + 1 + j) % 8 : Nat) Y) (j + 1) := by
  have hn := h.n
  have hq : q.dies = false := by unfold DSt.dies; rw [h.armed, Bool.true_and]; exact decide_eq_false (by omega)
  have hlt : (i + 1 + j) % 8 < 8 := Nat.mod_lt _ (by decide)
  obtain ⟨e1, e2⟩ := write_live h.fit hlt h.dead hq hY
  have hf := h.fit.write ((i + 1 + j) % 8 : Nat) Y
  rw [e2] at hf ⊢
  refine ⟨e1, hf, h.dead, h.armed, ?_, h.part, by show q.writes + 1 = _; rw [h.writes]; omega, fun o ho => ?_⟩
  · show (if q.armed = true then q.n - 1 else q.n) = _
    rw [if_pos h.armed]; omega
  · show (q.S.set (((i + 1 + j) % 8 : Nat) : Int).toNat Y).getD ((i + o) % 8) none_ = _
    rw [Int.toNat_natCast, getD_set]
    have hl := h.fit.len
    by_cases e : (i + 1 + j) % 8 = (i + o) % 8
    · rw [if_pos ⟨e, by omega⟩, if_pos (by omega)]
    · rw [if_neg (fun q => e q.1), h.sec o ho]
      by_cases e3 : 1 ≤ o ∧ o ≤ j
      · rw [if_pos e3, if_pos (by omega)]
      · rw [if_neg e3, if_neg (by omega)]
/-- Cut at sector i. -/
structure In3 (X Y Z : ByteArray) (k p i : Nat) (q : DSt) : Prop where
  fit : q.Fit 8 (9 + k)
  dead : q.dead = true
  writes : q.writes = 8 + k
  sec : ∀ o, o < 8 → q.S.getD ((i + o) % 8) none_ = if o = 0 then torn X Z p else if o ≤ k then Y else X
theorem in3_first {X Y Z : ByteArray} {q : DSt} {k p i : Nat} (h : In2 X Y k p i q k) (hi : i < 8) (hZ : Z.size = 256) : q.writeE i Z = 74 ∧ In3 X Y Z k p i (q.write i Z) := by
  have hn := h.n
  have hq : q.dies = true := by unfold DSt.dies; rw [h.armed, Bool.true_and]; exact decide_eq_true (by omega)
  obtain ⟨e1, e2⟩ := write_dies h.fit hi h.dead hq hZ
  have hf := h.fit.write i Z
  rw [e2] at hf ⊢
  refine ⟨e1, hf.more (by omega), rfl, h.writes, fun o ho => ?_⟩
  show (q.S.set (i : Int).toNat (torn (q.text i) Z q.part.toNat)).getD ((i + o) % 8) none_ = _
  have ht : q.text i = X := by
    have := h.sec 0 (by decide)
    rw [if_neg (by omega), show (i + 0) % 8 = i by omega] at this
    unfold DSt.text
    rw [Int.toNat_natCast]
    exact this
  have hl := h.fit.len
  rw [Int.toNat_natCast, getD_set, ht, h.part, Int.toNat_natCast]
  by_cases e : o = 0
  · rw [if_pos ⟨by omega, by omega⟩, if_pos e]
  · rw [if_neg (by omega), if_neg e, h.sec o ho]
    by_cases e3 : o ≤ k
    · rw [if_pos ⟨by omega, e3⟩, if_pos e3]
    · rw [if_neg (by omega), if_neg e3]
theorem in3_again {X Y Z : ByteArray} {q : DSt} {k p i : Nat} (h : In3 X Y Z k p i q) (j : Int) (s : ByteArray) : q.writeE j s = 74 ∧ q.write j s = q ∧ q.readE j = 74 := by
  have hg : ¬ q.goes j s = true := fun e => by have := (goes_iff.1 e).1; rw [h.dead] at this; cases this
  exact ⟨by unfold DSt.writeE; rw [if_pos h.dead], by unfold DSt.write; rw [if_neg hg], by unfold DSt.readE; rw [if_pos h.dead]⟩
structure In4 (X Y Z : ByteArray) (k p i : Nat) (q : DSt) : Prop where
  fit : q.Fit 8 (9 + k)
  dead : q.dead = false
  armed : q.armed = false
  writes : q.writes = 8 + k
  sec : ∀ o, o < 8 → q.S.getD ((i + o) % 8) none_ = if o = 0 then torn X Z p else if o ≤ k then Y else X
theorem in4_first {X Y Z : ByteArray} {q : DSt} {k p i : Nat} (h : In3 X Y Z k p i q) : In4 X Y Z k p i q.start := ⟨h.fit.start, rfl, rfl, h.writes, h.sec⟩
theorem in4_read {X Y Z : ByteArray} {q : DSt} {k p i : Nat} (h : In4 X Y Z k p i q) {o : Nat} (ho : o < 8) : q.readE ((i + o) % 8 : Nat) = 0 ∧ q.readS ((i + o) % 8 : Nat) = if o = 0 then torn X Z p else if o ≤ k then Y else X := by
  have hh := has_nat h.fit (Nat.mod_lt (i + o) (by decide : 0 < 8))
  refine ⟨by unfold DSt.readE; rw [if_neg (by rw [h.dead]; decide), if_pos hh], ?_⟩
  rw [← h.sec o ho]
  unfold DSt.readS
  rw [if_pos ⟨h.dead, hh⟩]
  unfold DSt.text
  rw [Int.toNat_natCast]
theorem in4_write {X Y Z : ByteArray} {q : DSt} {k p i : Nat} (h : In4 X Y Z k p i q) (hi : i < 8) (hY : Y.size = 256) : q.writeE i Y = 0 ∧ (q.write i Y).Fit 8 (10 + k) ∧ (q.write i Y).writes = 8 + k + 1 := by
  have hq : q.dies = false := by unfold DSt.dies; rw [h.armed]; rfl
  obtain ⟨e1, e2⟩ := write_live h.fit hi h.dead hq hY
  have hf := h.fit.write i Y
  refine ⟨e1, hf.more (by omega), ?_⟩
  rw [e2]
  show q.writes + 1 = _
  rw [h.writes]
end Go.Proofs.Ytcicpdakefhmfaa.Disk
