/- The document's own journal: its helpers. The document's own journal: a record is written. The document's own journal: what it holds; Left, Append. The document's own journal: Append. The document's own journal: Save. The document's own journal: Format. The document's own journal: an area's sectors. -/
import Derived.Test.YtndanhacmfhlaaaGreatGDk
import Derived.Test.YtndanhacmfhlaaaGreatGFr
import Derived.Test.YtndanhacmfhlaaaGreatGJm
namespace Go.Proofs.YtndanhacmfhlaaaGreat.Jour
open Go.ChangeShapes Go.WideShapes Go.ChangeAt Go.RowKit Go.Deep Els Go.Proofs.YtndanhacmfhlaaaGreat.Frame Disk

theorem rj_fits (q : DSt) (g r k m : Nat) (w : World) (h : DocAt w g r q) (hf : q.Fit k m) :
    Calls Tryz.prog 38 #[.pointer (some ⟨g, 0, none⟩)] w fun e w' => e = .returned (.bool (fitsD q)) ∧ w = w' := by
  obtain ⟨c, -, a0, -⟩ := doc_cells h
  have hl : q.S.length ≤ 4096 := by rw [hf.len]; exact hf.most
  have HF : Hid (fitsD q = (decide (8 ≤ q.S.length) && decide (q.S.length % 2 = 0))) := show _ = _ by unfold fitsD; exact Bool.decide_and ..
  generalize fitsD q = R at *
  generalize q.S.length = n at *
  clear hf
  by_cases h8 : 8 ≤ n
  · have t1 : decide (8 ≤ (n : Int)) = true := decide_eq_true (by omega)
    by_cases h2 : n % 2 = 0
    · have t2 : ((n : Int) % 2 == 0) = true := by rw [beq_iff_eq]; omega
      rw [decide_eq_true h8, decide_eq_true h2] at HF
      obtain rfl : R = true := HF.out
      clear h2
      go_enter Tryz.func38, Tryz.ntmps38
      go_wp2_with fail
      go_ret
      exact ⟨rfl, rfl⟩
    · have t2 : ((n : Int) % 2 == 0) = false := by rw [beq_eq_false_iff_ne]; omega
      rw [decide_eq_false h2, Bool.and_false] at HF
      obtain rfl : R = false := HF.out
      clear h2
      go_enter Tryz.func38, Tryz.ntmps38
      go_wp2_with fail
      go_ret
      exact ⟨rfl, rfl⟩
  · have t1 : decide (8 ≤ (n : Int)) = false := decide_eq_false (by omega)
    rw [decide_eq_false h8, Bool.false_and] at HF
    obtain rfl : R = false := HF.out
    go_enter Tryz.func38, Tryz.ntmps38
    go_wp2_with fail
    go_ret
    exact ⟨rfl, rfl⟩
theorem rj_fits_nil (w : World) : Calls Tryz.prog 38 #[.pointer none] w fun e w' => e = .returned (.bool false) ∧ w = w' := by
  go_enter Tryz.func38, Tryz.ntmps38
  go_wp2_with fail
  go_ret
  exact ⟨rfl, rfl⟩
theorem rj_room (q : DSt) (g r k m : Nat) (w : World) (h : DocAt w g r q) (hf : q.Fit k m) (h2 : 2 ≤ k) :
    Calls Tryz.prog 40 #[.pointer (some ⟨g, 0, none⟩)] w fun e w' => e = .returned (.int .i64 (roomD q : Nat)) ∧ w = w' := by
  obtain ⟨c, -, a0, -⟩ := doc_cells h
  have hl := hf.len
  have hm := hf.most
  have HR : Hid (roomD q = (q.S.length - 2) / 2) := show _ = _ from rfl
  generalize roomD q = R at *
  have i1 : IntKind.i64.wrap ((q.S.length : Int) - 2) = ((q.S.length - 2 : Nat) : Int) := by rw [IntWalk.i64_in _ (by omega)]; omega
  generalize q.S.length = n at *
  have x1 : Int.tdiv ((n - 2 : Nat) : Int) 2 = (((n - 2) / 2 : Nat) : Int) := rfl
  have i2 : IntKind.i64.wrap (((n - 2) / 2 : Nat) : Int) = (((n - 2) / 2 : Nat) : Int) := IntWalk.i64_in _ (by omega)
  obtain ⟨z, hz⟩ : ∃ z, n - 2 = z := ⟨_, rfl⟩
  rw [hz] at i1 x1 i2
  have HR2 : Hid (R = z / 2) := show _ = _ by rw [HR.out, hz]
  clear hf hl hz HR
  obtain ⟨y, hy⟩ : ∃ y, z / 2 = y := ⟨_, rfl⟩
  rw [hy] at HR2 x1 i2
  obtain rfl : R = y := HR2.out
  clear hy HR2
  go_enter Tryz.func40, Tryz.ntmps40
  go_wp2_with fail
  go_ret
  exact ⟨rfl, rfl⟩
theorem rj_start (q : DSt) (g r k m a : Nat) (w : World) (h : DocAt w g r q) (hf : q.Fit k m) (h2 : 2 ≤ k) (ha : a ≤ 1) :
    Calls Tryz.prog 44 #[.pointer (some ⟨g, 0, none⟩), .int .i64 (a : Nat)] w fun e w' => e = .returned (.int .i64 (startD q a : Nat)) ∧ w = w' := by
  have RM := Lib.hid (rj_room q g r k m w h hf h2)
  have hb : roomD q ≤ 4096 := by unfold roomD; have := hf.len; have := hf.most; omega
  have hab : a * roomD q ≤ 4096 := by
    rcases Nat.le_one_iff_eq_zero_or_eq_one.1 ha with rfl | rfl <;> omega
  have HS : Hid (startD q a = 2 + a * roomD q) := show _ = _ from rfl
  generalize startD q a = R at *
  generalize roomD q = y at *
  obtain ⟨z, hz⟩ : ∃ z, a * y = z := ⟨_, rfl⟩
  rw [hz] at HS hab
  have i1 : IntKind.i64.wrap ((a : Int) * (y : Int)) = (z : Nat) := by
    rw [← hz, Int.natCast_mul]
    exact IntWalk.i64_in _ (by rw [← Int.natCast_mul, hz]; omega)
  have i2 : IntKind.i64.wrap (2 + (z : Int)) = ((2 + z : Nat) : Int) := by rw [IntWalk.i64_in _ (by omega)]; omega
  have hc : (a : Int) * (y : Int) = (z : Nat) := by rw [← hz, Int.natCast_mul]
  obtain rfl : R = 2 + z := HS.out
  clear hz HS
  go_enter Tryz.func44, Tryz.ntmps44
  go_wp2_with fail
  refine RM.out.mono ?_
  rintro e w1 ⟨rfl, rfl⟩
  go_wp2_with fail
  go_ret
  exact ⟨rfl, rfl⟩
end Go.Proofs.YtndanhacmfhlaaaGreat.Jour
namespace Go.Proofs.YtndanhacmfhlaaaGreat.Jour
open Go.ChangeShapes Go.WideShapes Go.ChangeAt Go.RowKit Go.Deep Els Go.Proofs.YtndanhacmfhlaaaGreat.Frame Disk

theorem one_byte (a : Nat) (ha : a < 256) (W : World) : (convert 66 9 (.slice (some ⟨W.heap.size, 0, none⟩) 1 1)).run Tryz.prog (W.alloc (.cells #[.int .u8 (a : Nat)] 5)) = .ok (.string ⟨#[UInt8.ofNat a]⟩) (W.alloc (.cells #[.int .u8 (a : Nat)] 5)) := by
  have := run_convert_bytes_back (P := Tryz.prog) (W.alloc (.cells #[.int .u8 (a : Nat)] 5)) 66 9 5 ⟨W.heap.size, 0, none⟩ 1 [UInt8.ofNat a] Tryz.underlying66 Tryz.underlying5 Tryz.underlying9 (fun j hj => by
    obtain rfl : j = 0 := by have : j < 1 := hj; omega
    have e8 : (UInt8.ofNat a).toNat = a := by rw [UInt8.toNat_ofNat']; omega
    rw [Go.WideShapes.add_plain]
    show _ = some (Value.int .u8 (((UInt8.ofNat a).toNat : Nat) : Int))
    rw [e8]
    exact World.cell?_alloc_new ..)
  exact this
set_option maxRecDepth 20000 in
theorem rj_head (a : Nat) (w : World) (ha : a ≤ 1) : Calls Tryz.prog 45 #[.int .i64 (a : Nat)] w fun e w' => e = .returned (.string (headB a)) ∧ Below w.heap.size w w' := by
  have HH : Hid (headB a = ⟨#[74]⟩ ++ ⟨#[UInt8.ofNat a]⟩) := show _ = _ by
    unfold headB
    apply ByteArray.ext
    rfl
  have i1 : IntKind.u8.wrap (a : Int) = (a : Nat) := by
    rcases Nat.le_one_iff_eq_zero_or_eq_one.1 ha with rfl | rfl <;> decide
  have cv := one_byte a (by omega)
  have hz : (⟨#[UInt8.ofNat a]⟩ : ByteArray).size = 1 := rfl
  generalize headB a = R at *
  generalize (⟨#[UInt8.ofNat a]⟩ : ByteArray) = X at *
  go_enter Tryz.func45, Tryz.ntmps45
  go_wp2_with fail
  go_ret
  exact ⟨by rw [HH.out]; rfl, (Below.refl _ _).alloc (Nat.le_refl _) _⟩
theorem two_from {g r : Nat} {w w1 w2 : World} (h : Below w.heap.size w w1) (ho : OnlyTwo g r w1 w2) : OnlyTwo g r w w2 :=
  ⟨ho.os.trans h.os, ho.tape.trans h.tape, ho.output.trans h.output, Nat.le_trans h.size ho.size, fun i hi h1 h2 => (ho.block i (Nat.lt_of_lt_of_le hi h.size) h1 h2).trans (h.block i hi)⟩
theorem two_trans {g r : Nat} {w w1 w2 : World} (h : OnlyTwo g r w w1) (ho : OnlyTwo g r w1 w2) : OnlyTwo g r w w2 :=
  ⟨ho.os.trans h.os, ho.tape.trans h.tape, ho.output.trans h.output, Nat.le_trans h.size ho.size, fun i hi h1 h2 => (ho.block i (Nat.lt_of_lt_of_le hi h.size) h1 h2).trans (h.block i hi h1 h2)⟩
set_option maxRecDepth 20000 in
set_option maxHeartbeats 1000000 in
theorem rj_write (q : DSt) (g r k m at_ num : Nat) (s : ByteArray) (w : World) (h : DocAt w g r q) (hf : q.Fit k m) (hm : m ≤ 100000000) (ha : at_ ≤ 10000) (hn : num < 4294967296) :
    Calls Tryz.prog 43 #[.pointer (some ⟨g, 0, none⟩), .int .i64 (at_ : Nat), .int .u32 (num : Nat), .string s] w fun e w' => e = .returned (.int .i64 (writeR q at_ num s).2) ∧ DocAt w' g r (writeR q at_ num s).1 ∧ OnlyTwo g r w w' := by
  have MK := Lib.hid (r_makeN num s w hn)
  have hlt := h.lt
  have H := Lib.hid h
  have HF := Lib.hid hf
  obtain ⟨Q, hQ⟩ : ∃ Q, writeR q at_ num s = Q := ⟨_, rfl⟩
  rw [hQ]
  have hl : makL num s = recL num s := rfl
  have hln := rec_len num s
  have HSZ := Lib.hid (rec_size num s)
  unfold MadeN at MK
  rw [hl] at MK
  unfold writeR at hQ
  generalize recL num s = l at *
  clear h hf hl
  go_enter Tryz.func43, Tryz.ntmps43
  go_wp2_with fail
  refine MK.out.mono ?_
  rintro e w1 ⟨v, rfl, hv, hb, hnew⟩
  have HB := Lib.hid hb
  have D1 := Lib.hid (H.out.keep (hb.block g hlt.1) (hb.block r hlt.2))
  obtain ⟨A, c, rfl, -, -, hcell⟩ := hv
  have HC : Hid (0 < l.length → ∃ b off, A = some ⟨b, off, none⟩ ∧ w.heap.size ≤ b ∧ b < w1.heap.size ∧ ∀ i x, l[i]? = some x → w1.cell? ⟨b, off + i, none⟩ = some (.string x)) := fun h0 => by
    obtain ⟨b, off, e, h1, h2⟩ := hcell h0
    exact ⟨b, off, e, hnew ⟨b, off, none⟩ _ _ (by rw [e]), h1, h2⟩
  clear hb hcell hnew MK
  go_wp2_with fail
  go_loopw [11] (fun t wr => ∃ (j : Nat) (q' : DSt), j ≤ l.length ∧ t = .int .i64 ((j : Int) - 1) ∧ Hid (DocAt wr g r q') ∧ Hid (OnlyTwo g r w1 wr) ∧ Hid (q'.Fit k (m + (l.length - j))) ∧ Hid (wrK l at_ j q' = Q)) (fun t _ => ((intOf t) + 1).toNat)
  case atStart => exact ⟨l.length, q, Nat.le_refl _, rfl, D1, OnlyTwo.refl _ _ _, HF.out.more (by omega), hQ⟩
  case round =>
    obtain ⟨j, q', hj, rfl, HD, HO, HF2, HQ⟩ := hrel
    clear hQ
    cases j with
    | zero =>
      have t1 : decide ((0 : Int) ≤ ((0 : Nat) : Int) - 1) = false := rfl
      have e := HQ.out
      obtain rfl : (q', (0 : Int)) = Q := e
      clear HQ
      go_wp2_with fail
      go_ret
      exact ⟨rfl, HD.out, two_from HB.out HO.out⟩
    | succ j =>
      obtain ⟨b, off, rfl, hb1, hb2, hcell⟩ := HC.out (by omega)
      have e1 : ((j + 1 : Nat) : Int) - 1 = j := by omega
      rw [e1]
      have hbg : b ≠ g ∧ b ≠ r := by omega
      have cj : wr.cell? ⟨b, off + j, none⟩ = some (.string (l.getD j e0)) := by
        have h1 := hcell j (l.getD j e0) (by rw [List.getD_eq_getElem?_getD, List.getElem?_eq_getElem (by omega)]; rfl)
        rw [← h1]
        exact World.cell?_of_block (HO.out.block b hb2 hbg.1 hbg.2)
      have t1 : decide ((0 : Int) ≤ (j : Int)) = true := decide_eq_true (by omega)
      have j0 : (0 : Int) ≤ j := by omega
      have i1 : IntKind.i64.wrap ((at_ : Int) + (j : Int)) = ((at_ + j : Nat) : Int) := by rw [IntWalk.i64_in _ (by omega)]; omega
      have i2 : IntKind.i64.wrap ((j : Int) - 1) = (j : Int) - 1 := IntWalk.i64_in _ (by omega)
      have hx := HSZ.out j (by omega)
      have WR := Lib.hid (r_write q' g r (at_ + j : Nat) (l.getD j e0) wr k _ HD.out HF2.out (by omega))
      have HFN := Lib.hid (HF2.out.write (at_ + j : Nat) (l.getD j e0))
      have HQ2 : Hid ((if q'.writeE (at_ + j : Nat) (l.getD j e0) = 0 then wrK l at_ j (q'.write (at_ + j : Nat) (l.getD j e0)) else (q'.write (at_ + j : Nat) (l.getD j e0), q'.writeE (at_ + j : Nat) (l.getD j e0))) = Q) := HQ.out
      unfold DocDid at WR
      clear e1 hcell hb1 hb2 hx
      generalize l.getD j e0 = x at *
      generalize q'.write (at_ + j : Nat) x = q2 at *
      generalize q'.writeE (at_ + j : Nat) x = er at *
      generalize at_ + j = z at *
      by_cases he : er = 0
      · rw [if_pos he] at HQ2
        have t2 : (er != 0) = false := by rw [he]; rfl
        clear he
        go_wp2_with fail
        refine WR.out.mono ?_
        rintro e w5 ⟨rfl, n1, n2⟩
        have D5 := Lib.hid n1
        have O5 := Lib.hid (two_trans HO.out n2)
        have F5 := Lib.hid (HFN.out.more (show m + (l.length - (j + 1)) + 1 ≤ m + (l.length - j) by omega))
        clear n1 n2 WR HFN HQ
        go_wp2_with fail
        go_roundw
        case rel => exact ⟨j, q2, by omega, by go_num, D5, O5, F5, HQ2⟩
        case measure => simp [intOf]
      · rw [if_neg he] at HQ2
        have t2 : (er != 0) = true := by rw [bne_iff_ne]; exact he
        clear he
        have e := HQ2.out
        obtain rfl : (q2, er) = Q := e
        clear HQ2 HQ
        go_wp2_with fail
        refine WR.out.mono ?_
        rintro e w5 ⟨rfl, n1, n2⟩
        have D5 := Lib.hid n1
        have O5 := Lib.hid (two_from HB.out (two_trans HO.out n2))
        clear n1 n2
        go_wp2_with fail
        go_ret
        exact ⟨rfl, D5.out, O5.out⟩
end Go.Proofs.YtndanhacmfhlaaaGreat.Jour
namespace Go.Proofs.YtndanhacmfhlaaaGreat.Jour
open Go.ChangeShapes Go.WideShapes Go.ChangeAt Go.RowKit Go.Deep Els Go.Proofs.YtndanhacmfhlaaaGreat.Frame Disk
variable {AV : Nat → Prop}

def jcell (g : Nat) (V : Value) (j : JSt) (i : Nat) : Value :=
  if i = 0 then .pointer (some ⟨g, 0, none⟩) else if i = 1 then .string j.base else if i = 2 then V else if i = 3 then .int .u32 j.next else if i = 4 then .int .i64 j.area else if i = 5 then .int .i64 j.used else .bool j.dead
/-- The value V is a slice of texts, in none of these three blocks, nor in one of AV. -/
def Off (AV : Nat → Prop) (w : World) (a b c : Nat) (V : Value) (l : List ByteArray) : Prop := Txts w w.heap.size V l ∧ ∀ x n k, V = .slice (some x) n k → 0 < n → (x.block ≠ a ∧ x.block ≠ b ∧ x.block ≠ c) ∧ ¬ AV x.block
theorem off_nil (w : World) (a b c : Nat) : Off AV w a b c (.slice none 0 0) [] := ⟨Els.nil_ _ _, fun x n k h => by injection h with h; cases h⟩
theorem Off.keep {w w' : World} {a b c : Nat} {V : Value} {l : List ByteArray} (h : Off AV w a b c V l) (hs : w.heap.size ≤ w'.heap.size) (hk : ∀ i, i < w.heap.size → i ≠ a → i ≠ b → i ≠ c → w'.heap[i]? = w.heap[i]?) : Off AV w' a b c V l := by
  obtain ⟨⟨A, k, rfl, hl, hn, hc⟩, ho⟩ := h
  refine ⟨⟨A, k, rfl, hl, hn, fun h0 => ?_⟩, ho⟩
  obtain ⟨b', off, rfl, hb, hcell⟩ := hc h0
  obtain ⟨⟨o1, o2, o3⟩, -⟩ := ho ⟨b', off, none⟩ _ _ rfl h0
  exact ⟨b', off, rfl, Nat.lt_of_lt_of_le hb hs, fun i x hi => (World.cell?_of_block (hk b' hb o1 o2 o3)).trans (hcell i x hi)⟩
/-- At block gj stands a journal of the document's that holds j, over a disk that holds q. -/
structure JDoc (AV : Nat → Prop) (w : World) (gj g r : Nat) (q : DSt) (j : JSt) : Prop where
  doc : DocAt w g r q
  row : ∃ V, w.rowIs gj 85 7 (jcell g V j) ∧ Off AV w gj g r V j.recs
  ne : gj ≠ g ∧ gj ≠ r
structure OnlyThree (gj g r : Nat) (w w' : World) : Prop where
  os : w'.os = w.os
  tape : w'.tape = w.tape
  output : w'.output = w.output
  size : w.heap.size ≤ w'.heap.size
  block : ∀ i, i < w.heap.size → i ≠ gj → i ≠ g → i ≠ r → w'.heap[i]? = w.heap[i]?
theorem OnlyThree.refl (gj g r : Nat) (w : World) : OnlyThree gj g r w w := ⟨rfl, rfl, rfl, Nat.le_refl _, fun _ _ _ _ _ => rfl⟩
theorem OnlyThree.of_two {gj g r : Nat} {w w' : World} (h : OnlyTwo g r w w') : OnlyThree gj g r w w' := ⟨h.os, h.tape, h.output, h.size, fun i hi _ h2 h3 => h.block i hi h2 h3⟩
theorem OnlyThree.trans {gj g r : Nat} {w w1 w2 : World} (h : OnlyThree gj g r w w1) (k : OnlyThree gj g r w1 w2) : OnlyThree gj g r w w2 :=
  ⟨k.os.trans h.os, k.tape.trans h.tape, k.output.trans h.output, Nat.le_trans h.size k.size, fun i hi h1 h2 h3 => (k.block i (Nat.lt_of_lt_of_le hi h.size) h1 h2 h3).trans (h.block i hi h1 h2 h3)⟩
theorem OnlyThree.below {gj g r : Nat} {w w1 w2 : World} (h : OnlyThree gj g r w w1) (k : Below w1.heap.size w1 w2) : OnlyThree gj g r w w2 :=
  h.trans ⟨k.os, k.tape, k.output, k.size, fun i hi _ _ _ => k.block i hi⟩
theorem OnlyThree.set {gj g r b i : Nat} {w w' : World} (h : OnlyThree gj g r w w') (hb : b = gj) (v : Value) : OnlyThree gj g r w (w'.setCell ⟨b, i, none⟩ v) :=
  ⟨h.os, h.tape, h.output, by rw [nblk_setCell]; exact h.size, fun j hj h1 h2 h3 => (blk_setCell_other _ _ _ _ (by rw [hb]; exact h1)).trans (h.block j hj h1 h2 h3)⟩
section
variable {w w' : World} {gj g r : Nat} {q q' : DSt} {j j' : JSt}
theorem JDoc.lt (h : JDoc AV w gj g r q j) : gj < w.heap.size := by obtain ⟨V, h1, -⟩ := h.row; exact h1.lt
theorem JDoc.cells (h : JDoc AV w gj g r q j) : ∃ V, w.cell? ⟨gj, 0, none⟩ = some (.pointer (some ⟨g, 0, none⟩)) ∧ w.cell? ⟨gj, 1, none⟩ = some (.string j.base) ∧ w.cell? ⟨gj, 2, none⟩ = some V ∧ w.cell? ⟨gj, 3, none⟩ = some (.int .u32 j.next) ∧
    w.cell? ⟨gj, 4, none⟩ = some (.int .i64 j.area) ∧ w.cell? ⟨gj, 5, none⟩ = some (.int .i64 j.used) ∧ w.cell? ⟨gj, 6, none⟩ = some (.bool j.dead) ∧ (∀ i, w.frozen? ⟨gj, i, none⟩ = false) ∧ Off AV w gj g r V j.recs := by
  obtain ⟨V, h1, h2⟩ := h.row
  exact ⟨V, h1.cell (by decide), h1.cell (by decide), h1.cell (by decide), h1.cell (by decide), h1.cell (by decide), h1.cell (by decide), h1.cell (by decide), h1.frozen, h2⟩
/-- The disk's blocks turn, the journal's stays. -/
theorem JDoc.disk (h : JDoc AV w gj g r q j) (h1 : DocAt w' g r q') (h2 : OnlyTwo g r w w') : JDoc AV w' gj g r q' j := by
  obtain ⟨V, r1, r2⟩ := h.row
  exact ⟨h1, ⟨V, r1.of_block (h2.block gj r1.lt h.ne.1 h.ne.2), r2.keep h2.size (fun i hi _ h4 h5 => h2.block i hi h4 h5)⟩, h.ne⟩
theorem JDoc.below (h : JDoc AV w gj g r q j) (hb : Below w.heap.size w w') : JDoc AV w' gj g r q j := by
  obtain ⟨V, r1, r2⟩ := h.row
  exact ⟨h.doc.keep (hb.block g h.doc.lt.1) (hb.block r h.doc.lt.2), ⟨V, r1.of_block (hb.block gj r1.lt), r2.keep hb.size (fun i hi _ _ _ => hb.block i hi)⟩, h.ne⟩
/-- A cell of the journal's is written, its records are not. -/
theorem JDoc.set (h : JDoc AV w gj g r q j) (i : Nat) (v : Value) (hr : j'.recs = j.recs) (hi : ∀ V k, k < 7 → jcell g V j' k = if k = i then v else jcell g V j k) : JDoc AV (w.setCell ⟨gj, i, none⟩ v) gj g r q j' := by
  obtain ⟨V, r1, r2⟩ := h.row
  refine ⟨h.doc.keep (blk_setCell_other _ _ _ _ h.ne.1.symm) (blk_setCell_other _ _ _ _ h.ne.2.symm), ⟨V, (r1.set i v).congr fun k hk => (hi V k hk).symm, ?_⟩, h.ne⟩
  rw [hr]
  exact r2.keep (by rw [nblk_setCell]; exact Nat.le_refl _) (fun k _ h1 _ _ => blk_setCell_other _ _ _ _ h1)
/-- Its records are written. -/
theorem JDoc.setRecs (h : JDoc AV w gj g r q j) (V : Value) (l : List ByteArray) (hV : Off AV w gj g r V l) : JDoc AV (w.setCell ⟨gj, 2, none⟩ V) gj g r q ⟨j.base, l, j.next, j.area, j.used, j.dead⟩ := by
  obtain ⟨V0, r1, r2⟩ := h.row
  refine ⟨h.doc.keep (blk_setCell_other _ _ _ _ h.ne.1.symm) (blk_setCell_other _ _ _ _ h.ne.2.symm), ⟨V, (r1.set 2 V).congr fun k hk => ?_, hV.keep (by rw [nblk_setCell]; exact Nat.le_refl _) (fun k _ h1 _ _ => blk_setCell_other _ _ _ _ h1)⟩, h.ne⟩
  match k, hk with
  | 0, _ | 1, _ | 2, _ | 3, _ | 4, _ | 5, _ | 6, _ => rfl
end
theorem rj_left (q : DSt) (j : JSt) (gj g r k m : Nat) (w : World) (h : JDoc AV w gj g r q j) (hf : q.Fit k m) (h2 : 2 ≤ k) (hj : j.Fit q) :
    Calls Tryz.prog 46 #[.pointer (some ⟨gj, 0, none⟩)] w fun e w' => e = .returned (.int .i64 (leftN q j)) ∧ ∃ n, w' = w.drewN n := by
  obtain ⟨V, c0, -, -, -, -, c5, -, -, -⟩ := h.cells
  have RM : Hid (∀ W, DocAt W g r q → Calls Tryz.prog 40 #[.pointer (some ⟨g, 0, none⟩)] W fun e w' => e = .returned (.int .i64 (roomD q : Nat)) ∧ W = w') := fun W hW => rj_room q g r k m W hW hf h2
  have hb : roomD q ≤ 4096 := by unfold roomD; have := hf.len; have := hf.most; omega
  have hu := hj.used
  have D := Lib.hid h.doc
  have HL : Hid (leftN q j = (roomD q : Int) - j.used) := show _ = _ from rfl
  generalize leftN q j = L at *
  generalize roomD q = R at *
  have i1 : IntKind.i64.wrap ((R : Int) - (j.used : Int)) = (R : Int) - j.used := IntWalk.i64_in _ (by omega)
  obtain rfl : L = (R : Int) - j.used := HL.out
  clear hf hj h HL
  go_enter Tryz.func46, Tryz.ntmps46
  go_wp2_with fail
  have DD : Hid (DocAt w.drew g r q) := D.out
  go_region_held3 (fun w' => w'.cell? ⟨gj, 0, none⟩ = some (.pointer (some ⟨g, 0, none⟩)) ∧ w'.cell? ⟨gj, 5, none⟩ = some (.int .i64 j.used))
    (first | exact ⟨c0, c5⟩)
    (first
      | (go_at_call 40
         with_reducible refine (RM.out _ DD.out).mono ?_
         rintro e w1 ⟨rfl, rfl⟩))
  go_wp2_with fail
  go_ret
  exact ⟨rfl, 1, rfl⟩
end Go.Proofs.YtndanhacmfhlaaaGreat.Jour
namespace Go.Proofs.YtndanhacmfhlaaaGreat.Jour
open Go.ChangeShapes Go.WideShapes Go.ChangeAt Go.RowKit Go.Deep Els Go.Proofs.YtndanhacmfhlaaaGreat.Frame Disk
variable {AV : Nat → Prop}

theorem below_one (w : World) (o : Obj) : Below w.heap.size w (w.alloc o) := (Below.refl _ _).alloc (Nat.le_refl _) o
def JDid (AV : Nat → Prop) (x : Done) (gj g r : Nat) (w : World) (e : Ending) (w' : World) : Prop := e = .returned (.int .i64 x.e) ∧ JDoc AV w' gj g r x.q x.j ∧ OnlyThree gj g r w w'
theorem app_dead (q : DSt) (j : JSt) (gj g r : Nat) (s : ByteArray) (w : World) (h : JDoc AV w gj g r q j) (hd : j.dead = true) :
    Calls Tryz.prog 12 #[.pointer (some ⟨gj, 0, none⟩), .string s] w (JDid AV ⟨q, j, 74⟩ gj g r w) := by
  obtain ⟨V, -, -, -, -, -, -, c6, -, -⟩ := h.cells
  rw [hd] at c6
  have H := Lib.hid h
  clear h hd
  unfold JDid
  go_enter Tryz.func12, Tryz.ntmps12
  go_wp2_with fail
  go_ret
  exact ⟨rfl, H.out, OnlyThree.refl _ _ _ _⟩
theorem app_long (q : DSt) (j : JSt) (gj g r : Nat) (s : ByteArray) (w : World) (h : JDoc AV w gj g r q j) (hd : j.dead = false) (hs : 60000 < s.size) :
    Calls Tryz.prog 12 #[.pointer (some ⟨gj, 0, none⟩), .string s] w (JDid AV ⟨q, j, 2⟩ gj g r w) := by
  obtain ⟨V, -, -, -, -, -, -, c6, -, -⟩ := h.cells
  rw [hd] at c6
  have H := Lib.hid h
  have t1 : decide ((60000 : Int) < s.size) = true := decide_eq_true (by omega)
  clear h hd
  unfold JDid
  go_enter Tryz.func12, Tryz.ntmps12
  go_wp2_with fail
  go_ret
  exact ⟨rfl, H.out, OnlyThree.refl _ _ _ _⟩
theorem JDoc.heap {w w' : World} {gj g r : Nat} {q : DSt} {j : JSt} (h : JDoc AV w gj g r q j) (hh : w'.heap = w.heap) : JDoc AV w' gj g r q j := by
  obtain ⟨V, r1, r2⟩ := h.row
  exact ⟨h.doc.keep (by rw [hh]) (by rw [hh]), ⟨V, r1.of_block (by rw [hh]), r2.keep (by rw [hh]; exact Nat.le_refl _) (fun i _ _ _ _ => by rw [hh])⟩, h.ne⟩
set_option maxRecDepth 20000 in
set_option maxHeartbeats 2000000 in
theorem rapp_err (q q2 : DSt) (er : Int) (j : JSt) (gj g r k m : Nat) (s : ByteArray) (w : World) (h : JDoc AV w gj g r q j) (hf : q.Fit k m) (h2 : 2 ≤ k) (hm : m ≤ 10000000) (hj : j.Fit q) (hd : j.dead = false) (hs : s.size ≤ 60000) (hroom : (sizeN s.size : Int) ≤ leftN q j) (hnx : j.next ≤ most) (hW : writeR q (startD q j.area + j.used) j.next s = (q2, er)) (he : er ≠ 0) :
    Calls Tryz.prog 12 #[.pointer (some ⟨gj, 0, none⟩), .string s] w (JDid AV ⟨q2, ⟨j.base, j.recs, j.next, j.area, j.used, true⟩, er⟩ gj g r w) := by
  obtain ⟨V, c0, -, c2, c3, c4, c5, c6, fz, hoff⟩ := h.cells
  rw [hd] at c6
  have H := Lib.hid h
  have t1 : decide ((60000 : Int) < s.size) = false := decide_eq_false (by omega)
  have SZ : Hid (∀ W, Calls Tryz.prog 39 #[.int .i64 (s.size : Nat)] W fun e w' => e = .returned (.int .i64 (sizeN s.size : Nat)) ∧ W = w') := fun W => by
    have := r_fsize (s.size : Int) W (by omega)
    rwa [show sizeV (s.size : Int) = (sizeN s.size : Nat) by unfold sizeV; rw [if_pos (by omega)]; rfl] at this
  have LF : Hid (∀ W, W.heap = w.heap → Calls Tryz.prog 46 #[.pointer (some ⟨gj, 0, none⟩)] W fun e w' => e = .returned (.int .i64 (leftN q j)) ∧ ∃ n, w' = W.drewN n) := fun W hh => rj_left q j gj g r k m W (h.heap hh) hf h2 hj
  have ST : Hid (∀ W, W.heap = w.heap → Calls Tryz.prog 44 #[.pointer (some ⟨g, 0, none⟩), .int .i64 (j.area : Nat)] W fun e w' => e = .returned (.int .i64 (startD q j.area : Nat)) ∧ W = w') := fun W hh => rj_start q g r k m j.area W (h.heap hh).doc hf h2 hj.area
  have hn1 : j.next ≤ 2148483648 := hnx
  have hb : roomD q ≤ 4096 := by unfold roomD; have := hf.len; have := hf.most; omega
  have hu := hj.used
  have hst : startD q j.area ≤ 5000 := by
    unfold startD
    rcases Nat.le_one_iff_eq_zero_or_eq_one.1 hj.area with e | e <;> rw [e] <;> omega
  have WR : Hid (∀ W, W.heap = w.heap → Calls Tryz.prog 43 #[.pointer (some ⟨g, 0, none⟩), .int .i64 (startD q j.area + j.used : Nat), .int .u32 (j.next : Nat), .string s] W fun e w' => e = .returned (.int .i64 er) ∧ DocAt w' g r q2 ∧ OnlyTwo g r W w') := fun W hh => by
    have h := rj_write q g r k m (startD q j.area + j.used) j.next s W (h.heap hh).doc hf (by omega) (by omega) (by omega)
    rwa [hW] at h
  have hL : leftN q j ≤ 4096 := by unfold leftN; omega
  have t2 : decide (leftN q j < (sizeN s.size : Int)) = false := decide_eq_false (by omega)
  have t3 : decide ((2148483648 : Int) < j.next) = false := decide_eq_false (by omega)
  have hsz := size_most hs
  have i1 : IntKind.i64.wrap ((startD q j.area : Int) + (j.used : Int)) = ((startD q j.area + j.used : Nat) : Int) := by rw [IntWalk.i64_in _ (by omega)]; omega
  have hjn := hj.recs
  have i5 : IntKind.i64.wrap ((j.used : Int) + (sizeN s.size : Int)) = (j.used : Int) + (sizeN s.size : Int) := IntWalk.i64_in _ (by omega)
  have i6 : IntKind.u32.wrap ((j.next : Int) + 1) = (j.next : Int) + 1 := IntWalk.u32_in _ (by omega)
  clear h hd hf hj hW hroom hnx
  generalize leftN q j = L at *
  generalize startD q j.area = S0 at *
  obtain ⟨p0, hp0⟩ : ∃ p0, S0 + j.used = p0 := ⟨_, rfl⟩
  rw [hp0] at WR i1
  clear hp0
  generalize sizeN s.size = z at *
  have t4 : (er != 0) = true := by rw [bne_iff_ne]; exact he
  clear he
  go_enter Tryz.func12, Tryz.ntmps12
  go_wp2_with fail
  refine (SZ.out w).mono ?_
  rintro e w1 ⟨rfl, rfl⟩
  go_wp2_with fail
  refine (LF.out w rfl).mono ?_
  rintro e w1 ⟨rfl, n1, rfl⟩
  obtain ⟨wd, hwd⟩ : ∃ wd, w.drewN n1 = wd := ⟨_, rfl⟩
  have EH : Hid (wd.heap = w.heap) := show _ = _ by rw [← hwd]; rfl
  have O1 : Hid (OnlyThree gj g r w wd) := show OnlyThree _ _ _ _ _ from by rw [← hwd]; exact ⟨rfl, rfl, rfl, Nat.le_refl _, fun _ _ _ _ _ => rfl⟩
  rw [hwd]
  have HW := Lib.hid (H.out.heap EH.out)
  clear hwd c0 c2 c3 c4 c5 c6 fz hoff H
  have HCC : Hid (∀ W q', JDoc AV W gj g r q' j → W.cell? ⟨gj, 0, none⟩ = some (.pointer (some ⟨g, 0, none⟩)) ∧ W.cell? ⟨gj, 3, none⟩ = some (.int .u32 j.next) ∧ W.cell? ⟨gj, 4, none⟩ = some (.int .i64 j.area) ∧ W.cell? ⟨gj, 5, none⟩ = some (.int .i64 j.used)) := fun W q' hh => by
    obtain ⟨V, c0, -, -, c3, c4, c5, -⟩ := hh.cells
    exact ⟨c0, c3, c4, c5⟩
  obtain ⟨c0, c3, c4, c5⟩ := HCC.out _ _ HW.out
  go_wp2_with fail
  have HWD : Hid (JDoc AV wd.drew gj g r q j) := HW.out.heap rfl
  have C0 := HCC.out _ _ HWD.out
  have EHD : Hid (wd.drew.heap = w.heap) := EH.out
  have OD : Hid (OnlyThree gj g r w wd.drew) := O1.out.trans ⟨rfl, rfl, rfl, Nat.le_refl _, fun _ _ _ _ _ => rfl⟩
  go_region_held3 (fun w' => w'.cell? ⟨gj, 0, none⟩ = some (.pointer (some ⟨g, 0, none⟩)) ∧ w'.cell? ⟨gj, 3, none⟩ = some (.int .u32 j.next) ∧ w'.cell? ⟨gj, 4, none⟩ = some (.int .i64 j.area) ∧ w'.cell? ⟨gj, 5, none⟩ = some (.int .i64 j.used))
    (first | exact C2 | exact C0)
    (first
      | (go_at_call 44
         with_reducible refine (ST.out _ EHD.out).mono ?_
         rintro e w2 ⟨rfl, rfl⟩)
      | (go_at_call 43
         with_reducible refine (WR.out _ EHD.out).mono ?_
         rintro e w2 ⟨rfl, n1, n2⟩
         have J2 := Lib.hid (HWD.out.disk n1 n2)
         have O2 := Lib.hid (OD.out.trans (OnlyThree.of_two n2))
         have C2 := HCC.out _ _ J2.out
         clear n1 n2))
  clear c0 c3 c4 c5 C0 HW HWD EH EHD O1 OD WR ST LF SZ
  obtain ⟨V2, d0, -, d2, d3, d4, d5, d6, fz2, hoff2⟩ := J2.out.cells
  have f6 := fz2 6
  have l6 := J2.out.lt
  go_wp2_with fail
  unfold JDid
  go_ret
  exact ⟨rfl, J2.out.set 6 _ rfl (fun V k hk => by
    match k, hk with
    | 0, _ | 1, _ | 2, _ | 3, _ | 4, _ | 5, _ | 6, _ => rfl), O2.out.set rfl _⟩
set_option maxRecDepth 20000 in
set_option maxHeartbeats 2000000 in
theorem app_good (q q2 : DSt) (er : Int) (j : JSt) (gj g r k m : Nat) (s : ByteArray) (w : World) (h : JDoc AV w gj g r q j) (hf : q.Fit k m) (h2 : 2 ≤ k) (hm : m ≤ 10000000) (hj : j.Fit q) (hd : j.dead = false) (hs : s.size ≤ 60000) (hroom : (sizeN s.size : Int) ≤ leftN q j) (hnx : j.next ≤ most) (hW : writeR q (startD q j.area + j.used) j.next s = (q2, er)) (he : er = 0) (hA : ∀ i, AV i → i < w.heap.size) :
    Calls Tryz.prog 12 #[.pointer (some ⟨gj, 0, none⟩), .string s] w (JDid AV ⟨q2, ⟨j.base, j.recs ++ [s], j.next + 1, j.area, j.used + sizeN s.size, j.dead⟩, 0⟩ gj g r w) := by
  obtain ⟨V, c0, -, c2, c3, c4, c5, c6, fz, hoff⟩ := h.cells
  rw [hd] at c6
  have HA := Lib.hid hA
  clear hA
  have H := Lib.hid h
  have t1 : decide ((60000 : Int) < s.size) = false := decide_eq_false (by omega)
  have SZ : Hid (∀ W, Calls Tryz.prog 39 #[.int .i64 (s.size : Nat)] W fun e w' => e = .returned (.int .i64 (sizeN s.size : Nat)) ∧ W = w') := fun W => by
    have := r_fsize (s.size : Int) W (by omega)
    rwa [show sizeV (s.size : Int) = (sizeN s.size : Nat) by unfold sizeV; rw [if_pos (by omega)]; rfl] at this
  have LF : Hid (∀ W, W.heap = w.heap → Calls Tryz.prog 46 #[.pointer (some ⟨gj, 0, none⟩)] W fun e w' => e = .returned (.int .i64 (leftN q j)) ∧ ∃ n, w' = W.drewN n) := fun W hh => rj_left q j gj g r k m W (h.heap hh) hf h2 hj
  have ST : Hid (∀ W, W.heap = w.heap → Calls Tryz.prog 44 #[.pointer (some ⟨g, 0, none⟩), .int .i64 (j.area : Nat)] W fun e w' => e = .returned (.int .i64 (startD q j.area : Nat)) ∧ W = w') := fun W hh => rj_start q g r k m j.area W (h.heap hh).doc hf h2 hj.area
  have hn1 : j.next ≤ 2148483648 := hnx
  have hb : roomD q ≤ 4096 := by unfold roomD; have := hf.len; have := hf.most; omega
  have hu := hj.used
  have hst : startD q j.area ≤ 5000 := by
    unfold startD
    rcases Nat.le_one_iff_eq_zero_or_eq_one.1 hj.area with e | e <;> rw [e] <;> omega
  have WR : Hid (∀ W, W.heap = w.heap → Calls Tryz.prog 43 #[.pointer (some ⟨g, 0, none⟩), .int .i64 (startD q j.area + j.used : Nat), .int .u32 (j.next : Nat), .string s] W fun e w' => e = .returned (.int .i64 er) ∧ DocAt w' g r q2 ∧ OnlyTwo g r W w') := fun W hh => by
    have h := rj_write q g r k m (startD q j.area + j.used) j.next s W (h.heap hh).doc hf (by omega) (by omega) (by omega)
    rwa [hW] at h
  have hL : leftN q j ≤ 4096 := by unfold leftN; omega
  have t2 : decide (leftN q j < (sizeN s.size : Int)) = false := decide_eq_false (by omega)
  have t3 : decide ((2148483648 : Int) < j.next) = false := decide_eq_false (by omega)
  have hsz := size_most hs
  have i1 : IntKind.i64.wrap ((startD q j.area : Int) + (j.used : Int)) = ((startD q j.area + j.used : Nat) : Int) := by rw [IntWalk.i64_in _ (by omega)]; omega
  have hjn := hj.recs
  have i5 : IntKind.i64.wrap ((j.used : Int) + (sizeN s.size : Int)) = (j.used : Int) + (sizeN s.size : Int) := IntWalk.i64_in _ (by omega)
  have i6 : IntKind.u32.wrap ((j.next : Int) + 1) = (j.next : Int) + 1 := IntWalk.u32_in _ (by omega)
  clear h hd hf hj hW hroom hnx
  generalize leftN q j = L at *
  generalize startD q j.area = S0 at *
  obtain ⟨p0, hp0⟩ : ∃ p0, S0 + j.used = p0 := ⟨_, rfl⟩
  rw [hp0] at WR i1
  clear hp0
  generalize sizeN s.size = z at *
  have t4 : (er != 0) = false := by rw [he]; rfl
  clear he
  go_enter Tryz.func12, Tryz.ntmps12
  go_wp2_with fail
  refine (SZ.out w).mono ?_
  rintro e w1 ⟨rfl, rfl⟩
  go_wp2_with fail
  refine (LF.out w rfl).mono ?_
  rintro e w1 ⟨rfl, n1, rfl⟩
  obtain ⟨wd, hwd⟩ : ∃ wd, w.drewN n1 = wd := ⟨_, rfl⟩
  have EH : Hid (wd.heap = w.heap) := show _ = _ by rw [← hwd]; rfl
  have O1 : Hid (OnlyThree gj g r w wd) := show OnlyThree _ _ _ _ _ from by rw [← hwd]; exact ⟨rfl, rfl, rfl, Nat.le_refl _, fun _ _ _ _ _ => rfl⟩
  rw [hwd]
  have HW := Lib.hid (H.out.heap EH.out)
  clear hwd c0 c2 c3 c4 c5 c6 fz hoff H
  have HCC : Hid (∀ W q', JDoc AV W gj g r q' j → W.cell? ⟨gj, 0, none⟩ = some (.pointer (some ⟨g, 0, none⟩)) ∧ W.cell? ⟨gj, 3, none⟩ = some (.int .u32 j.next) ∧ W.cell? ⟨gj, 4, none⟩ = some (.int .i64 j.area) ∧ W.cell? ⟨gj, 5, none⟩ = some (.int .i64 j.used)) := fun W q' hh => by
    obtain ⟨V, c0, -, -, c3, c4, c5, -⟩ := hh.cells
    exact ⟨c0, c3, c4, c5⟩
  obtain ⟨c0, c3, c4, c5⟩ := HCC.out _ _ HW.out
  go_wp2_with fail
  have HWD : Hid (JDoc AV wd.drew gj g r q j) := HW.out.heap rfl
  have C0 := HCC.out _ _ HWD.out
  have EHD : Hid (wd.drew.heap = w.heap) := EH.out
  have OD : Hid (OnlyThree gj g r w wd.drew) := O1.out.trans ⟨rfl, rfl, rfl, Nat.le_refl _, fun _ _ _ _ _ => rfl⟩
  go_region_held3 (fun w' => w'.cell? ⟨gj, 0, none⟩ = some (.pointer (some ⟨g, 0, none⟩)) ∧ w'.cell? ⟨gj, 3, none⟩ = some (.int .u32 j.next) ∧ w'.cell? ⟨gj, 4, none⟩ = some (.int .i64 j.area) ∧ w'.cell? ⟨gj, 5, none⟩ = some (.int .i64 j.used))
    (first | exact C2 | exact C0)
    (first
      | (go_at_call 44
         with_reducible refine (ST.out _ EHD.out).mono ?_
         rintro e w2 ⟨rfl, rfl⟩)
      | (go_at_call 43
         with_reducible refine (WR.out _ EHD.out).mono ?_
         rintro e w2 ⟨rfl, n1, n2⟩
         have J2 := Lib.hid (HWD.out.disk n1 n2)
         have O2 := Lib.hid (OD.out.trans (OnlyThree.of_two n2))
         have C2 := HCC.out _ _ J2.out
         clear n1 n2))
  clear c0 c3 c4 c5 C0 HW HWD EH EHD O1 OD WR ST LF SZ
  obtain ⟨V2, d0, -, d2, d3, d4, d5, d6, fz2, hoff2⟩ := J2.out.cells
  have f6 := fz2 6
  have l6 := J2.out.lt
  obtain ⟨A, c, rfl⟩ := hoff2.1.shape
  have HT := Lib.hid hoff2.1
  obtain ⟨i0, hi0, hi1, hi2, hi3⟩ := Frame.str_info
  have HI := Lib.hid hi0
  have HZ0 := Lib.hid hi1
  have HZ1 := Lib.hid hi2
  have HZ2 := Lib.hid hi3
  clear hi0 hi1 hi2 hi3 hoff2
  go_wp2_with (first
    | (at_builtin
       refine wpList_append_els rfl (.tmp 59) (.tmp 63) _ rfl w2.heap.size 9 i0 (.string ⟨#[]⟩) 16 Tryz.underlying50 HI.out HZ0.out HZ1.out HZ2.out rfl (.slice (some ⟨w2.heap.size, 0, none⟩) 0 0) 0 [] rfl (World.ownsRow_lit (size := 1) w2 #[] 0 (Nat.le_refl _) (by simp) (by simp)) w2.heap.size (.slice A j.recs.length c) j.recs rfl (HT.out.keep fun q o hq => (below_one w2 _).cell (p := ⟨q, o, none⟩) hq) (fun _ => rfl) (by unfold maxLen; omega) (by omega) (by simp) ?_
       intro v3 w3 ho3 hg3
       have B3 := Lib.hid (below_row (a := w2) (below_one w2 (.cells #[] 9)) (Nat.le_refl _) (World.ownsRow_lit (size := 1) w2 #[] 0 (Nat.le_refl _) (by simp) (by simp)) hg3)
       rw [Nat.zero_add, List.nil_append] at ho3
       have OW3 := Lib.hid ho3
       obtain ⟨A3, c3, rfl⟩ := Slice.own_slice ho3
       clear ho3 hg3)
    | (at_builtin
       refine Slice.wpList_append_one rfl (.tmp 64) (.tmp 66) _ rfl w2.heap.size 9 i0 (.string ⟨#[]⟩) 16 Tryz.underlying50 HI.out HZ0.out HZ1.out HZ2.out rfl w3 9 (.string s) rfl (.slice A3 j.recs.length c3) j.recs.length _ rfl OW3.out w3.heap.size rfl rfl (by unfold maxLen; omega) (by omega) B3.out.size ?_
       intro v4 w4 ho4 hg4
       have B4 := Lib.hid (below_row (a := w2) B3.out (Nat.le_refl _) OW3.out hg4)
       rw [show j.recs.map Value.string ++ [Value.string s] = (j.recs ++ [s]).map Value.string by simp] at ho4
       have OW4 := Lib.hid ho4
       obtain ⟨A4, c4, rfl⟩ := Slice.own_slice ho4
       have J4 := Lib.hid (J2.out.below B4.out)
       obtain ⟨V4, e0, -, e2, e3, e4, e5, e6, fz4, -⟩ := J4.out.cells
       have g2 := fz4 2
       have g3 := fz4 3
       have g5 := fz4 5
       have l4 := J4.out.lt
       clear ho4 hg4 fz4))
  have OF : Off AV w4 gj g r (.slice A4 (j.recs.length + 1) c4) (j.recs ++ [s]) := by
    refine ⟨Els.of_own (base := w2.heap.size) (e := 9) (n := j.recs.length + 1) (by simp) OW4.out, fun x n k hx _ => ?_⟩
    injection hx with hx
    have h1 := (OW4.out.lt x.block (by rw [hx]; rfl)).1
    have h2 := J2.out.lt
    have h3 := J2.out.doc.lt
    exact ⟨by omega, fun e => by have := HA.out _ e; have := O2.out.size; omega⟩
  have K1 := J4.out.setRecs (.slice A4 (j.recs.length + 1) c4) (j.recs ++ [s]) OF
  have K2 := K1.set (j' := ⟨j.base, j.recs ++ [s], j.next, j.area, j.used + z, j.dead⟩) 5 (.int .i64 ((j.used : Int) + (z : Int))) rfl (fun V k hk => by
    match k, hk with
    | 0, _ | 1, _ | 2, _ | 3, _ | 4, _ | 5, _ | 6, _ => rfl)
  have K3 := K2.set (j' := ⟨j.base, j.recs ++ [s], j.next + 1, j.area, j.used + z, j.dead⟩) 3 (.int .u32 ((j.next : Int) + 1)) rfl (fun V k hk => by
    match k, hk with
    | 0, _ | 1, _ | 2, _ | 3, _ | 4, _ | 5, _ | 6, _ => rfl)
  unfold JDid
  go_ret
  exact ⟨rfl, K3, (((O2.out.below B4.out).set rfl _).set rfl _).set rfl _⟩
set_option maxHeartbeats 1000000 in
theorem app_full (q : DSt) (j : JSt) (gj g r k m : Nat) (s : ByteArray) (w : World) (h : JDoc AV w gj g r q j) (hf : q.Fit k m) (h2 : 2 ≤ k) (hj : j.Fit q) (hd : j.dead = false) (hs : s.size ≤ 60000) (hroom : leftN q j < sizeN s.size ∨ most < j.next) :
    Calls Tryz.prog 12 #[.pointer (some ⟨gj, 0, none⟩), .string s] w (JDid AV ⟨q, j, 73⟩ gj g r w) := by
  obtain ⟨V, c0, -, c2, c3, c4, c5, c6, fz, hoff⟩ := h.cells
  rw [hd] at c6
  have H := Lib.hid h
  have t1 : decide ((60000 : Int) < s.size) = false := decide_eq_false (by omega)
  have SZ : Hid (∀ W, Calls Tryz.prog 39 #[.int .i64 (s.size : Nat)] W fun e w' => e = .returned (.int .i64 (sizeN s.size : Nat)) ∧ W = w') := fun W => by
    have := r_fsize (s.size : Int) W (by omega)
    rwa [show sizeV (s.size : Int) = (sizeN s.size : Nat) by unfold sizeV; rw [if_pos (by omega)]; rfl] at this
  have LF : Hid (∀ W, W.heap = w.heap → Calls Tryz.prog 46 #[.pointer (some ⟨gj, 0, none⟩)] W fun e w' => e = .returned (.int .i64 (leftN q j)) ∧ ∃ n, w' = W.drewN n) := fun W hh => rj_left q j gj g r k m W (h.heap hh) hf h2 hj
  have hnx := hj.next
  unfold most at hroom
  have hO : Hid (∀ n, OnlyThree gj g r w (w.drewN n)) := fun n => ⟨rfl, rfl, rfl, Nat.le_refl _, fun _ _ _ _ _ => rfl⟩
  have HJ : Hid (∀ n, JDoc AV (w.drewN n) gj g r q j) := fun n => H.out.heap rfl
  clear h hd hf hj hoff
  generalize leftN q j = L at *
  generalize sizeN s.size = z at *
  unfold JDid
  by_cases hz : L < z
  · have t2 : decide (L < (z : Int)) = true := decide_eq_true hz
    clear hroom
    go_enter Tryz.func12, Tryz.ntmps12
    go_wp2_with fail
    refine (SZ.out w).mono ?_
    rintro e w1 ⟨rfl, rfl⟩
    go_wp2_with fail
    refine (LF.out w rfl).mono ?_
    rintro e w1 ⟨rfl, n1, rfl⟩
    go_wp2_with fail
    go_ret
    exact ⟨rfl, HJ.out n1, hO.out n1⟩
  · have t2 : decide (L < (z : Int)) = false := decide_eq_false hz
    have t3 : decide ((2148483648 : Int) < j.next) = true := decide_eq_true (by omega)
    clear hroom
    go_enter Tryz.func12, Tryz.ntmps12
    go_wp2_with fail
    refine (SZ.out w).mono ?_
    rintro e w1 ⟨rfl, rfl⟩
    go_wp2_with fail
    refine (LF.out w rfl).mono ?_
    rintro e w1 ⟨rfl, n1, rfl⟩
    go_wp2_with fail
    go_ret
    exact ⟨rfl, HJ.out n1, hO.out n1⟩
theorem rj_append (q : DSt) (j : JSt) (gj g r k m : Nat) (s : ByteArray) (w : World) (h : JDoc AV w gj g r q j) (hf : q.Fit k m) (h2 : 2 ≤ k) (hm : m ≤ 10000000) (hj : j.Fit q) (hA : ∀ i, AV i → i < w.heap.size) :
    Calls Tryz.prog 12 #[.pointer (some ⟨gj, 0, none⟩), .string s] w (JDid AV (append q j s) gj g r w) := by
  by_cases hd : j.dead = true
  · rw [show append q j s = ⟨q, j, 74⟩ by unfold append; rw [if_pos hd]]
    exact app_dead q j gj g r s w h hd
  · have hd2 : j.dead = false := by rwa [Bool.not_eq_true] at hd
    by_cases hs : 60000 < s.size
    · rw [show append q j s = ⟨q, j, 2⟩ by unfold append; rw [if_neg hd, if_pos hs]]
      exact app_long q j gj g r s w h hd2 hs
    · by_cases hr : leftN q j < sizeN s.size ∨ most < j.next
      · rw [show append q j s = ⟨q, j, 73⟩ by unfold append; rw [if_neg hd, if_neg hs, if_pos hr]]
        exact app_full q j gj g r k m s w h hf h2 hj hd2 (by omega) hr
      · obtain ⟨q2, er, hW⟩ : ∃ q2 er, writeR q (startD q j.area + j.used) j.next s = (q2, er) := ⟨_, _, rfl⟩
        by_cases he : er = 0
        · rw [show append q j s = ⟨q2, ⟨j.base, j.recs ++ [s], j.next + 1, j.area, j.used + sizeN s.size, j.dead⟩, 0⟩ by
            unfold append
            rw [if_neg hd, if_neg hs, if_neg hr, hW]
            exact if_neg (fun e => e he)]
          exact app_good q q2 er j gj g r k m s w h hf h2 hm hj hd2 (by omega) (by omega) (by omega) hW he hA
        · rw [show append q j s = ⟨q2, ⟨j.base, j.recs, j.next, j.area, j.used, true⟩, er⟩ by
            unfold append
            rw [if_neg hd, if_neg hs, if_neg hr, hW]
            exact if_pos he]
          exact rapp_err q q2 er j gj g r k m s w h hf h2 hm hj hd2 (by omega) (by omega) (by omega) hW he
end Go.Proofs.YtndanhacmfhlaaaGreat.Jour
namespace Go.Proofs.YtndanhacmfhlaaaGreat.Jour
open Go.ChangeShapes Go.WideShapes Go.ChangeAt Go.RowKit Go.Deep Els Go.Proofs.YtndanhacmfhlaaaGreat.Frame Disk
variable {AV : Nat → Prop}

set_option maxRecDepth 20000 in
set_option maxHeartbeats 2000000 in
theorem save_err1 (q q2 : DSt) (er : Int) (j : JSt) (gj g r k m : Nat) (s : ByteArray) (w : World) (h : JDoc AV w gj g r q j) (hf : q.Fit k m) (h2 : 2 ≤ k) (hm : m ≤ 10000000) (hj : j.Fit q) (hd : j.dead = false) (hs : s.size ≤ 60000) (hroom : sizeN s.size ≤ roomD q) (hnx : j.next ≤ most) (hW : writeR q (startD q (1 - j.area)) j.next s = (q2, er)) (he : er ≠ 0) :
    Calls Tryz.prog 14 #[.pointer (some ⟨gj, 0, none⟩), .string s] w (JDid AV ⟨q2, ⟨j.base, j.recs, j.next, j.area, j.used, true⟩, er⟩ gj g r w) := by
  obtain ⟨V, c0, -, c2, c3, c4, c5, c6, fz, hoff⟩ := h.cells
  rw [hd] at c6
  have H := Lib.hid h
  have t1 : decide ((60000 : Int) < s.size) = false := decide_eq_false (by omega)
  have SZ : Hid (∀ W, Calls Tryz.prog 39 #[.int .i64 (s.size : Nat)] W fun e w' => e = .returned (.int .i64 (sizeN s.size : Nat)) ∧ W = w') := fun W => by
    have := r_fsize (s.size : Int) W (by omega)
    rwa [show sizeV (s.size : Int) = (sizeN s.size : Nat) by unfold sizeV; rw [if_pos (by omega)]; rfl] at this
  have ha := hj.area
  obtain ⟨oa, hto⟩ : ∃ oa, 1 - j.area = oa := ⟨_, rfl⟩
  have hto1 : oa ≤ 1 := by omega
  rw [hto] at hW
  have RM : Hid (∀ W, W.heap = w.heap → Calls Tryz.prog 40 #[.pointer (some ⟨g, 0, none⟩)] W fun e w' => e = .returned (.int .i64 (roomD q : Nat)) ∧ W = w') := fun W hh => rj_room q g r k m W (h.heap hh).doc hf h2
  have ST : Hid (∀ W, W.heap = w.heap → Calls Tryz.prog 44 #[.pointer (some ⟨g, 0, none⟩), .int .i64 (oa : Nat)] W fun e w' => e = .returned (.int .i64 (startD q oa : Nat)) ∧ W = w') := fun W hh => rj_start q g r k m oa W (h.heap hh).doc hf h2 hto1
  have hn1 : j.next ≤ 2148483648 := hnx
  have hb : roomD q ≤ 4096 := by unfold roomD; have := hf.len; have := hf.most; omega
  have hst : startD q oa ≤ 5000 := by
    unfold startD
    rcases Nat.le_one_iff_eq_zero_or_eq_one.1 hto1 with e | e <;> rw [e] <;> omega
  have WR : Hid (∀ W, W.heap = w.heap → Calls Tryz.prog 43 #[.pointer (some ⟨g, 0, none⟩), .int .i64 (startD q oa : Nat), .int .u32 (j.next : Nat), .string s] W fun e w' => e = .returned (.int .i64 er) ∧ DocAt w' g r q2 ∧ OnlyTwo g r W w') := fun W hh => by
    have h := rj_write q g r k m (startD q oa) j.next s W (h.heap hh).doc hf (by omega) (by omega) (by omega)
    rwa [hW] at h
  have t2 : decide (roomD q < sizeN s.size) = false := decide_eq_false (by omega)
  have t3 : decide ((2148483648 : Int) < j.next) = false := decide_eq_false (by omega)
  have hsz := size_most hs
  have i1 : IntKind.i64.wrap (1 - (j.area : Int)) = (oa : Nat) := by rw [IntWalk.i64_in _ (by omega)]; omega
  have F2 : q2.Fit k (m + 300) := by
    have := write_fit q (startD q oa) j.next s hf
    rwa [hW] at this
  have t4 : (er != 0) = true := by rw [bne_iff_ne]; exact he
  have t5 : (er == 0) = false := by rw [beq_eq_false_iff_ne]; exact he
  clear he
  clear h hd hf hj hW hroom hnx hto F2
  generalize roomD q = R at *
  generalize startD q oa = S0 at *
  generalize sizeN s.size = z at *
  have HCC : Hid (∀ W q', JDoc AV W gj g r q' j → W.cell? ⟨gj, 0, none⟩ = some (.pointer (some ⟨g, 0, none⟩)) ∧ W.cell? ⟨gj, 3, none⟩ = some (.int .u32 j.next) ∧ W.cell? ⟨gj, 4, none⟩ = some (.int .i64 j.area)) := fun W q' hh => by
    obtain ⟨V, c0, -, -, c3, c4, c5, -⟩ := hh.cells
    exact ⟨c0, c3, c4⟩
  go_enter Tryz.func14, Tryz.ntmps14
  go_wp2_with fail
  refine (SZ.out w).mono ?_
  rintro e w1 ⟨rfl, rfl⟩
  go_wp2_with fail
  refine (RM.out w rfl).mono ?_
  rintro e w1 ⟨rfl, rfl⟩
  go_wp2_with fail
  have HWD : Hid (JDoc AV w.drew gj g r q j) := H.out.heap rfl
  have C0 := HCC.out _ _ HWD.out
  have EHD : Hid (w.drew.heap = w.heap) := rfl
  have OD : Hid (OnlyThree gj g r w w.drew) := ⟨rfl, rfl, rfl, Nat.le_refl _, fun _ _ _ _ _ => rfl⟩
  go_region_held3 (fun w' => w'.cell? ⟨gj, 0, none⟩ = some (.pointer (some ⟨g, 0, none⟩)) ∧ w'.cell? ⟨gj, 3, none⟩ = some (.int .u32 j.next) ∧ w'.cell? ⟨gj, 4, none⟩ = some (.int .i64 j.area))
    (first | exact C2 | exact C0)
    (first
      | (go_at_call 44
         with_reducible refine (ST.out _ EHD.out).mono ?_
         rintro e w2 ⟨rfl, rfl⟩)
      | (go_at_call 43
         with_reducible refine (WR.out _ EHD.out).mono ?_
         rintro e w2 ⟨rfl, n1, n2⟩
         have J2 := Lib.hid (HWD.out.disk n1 n2)
         have O2 := Lib.hid (OD.out.trans (OnlyThree.of_two n2))
         have C2 := HCC.out _ _ J2.out
         clear n1 n2))
  clear c0 c3 c4 c5 C0 HWD EHD OD WR ST RM SZ
  obtain ⟨V2, d0, -, d2, d3, d4, d5, d6, fz2, hoff2⟩ := J2.out.cells
  have f6 := fz2 6
  have l6 := J2.out.lt
  go_wp2_with fail
  unfold JDid
  go_ret
  exact ⟨rfl, J2.out.set 6 _ rfl (fun V k hk => by
    match k, hk with
    | 0, _ | 1, _ | 2, _ | 3, _ | 4, _ | 5, _ | 6, _ => rfl), O2.out.set rfl _⟩
set_option maxRecDepth 20000 in
set_option maxHeartbeats 2000000 in
theorem save_err2 (q q2 q3 : DSt) (er : Int) (j : JSt) (gj g r k m : Nat) (s : ByteArray) (w : World) (h : JDoc AV w gj g r q j) (hf : q.Fit k m) (h2 : 2 ≤ k) (hm : m ≤ 10000000) (hj : j.Fit q) (hd : j.dead = false) (hs : s.size ≤ 60000) (hroom : sizeN s.size ≤ roomD q) (hnx : j.next ≤ most) (hW : writeR q (startD q (1 - j.area)) j.next s = (q2, 0)) (hW2 : writeR q2 (1 - j.area) j.next (headB (1 - j.area)) = (q3, er)) (he : er ≠ 0) :
    Calls Tryz.prog 14 #[.pointer (some ⟨gj, 0, none⟩), .string s] w (JDid AV ⟨q3, ⟨j.base, j.recs, j.next, j.area, j.used, true⟩, er⟩ gj g r w) := by
  obtain ⟨V, c0, -, c2, c3, c4, c5, c6, fz, hoff⟩ := h.cells
  rw [hd] at c6
  have H := Lib.hid h
  have t1 : decide ((60000 : Int) < s.size) = false := decide_eq_false (by omega)
  have SZ : Hid (∀ W, Calls Tryz.prog 39 #[.int .i64 (s.size : Nat)] W fun e w' => e = .returned (.int .i64 (sizeN s.size : Nat)) ∧ W = w') := fun W => by
    have := r_fsize (s.size : Int) W (by omega)
    rwa [show sizeV (s.size : Int) = (sizeN s.size : Nat) by unfold sizeV; rw [if_pos (by omega)]; rfl] at this
  have ha := hj.area
  obtain ⟨oa, hto⟩ : ∃ oa, 1 - j.area = oa := ⟨_, rfl⟩
  have hto1 : oa ≤ 1 := by omega
  rw [hto] at hW hW2
  have RM : Hid (∀ W, W.heap = w.heap → Calls Tryz.prog 40 #[.pointer (some ⟨g, 0, none⟩)] W fun e w' => e = .returned (.int .i64 (roomD q : Nat)) ∧ W = w') := fun W hh => rj_room q g r k m W (h.heap hh).doc hf h2
  have ST : Hid (∀ W, W.heap = w.heap → Calls Tryz.prog 44 #[.pointer (some ⟨g, 0, none⟩), .int .i64 (oa : Nat)] W fun e w' => e = .returned (.int .i64 (startD q oa : Nat)) ∧ W = w') := fun W hh => rj_start q g r k m oa W (h.heap hh).doc hf h2 hto1
  have hn1 : j.next ≤ 2148483648 := hnx
  have hb : roomD q ≤ 4096 := by unfold roomD; have := hf.len; have := hf.most; omega
  have hst : startD q oa ≤ 5000 := by
    unfold startD
    rcases Nat.le_one_iff_eq_zero_or_eq_one.1 hto1 with e | e <;> rw [e] <;> omega
  have WR : Hid (∀ W, W.heap = w.heap → Calls Tryz.prog 43 #[.pointer (some ⟨g, 0, none⟩), .int .i64 (startD q oa : Nat), .int .u32 (j.next : Nat), .string s] W fun e w' => e = .returned (.int .i64 0) ∧ DocAt w' g r q2 ∧ OnlyTwo g r W w') := fun W hh => by
    have h := rj_write q g r k m (startD q oa) j.next s W (h.heap hh).doc hf (by omega) (by omega) (by omega)
    rwa [hW] at h
  have t2 : decide (roomD q < sizeN s.size) = false := decide_eq_false (by omega)
  have t3 : decide ((2148483648 : Int) < j.next) = false := decide_eq_false (by omega)
  have hsz := size_most hs
  have i1 : IntKind.i64.wrap (1 - (j.area : Int)) = (oa : Nat) := by rw [IntWalk.i64_in _ (by omega)]; omega
  have F2 : q2.Fit k (m + 300) := by
    have := write_fit q (startD q oa) j.next s hf
    rwa [hW] at this
  have t4 : (er != 0) = true := by rw [bne_iff_ne]; exact he
  clear he
  have HD : Hid (∀ W, Calls Tryz.prog 45 #[.int .i64 (oa : Nat)] W fun e w' => e = .returned (.string (headB oa)) ∧ Below W.heap.size W w') := fun W => rj_head oa W hto1
  have WR2 : Hid (∀ W, DocAt W g r q2 → Calls Tryz.prog 43 #[.pointer (some ⟨g, 0, none⟩), .int .i64 (oa : Nat), .int .u32 (j.next : Nat), .string (headB oa)] W fun e w' => e = .returned (.int .i64 er) ∧ DocAt w' g r q3 ∧ OnlyTwo g r W w') := fun W hh => by
    have h := rj_write q2 g r k (m + 300) oa j.next (headB oa) W hh F2 (by omega) (by omega) (by omega)
    rwa [hW2] at h
  clear h hd hf hj hW hW2 hroom hnx hto F2
  generalize headB oa = hb2 at *
  generalize roomD q = R at *
  generalize startD q oa = S0 at *
  generalize sizeN s.size = z at *
  have HCC : Hid (∀ W q', JDoc AV W gj g r q' j → W.cell? ⟨gj, 0, none⟩ = some (.pointer (some ⟨g, 0, none⟩)) ∧ W.cell? ⟨gj, 3, none⟩ = some (.int .u32 j.next) ∧ W.cell? ⟨gj, 4, none⟩ = some (.int .i64 j.area)) := fun W q' hh => by
    obtain ⟨V, c0, -, -, c3, c4, c5, -⟩ := hh.cells
    exact ⟨c0, c3, c4⟩
  go_enter Tryz.func14, Tryz.ntmps14
  go_wp2_with fail
  refine (SZ.out w).mono ?_
  rintro e w1 ⟨rfl, rfl⟩
  go_wp2_with fail
  refine (RM.out w rfl).mono ?_
  rintro e w1 ⟨rfl, rfl⟩
  go_wp2_with fail
  have HWD : Hid (JDoc AV w.drew gj g r q j) := H.out.heap rfl
  have C0 := HCC.out _ _ HWD.out
  have EHD : Hid (w.drew.heap = w.heap) := rfl
  have OD : Hid (OnlyThree gj g r w w.drew) := ⟨rfl, rfl, rfl, Nat.le_refl _, fun _ _ _ _ _ => rfl⟩
  go_region_held3 (fun w' => w'.cell? ⟨gj, 0, none⟩ = some (.pointer (some ⟨g, 0, none⟩)) ∧ w'.cell? ⟨gj, 3, none⟩ = some (.int .u32 j.next) ∧ w'.cell? ⟨gj, 4, none⟩ = some (.int .i64 j.area))
    (first | exact C2 | exact C0)
    (first
      | (go_at_call 44
         with_reducible refine (ST.out _ EHD.out).mono ?_
         rintro e w2 ⟨rfl, rfl⟩)
      | (go_at_call 43
         with_reducible refine (WR.out _ EHD.out).mono ?_
         rintro e w2 ⟨rfl, n1, n2⟩
         have J2 := Lib.hid (HWD.out.disk n1 n2)
         have O2 := Lib.hid (OD.out.trans (OnlyThree.of_two n2))
         have C2 := HCC.out _ _ J2.out
         clear n1 n2))
  clear c0 c3 c4 c5 C0 HWD EHD OD WR ST RM SZ
  obtain ⟨V2, d0, -, d2, d3, d4, d5, d6, fz2, hoff2⟩ := J2.out.cells
  go_wp2_with fail
  have HJD : Hid (JDoc AV w2.drew gj g r q2 j) := J2.out.heap rfl
  have O2D : Hid (OnlyThree gj g r w w2.drew) := O2.out.trans ⟨rfl, rfl, rfl, Nat.le_refl _, fun _ _ _ _ _ => rfl⟩
  have D0 := HCC.out _ _ HJD.out
  go_region_held3 (fun w' => w'.cell? ⟨gj, 0, none⟩ = some (.pointer (some ⟨g, 0, none⟩)) ∧ w'.cell? ⟨gj, 3, none⟩ = some (.int .u32 j.next) ∧ w'.cell? ⟨gj, 4, none⟩ = some (.int .i64 j.area))
    (first | exact D4 | exact D3 | exact D0)
    (first
      | (go_at_call 45
         with_reducible refine (HD.out _).mono ?_
         rintro e w3 ⟨rfl, hbb⟩
         have J3 := Lib.hid (HJD.out.below hbb)
         have O3 := Lib.hid (O2D.out.below hbb)
         have D3 := HCC.out _ _ J3.out
         clear hbb)
      | (go_at_call 43
         with_reducible refine (WR2.out _ J3.out.doc).mono ?_
         rintro e w4 ⟨rfl, n1, n2⟩
         have J4 := Lib.hid (J3.out.disk n1 n2)
         have O4 := Lib.hid (O3.out.trans (OnlyThree.of_two n2))
         have D4 := HCC.out _ _ J4.out
         clear n1 n2))
  clear d0 d2 d3 d4 d5 d6 fz2 D0 D3 D4 HJD O2D WR2 HD
  obtain ⟨V4, e0, e1, e2, e3, e4, e5, e6, fz4, hoff4⟩ := J4.out.cells
  have f1 := fz4 1
  have f2 := fz4 2
  have f3 := fz4 3
  have f4 := fz4 4
  have f5 := fz4 5
  have f6 := fz4 6
  have l6 := J4.out.lt
  go_wp2_with fail
  unfold JDid
  go_ret
  exact ⟨rfl, J4.out.set 6 _ rfl (fun V k hk => by
    match k, hk with
    | 0, _ | 1, _ | 2, _ | 3, _ | 4, _ | 5, _ | 6, _ => rfl), O4.out.set rfl _⟩
set_option maxRecDepth 20000 in
set_option maxHeartbeats 2000000 in
theorem save_good (q q2 q3 : DSt) (j : JSt) (gj g r k m : Nat) (s : ByteArray) (w : World) (h : JDoc AV w gj g r q j) (hf : q.Fit k m) (h2 : 2 ≤ k) (hm : m ≤ 10000000) (hj : j.Fit q) (hd : j.dead = false) (hs : s.size ≤ 60000) (hroom : sizeN s.size ≤ roomD q) (hnx : j.next ≤ most) (hW : writeR q (startD q (1 - j.area)) j.next s = (q2, 0)) (hW2 : writeR q2 (1 - j.area) j.next (headB (1 - j.area)) = (q3, 0)) :
    Calls Tryz.prog 14 #[.pointer (some ⟨gj, 0, none⟩), .string s] w (JDid AV ⟨q3, ⟨s, [], j.next + 1, 1 - j.area, sizeN s.size, j.dead⟩, 0⟩ gj g r w) := by
  obtain ⟨V, c0, -, c2, c3, c4, c5, c6, fz, hoff⟩ := h.cells
  rw [hd] at c6
  have H := Lib.hid h
  have t1 : decide ((60000 : Int) < s.size) = false := decide_eq_false (by omega)
  have SZ : Hid (∀ W, Calls Tryz.prog 39 #[.int .i64 (s.size : Nat)] W fun e w' => e = .returned (.int .i64 (sizeN s.size : Nat)) ∧ W = w') := fun W => by
    have := r_fsize (s.size : Int) W (by omega)
    rwa [show sizeV (s.size : Int) = (sizeN s.size : Nat) by unfold sizeV; rw [if_pos (by omega)]; rfl] at this
  have ha := hj.area
  obtain ⟨oa, hto⟩ : ∃ oa, 1 - j.area = oa := ⟨_, rfl⟩
  have hto1 : oa ≤ 1 := by omega
  rw [hto] at hW hW2 ⊢
  have RM : Hid (∀ W, W.heap = w.heap → Calls Tryz.prog 40 #[.pointer (some ⟨g, 0, none⟩)] W fun e w' => e = .returned (.int .i64 (roomD q : Nat)) ∧ W = w') := fun W hh => rj_room q g r k m W (h.heap hh).doc hf h2
  have ST : Hid (∀ W, W.heap = w.heap → Calls Tryz.prog 44 #[.pointer (some ⟨g, 0, none⟩), .int .i64 (oa : Nat)] W fun e w' => e = .returned (.int .i64 (startD q oa : Nat)) ∧ W = w') := fun W hh => rj_start q g r k m oa W (h.heap hh).doc hf h2 hto1
  have hn1 : j.next ≤ 2148483648 := hnx
  have hb : roomD q ≤ 4096 := by unfold roomD; have := hf.len; have := hf.most; omega
  have hst : startD q oa ≤ 5000 := by
    unfold startD
    rcases Nat.le_one_iff_eq_zero_or_eq_one.1 hto1 with e | e <;> rw [e] <;> omega
  have WR : Hid (∀ W, W.heap = w.heap → Calls Tryz.prog 43 #[.pointer (some ⟨g, 0, none⟩), .int .i64 (startD q oa : Nat), .int .u32 (j.next : Nat), .string s] W fun e w' => e = .returned (.int .i64 0) ∧ DocAt w' g r q2 ∧ OnlyTwo g r W w') := fun W hh => by
    have h := rj_write q g r k m (startD q oa) j.next s W (h.heap hh).doc hf (by omega) (by omega) (by omega)
    rwa [hW] at h
  have t2 : decide (roomD q < sizeN s.size) = false := decide_eq_false (by omega)
  have t3 : decide ((2148483648 : Int) < j.next) = false := decide_eq_false (by omega)
  have hsz := size_most hs
  have i1 : IntKind.i64.wrap (1 - (j.area : Int)) = (oa : Nat) := by rw [IntWalk.i64_in _ (by omega)]; omega
  have F2 : q2.Fit k (m + 300) := by
    have := write_fit q (startD q oa) j.next s hf
    rwa [hW] at this
  have i6 : IntKind.u32.wrap ((j.next : Int) + 1) = (j.next : Int) + 1 := IntWalk.u32_in _ (by omega)
  have HD : Hid (∀ W, Calls Tryz.prog 45 #[.int .i64 (oa : Nat)] W fun e w' => e = .returned (.string (headB oa)) ∧ Below W.heap.size W w') := fun W => rj_head oa W hto1
  have WR2 : Hid (∀ W, DocAt W g r q2 → Calls Tryz.prog 43 #[.pointer (some ⟨g, 0, none⟩), .int .i64 (oa : Nat), .int .u32 (j.next : Nat), .string (headB oa)] W fun e w' => e = .returned (.int .i64 0) ∧ DocAt w' g r q3 ∧ OnlyTwo g r W w') := fun W hh => by
    have h := rj_write q2 g r k (m + 300) oa j.next (headB oa) W hh F2 (by omega) (by omega) (by omega)
    rwa [hW2] at h
  clear h hd hf hj hW hW2 hroom hnx hto F2
  generalize headB oa = hb2 at *
  generalize roomD q = R at *
  generalize startD q oa = S0 at *
  generalize sizeN s.size = z at *
  have HCC : Hid (∀ W q', JDoc AV W gj g r q' j → W.cell? ⟨gj, 0, none⟩ = some (.pointer (some ⟨g, 0, none⟩)) ∧ W.cell? ⟨gj, 3, none⟩ = some (.int .u32 j.next) ∧ W.cell? ⟨gj, 4, none⟩ = some (.int .i64 j.area)) := fun W q' hh => by
    obtain ⟨V, c0, -, -, c3, c4, c5, -⟩ := hh.cells
    exact ⟨c0, c3, c4⟩
  go_enter Tryz.func14, Tryz.ntmps14
  go_wp2_with fail
  refine (SZ.out w).mono ?_
  rintro e w1 ⟨rfl, rfl⟩
  go_wp2_with fail
  refine (RM.out w rfl).mono ?_
  rintro e w1 ⟨rfl, rfl⟩
  go_wp2_with fail
  have HWD : Hid (JDoc AV w.drew gj g r q j) := H.out.heap rfl
  have C0 := HCC.out _ _ HWD.out
  have EHD : Hid (w.drew.heap = w.heap) := rfl
  have OD : Hid (OnlyThree gj g r w w.drew) := ⟨rfl, rfl, rfl, Nat.le_refl _, fun _ _ _ _ _ => rfl⟩
  go_region_held3 (fun w' => w'.cell? ⟨gj, 0, none⟩ = some (.pointer (some ⟨g, 0, none⟩)) ∧ w'.cell? ⟨gj, 3, none⟩ = some (.int .u32 j.next) ∧ w'.cell? ⟨gj, 4, none⟩ = some (.int .i64 j.area))
    (first | exact C2 | exact C0)
    (first
      | (go_at_call 44
         with_reducible refine (ST.out _ EHD.out).mono ?_
         rintro e w2 ⟨rfl, rfl⟩)
      | (go_at_call 43
         with_reducible refine (WR.out _ EHD.out).mono ?_
         rintro e w2 ⟨rfl, n1, n2⟩
         have J2 := Lib.hid (HWD.out.disk n1 n2)
         have O2 := Lib.hid (OD.out.trans (OnlyThree.of_two n2))
         have C2 := HCC.out _ _ J2.out
         clear n1 n2))
  clear c0 c3 c4 c5 C0 HWD EHD OD WR ST RM SZ
  obtain ⟨V2, d0, -, d2, d3, d4, d5, d6, fz2, hoff2⟩ := J2.out.cells
  go_wp2_with fail
  have HJD : Hid (JDoc AV w2.drew gj g r q2 j) := J2.out.heap rfl
  have O2D : Hid (OnlyThree gj g r w w2.drew) := O2.out.trans ⟨rfl, rfl, rfl, Nat.le_refl _, fun _ _ _ _ _ => rfl⟩
  have D0 := HCC.out _ _ HJD.out
  go_region_held3 (fun w' => w'.cell? ⟨gj, 0, none⟩ = some (.pointer (some ⟨g, 0, none⟩)) ∧ w'.cell? ⟨gj, 3, none⟩ = some (.int .u32 j.next) ∧ w'.cell? ⟨gj, 4, none⟩ = some (.int .i64 j.area))
    (first | exact D4 | exact D3 | exact D0)
    (first
      | (go_at_call 45
         with_reducible refine (HD.out _).mono ?_
         rintro e w3 ⟨rfl, hbb⟩
         have J3 := Lib.hid (HJD.out.below hbb)
         have O3 := Lib.hid (O2D.out.below hbb)
         have D3 := HCC.out _ _ J3.out
         clear hbb)
      | (go_at_call 43
         with_reducible refine (WR2.out _ J3.out.doc).mono ?_
         rintro e w4 ⟨rfl, n1, n2⟩
         have J4 := Lib.hid (J3.out.disk n1 n2)
         have O4 := Lib.hid (O3.out.trans (OnlyThree.of_two n2))
         have D4 := HCC.out _ _ J4.out
         clear n1 n2))
  clear d0 d2 d3 d4 d5 d6 fz2 D0 D3 D4 HJD O2D WR2 HD
  obtain ⟨V4, e0, e1, e2, e3, e4, e5, e6, fz4, hoff4⟩ := J4.out.cells
  have f1 := fz4 1
  have f2 := fz4 2
  have f3 := fz4 3
  have f4 := fz4 4
  have f5 := fz4 5
  have f6 := fz4 6
  have l6 := J4.out.lt
  go_wp2_with fail
  have K1 := J4.out.set (j' := ⟨s, j.recs, j.next, j.area, j.used, j.dead⟩) 1 (.string s) rfl (fun V k hk => by
    match k, hk with
    | 0, _ | 1, _ | 2, _ | 3, _ | 4, _ | 5, _ | 6, _ => rfl)
  have K2 := K1.setRecs (.slice none 0 0) [] (off_nil _ _ _ _)
  have K3 := K2.set (j' := ⟨s, [], j.next, oa, j.used, j.dead⟩) 4 (.int .i64 (oa : Nat)) rfl (fun V k hk => by
    match k, hk with
    | 0, _ | 1, _ | 2, _ | 3, _ | 4, _ | 5, _ | 6, _ => rfl)
  have K4 := K3.set (j' := ⟨s, [], j.next, oa, z, j.dead⟩) 5 (.int .i64 (z : Nat)) rfl (fun V k hk => by
    match k, hk with
    | 0, _ | 1, _ | 2, _ | 3, _ | 4, _ | 5, _ | 6, _ => rfl)
  have K5 := K4.set (j' := ⟨s, [], j.next + 1, oa, z, j.dead⟩) 3 (.int .u32 ((j.next : Int) + 1)) rfl (fun V k hk => by
    match k, hk with
    | 0, _ | 1, _ | 2, _ | 3, _ | 4, _ | 5, _ | 6, _ => rfl)
  unfold JDid
  go_ret
  exact ⟨rfl, K5, ((((O4.out.set rfl _).set rfl _).set rfl _).set rfl _).set rfl _⟩
set_option maxHeartbeats 1000000 in
theorem rsave_full (q : DSt) (j : JSt) (gj g r k m : Nat) (s : ByteArray) (w : World) (h : JDoc AV w gj g r q j) (hf : q.Fit k m) (h2 : 2 ≤ k) (hj : j.Fit q) (hd : j.dead = false) (hs : s.size ≤ 60000) (hroom : roomD q < sizeN s.size ∨ most < j.next) :
    Calls Tryz.prog 14 #[.pointer (some ⟨gj, 0, none⟩), .string s] w (JDid AV ⟨q, j, 73⟩ gj g r w) := by
  obtain ⟨V, c0, -, c2, c3, c4, c5, c6, fz, hoff⟩ := h.cells
  rw [hd] at c6
  have H := Lib.hid h
  have t1 : decide ((60000 : Int) < s.size) = false := decide_eq_false (by omega)
  have SZ : Hid (∀ W, Calls Tryz.prog 39 #[.int .i64 (s.size : Nat)] W fun e w' => e = .returned (.int .i64 (sizeN s.size : Nat)) ∧ W = w') := fun W => by
    have := r_fsize (s.size : Int) W (by omega)
    rwa [show sizeV (s.size : Int) = (sizeN s.size : Nat) by unfold sizeV; rw [if_pos (by omega)]; rfl] at this
  have RM : Hid (∀ W, W.heap = w.heap → Calls Tryz.prog 40 #[.pointer (some ⟨g, 0, none⟩)] W fun e w' => e = .returned (.int .i64 (roomD q : Nat)) ∧ W = w') := fun W hh => rj_room q g r k m W (h.heap hh).doc hf h2
  have hnx := hj.next
  unfold most at hroom
  clear h hd hf hj hoff
  generalize roomD q = R at *
  generalize sizeN s.size = z at *
  unfold JDid
  by_cases hz : R < z
  · have t2 : decide (R < z) = true := decide_eq_true hz
    clear hroom
    go_enter Tryz.func14, Tryz.ntmps14
    go_wp2_with fail
    refine (SZ.out w).mono ?_
    rintro e w1 ⟨rfl, rfl⟩
    go_wp2_with fail
    refine (RM.out w rfl).mono ?_
    rintro e w1 ⟨rfl, rfl⟩
    go_wp2_with fail
    go_ret
    exact ⟨rfl, H.out, OnlyThree.refl _ _ _ _⟩
  · have t2 : decide (R < z) = false := decide_eq_false hz
    have t3 : decide ((2148483648 : Int) < j.next) = true := decide_eq_true (by omega)
    clear hroom
    go_enter Tryz.func14, Tryz.ntmps14
    go_wp2_with fail
    refine (SZ.out w).mono ?_
    rintro e w1 ⟨rfl, rfl⟩
    go_wp2_with fail
    refine (RM.out w rfl).mono ?_
    rintro e w1 ⟨rfl, rfl⟩
    go_wp2_with fail
    go_ret
    exact ⟨rfl, H.out, OnlyThree.refl _ _ _ _⟩
theorem save_dead (q : DSt) (j : JSt) (gj g r : Nat) (s : ByteArray) (w : World) (h : JDoc AV w gj g r q j) (hd : j.dead = true) :
    Calls Tryz.prog 14 #[.pointer (some ⟨gj, 0, none⟩), .string s] w (JDid AV ⟨q, j, 74⟩ gj g r w) := by
  obtain ⟨V, -, -, -, -, -, -, c6, -, -⟩ := h.cells
  rw [hd] at c6
  have H := Lib.hid h
  clear h hd
  unfold JDid
  go_enter Tryz.func14, Tryz.ntmps14
  go_wp2_with fail
  go_ret
  exact ⟨rfl, H.out, OnlyThree.refl _ _ _ _⟩
theorem save_long (q : DSt) (j : JSt) (gj g r : Nat) (s : ByteArray) (w : World) (h : JDoc AV w gj g r q j) (hd : j.dead = false) (hs : 60000 < s.size) :
    Calls Tryz.prog 14 #[.pointer (some ⟨gj, 0, none⟩), .string s] w (JDid AV ⟨q, j, 2⟩ gj g r w) := by
  obtain ⟨V, -, -, -, -, -, -, c6, -, -⟩ := h.cells
  rw [hd] at c6
  have H := Lib.hid h
  have t1 : decide ((60000 : Int) < s.size) = true := decide_eq_true (by omega)
  clear h hd
  unfold JDid
  go_enter Tryz.func14, Tryz.ntmps14
  go_wp2_with fail
  go_ret
  exact ⟨rfl, H.out, OnlyThree.refl _ _ _ _⟩
theorem rj_save (q : DSt) (j : JSt) (gj g r k m : Nat) (s : ByteArray) (w : World) (h : JDoc AV w gj g r q j) (hf : q.Fit k m) (h2 : 2 ≤ k) (hm : m ≤ 10000000) (hj : j.Fit q) :
    Calls Tryz.prog 14 #[.pointer (some ⟨gj, 0, none⟩), .string s] w (JDid AV (save q j s) gj g r w) := by
  by_cases hd : j.dead = true
  · rw [show save q j s = ⟨q, j, 74⟩ by unfold save; rw [if_pos hd]]
    exact save_dead q j gj g r s w h hd
  · have hd2 : j.dead = false := by rwa [Bool.not_eq_true] at hd
    by_cases hs : 60000 < s.size
    · rw [show save q j s = ⟨q, j, 2⟩ by unfold save; rw [if_neg hd, if_pos hs]]
      exact save_long q j gj g r s w h hd2 hs
    · by_cases hr : roomD q < sizeN s.size ∨ most < j.next
      · rw [show save q j s = ⟨q, j, 73⟩ by unfold save; rw [if_neg hd, if_neg hs, if_pos hr]]
        exact rsave_full q j gj g r k m s w h hf h2 hj hd2 (by omega) hr
      · obtain ⟨q2, er, hW⟩ : ∃ q2 er, writeR q (startD q (1 - j.area)) j.next s = (q2, er) := ⟨_, _, rfl⟩
        by_cases he : er = 0
        · subst he
          obtain ⟨q3, er, hW2⟩ : ∃ q3 er, writeR q2 (1 - j.area) j.next (headB (1 - j.area)) = (q3, er) := ⟨_, _, rfl⟩
          by_cases he : er = 0
          · subst he
            rw [show save q j s = ⟨q3, ⟨s, [], j.next + 1, 1 - j.area, sizeN s.size, j.dead⟩, 0⟩ by
              unfold save
              rw [if_neg hd, if_neg hs, if_neg hr, hW]
              simp only [hW2]
              rfl]
            exact save_good q q2 q3 j gj g r k m s w h hf h2 hm hj hd2 (by omega) (by omega) (by omega) hW hW2
          · rw [show save q j s = ⟨q3, ⟨j.base, j.recs, j.next, j.area, j.used, true⟩, er⟩ by
              unfold save
              rw [if_neg hd, if_neg hs, if_neg hr, hW]
              simp only [hW2]
              exact if_pos he]
            exact save_err2 q q2 q3 er j gj g r k m s w h hf h2 hm hj hd2 (by omega) (by omega) (by omega) hW hW2 he
        · rw [show save q j s = ⟨q2, ⟨j.base, j.recs, j.next, j.area, j.used, true⟩, er⟩ by
            unfold save
            rw [if_neg hd, if_neg hs, if_neg hr, hW]
            exact if_pos he]
          exact save_err1 q q2 er j gj g r k m s w h hf h2 hm hj hd2 (by omega) (by omega) (by omega) hW he
end Go.Proofs.YtndanhacmfhlaaaGreat.Jour
namespace Go.Proofs.YtndanhacmfhlaaaGreat.Jour
open Go.ChangeShapes Go.WideShapes Go.ChangeAt Go.RowKit Go.Deep Els Go.Proofs.YtndanhacmfhlaaaGreat.Frame Disk
variable {AV : Nat → Prop}

/-- What a call has told that may have made a journal. -/
def FDid (AV : Nat → Prop) (x : Opened) (g r : Nat) (w : World) (e : Ending) (w' : World) : Prop :=
  DocAt w' g r x.q ∧ OnlyTwo g r w w' ∧ match x.j with
    | none => e = .returned (.tuple #[.pointer none, .int .i64 x.e])
    | some j => ∃ gj, e = .returned (.tuple #[.pointer (some ⟨gj, 0, none⟩), .int .i64 x.e]) ∧ JDoc AV w' gj g r x.q j ∧ w.heap.size ≤ gj
theorem fdid_none {q : DSt} {er : Int} {g r : Nat} {w w' : World} (h1 : DocAt w' g r q) (h2 : OnlyTwo g r w w') : FDid AV ⟨q, none, er⟩ g r w (.returned (.tuple #[.pointer none, .int .i64 er])) w' := ⟨h1, h2, rfl⟩
theorem top_lt (q : DSt) : ∀ k, topK q k < 4294967296
  | 0 => (by decide : (0 : Nat) < 4294967296)
  | k + 1 => by
    have := top_lt q k
    have := numV_lt (q.S.getD k none_)
    show max _ _ < _
    omega
structure SameW (w w' : World) : Prop where
  heap : w'.heap = w.heap
  os : w'.os = w.os
  tape : w'.tape = w.tape
  output : w'.output = w.output
theorem SameW.refl (w : World) : SameW w w := ⟨rfl, rfl, rfl, rfl⟩
theorem SameW.drewN {w w' : World} (h : SameW w w') (n : Nat) : SameW w (w'.drewN n) := ⟨h.heap, h.os, h.tape, h.output⟩
theorem SameW.two {w w' : World} (h : SameW w w') (g r : Nat) : OnlyTwo g r w w' := ⟨h.os, h.tape, h.output, by rw [h.heap]; exact Nat.le_refl _, fun i _ _ _ => by rw [h.heap]⟩
theorem SameW.doc {w w' : World} {g r : Nat} {q : DSt} (h : SameW w w') (hd : DocAt w g r q) : DocAt w' g r q := hd.keep (by rw [h.heap]) (by rw [h.heap])
set_option maxRecDepth 20000 in
set_option maxHeartbeats 2000000 in
theorem fmt_unfit (q : DSt) (g r k m : Nat) (s : ByteArray) (w : World) (h : DocAt w g r q) (hf : q.Fit k m) (hfit : fitsD q = false) :
    Calls Tryz.prog 9 #[.pointer (some ⟨g, 0, none⟩), .string s] w (FDid AV ⟨q, none, 1⟩ g r w) := by
  have FT := Lib.hid (rj_fits q g r k m w h hf)
  rw [hfit] at FT
  have H := Lib.hid h
  clear h hf hfit
  go_enter Tryz.func9, Tryz.ntmps9
  go_wp2_with fail
  refine FT.out.mono ?_
  rintro e w1 ⟨rfl, rfl⟩
  go_wp2_with fail
  go_ret2
  exact fdid_none H.out (OnlyTwo.refl _ _ _)
set_option maxRecDepth 20000 in
set_option maxHeartbeats 2000000 in
theorem fmt_long (q : DSt) (g r k m : Nat) (s : ByteArray) (w : World) (h : DocAt w g r q) (hf : q.Fit k m) (hfit : fitsD q = true) (hs : 60000 < s.size) :
    Calls Tryz.prog 9 #[.pointer (some ⟨g, 0, none⟩), .string s] w (FDid AV ⟨q, none, 2⟩ g r w) := by
  have FT := Lib.hid (rj_fits q g r k m w h hf)
  rw [hfit] at FT
  have H := Lib.hid h
  have t1 : decide ((60000 : Int) < s.size) = true := decide_eq_true (by omega)
  clear h hf hfit hs
  go_enter Tryz.func9, Tryz.ntmps9
  go_wp2_with fail
  refine FT.out.mono ?_
  rintro e w1 ⟨rfl, rfl⟩
  go_wp2_with fail
  go_ret2
  exact fdid_none H.out (OnlyTwo.refl _ _ _)
set_option maxRecDepth 20000 in
set_option maxHeartbeats 2000000 in
theorem fmt_full (q : DSt) (g r k m : Nat) (s : ByteArray) (w : World) (h : DocAt w g r q) (hf : q.Fit k m) (hfit : fitsD q = true) (hs : s.size ≤ 60000) (hr : roomD q < sizeN s.size) :
    Calls Tryz.prog 9 #[.pointer (some ⟨g, 0, none⟩), .string s] w (FDid AV ⟨q, none, 73⟩ g r w) := by
  have t1 : decide ((60000 : Int) < s.size) = false := decide_eq_false (by omega)
  have SZ : Hid (∀ W, Calls Tryz.prog 39 #[.int .i64 (s.size : Nat)] W fun e w' => e = .returned (.int .i64 (sizeN s.size : Nat)) ∧ W = w') := fun W => by
    have := r_fsize (s.size : Int) W (by omega)
    rwa [show sizeV (s.size : Int) = (sizeN s.size : Nat) by unfold sizeV; rw [if_pos (by omega)]; rfl] at this
  have hk8 : 8 ≤ k := by
    have := of_decide_eq_true hfit
    have := hf.len
    omega
  have RM := Lib.hid (rj_room q g r k m w h hf (by omega))
  have FT := Lib.hid (rj_fits q g r k m w h hf)
  rw [hfit] at FT
  have H := Lib.hid h
  have t2 : decide (roomD q < sizeN s.size) = true := decide_eq_true hr
  clear h hf hfit hs hr
  generalize roomD q = R at *
  generalize sizeN s.size = z at *
  go_enter Tryz.func9, Tryz.ntmps9
  go_wp2_with fail
  refine FT.out.mono ?_
  rintro e w1 ⟨rfl, rfl⟩
  go_wp2_with fail
  refine (SZ.out w).mono ?_
  rintro e w1 ⟨rfl, rfl⟩
  go_wp2_with fail
  refine RM.out.mono ?_
  rintro e w1 ⟨rfl, rfl⟩
  go_wp2_with fail
  go_ret2
  exact fdid_none H.out (OnlyTwo.refl _ _ _)
set_option maxRecDepth 20000 in
set_option maxHeartbeats 2000000 in
theorem fmt_dead (q : DSt) (g r k m : Nat) (s : ByteArray) (w : World) (h : DocAt w g r q) (hf : q.Fit k m) (hfit : fitsD q = true) (hs : s.size ≤ 60000) (hr : sizeN s.size ≤ roomD q) (hd : q.dead = true) :
    Calls Tryz.prog 9 #[.pointer (some ⟨g, 0, none⟩), .string s] w (FDid AV ⟨q, none, 74⟩ g r w) := by
  have t1 : decide ((60000 : Int) < s.size) = false := decide_eq_false (by omega)
  have SZ : Hid (∀ W, Calls Tryz.prog 39 #[.int .i64 (s.size : Nat)] W fun e w' => e = .returned (.int .i64 (sizeN s.size : Nat)) ∧ W = w') := fun W => by
    have := r_fsize (s.size : Int) W (by omega)
    rwa [show sizeV (s.size : Int) = (sizeN s.size : Nat) by unfold sizeV; rw [if_pos (by omega)]; rfl] at this
  have hk8 : 8 ≤ k := by
    have := of_decide_eq_true hfit
    have := hf.len
    omega
  have RM := Lib.hid (rj_room q g r k m w h hf (by omega))
  have FT := Lib.hid (rj_fits q g r k m w h hf)
  rw [hfit] at FT
  have H := Lib.hid h
  have hlen : q.S.length ≤ 4096 := by rw [hf.len]; exact hf.most
  have hl8 : 8 ≤ q.S.length := by rw [hf.len]; exact hk8
  obtain ⟨c, -, a0, -⟩ := doc_cells h
  have t2 : decide (roomD q < sizeN s.size) = false := decide_eq_false (by omega)
  have RD := Lib.hid (r_read q g r 0 w h (by omega))
  rw [show q.readE 0 = 74 by unfold DSt.readE; rw [if_pos hd]] at RD
  generalize q.readS 0 = x at *
  have t3 : decide (0 < q.S.length) = true := decide_eq_true (by omega)
  clear h hf hfit hs hr hd
  generalize roomD q = R at *
  generalize sizeN s.size = z at *
  go_enter Tryz.func9, Tryz.ntmps9
  go_wp2_with fail
  refine FT.out.mono ?_
  rintro e w1 ⟨rfl, rfl⟩
  go_wp2_with fail
  refine (SZ.out w).mono ?_
  rintro e w1 ⟨rfl, rfl⟩
  go_wp2_with fail
  refine RM.out.mono ?_
  rintro e w1 ⟨rfl, rfl⟩
  go_wp2_with fail
  go_loopw [7, 8] (fun u t wr => u = .int .u32 0 ∧ t = .int .i64 0 ∧ wr = w) (fun _ _ _ => 0)
  case atStart => exact ⟨rfl, rfl, rfl⟩
  case round =>
    obtain ⟨rfl, rfl, rfl⟩ := hrel
    go_wp2_with fail
    refine RD.out.mono ?_
    rintro e w1 ⟨rfl, rfl⟩
    go_wp2_with fail
    go_ret2
    exact fdid_none H.out (OnlyTwo.refl _ _ _)
set_option maxRecDepth 20000 in
set_option maxHeartbeats 2000000 in
theorem fmt_high (q : DSt) (g r k m : Nat) (s : ByteArray) (w : World) (h : DocAt w g r q) (hf : q.Fit k m) (hfit : fitsD q = true) (hs : s.size ≤ 60000) (hr : sizeN s.size ≤ roomD q) (hd : q.dead = false) (hn : 2147483648 < topN q) :
    Calls Tryz.prog 9 #[.pointer (some ⟨g, 0, none⟩), .string s] w (FDid AV ⟨q, none, 73⟩ g r w) := by
  have t1 : decide ((60000 : Int) < s.size) = false := decide_eq_false (by omega)
  have SZ : Hid (∀ W, Calls Tryz.prog 39 #[.int .i64 (s.size : Nat)] W fun e w' => e = .returned (.int .i64 (sizeN s.size : Nat)) ∧ W = w') := fun W => by
    have := r_fsize (s.size : Int) W (by omega)
    rwa [show sizeV (s.size : Int) = (sizeN s.size : Nat) by unfold sizeV; rw [if_pos (by omega)]; rfl] at this
  have hk8 : 8 ≤ k := by
    have := of_decide_eq_true hfit
    have := hf.len
    omega
  have RM := Lib.hid (rj_room q g r k m w h hf (by omega))
  have FT := Lib.hid (rj_fits q g r k m w h hf)
  rw [hfit] at FT
  have H := Lib.hid h
  have hlen : q.S.length ≤ 4096 := by rw [hf.len]; exact hf.most
  have hl8 : 8 ≤ q.S.length := by rw [hf.len]; exact hk8
  obtain ⟨c, -, a0, -⟩ := doc_cells h
  have t2 : decide (roomD q < sizeN s.size) = false := decide_eq_false (by omega)
  have hdd := Lib.hid hd
  have hN : Hid (topK q q.S.length = topN q) := show _ = _ from rfl
  have t4 : decide ((2147483648 : Int) < (topN q : Nat)) = true := decide_eq_true (by omega)
  clear h hf hfit hs hr hd hn
  generalize roomD q = R at *
  generalize sizeN s.size = z at *
  go_enter Tryz.func9, Tryz.ntmps9
  go_wp2_with fail
  refine FT.out.mono ?_
  rintro e w1 ⟨rfl, rfl⟩
  go_wp2_with fail
  refine (SZ.out w).mono ?_
  rintro e w1 ⟨rfl, rfl⟩
  go_wp2_with fail
  refine RM.out.mono ?_
  rintro e w1 ⟨rfl, rfl⟩
  go_wp2_with fail
  go_loopw [7, 8] (fun u t wr => ∃ i : Nat, i ≤ q.S.length ∧ u = .int .u32 (topK q i : Nat) ∧ t = .int .i64 i ∧ Hid (SameW w wr)) (fun _ t _ => q.S.length - (intOf t).toNat)
  case atStart => exact ⟨0, Nat.zero_le _, rfl, rfl, SameW.refl _⟩
  case round =>
    obtain ⟨i, hi, rfl, rfl, HW⟩ := hrel
    have a0w : wr.cell? ⟨g, 0, none⟩ = some (.slice (some ⟨r, 0, none⟩) q.S.length c) := (World.cell?_of_block (by rw [HW.out.heap])).trans a0
    by_cases hlt : i < q.S.length
    · have t3 : decide (i < q.S.length) = true := decide_eq_true hlt
      have RD := Lib.hid (r_read q g r i wr (HW.out.doc H.out) (by omega))
      have hh : q.has i = true := has_iff.2 (by omega)
      rw [show q.readS i = q.S.getD i none_ by unfold DSt.readS; rw [if_pos ⟨hdd.out, hh⟩]; rfl, show q.readE i = 0 by unfold DSt.readE; rw [if_neg (by rw [hdd.out]; decide), if_pos hh]] at RD
      have NM : Hid (∀ W, Calls Tryz.prog 42 #[.string (q.S.getD i none_)] W fun e w' => e = .returned (.int .u32 (numV (q.S.getD i none_) : Nat)) ∧ ∃ n, w' = W.drewN n) := fun W => r_fnum _ W
      have HT : Hid (topK q (i + 1) = max (topK q i) (numV (q.S.getD i none_))) := show _ = _ from rfl
      have j0 : (0 : Int) ≤ i := by omega
      clear hh
      generalize numV (q.S.getD i none_) = y at *
      generalize q.S.getD i none_ = x at *
      go_wp2_with fail
      refine RD.out.mono ?_
      rintro e w1 ⟨rfl, rfl⟩
      go_wp2_with fail
      refine (NM.out wr).mono ?_
      rintro e w1 ⟨rfl, n, rfl⟩
      go_wp2_with fail
      go_roundw
      case rel => exact ⟨i + 1, by omega, by
        rw [HT.out]
        first
          | rfl
          | (by_cases hm : topK q i < y
             · rw [if_pos hm, Nat.max_eq_right (by omega)]
             · rw [if_neg hm, Nat.max_eq_left (by omega)]), by go_num, HW.out.drewN n⟩
      case measure => simp [intOf]; omega
    · obtain rfl : i = q.S.length := by omega
      have t3 : decide (q.S.length < q.S.length) = false := decide_eq_false (by omega)
      rw [hN.out]
      generalize topN q = T at *
      go_wp2_with fail
      go_ret2
      exact fdid_none (HW.out.doc H.out) (HW.out.two g r)
set_option maxRecDepth 20000 in
set_option maxHeartbeats 2000000 in
theorem fmt_err1 (q : DSt) (g r k m : Nat) (s : ByteArray) (w : World) (h : DocAt w g r q) (hf : q.Fit k m) (hm : m ≤ 10000000) (hfit : fitsD q = true) (hs : s.size ≤ 60000) (hr : sizeN s.size ≤ roomD q) (hd : q.dead = false) (hn : topN q ≤ 2147483648) (q2 : DSt) (er1 : Int) (hW : writeR q 2 (topN q + 1) s = (q2, er1)) (he : er1 ≠ 0) :
    Calls Tryz.prog 9 #[.pointer (some ⟨g, 0, none⟩), .string s] w (FDid AV ⟨q2, none, er1⟩ g r w) := by
  have t1 : decide ((60000 : Int) < s.size) = false := decide_eq_false (by omega)
  have SZ : Hid (∀ W, Calls Tryz.prog 39 #[.int .i64 (s.size : Nat)] W fun e w' => e = .returned (.int .i64 (sizeN s.size : Nat)) ∧ W = w') := fun W => by
    have := r_fsize (s.size : Int) W (by omega)
    rwa [show sizeV (s.size : Int) = (sizeN s.size : Nat) by unfold sizeV; rw [if_pos (by omega)]; rfl] at this
  have hk8 : 8 ≤ k := by
    have := of_decide_eq_true hfit
    have := hf.len
    omega
  have RM := Lib.hid (rj_room q g r k m w h hf (by omega))
  have FT := Lib.hid (rj_fits q g r k m w h hf)
  rw [hfit] at FT
  have H := Lib.hid h
  have hlen : q.S.length ≤ 4096 := by rw [hf.len]; exact hf.most
  have hl8 : 8 ≤ q.S.length := by rw [hf.len]; exact hk8
  obtain ⟨c, -, a0, -⟩ := doc_cells h
  have t2 : decide (roomD q < sizeN s.size) = false := decide_eq_false (by omega)
  have hdd := Lib.hid hd
  have hN : Hid (topK q q.S.length = topN q) := show _ = _ from rfl
  have t4 : decide ((2147483648 : Int) < (topN q : Nat)) = false := decide_eq_false (by omega)
  have i1 : IntKind.u32.wrap ((topN q : Int) + 1) = ((topN q + 1 : Nat) : Int) := by rw [IntWalk.u32_in _ (by omega)]; omega
  have ST : Hid (∀ W, SameW w W → Calls Tryz.prog 44 #[.pointer (some ⟨g, 0, none⟩), .int .i64 0] W fun e w' => e = .returned (.int .i64 2) ∧ W = w') := fun W hh => by
    have h := rj_start q g r k m 0 W (hh.doc h) hf (by omega) (by omega)
    rwa [show startD q 0 = 2 by unfold startD; omega] at h
  have WR : Hid (∀ W, SameW w W → Calls Tryz.prog 43 #[.pointer (some ⟨g, 0, none⟩), .int .i64 2, .int .u32 (topN q + 1 : Nat), .string s] W fun e w' => e = .returned (.int .i64 er1) ∧ DocAt w' g r q2 ∧ OnlyTwo g r W w') := fun W hh => by
    have h := rj_write q g r k m 2 (topN q + 1) s W (hh.doc h) hf (by omega) (by omega) (by omega)
    rwa [hW] at h
  have F2 : q2.Fit k (m + 300) := by
    have := write_fit q 2 (topN q + 1) s hf
    rwa [hW] at this
  have t5 : (er1 != 0) = true := by rw [bne_iff_ne]; exact he
  clear he
  clear h hf hfit hs hr hd hn hW F2
  generalize roomD q = R at *
  generalize sizeN s.size = z at *
  generalize topN q = T at *
  obtain ⟨T1, hT1⟩ : ∃ T1, T + 1 = T1 := ⟨_, rfl⟩
  rw [hT1] at i1 WR
  go_enter Tryz.func9, Tryz.ntmps9
  go_wp2_with fail
  refine FT.out.mono ?_
  rintro e w1 ⟨rfl, rfl⟩
  go_wp2_with fail
  refine (SZ.out w).mono ?_
  rintro e w1 ⟨rfl, rfl⟩
  go_wp2_with fail
  refine RM.out.mono ?_
  rintro e w1 ⟨rfl, rfl⟩
  go_wp2_with fail
  go_loopw [7, 8] (fun u t wr => ∃ i : Nat, i ≤ q.S.length ∧ u = .int .u32 (topK q i : Nat) ∧ t = .int .i64 i ∧ Hid (SameW w wr)) (fun _ t _ => q.S.length - (intOf t).toNat)
  case atStart => exact ⟨0, Nat.zero_le _, rfl, rfl, SameW.refl _⟩
  case round =>
    obtain ⟨i, hi, rfl, rfl, HW⟩ := hrel
    have a0w : wr.cell? ⟨g, 0, none⟩ = some (.slice (some ⟨r, 0, none⟩) q.S.length c) := (World.cell?_of_block (by rw [HW.out.heap])).trans a0
    by_cases hlt : i < q.S.length
    · have t3 : decide (i < q.S.length) = true := decide_eq_true hlt
      have RD := Lib.hid (r_read q g r i wr (HW.out.doc H.out) (by omega))
      have hh : q.has i = true := has_iff.2 (by omega)
      rw [show q.readS i = q.S.getD i none_ by unfold DSt.readS; rw [if_pos ⟨hdd.out, hh⟩]; rfl, show q.readE i = 0 by unfold DSt.readE; rw [if_neg (by rw [hdd.out]; decide), if_pos hh]] at RD
      have NM : Hid (∀ W, Calls Tryz.prog 42 #[.string (q.S.getD i none_)] W fun e w' => e = .returned (.int .u32 (numV (q.S.getD i none_) : Nat)) ∧ ∃ n, w' = W.drewN n) := fun W => r_fnum _ W
      have HT : Hid (topK q (i + 1) = max (topK q i) (numV (q.S.getD i none_))) := show _ = _ from rfl
      have j0 : (0 : Int) ≤ i := by omega
      clear hh
      generalize numV (q.S.getD i none_) = y at *
      generalize q.S.getD i none_ = x at *
      go_wp2_with fail
      refine RD.out.mono ?_
      rintro e w1 ⟨rfl, rfl⟩
      go_wp2_with fail
      refine (NM.out wr).mono ?_
      rintro e w1 ⟨rfl, n, rfl⟩
      go_wp2_with fail
      go_roundw
      case rel => exact ⟨i + 1, by omega, by
        rw [HT.out]
        first
          | rfl
          | (by_cases hm : topK q i < y
             · rw [if_pos hm, Nat.max_eq_right (by omega)]
             · rw [if_neg hm, Nat.max_eq_left (by omega)]), by go_num, HW.out.drewN n⟩
      case measure => simp [intOf]; omega
    · obtain rfl : i = q.S.length := by omega
      have t3 : decide (q.S.length < q.S.length) = false := decide_eq_false (by omega)
      rw [hN.out]
      have HWW := Lib.hid HW.out
      clear HW
      go_wp2_with (first
        | (go_at_call 44
           with_reducible refine (ST.out _ HWW.out).mono ?_
           rintro e w2 ⟨rfl, rfl⟩)
        | (go_at_call 43
           with_reducible refine (WR.out _ HWW.out).mono ?_
           rintro e w2 ⟨rfl, n1, n2⟩
           have D2 := Lib.hid n1
           have O2 := Lib.hid (two_trans (HWW.out.two g r) n2)
           clear n1 n2))
      go_ret2
      exact fdid_none D2.out O2.out
set_option maxRecDepth 20000 in
set_option maxHeartbeats 2000000 in
theorem fmt_err2 (q : DSt) (g r k m : Nat) (s : ByteArray) (w : World) (h : DocAt w g r q) (hf : q.Fit k m) (hm : m ≤ 10000000) (hfit : fitsD q = true) (hs : s.size ≤ 60000) (hr : sizeN s.size ≤ roomD q) (hd : q.dead = false) (hn : topN q ≤ 2147483648) (q2 : DSt) (hW : writeR q 2 (topN q + 1) s = (q2, 0)) (q3 : DSt) (er2 : Int) (hW2 : writeR q2 0 (topN q + 1) (headB 0) = (q3, er2)) (he : er2 ≠ 0) :
    Calls Tryz.prog 9 #[.pointer (some ⟨g, 0, none⟩), .string s] w (FDid AV ⟨q3, none, er2⟩ g r w) := by
  have t1 : decide ((60000 : Int) < s.size) = false := decide_eq_false (by omega)
  have SZ : Hid (∀ W, Calls Tryz.prog 39 #[.int .i64 (s.size : Nat)] W fun e w' => e = .returned (.int .i64 (sizeN s.size : Nat)) ∧ W = w') := fun W => by
    have := r_fsize (s.size : Int) W (by omega)
    rwa [show sizeV (s.size : Int) = (sizeN s.size : Nat) by unfold sizeV; rw [if_pos (by omega)]; rfl] at this
  have hk8 : 8 ≤ k := by
    have := of_decide_eq_true hfit
    have := hf.len
    omega
  have RM := Lib.hid (rj_room q g r k m w h hf (by omega))
  have FT := Lib.hid (rj_fits q g r k m w h hf)
  rw [hfit] at FT
  have H := Lib.hid h
  have hlen : q.S.length ≤ 4096 := by rw [hf.len]; exact hf.most
  have hl8 : 8 ≤ q.S.length := by rw [hf.len]; exact hk8
  obtain ⟨c, -, a0, -⟩ := doc_cells h
  have t2 : decide (roomD q < sizeN s.size) = false := decide_eq_false (by omega)
  have hdd := Lib.hid hd
  have hN : Hid (topK q q.S.length = topN q) := show _ = _ from rfl
  have t4 : decide ((2147483648 : Int) < (topN q : Nat)) = false := decide_eq_false (by omega)
  have i1 : IntKind.u32.wrap ((topN q : Int) + 1) = ((topN q + 1 : Nat) : Int) := by rw [IntWalk.u32_in _ (by omega)]; omega
  have ST : Hid (∀ W, SameW w W → Calls Tryz.prog 44 #[.pointer (some ⟨g, 0, none⟩), .int .i64 0] W fun e w' => e = .returned (.int .i64 2) ∧ W = w') := fun W hh => by
    have h := rj_start q g r k m 0 W (hh.doc h) hf (by omega) (by omega)
    rwa [show startD q 0 = 2 by unfold startD; omega] at h
  have WR : Hid (∀ W, SameW w W → Calls Tryz.prog 43 #[.pointer (some ⟨g, 0, none⟩), .int .i64 2, .int .u32 (topN q + 1 : Nat), .string s] W fun e w' => e = .returned (.int .i64 0) ∧ DocAt w' g r q2 ∧ OnlyTwo g r W w') := fun W hh => by
    have h := rj_write q g r k m 2 (topN q + 1) s W (hh.doc h) hf (by omega) (by omega) (by omega)
    rwa [hW] at h
  have F2 : q2.Fit k (m + 300) := by
    have := write_fit q 2 (topN q + 1) s hf
    rwa [hW] at this
  have HD : Hid (∀ W, Calls Tryz.prog 45 #[.int .i64 0] W fun e w' => e = .returned (.string (headB 0)) ∧ Below W.heap.size W w') := fun W => rj_head 0 W (by decide)
  have WR2 : Hid (∀ W, DocAt W g r q2 → Calls Tryz.prog 43 #[.pointer (some ⟨g, 0, none⟩), .int .i64 0, .int .u32 (topN q + 1 : Nat), .string (headB 0)] W fun e w' => e = .returned (.int .i64 er2) ∧ DocAt w' g r q3 ∧ OnlyTwo g r W w') := fun W hh => by
    have h := rj_write q2 g r k (m + 300) 0 (topN q + 1) (headB 0) W hh F2 (by omega) (by omega) (by omega)
    rwa [hW2] at h
  have t5 : (er2 != 0) = true := by rw [bne_iff_ne]; exact he
  clear he
  clear h hf hfit hs hr hd hn hW hW2 F2
  generalize roomD q = R at *
  generalize sizeN s.size = z at *
  generalize topN q = T at *
  obtain ⟨T1, hT1⟩ : ∃ T1, T + 1 = T1 := ⟨_, rfl⟩
  rw [hT1] at i1 WR WR2
  generalize headB 0 = hb at *
  go_enter Tryz.func9, Tryz.ntmps9
  go_wp2_with fail
  refine FT.out.mono ?_
  rintro e w1 ⟨rfl, rfl⟩
  go_wp2_with fail
  refine (SZ.out w).mono ?_
  rintro e w1 ⟨rfl, rfl⟩
  go_wp2_with fail
  refine RM.out.mono ?_
  rintro e w1 ⟨rfl, rfl⟩
  go_wp2_with fail
  go_loopw [7, 8] (fun u t wr => ∃ i : Nat, i ≤ q.S.length ∧ u = .int .u32 (topK q i : Nat) ∧ t = .int .i64 i ∧ Hid (SameW w wr)) (fun _ t _ => q.S.length - (intOf t).toNat)
  case atStart => exact ⟨0, Nat.zero_le _, rfl, rfl, SameW.refl _⟩
  case round =>
    obtain ⟨i, hi, rfl, rfl, HW⟩ := hrel
    have a0w : wr.cell? ⟨g, 0, none⟩ = some (.slice (some ⟨r, 0, none⟩) q.S.length c) := (World.cell?_of_block (by rw [HW.out.heap])).trans a0
    by_cases hlt : i < q.S.length
    · have t3 : decide (i < q.S.length) = true := decide_eq_true hlt
      have RD := Lib.hid (r_read q g r i wr (HW.out.doc H.out) (by omega))
      have hh : q.has i = true := has_iff.2 (by omega)
      rw [show q.readS i = q.S.getD i none_ by unfold DSt.readS; rw [if_pos ⟨hdd.out, hh⟩]; rfl, show q.readE i = 0 by unfold DSt.readE; rw [if_neg (by rw [hdd.out]; decide), if_pos hh]] at RD
      have NM : Hid (∀ W, Calls Tryz.prog 42 #[.string (q.S.getD i none_)] W fun e w' => e = .returned (.int .u32 (numV (q.S.getD i none_) : Nat)) ∧ ∃ n, w' = W.drewN n) := fun W => r_fnum _ W
      have HT : Hid (topK q (i + 1) = max (topK q i) (numV (q.S.getD i none_))) := show _ = _ from rfl
      have j0 : (0 : Int) ≤ i := by omega
      clear hh
      generalize numV (q.S.getD i none_) = y at *
      generalize q.S.getD i none_ = x at *
      go_wp2_with fail
      refine RD.out.mono ?_
      rintro e w1 ⟨rfl, rfl⟩
      go_wp2_with fail
      refine (NM.out wr).mono ?_
      rintro e w1 ⟨rfl, n, rfl⟩
      go_wp2_with fail
      go_roundw
      case rel => exact ⟨i + 1, by omega, by
        rw [HT.out]
        first
          | rfl
          | (by_cases hm : topK q i < y
             · rw [if_pos hm, Nat.max_eq_right (by omega)]
             · rw [if_neg hm, Nat.max_eq_left (by omega)]), by go_num, HW.out.drewN n⟩
      case measure => simp [intOf]; omega
    · obtain rfl : i = q.S.length := by omega
      have t3 : decide (q.S.length < q.S.length) = false := decide_eq_false (by omega)
      rw [hN.out]
      have HWW := Lib.hid HW.out
      clear HW
      go_wp2_with (first
        | (go_at_call 44
           with_reducible refine (ST.out _ HWW.out).mono ?_
           rintro e w2 ⟨rfl, rfl⟩)
        | (go_at_call 43
           with_reducible refine (WR.out _ HWW.out).mono ?_
           rintro e w2 ⟨rfl, n1, n2⟩
           have D2 := Lib.hid n1
           have O2 := Lib.hid (two_trans (HWW.out.two g r) n2)
           clear n1 n2)
        | (go_at_call 45
           with_reducible refine (HD.out _).mono ?_
           rintro e w3 ⟨rfl, hbb⟩
           have D3 := Lib.hid (D2.out.keep (hbb.block g D2.out.lt.1) (hbb.block r D2.out.lt.2))
           have O3 : Hid (OnlyTwo g r w w3) := two_trans O2.out ⟨hbb.os, hbb.tape, hbb.output, hbb.size, fun i hi _ _ => hbb.block i hi⟩
           clear hbb)
        | (go_at_call 43
           with_reducible refine (WR2.out _ D3.out).mono ?_
           rintro e w4 ⟨rfl, n1, n2⟩
           have D4 := Lib.hid n1
           have O4 := Lib.hid (two_trans O3.out n2)
           clear n1 n2))
      go_ret2
      exact fdid_none D4.out O4.out
set_option maxRecDepth 20000 in
set_option maxHeartbeats 2000000 in
theorem fmt_good (q : DSt) (g r k m : Nat) (s : ByteArray) (w : World) (h : DocAt w g r q) (hf : q.Fit k m) (hm : m ≤ 10000000) (hfit : fitsD q = true) (hs : s.size ≤ 60000) (hr : sizeN s.size ≤ roomD q) (hd : q.dead = false) (hn : topN q ≤ 2147483648) (q2 : DSt) (hW : writeR q 2 (topN q + 1) s = (q2, 0)) (q3 : DSt) (hW2 : writeR q2 0 (topN q + 1) (headB 0) = (q3, 0)) :
    Calls Tryz.prog 9 #[.pointer (some ⟨g, 0, none⟩), .string s] w (FDid AV ⟨q3, some ⟨s, [], topN q + 2, 0, sizeN s.size, false⟩, 0⟩ g r w) := by
  have t1 : decide ((60000 : Int) < s.size) = false := decide_eq_false (by omega)
  have SZ : Hid (∀ W, Calls Tryz.prog 39 #[.int .i64 (s.size : Nat)] W fun e w' => e = .returned (.int .i64 (sizeN s.size : Nat)) ∧ W = w') := fun W => by
    have := r_fsize (s.size : Int) W (by omega)
    rwa [show sizeV (s.size : Int) = (sizeN s.size : Nat) by unfold sizeV; rw [if_pos (by omega)]; rfl] at this
  have hk8 : 8 ≤ k := by
    have := of_decide_eq_true hfit
    have := hf.len
    omega
  have RM := Lib.hid (rj_room q g r k m w h hf (by omega))
  have FT := Lib.hid (rj_fits q g r k m w h hf)
  rw [hfit] at FT
  have H := Lib.hid h
  have hlen : q.S.length ≤ 4096 := by rw [hf.len]; exact hf.most
  have hl8 : 8 ≤ q.S.length := by rw [hf.len]; exact hk8
  obtain ⟨c, -, a0, -⟩ := doc_cells h
  have t2 : decide (roomD q < sizeN s.size) = false := decide_eq_false (by omega)
  have hdd := Lib.hid hd
  have hN : Hid (topK q q.S.length = topN q) := show _ = _ from rfl
  have t4 : decide ((2147483648 : Int) < (topN q : Nat)) = false := decide_eq_false (by omega)
  have i1 : IntKind.u32.wrap ((topN q : Int) + 1) = ((topN q + 1 : Nat) : Int) := by rw [IntWalk.u32_in _ (by omega)]; omega
  have ST : Hid (∀ W, SameW w W → Calls Tryz.prog 44 #[.pointer (some ⟨g, 0, none⟩), .int .i64 0] W fun e w' => e = .returned (.int .i64 2) ∧ W = w') := fun W hh => by
    have h := rj_start q g r k m 0 W (hh.doc h) hf (by omega) (by omega)
    rwa [show startD q 0 = 2 by unfold startD; omega] at h
  have WR : Hid (∀ W, SameW w W → Calls Tryz.prog 43 #[.pointer (some ⟨g, 0, none⟩), .int .i64 2, .int .u32 (topN q + 1 : Nat), .string s] W fun e w' => e = .returned (.int .i64 0) ∧ DocAt w' g r q2 ∧ OnlyTwo g r W w') := fun W hh => by
    have h := rj_write q g r k m 2 (topN q + 1) s W (hh.doc h) hf (by omega) (by omega) (by omega)
    rwa [hW] at h
  have F2 : q2.Fit k (m + 300) := by
    have := write_fit q 2 (topN q + 1) s hf
    rwa [hW] at this
  have HD : Hid (∀ W, Calls Tryz.prog 45 #[.int .i64 0] W fun e w' => e = .returned (.string (headB 0)) ∧ Below W.heap.size W w') := fun W => rj_head 0 W (by decide)
  have WR2 : Hid (∀ W, DocAt W g r q2 → Calls Tryz.prog 43 #[.pointer (some ⟨g, 0, none⟩), .int .i64 0, .int .u32 (topN q + 1 : Nat), .string (headB 0)] W fun e w' => e = .returned (.int .i64 0) ∧ DocAt w' g r q3 ∧ OnlyTwo g r W w') := fun W hh => by
    have h := rj_write q2 g r k (m + 300) 0 (topN q + 1) (headB 0) W hh F2 (by omega) (by omega) (by omega)
    rwa [hW2] at h
  clear h hf hfit hs hr hd hW hW2 F2
  generalize roomD q = R at *
  generalize sizeN s.size = z at *
  generalize topN q = T at *
  have hT2 : T ≤ 2147483648 := hn
  obtain ⟨T1, hT1⟩ : ∃ T1, T + 1 = T1 := ⟨_, rfl⟩
  rw [hT1] at i1 WR WR2
  generalize headB 0 = hb at *
  have i2 : IntKind.u32.wrap ((T1 : Int) + 1) = ((T1 + 1 : Nat) : Int) := by rw [IntWalk.u32_in _ (by omega)]; omega
  have HT1 := Lib.hid hT1
  clear hT1 hT2 hn
  go_enter Tryz.func9, Tryz.ntmps9
  go_wp2_with fail
  refine FT.out.mono ?_
  rintro e w1 ⟨rfl, rfl⟩
  go_wp2_with fail
  refine (SZ.out w).mono ?_
  rintro e w1 ⟨rfl, rfl⟩
  go_wp2_with fail
  refine RM.out.mono ?_
  rintro e w1 ⟨rfl, rfl⟩
  go_wp2_with fail
  go_loopw [7, 8] (fun u t wr => ∃ i : Nat, i ≤ q.S.length ∧ u = .int .u32 (topK q i : Nat) ∧ t = .int .i64 i ∧ Hid (SameW w wr)) (fun _ t _ => q.S.length - (intOf t).toNat)
  case atStart => exact ⟨0, Nat.zero_le _, rfl, rfl, SameW.refl _⟩
  case round =>
    obtain ⟨i, hi, rfl, rfl, HW⟩ := hrel
    have a0w : wr.cell? ⟨g, 0, none⟩ = some (.slice (some ⟨r, 0, none⟩) q.S.length c) := (World.cell?_of_block (by rw [HW.out.heap])).trans a0
    by_cases hlt : i < q.S.length
    · have t3 : decide (i < q.S.length) = true := decide_eq_true hlt
      have RD := Lib.hid (r_read q g r i wr (HW.out.doc H.out) (by omega))
      have hh : q.has i = true := has_iff.2 (by omega)
      rw [show q.readS i = q.S.getD i none_ by unfold DSt.readS; rw [if_pos ⟨hdd.out, hh⟩]; rfl, show q.readE i = 0 by unfold DSt.readE; rw [if_neg (by rw [hdd.out]; decide), if_pos hh]] at RD
      have NM : Hid (∀ W, Calls Tryz.prog 42 #[.string (q.S.getD i none_)] W fun e w' => e = .returned (.int .u32 (numV (q.S.getD i none_) : Nat)) ∧ ∃ n, w' = W.drewN n) := fun W => r_fnum _ W
      have HT : Hid (topK q (i + 1) = max (topK q i) (numV (q.S.getD i none_))) := show _ = _ from rfl
      have j0 : (0 : Int) ≤ i := by omega
      clear hh
      generalize numV (q.S.getD i none_) = y at *
      generalize q.S.getD i none_ = x at *
      go_wp2_with fail
      refine RD.out.mono ?_
      rintro e w1 ⟨rfl, rfl⟩
      go_wp2_with fail
      refine (NM.out wr).mono ?_
      rintro e w1 ⟨rfl, n, rfl⟩
      go_wp2_with fail
      go_roundw
      case rel => exact ⟨i + 1, by omega, by
        rw [HT.out]
        first
          | rfl
          | (by_cases hm : topK q i < y
             · rw [if_pos hm, Nat.max_eq_right (by omega)]
             · rw [if_neg hm, Nat.max_eq_left (by omega)]), by go_num, HW.out.drewN n⟩
      case measure => simp [intOf]; omega
    · obtain rfl : i = q.S.length := by omega
      have t3 : decide (q.S.length < q.S.length) = false := decide_eq_false (by omega)
      rw [hN.out]
      have HWW := Lib.hid HW.out
      clear HW
      go_wp2_with (first
        | (go_at_call 44
           with_reducible refine (ST.out _ HWW.out).mono ?_
           rintro e w2 ⟨rfl, rfl⟩)
        | (go_at_call 43
           with_reducible refine (WR.out _ HWW.out).mono ?_
           rintro e w2 ⟨rfl, n1, n2⟩
           have D2 := Lib.hid n1
           have O2 := Lib.hid (two_trans (HWW.out.two g r) n2)
           clear n1 n2)
        | (go_at_call 45
           with_reducible refine (HD.out _).mono ?_
           rintro e w3 ⟨rfl, hbb⟩
           have D3 := Lib.hid (D2.out.keep (hbb.block g D2.out.lt.1) (hbb.block r D2.out.lt.2))
           have O3 : Hid (OnlyTwo g r w w3) := two_trans O2.out ⟨hbb.os, hbb.tape, hbb.output, hbb.size, fun i hi _ _ => hbb.block i hi⟩
           clear hbb)
        | (go_at_call 43
           with_reducible refine (WR2.out _ D3.out).mono ?_
           rintro e w4 ⟨rfl, n1, n2⟩
           have D4 := Lib.hid n1
           have O4 := Lib.hid (two_trans O3.out n2)
           clear n1 n2))
      have hlt4 := D4.out.lt
      have R0 := World.rowIs_alloc w4 #[.pointer (some ⟨g, 0, none⟩), .string s, .slice none 0 0, .int .u32 ((T1 : Int) + 1), .int .i64 0, .int .i64 (z : Nat), .bool false] 85 (jcell g (.slice none 0 0) ⟨s, [], T + 2, 0, z, false⟩) (fun k hk => by
        rw [← HT1.out]
        match k, hk with
        | 0, _ | 1, _ | 2, _ | 3, _ | 4, _ | 5, _ | 6, _ => rfl)
      have B4 := (Below.refl w4.heap.size w4).alloc (Nat.le_refl _) (.cells #[.pointer (some ⟨g, 0, none⟩), .string s, .slice none 0 0, .int .u32 ((T1 : Int) + 1), .int .i64 0, .int .i64 (z : Nat), .bool false] 85)
      have D5 := D4.out.keep (B4.block g hlt4.1) (B4.block r hlt4.2)
      go_ret2
      exact ⟨D5, two_trans O4.out ⟨B4.os, B4.tape, B4.output, B4.size, fun i hi _ _ => B4.block i hi⟩, w4.heap.size, rfl, ⟨D5, ⟨_, R0, off_nil _ _ _ _⟩, by omega, by omega⟩, O4.out.size⟩
theorem fmt_nil (s : ByteArray) (w : World) : Calls Tryz.prog 9 #[.pointer none, .string s] w fun e w' => e = .returned (.tuple #[.pointer none, .int .i64 1]) ∧ w = w' := by
  have FT := Lib.hid (rj_fits_nil w)
  go_enter Tryz.func9, Tryz.ntmps9
  go_wp2_with fail
  refine FT.out.mono ?_
  rintro e w1 ⟨rfl, rfl⟩
  go_wp2_with fail
  go_ret2
  exact ⟨rfl, rfl⟩
theorem rj_format (q : DSt) (g r k m : Nat) (s : ByteArray) (w : World) (h : DocAt w g r q) (hf : q.Fit k m) (hm : m ≤ 10000000) :
    Calls Tryz.prog 9 #[.pointer (some ⟨g, 0, none⟩), .string s] w (FDid AV (format q s) g r w) := by
  cases hfit : fitsD q with
  | false =>
    rw [show format q s = ⟨q, none, 1⟩ by unfold format; rw [if_pos hfit]]
    exact fmt_unfit q g r k m s w h hf hfit
  | true =>
    have c0 : ¬ fitsD q = false := by rw [hfit]; decide
    by_cases hs : 60000 < s.size
    · rw [show format q s = ⟨q, none, 2⟩ by unfold format; rw [if_neg c0, if_pos hs]]
      exact fmt_long q g r k m s w h hf hfit hs
    · by_cases hr : roomD q < sizeN s.size
      · rw [show format q s = ⟨q, none, 73⟩ by unfold format; rw [if_neg c0, if_neg hs, if_pos hr]]
        exact fmt_full q g r k m s w h hf hfit (by omega) hr
      · by_cases hd : q.dead = true
        · rw [show format q s = ⟨q, none, 74⟩ by unfold format; rw [if_neg c0, if_neg hs, if_neg hr, if_pos hd]]
          exact fmt_dead q g r k m s w h hf hfit (by omega) (by omega) hd
        · have hd2 : q.dead = false := by rwa [Bool.not_eq_true] at hd
          by_cases hn : 2147483648 < topN q
          · rw [show format q s = ⟨q, none, 73⟩ by unfold format; rw [if_neg c0, if_neg hs, if_neg hr, if_neg hd, if_pos hn]]
            exact fmt_high q g r k m s w h hf hfit (by omega) (by omega) hd2 hn
          · obtain ⟨q2, er, hW⟩ : ∃ q2 er, writeR q 2 (topN q + 1) s = (q2, er) := ⟨_, _, rfl⟩
            by_cases he : er = 0
            · subst he
              obtain ⟨q3, er, hW2⟩ : ∃ q3 er, writeR q2 0 (topN q + 1) (headB 0) = (q3, er) := ⟨_, _, rfl⟩
              by_cases he : er = 0
              · subst he
                rw [show format q s = ⟨q3, some ⟨s, [], topN q + 2, 0, sizeN s.size, false⟩, 0⟩ by
                  unfold format
                  rw [if_neg c0, if_neg hs, if_neg hr, if_neg hd, if_neg hn, hW]
                  simp only [hW2]
                  rfl]
                exact fmt_good q g r k m s w h hf hm hfit (by omega) (by omega) hd2 (by omega) q2 hW q3 hW2
              · rw [show format q s = ⟨q3, none, er⟩ by
                  unfold format
                  rw [if_neg c0, if_neg hs, if_neg hr, if_neg hd, if_neg hn, hW]
                  simp only [hW2]
                  exact if_pos he]
                exact fmt_err2 q g r k m s w h hf hm hfit (by omega) (by omega) hd2 (by omega) q2 hW q3 er hW2 he
            · rw [show format q s = ⟨q2, none, er⟩ by
                unfold format
                rw [if_neg c0, if_neg hs, if_neg hr, if_neg hd, if_neg hn, hW]
                exact if_pos he]
              exact fmt_err1 q g r k m s w h hf hm hfit (by omega) (by omega) hd2 (by omega) q2 er hW he
end Go.Proofs.YtndanhacmfhlaaaGreat.Jour
namespace Go.Proofs.YtndanhacmfhlaaaGreat.Jour
open Go.ChangeShapes Go.WideShapes Go.ChangeAt Go.RowKit Go.Deep Els Go.Proofs.YtndanhacmfhlaaaGreat.Frame Disk

theorem area_txts {w : World} {g r : Nat} {q : DSt} {a c : Nat} (h : DocAt w g r q) (hk : 8 ≤ q.S.length ∧ q.S.length ≤ 4096) (ha : a ≤ 1) (hc : q.S.length ≤ c) : Txts w w.heap.size (.slice (some ⟨r, startD q a, none⟩) (roomD q) (c - startD q a)) (areaL q a) := by
  obtain ⟨h1, h2, h3⟩ := area_len (q := q) hk.1 ha
  have hb := h.lt.2
  obtain ⟨c', -, -, hov, -⟩ := h
  refine ⟨_, _, by rw [h2], by rw [h2]; omega, ⟨fun h => (by cases h), by rw [h2]; omega⟩, fun _ => ⟨r, startD q a, rfl, hb, fun i x hi => ?_⟩⟩
  have hlt : i < roomD q := by have := (List.getElem?_eq_some_iff.1 hi).1; rwa [h2] at this
  rw [hov.cell (by omega)]
  unfold areaL at hi
  rw [List.getElem?_take_of_lt hlt, List.getElem?_drop] at hi
  show some (Value.string (q.S.getD (startD q a + i) none_)) = _
  rw [List.getD_eq_getElem?_getD, hi]; rfl
set_option maxHeartbeats 1000000 in
theorem rj_sectors (q : DSt) (g r k m a : Nat) (w : World) (h : DocAt w g r q) (hf : q.Fit k m) (hk : 8 ≤ k) (ha : a ≤ 1) :
    Calls Tryz.prog 55 #[.pointer (some ⟨g, 0, none⟩), .int .i64 (a : Nat)] w fun e w' => ∃ c, q.S.length ≤ c ∧ e = .returned (.slice (some ⟨r, startD q a, none⟩) (roomD q) (c - startD q a)) ∧ SameW w w' := by
  obtain ⟨c, hlc, a0, -⟩ := doc_cells h
  have hl8 : 8 ≤ q.S.length := by rw [hf.len]; exact hk
  have hlm : q.S.length ≤ 4096 := by rw [hf.len]; exact hf.most
  obtain ⟨h1, h2, h3⟩ := area_len (q := q) hl8 ha
  have RM : Hid (∀ W, SameW w W → Calls Tryz.prog 40 #[.pointer (some ⟨g, 0, none⟩)] W fun e w' => e = .returned (.int .i64 (roomD q : Nat)) ∧ W = w') := fun W hh => rj_room q g r k m W (hh.doc h) hf (by omega)
  have ST : Hid (∀ W, SameW w W → Calls Tryz.prog 44 #[.pointer (some ⟨g, 0, none⟩), .int .i64 (a : Nat)] W fun e w' => e = .returned (.int .i64 (startD q a : Nat)) ∧ W = w') := fun W hh => rj_start q g r k m a W (hh.doc h) hf (by omega) ha
  clear h2
  generalize roomD q = R at *
  generalize startD q a = S0 at *
  have i1 : IntKind.i64.wrap ((S0 : Int) + (R : Int)) = ((S0 + R : Nat) : Int) := by rw [IntWalk.i64_in _ (by omega)]; omega
  obtain ⟨e1, he1⟩ : ∃ e1, S0 + R = e1 := ⟨_, rfl⟩
  rw [he1] at i1
  have y1 : S0 ≤ e1 := by omega
  have y2 : e1 ≤ c := by omega
  have y3 : e1 - S0 = R := by omega
  have y4 : ¬ c = S0 := by omega
  have y5 : ¬ c - S0 = 0 := by omega
  have SW : Hid (SameW w w.drew) := ⟨rfl, rfl, rfl, rfl⟩
  clear h hf h1 h3 he1
  go_enter Tryz.func55, Tryz.ntmps55
  go_wp2_with fail
  go_region_held3 (fun w' => w'.cell? ⟨g, 0, none⟩ = some (.slice (some ⟨r, 0, none⟩) q.S.length c))
    (first | exact a0)
    (first
      | (go_at_call 44
         with_reducible refine (ST.out _ SW.out).mono ?_
         rintro e w2 ⟨rfl, rfl⟩)
      | (go_at_call 40
         with_reducible refine (RM.out _ SW.out).mono ?_
         rintro e w2 ⟨rfl, rfl⟩))
  go_wp2_with fail
  go_ret
  exact ⟨c, hlc, rfl, SW.out⟩
end Go.Proofs.YtndanhacmfhlaaaGreat.Jour
