/- A disk in plain values: what it holds, and what becomes of it. Of no one law. Of no one law: a row of bytes 00 as a text; the checker's Zeros. The document's own disk: Read, Write, Arm, Start. The document's own disk: New. What a call to the program's own disk may turn: blocks of the disk's. Of no one law. -/
import Derived.WalkKit
import Derived.Test.YtndanhacmfhlaaaGA
import Derived.Deep.OwnRows
import Derived.Laws.DeepStrings4
import Derived.Deep.QuietTactic
import Derived.Lib.Hide
import Derived.Deep.RegionHeld3
import Derived.Deep.RegionLaw
namespace Go.Proofs.Ytndanhacmfhlaaa.Disk

structure DSt where
  S : List ByteArray
  dead : Bool
  armed : Bool
  n : Int
  part : Int
  writes : Nat
def none_ : ByteArray := ⟨#[]⟩
def zero256 : ByteArray := ⟨Array.replicate 256 0⟩
theorem zero_size : zero256.size = 256 := by unfold zero256; simp [ByteArray.size]
def newD (k : Nat) : DSt := ⟨List.replicate k zero256, false, false, 0, 0, 0⟩
def DSt.has (q : DSt) (i : Int) : Bool := decide (0 ≤ i ∧ i < q.S.length)
def DSt.text (q : DSt) (i : Int) : ByteArray := q.S.getD i.toNat none_
def DSt.readS (q : DSt) (i : Int) : ByteArray := if q.dead = false ∧ q.has i = true then q.text i else none_
def DSt.readE (q : DSt) (i : Int) : Int := if q.dead = true then 74 else if q.has i = true then 0 else 1
/-- Of old bytes, over which a beginning of new ones was written. -/
def torn (old new : ByteArray) (p : Nat) : ByteArray := new.extract 0 p ++ old.extract p 256
def DSt.put (q : DSt) (i : Int) (s : ByteArray) : DSt := ⟨q.S.set i.toNat s, q.dead, q.armed, if q.armed = true then q.n - 1 else q.n, q.part, q.writes + 1⟩
def DSt.cut (q : DSt) (i : Int) (s : ByteArray) : DSt := ⟨q.S.set i.toNat (torn (q.text i) s q.part.toNat), true, false, q.n, q.part, q.writes⟩
def DSt.goes (q : DSt) (i : Int) (s : ByteArray) : Bool := !q.dead && (q.has i && decide (s.size = 256))
def DSt.dies (q : DSt) : Bool := q.armed && decide (q.n = 0)
def DSt.write (q : DSt) (i : Int) (s : ByteArray) : DSt := if q.goes i s = true then (if q.dies = true then q.cut i s else q.put i s) else q
def DSt.writeE (q : DSt) (i : Int) (s : ByteArray) : Int := if q.dead = true then 74 else if q.goes i s = true then (if q.dies = true then 74 else 0) else 1
def armB (n p : Int) : Bool := decide (0 ≤ n ∧ n ≤ 100000 ∧ 0 ≤ p ∧ p ≤ 256)
def DSt.arm (q : DSt) (n p : Int) : DSt := if armB n p = true then ⟨q.S, q.dead, true, n, p, q.writes⟩ else q
def armE (n p : Int) : Int := if armB n p = true then 0 else 1
def DSt.start (q : DSt) : DSt := ⟨q.S, false, false, q.n, q.part, q.writes⟩
/-- What a disk can hold. -/
structure DSt.Fit (q : DSt) (k : Nat) (m : Nat) : Prop where
  len : q.S.length = k
  size : ∀ i, i < k → (q.S.getD i none_).size = 256
  most : k ≤ 4096
  n : 0 ≤ q.n ∧ q.n ≤ 100000
  part : 0 ≤ q.part ∧ q.part ≤ 256
  live : q.armed = true → q.dead = true ∨ 0 ≤ q.n
  writes : q.writes ≤ m
theorem getD_set (l : List ByteArray) (i j : Nat) (x : ByteArray) : (l.set i x).getD j none_ = if i = j ∧ i < l.length then x else l.getD j none_ := by
  rw [List.getD_eq_getElem?_getD, List.getD_eq_getElem?_getD, List.getElem?_set]
  by_cases h : i = j
  · rw [if_pos h]
    by_cases h2 : i < l.length
    · rw [if_pos h2, if_pos ⟨h, h2⟩]; rfl
    · rw [if_neg h2, if_neg (fun q => h2 q.2), ← h, List.getElem?_eq_none (by omega)]
  · rw [if_neg h, if_neg (fun q => h q.1)]
theorem new_fit {k : Nat} (h : k ≤ 4096) : (newD k).Fit k 0 := by
  refine ⟨by unfold newD; simp, fun i hi => ?_, h, show (0 : Int) ≤ 0 ∧ (0 : Int) ≤ 100000 from by decide, show (0 : Int) ≤ 0 ∧ (0 : Int) ≤ 256 from by decide, fun h => (by cases h), Nat.le_refl _⟩
  unfold newD
  show ((List.replicate k zero256).getD i none_).size = 256
  rw [List.getD_eq_getElem?_getD, List.getElem?_replicate, if_pos hi]
  exact zero_size
theorem torn_size {a b : ByteArray} {p : Nat} (ha : a.size = 256) (hb : b.size = 256) (hp : p ≤ 256) : (torn a b p).size = 256 := by
  unfold torn
  rw [ByteArray.size_append, ByteArray.size_extract, ByteArray.size_extract]
  omega
theorem has_iff {q : DSt} {i : Int} : q.has i = true ↔ 0 ≤ i ∧ i < q.S.length := by unfold DSt.has; exact decide_eq_true_iff
theorem goes_iff {q : DSt} {i : Int} {s : ByteArray} : q.goes i s = true ↔ q.dead = false ∧ (0 ≤ i ∧ i < q.S.length) ∧ s.size = 256 := by
  unfold DSt.goes
  rw [Bool.and_eq_true, Bool.and_eq_true, Bool.not_eq_true', has_iff, decide_eq_true_iff]
theorem DSt.Fit.text {q : DSt} {k m : Nat} (h : q.Fit k m) {i : Int} (hi : 0 ≤ i ∧ i < k) : (q.text i).size = 256 := h.size _ (by omega)
theorem DSt.Fit.write {q : DSt} {k m : Nat} (h : q.Fit k m) (i : Int) (s : ByteArray) : (q.write i s).Fit k (m + 1) := by
  unfold DSt.write
  by_cases hg : q.goes i s = true
  · rw [if_pos hg]
    obtain ⟨hd, hi, hs⟩ := goes_iff.1 hg
    have hl := h.len
    have hn := h.n
    have hp := h.part
    have hw := h.writes
    by_cases hq : q.dies = true
    · rw [if_pos hq]
      refine ⟨by unfold DSt.cut; show (q.S.set _ _).length = k; rw [List.length_set, hl], fun j hj => ?_, h.most, hn, hp, fun h => (by cases h), by show q.writes ≤ m + 1; omega⟩
      show ((q.S.set i.toNat _).getD j none_).size = 256
      rw [getD_set]
      split
      · exact torn_size (h.text ⟨hi.1, by omega⟩) hs (by omega)
      · exact h.size j hj
    · rw [if_neg hq]
      have hnn : q.armed = true → 0 ≤ q.n - 1 := fun ha => by
        unfold DSt.dies at hq
        rw [ha, Bool.true_and, decide_eq_true_iff] at hq
        omega
      refine ⟨by show (q.S.set _ _).length = k; rw [List.length_set, hl], fun j hj => ?_, h.most, ?_, hp, fun ha => Or.inr ?_, by show q.writes + 1 ≤ m + 1; omega⟩
      · show ((q.S.set i.toNat _).getD j none_).size = 256
        rw [getD_set]
        split
        · exact hs
        · exact h.size j hj
      · show 0 ≤ (if q.armed = true then q.n - 1 else q.n) ∧ (if q.armed = true then q.n - 1 else q.n) ≤ 100000
        split
        · have := hnn (by assumption); omega
        · exact hn
      · show 0 ≤ (if q.armed = true then q.n - 1 else q.n)
        rw [if_pos (show q.armed = true from ha)]
        exact hnn ha
  · rw [if_neg hg]
    exact ⟨h.len, h.size, h.most, h.n, h.part, h.live, Nat.le_succ_of_le h.writes⟩
theorem DSt.Fit.more {q : DSt} {k m m' : Nat} (h : q.Fit k m) (hm : m ≤ m') : q.Fit k m' := ⟨h.len, h.size, h.most, h.n, h.part, h.live, Nat.le_trans h.writes hm⟩
theorem DSt.Fit.arm {q : DSt} {k m : Nat} (h : q.Fit k m) (n p : Int) : (q.arm n p).Fit k m := by
  unfold DSt.arm
  by_cases ha : armB n p = true
  · rw [if_pos ha]
    have ha := of_decide_eq_true ha
    exact ⟨h.len, h.size, h.most, ⟨ha.1, ha.2.1⟩, ⟨ha.2.2.1, ha.2.2.2⟩, fun _ => Or.inr ha.1, h.writes⟩
  · rw [if_neg ha]; exact h
theorem DSt.Fit.start {q : DSt} {k m : Nat} (h : q.Fit k m) : q.start.Fit k m := ⟨h.len, h.size, h.most, h.n, h.part, fun h => (by cases h), h.writes⟩
end Go.Proofs.Ytndanhacmfhlaaa.Disk
namespace Go.Proofs.Ytndanhacmfhlaaa.Nul
open Go.ChangeShapes Go.WideShapes Go.ChangeAt Go.RowKit Go.Deep

theorem u8_info : (Try.prog.info? 5).map (fun i => (i.zero, i.size, i.bytes)) = some (some (.int .u8 0), 1, 1) := by kernel_rfl
def nul (k : Nat) : ByteArray := ⟨Array.replicate k 0⟩
theorem nul_size (k : Nat) : (nul k).size = k := by unfold nul; simp [ByteArray.size]
theorem nul_text {w : World} {g k : Nat} {T : TypeId} (h : w.rowIs g T k (fun _ => .int .u8 0)) {P : Program} (src dst : TypeId) (hs : P.underlying src = some (.slice T)) (he : P.underlying T = some (.int .u8)) (hd : P.underlying dst = some .string) :
    (convert src dst (.slice (some ⟨g, 0, none⟩) k k)).run P w = .ok (.string (nul k)) w := by
  have hl : (List.replicate k (0 : UInt8)).length = k := List.length_replicate
  have := run_convert_bytes_back (P := P) w src dst T ⟨g, 0, none⟩ k (List.replicate k 0) hs he hd (fun j hj => by
    rw [hl] at hj
    rw [Go.WideShapes.add_plain, Nat.zero_add, h.cell hj]
    simp)
  rw [hl] at this
  rw [this]
  unfold nul
  rw [List.toArray_replicate]
theorem make_bytes (n : Nat) (h : n ≤ 1000000) (W : World) : (Instr.makeSlice 75 (.int .i64 (n : Int)) (.int .i64 (n : Int))).run Try.prog W = .ok (.slice (some ⟨W.heap.size, 0, none⟩) n n) (W.alloc (.cells (madeCells #[.int .u8 0] n) 5)) :=
  run_make_row' (P := Try.prog) 75 5 (.int .u8 0) 1 Try.underlying75 u8_info rfl .i64 .i64 n (by omega) (by omega) W
theorem made_text (n : Nat) (W : World) : (convert 75 9 (.slice (some ⟨W.heap.size, 0, none⟩) n n)).run Try.prog (W.alloc (.cells (madeCells #[.int .u8 0] n) 5)) = .ok (.string (nul n)) (W.alloc (.cells (madeCells #[.int .u8 0] n) 5)) :=
  nul_text (World.rowIs_made W (.int .u8 0) n 5) 75 9 Try.underlying75 Try.underlying5 Try.underlying9
theorem made_text_drew (n : Nat) (W : World) : (convert 75 9 (.slice (some ⟨W.heap.size, 0, none⟩) n n)).run Try.prog (W.alloc (.cells (madeCells #[.int .u8 0] n) 5)).drew = .ok (.string (nul n)) (W.alloc (.cells (madeCells #[.int .u8 0] n) 5)).drew :=
  nul_text (World.rowIs.drew (World.rowIs_made W (.int .u8 0) n 5)) 75 9 Try.underlying75 Try.underlying5 Try.underlying9
end Go.Proofs.Ytndanhacmfhlaaa.Nul
namespace Go.Proofs.Ytndanhacmfhlaaa.Disk
open Go.ChangeShapes Go.WideShapes Go.ChangeAt Go.RowKit Go.Deep Slice Els

def dcell (V : Value) (q : DSt) (i : Nat) : Value := if i = 0 then V else if i = 1 then .bool q.dead else if i = 2 then .bool q.armed else if i = 3 then .int .i64 q.n else if i = 4 then .int .i64 q.part else .int .i64 q.writes
/-- What a call may have turned: these two blocks. -/
structure OnlyTwo (g r : Nat) (w w' : World) : Prop where
  os : w'.os = w.os
  tape : w'.tape = w.tape
  output : w'.output = w.output
  size : w.heap.size ≤ w'.heap.size
  block : ∀ i, i < w.heap.size → i ≠ g → i ≠ r → w'.heap[i]? = w.heap[i]?
theorem OnlyTwo.refl (g r : Nat) (w : World) : OnlyTwo g r w w := ⟨rfl, rfl, rfl, Nat.le_refl _, fun _ _ _ _ => rfl⟩
theorem OnlyTwo.drewN {g r : Nat} {w w' : World} (h : OnlyTwo g r w w') (n : Nat) : OnlyTwo g r w (w'.drewN n) := ⟨h.os, h.tape, h.output, h.size, h.block⟩
theorem OnlyTwo.set {g r b i : Nat} {w w' : World} (h : OnlyTwo g r w w') (hb : b = g ∨ b = r) (v : Value) : OnlyTwo g r w (w'.setCell ⟨b, i, none⟩ v) :=
  ⟨h.os, h.tape, h.output, by rw [nblk_setCell]; exact h.size, fun j hj h1 h2 => (blk_setCell_other _ _ _ _ (by rcases hb with rfl | rfl <;> (first | exact fun e => h1 e | exact fun e => h2 e))).trans (h.block j hj h1 h2)⟩
end Go.Proofs.Ytndanhacmfhlaaa.Disk
namespace Go.Proofs.Ytndanhacmfhlaaa.Disk
open Go.ChangeShapes Go.WideShapes Go.ChangeAt Go.RowKit Go.Deep Slice Els Nul

theorem str_info : ∃ i, Try.prog.info? 9 = some i ∧ i.zero = some (.string ⟨#[]⟩) ∧ i.size = 1 ∧ i.bytes = 16 := by
  have h : (Try.prog.info? 9).map (fun i => (i.zero, i.size, i.bytes)) = some (some (.string ⟨#[]⟩), 1, 16) := by kernel_rfl
  obtain ⟨i, hi, e⟩ := Option.map_eq_some_iff.1 h
  simp only [Prod.mk.injEq] at e
  exact ⟨i, hi, e.1, e.2.1, e.2.2⟩
end Go.Proofs.Ytndanhacmfhlaaa.Disk
namespace Go.Proofs.Ytndanhacmfhlaaa.Disk
open Go.ChangeShapes Go.WideShapes Go.ChangeAt Go.RowKit Go.Deep

structure OnlyF (F : Nat → Prop) (w w' : World) : Prop where
  os : w'.os = w.os
  tape : w'.tape = w.tape
  output : w'.output = w.output
  size : w.heap.size ≤ w'.heap.size
  block : ∀ i, i < w.heap.size → ¬ F i → w'.heap[i]? = w.heap[i]?
theorem OnlyF.refl (F : Nat → Prop) (w : World) : OnlyF F w w := ⟨rfl, rfl, rfl, Nat.le_refl _, fun _ _ _ => rfl⟩
theorem OnlyF.of_below {F : Nat → Prop} {w w' : World} (h : Below w.heap.size w w') : OnlyF F w w' := ⟨h.os, h.tape, h.output, h.size, fun i hi _ => h.block i hi⟩
theorem OnlyF.trans {F : Nat → Prop} {w w' w'' : World} (h : OnlyF F w w') (k : OnlyF F w' w'') : OnlyF F w w'' :=
  ⟨k.os.trans h.os, k.tape.trans h.tape, k.output.trans h.output, Nat.le_trans h.size k.size, fun i hi hf => (k.block i (Nat.lt_of_lt_of_le hi h.size) hf).trans (h.block i hi hf)⟩
theorem OnlyF.drewN {F : Nat → Prop} {w w' : World} (h : OnlyF F w w') (n : Nat) : OnlyF F w (w'.drewN n) := ⟨h.os, h.tape, h.output, h.size, h.block⟩
theorem OnlyF.set {F : Nat → Prop} {b i : Nat} {w w' : World} (h : OnlyF F w w') (hb : F b) (v : Value) : OnlyF F w (w'.setCell ⟨b, i, none⟩ v) :=
  ⟨h.os, h.tape, h.output, by rw [nblk_setCell]; exact h.size, fun j hj h1 => (blk_setCell_other _ _ _ _ (fun e => h1 (by rw [show j = b from e]; exact hb))).trans (h.block j hj h1)⟩
theorem only_far {B : Nat} {F : Nat → Prop} {w w1 w2 : World} (h : Below B w w1) (ho : OnlyF F w1 w2) (hF : ∀ i, F i → B ≤ i) (hs : B ≤ w1.heap.size) : Below B w w2 :=
  ⟨ho.os.trans h.os, ho.tape.trans h.tape, ho.output.trans h.output, Nat.le_trans h.size ho.size, fun i hi => (ho.block i (by omega) (fun hf => by have := hF i hf; omega)).trans (h.block i hi)⟩
theorem two_far {B g r : Nat} {w w1 w2 : World} (h : Below B w w1) (ho : OnlyTwo g r w1 w2) (hg : B ≤ g) (hr : B ≤ r) (hs : B ≤ w1.heap.size) : Below B w w2 :=
  ⟨ho.os.trans h.os, ho.tape.trans h.tape, ho.output.trans h.output, Nat.le_trans h.size ho.size, fun i hi => (ho.block i (by omega) (by omega) (by omega)).trans (h.block i hi)⟩
end Go.Proofs.Ytndanhacmfhlaaa.Disk
