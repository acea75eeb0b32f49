/- A disk in plain values: what it holds, and what becomes of it. Of no one law. Of no one law: a row of bytes 00 as a text; the checker's Zeros. The document's own disk: Read, Write, Arm, Start. The document's own disk: New. What a call to the program's own disk may turn: blocks of the disk's. Of no one law. -/
import Derived.WalkKit
import Derived.Test.YtndanhacmfhlaaaGreatGA
import Derived.Deep.OwnRows
import Derived.Laws.DeepStrings4
import Derived.Deep.QuietTactic
import Derived.Lib.Hide
import Derived.Deep.RegionHeld3
import Derived.Deep.RegionLaw
namespace Go.Proofs.YtndanhacmfhlaaaGreat.Disk

structure DSt where
  S : List ByteArray
  dead : Bool
  armed : Bool
  n : Int
  part : Int
  writes : Nat
def none_ : ByteArray := ⟨#[]⟩
def zero256 : ByteArray := ⟨Array.replicate 256 0⟩
theorem zero_size : zero256.size = 256 := by unfold zero256; simp [ByteArray.size]
def newD (k : Nat) : DSt := ⟨List.replicate k zero256, false, false, 0, 0, 0⟩
def DSt.has (q : DSt) (i : Int) : Bool := decide (0 ≤ i ∧ i < q.S.length)
def DSt.text (q : DSt) (i : Int) : ByteArray := q.S.getD i.toNat none_
def DSt.readS (q : DSt) (i : Int) : ByteArray := if q.dead = false ∧ q.has i = true then q.text i else none_
def DSt.readE (q : DSt) (i : Int) : Int := if q.dead = true then 74 else if q.has i = true then 0 else 1
/-- Of old bytes, over which a beginning of new ones was written. -/
def torn (old new : ByteArray) (p : Nat) : ByteArray := new.extract 0 p ++ old.extract p 256
def DSt.put (q : DSt) (i : Int) (s : ByteArray) : DSt := ⟨q.S.set i.toNat s, q.dead, q.armed, if q.armed = true then q.n - 1 else q.n, q.part, q.writes + 1⟩
def DSt.cut (q : DSt) (i : Int) (s : ByteArray) : DSt := ⟨q.S.set i.toNat (torn (q.text i) s q.part.toNat), true, false, q.n, q.part, q.writes⟩
def DSt.goes (q : DSt) (i : Int) (s : ByteArray) : Bool := !q.dead && (q.has i && decide (s.size = 256))
def DSt.dies (q : DSt) : Bool := q.armed && decide (q.n = 0)
def DSt.write (q : DSt) (i : Int) (s : ByteArray) : DSt := if q.goes i s = true then (if q.dies = true then q.cut i s else q.put i s) else q
def DSt.writeE (q : DSt) (i : Int) (s : ByteArray) : Int := if q.dead = true then 74 else if q.goes i s = true then (if q.dies = true then 74 else 0) else 1
def armB (n p : Int) : Bool := decide (0 ≤ n ∧ n ≤ 100000 ∧ 0 ≤ p ∧ p ≤ 256)
def DSt.arm (q : DSt) (n p : Int) : DSt := if armB n p = true then ⟨q.S, q.dead, true, n, p, q.writes⟩ else q
def armE (n p : Int) : Int := if armB n p = true then 0 else 1
def DSt.start (q : DSt) : DSt := ⟨q.S, false, false, q.n, q.part, q.writes⟩
/-- What a disk can hold. -/
structure DSt.Fit (q : DSt) (k : Nat) (m : Nat) : Prop where
  len : q.S.length = k
  size : ∀ i, i < k → (q.S.getD i none_).size = 256
  most : k ≤ 4096
  n : 0 ≤ q.n ∧ q.n ≤ 100000
  part : 0 ≤ q.part ∧ q.part ≤ 256
  live : q.armed = true → q.dead = true ∨ 0 ≤ q.n
  writes : q.writes ≤ m
theorem getD_set (l : List ByteArray) (i j : Nat) (x : ByteArray) : (l.set i x).getD j none_ = if i = j ∧ i < l.length then x else l.getD j none_ := by
  rw [List.getD_eq_getElem?_getD, List.getD_eq_getElem?_getD, List.getElem?_set]
  by_cases h : i = j
  · rw [if_pos h]
    by_cases h2 : i < l.length
    · rw [if_pos h2, if_pos ⟨h, h2⟩]; rfl
    · rw [if_neg h2, if_neg (fun q => h2 q.2), ← h, List.getElem?_eq_none (by omega)]
  · rw [if_neg h, if_neg (fun q => h q.1)]
theorem new_fit {k : Nat} (h : k ≤ 4096) : (newD k).Fit k 0 := by
  refine ⟨by unfold newD; simp, fun i hi => ?_, h, show (0 : Int) ≤ 0 ∧ (0 : Int) ≤ 100000 from by decide, show (0 : Int) ≤ 0 ∧ (0 : Int) ≤ 256 from by decide, fun h => (by cases h), Nat.le_refl _⟩
  unfold newD
  show ((List.replicate k zero256).getD i none_).size = 256
  rw [List.getD_eq_getElem?_getD, List.getElem?_replicate, if_pos hi]
  exact zero_size
theorem torn_size {a b : ByteArray} {p : Nat} (ha : a.size = 256) (hb : b.size = 256) (hp : p ≤ 256) : (torn a b p).size = 256 := by
  unfold torn
  rw [ByteArray.size_append, ByteArray.size_extract, ByteArray.size_extract]
  omega
theorem has_iff {q : DSt} {i : Int} : q.has i = true ↔ 0 ≤ i ∧ i < q.S.length := by unfold DSt.has; exact decide_eq_true_iff
theorem goes_iff {q : DSt} {i : Int} {s : ByteArray} : q.goes i s = true ↔ q.dead = false ∧ (0 ≤ i ∧ i < q.S.length) ∧ s.size = 256 := by
  unfold DSt.goes
  rw [Bool.and_eq_true, Bool.and_eq_true, Bool.not_eq_true', has_iff, decide_eq_true_iff]
theorem DSt.Fit.text {q : DSt} {k m : Nat} (h : q.Fit k m) {i : Int} (hi : 0 ≤ i ∧ i < k) : (q.text i).size = 256 := h.size _ (by omega)
theorem DSt.Fit.write {q : DSt} {k m : Nat} (h : q.Fit k m) (i : Int) (s : ByteArray) : (q.write i s).Fit k (m + 1) := by
  unfold DSt.write
  by_cases hg : q.goes i s = true
  · rw [if_pos hg]
    obtain ⟨hd, hi, hs⟩ := goes_iff.1 hg
    have hl := h.len
    have hn := h.n
    have hp := h.part
    have hw := h.writes
    by_cases hq : q.dies = true
    · rw [if_pos hq]
      refine ⟨by unfold DSt.cut; show (q.S.set _ _).length = k; rw [List.length_set, hl], fun j hj => ?_, h.most, hn, hp, fun h => (by cases h), by show q.writes ≤ m + 1; omega⟩
      show ((q.S.set i.toNat _).getD j none_).size = 256
      rw [getD_set]
      split
      · exact torn_size (h.text ⟨hi.1, by omega⟩) hs (by omega)
      · exact h.size j hj
    · rw [if_neg hq]
      have hnn : q.armed = true → 0 ≤ q.n - 1 := fun ha => by
        unfold DSt.dies at hq
        rw [ha, Bool.true_and, decide_eq_true_iff] at hq
        omega
      refine ⟨by show (q.S.set _ _).length = k; rw [List.length_set, hl], fun j hj => ?_, h.most, ?_, hp, fun ha => Or.inr ?_, by show q.writes + 1 ≤ m + 1; omega⟩
      · show ((q.S.set i.toNat _).getD j none_).size = 256
        rw [getD_set]
        split
        · exact hs
        · exact h.size j hj
      · show 0 ≤ (if q.armed = true then q.n - 1 else q.n) ∧ (if q.armed = true then q.n - 1 else q.n) ≤ 100000
        split
        · have := hnn (by assumption); omega
        · exact hn
      · show 0 ≤ (if q.armed = true then q.n - 1 else q.n)
        rw [if_pos (show q.armed = true from ha)]
        exact hnn ha
  · rw [if_neg hg]
    exact ⟨h.len, h.size, h.most, h.n, h.part, h.live, Nat.le_succ_of_le h.writes⟩
theorem DSt.Fit.more {q : DSt} {k m m' : Nat} (h : q.Fit k m) (hm : m ≤ m') : q.Fit k m' := ⟨h.len, h.size, h.most, h.n, h.part, h.live, Nat.le_trans h.writes hm⟩
theorem DSt.Fit.arm {q : DSt} {k m : Nat} (h : q.Fit k m) (n p : Int) : (q.arm n p).Fit k m := by
  unfold DSt.arm
  by_cases ha : armB n p = true
  · rw [if_pos ha]
    have ha := of_decide_eq_true ha
    exact ⟨h.len, h.size, h.most, ⟨ha.1, ha.2.1⟩, ⟨ha.2.2.1, ha.2.2.2⟩, fun _ => Or.inr ha.1, h.writes⟩
  · rw [if_neg ha]; exact h
theorem DSt.Fit.start {q : DSt} {k m : Nat} (h : q.Fit k m) : q.start.Fit k m := ⟨h.len, h.size, h.most, h.n, h.part, fun h => (by cases h), h.writes⟩
end Go.Proofs.YtndanhacmfhlaaaGreat.Disk
namespace Go.Proofs.YtndanhacmfhlaaaGreat.Nul
open Go.ChangeShapes Go.WideShapes Go.ChangeAt Go.RowKit Go.Deep

theorem u8_info : (Tryz.prog.info? 5).map (fun i => (i.zero, i.size, i.bytes)) = some (some (.int .u8 0), 1, 1) := by kernel_rfl
def nul (k : Nat) : ByteArray := ⟨Array.replicate k 0⟩
theorem nul_size (k : Nat) : (nul k).size = k := by unfold nul; simp [ByteArray.size]
theorem nul_text {w : World} {g k : Nat} {T : TypeId} (h : w.rowIs g T k (fun _ => .int .u8 0)) {P : Program} (src dst : TypeId) (hs : P.underlying src = some (.slice T)) (he : P.underlying T = some (.int .u8)) (hd : P.underlying dst = some .string) :
    (convert src dst (.slice (some ⟨g, 0, none⟩) k k)).run P w = .ok (.string (nul k)) w := by
  have hl : (List.replicate k (0 : UInt8)).length = k := List.length_replicate
  have := run_convert_bytes_back (P := P) w src dst T ⟨g, 0, none⟩ k (List.replicate k 0) hs he hd (fun j hj => by
    rw [hl] at hj
    rw [Go.WideShapes.add_plain, Nat.zero_add, h.cell hj]
    simp)
  rw [hl] at this
  rw [this]
  unfold nul
  rw [List.toArray_replicate]
theorem make_bytes (n : Nat) (h : n ≤ 1000000) (W : World) : (Instr.makeSlice 66 (.int .i64 (n : Int)) (.int .i64 (n : Int))).run Tryz.prog W = .ok (.slice (some ⟨W.heap.size, 0, none⟩) n n) (W.alloc (.cells (madeCells #[.int .u8 0] n) 5)) :=
  run_make_row' (P := Tryz.prog) 66 5 (.int .u8 0) 1 Tryz.underlying66 u8_info rfl .i64 .i64 n (by omega) (by omega) W
theorem made_text (n : Nat) (W : World) : (convert 66 9 (.slice (some ⟨W.heap.size, 0, none⟩) n n)).run Tryz.prog (W.alloc (.cells (madeCells #[.int .u8 0] n) 5)) = .ok (.string (nul n)) (W.alloc (.cells (madeCells #[.int .u8 0] n) 5)) :=
  nul_text (World.rowIs_made W (.int .u8 0) n 5) 66 9 Tryz.underlying66 Tryz.underlying5 Tryz.underlying9
theorem made_text_drew (n : Nat) (W : World) : (convert 66 9 (.slice (some ⟨W.heap.size, 0, none⟩) n n)).run Tryz.prog (W.alloc (.cells (madeCells #[.int .u8 0] n) 5)).drew = .ok (.string (nul n)) (W.alloc (.cells (madeCells #[.int .u8 0] n) 5)).drew :=
  nul_text (World.rowIs.drew (World.rowIs_made W (.int .u8 0) n 5)) 66 9 Tryz.underlying66 Tryz.underlying5 Tryz.underlying9
set_option maxRecDepth 20000 in
theorem k_zeros (n : Nat) (w : World) (h : n ≤ 1000000) : Calls Tryz.prog 58 #[.int .i64 (n : Int)] w fun e w' => e = .returned (.string (nul n)) ∧ Below w.heap.size w w' := by
  have hmk0 := make_bytes n h
  have cv0 := made_text n
  have t0 : decide ((n : Int) < 0) = false := decide_eq_false (by omega)
  go_enter Tryz.func58, Tryz.ntmps58
  go_wp2_with fail
  go_ret
  exact ⟨rfl, (Below.refl _ _).alloc (Nat.le_refl _) _⟩
end Go.Proofs.YtndanhacmfhlaaaGreat.Nul
namespace Go.Proofs.YtndanhacmfhlaaaGreat.Disk
open Go.ChangeShapes Go.WideShapes Go.ChangeAt Go.RowKit Go.Deep Slice Els

def dcell (V : Value) (q : DSt) (i : Nat) : Value := if i = 0 then V else if i = 1 then .bool q.dead else if i = 2 then .bool q.armed else if i = 3 then .int .i64 q.n else if i = 4 then .int .i64 q.part else .int .i64 q.writes
/-- At block g stands a disk of the document's that holds q; its sectors are row r. -/
def DocAt (w : World) (g r : Nat) (q : DSt) : Prop :=
  ∃ c, q.S.length ≤ c ∧ w.rowIs g 52 6 (dcell (.slice (some ⟨r, 0, none⟩) q.S.length c) q) ∧ Over w r 9 q.S.length (fun i => .string (q.S.getD i none_)) ∧ g ≠ r
theorem DocAt.keep {w w' : World} {g r : Nat} {q : DSt} (h : DocAt w g r q) (hg : w'.heap[g]? = w.heap[g]?) (hr : w'.heap[r]? = w.heap[r]?) : DocAt w' g r q := by
  obtain ⟨c, h1, h2, h3, h4⟩ := h
  exact ⟨c, h1, h2.of_block hg, h3.block hr, h4⟩
theorem DocAt.lt {w : World} {g r : Nat} {q : DSt} (h : DocAt w g r q) : g < w.heap.size ∧ r < w.heap.size := by
  obtain ⟨c, h1, h2, h3, h4⟩ := h
  exact ⟨h2.lt, h3.lt⟩
/-- What a call may have turned: these two blocks. -/
structure OnlyTwo (g r : Nat) (w w' : World) : Prop where
  os : w'.os = w.os
  tape : w'.tape = w.tape
  output : w'.output = w.output
  size : w.heap.size ≤ w'.heap.size
  block : ∀ i, i < w.heap.size → i ≠ g → i ≠ r → w'.heap[i]? = w.heap[i]?
theorem OnlyTwo.refl (g r : Nat) (w : World) : OnlyTwo g r w w := ⟨rfl, rfl, rfl, Nat.le_refl _, fun _ _ _ _ => rfl⟩
theorem OnlyTwo.drewN {g r : Nat} {w w' : World} (h : OnlyTwo g r w w') (n : Nat) : OnlyTwo g r w (w'.drewN n) := ⟨h.os, h.tape, h.output, h.size, h.block⟩
theorem OnlyTwo.set {g r b i : Nat} {w w' : World} (h : OnlyTwo g r w w') (hb : b = g ∨ b = r) (v : Value) : OnlyTwo g r w (w'.setCell ⟨b, i, none⟩ v) :=
  ⟨h.os, h.tape, h.output, by rw [nblk_setCell]; exact h.size, fun j hj h1 h2 => (blk_setCell_other _ _ _ _ (by rcases hb with rfl | rfl <;> (first | exact fun e => h1 e | exact fun e => h2 e))).trans (h.block j hj h1 h2)⟩
theorem r_read (q : DSt) (g r : Nat) (i : Int) (w : World) (h : DocAt w g r q) (hi : -9223372036854775808 ≤ i ∧ i ≤ 9223372036854775807) :
    Calls Tryz.prog 41 #[.pointer (some ⟨g, 0, none⟩), .int .i64 i] w fun e w' => e = .returned (.tuple #[.string (q.readS i), .int .i64 (q.readE i)]) ∧ w = w' := by
  obtain ⟨c, h1, h2, h3, h4⟩ := h
  have a1 : w.cell? ⟨g, 1, none⟩ = some (.bool q.dead) := h2.cell (by decide)
  have a0 : w.cell? ⟨g, 0, none⟩ = some (.slice (some ⟨r, 0, none⟩) q.S.length c) := h2.cell (by decide)
  cases hd : q.dead with
  | true =>
    rw [hd] at a1
    rw [show q.readS i = none_ by unfold DSt.readS; rw [if_neg (fun h => by rw [hd] at h; cases h.1)], show q.readE i = 74 by unfold DSt.readE; rw [if_pos hd]]
    unfold none_
    go_enter Tryz.func41, Tryz.ntmps41
    go_wp2_with fail
    go_ret2
    exact ⟨rfl, rfl⟩
  | false =>
    rw [hd] at a1
    by_cases hlo : i < 0
    · have hh : q.has i = false := by rw [Bool.eq_false_iff]; intro e; have := has_iff.1 e; omega
      rw [show q.readS i = none_ by unfold DSt.readS; rw [if_neg (fun h => by rw [hh] at h; cases h.2)], show q.readE i = 1 by unfold DSt.readE; rw [if_neg (by rw [hd]; decide), if_neg (by rw [hh]; decide)]]
      unfold none_
      have t1 : decide (i < 0) = true := decide_eq_true hlo
      clear hd h2 h3
      go_enter Tryz.func41, Tryz.ntmps41
      go_wp2_with fail
      go_ret2
      exact ⟨rfl, rfl⟩
    · obtain ⟨j, rfl⟩ : ∃ j : Nat, i = j := ⟨i.toNat, by omega⟩
      have t1 : decide ((j : Int) < 0) = false := decide_eq_false hlo
      by_cases hj : j < q.S.length
      · have hh : q.has j = true := has_iff.2 (by omega)
        rw [show q.readS j = q.S.getD j none_ by unfold DSt.readS; rw [if_pos ⟨hd, hh⟩]; rfl, show q.readE j = 0 by unfold DSt.readE; rw [if_neg (by rw [hd]; decide), if_pos hh]]
        have ai : w.cell? ⟨r, j, none⟩ = some (.string (q.S.getD j none_)) := h3.cell hj
        have t2 : decide (q.S.length ≤ j) = false := decide_eq_false (by omega)
        generalize q.S.getD j none_ = x at *
        clear hd h2 h3 hh
        go_enter Tryz.func41, Tryz.ntmps41
        go_wp2_with fail
        go_ret2
        exact ⟨rfl, rfl⟩
      · have hh : q.has j = false := by rw [Bool.eq_false_iff]; intro e; have := has_iff.1 e; omega
        rw [show q.readS j = none_ by unfold DSt.readS; rw [if_neg (fun h => by rw [hh] at h; cases h.2)], show q.readE j = 1 by unfold DSt.readE; rw [if_neg (by rw [hd]; decide), if_neg (by rw [hh]; decide)]]
        unfold none_
        have t2 : decide (q.S.length ≤ j) = true := decide_eq_true (by omega)
        clear hd h2 h3 hh
        go_enter Tryz.func41, Tryz.ntmps41
        go_wp2_with fail
        go_ret2
        exact ⟨rfl, rfl⟩
theorem doc_cells {w : World} {g r : Nat} {q : DSt} (h : DocAt w g r q) : ∃ c, q.S.length ≤ c ∧ w.cell? ⟨g, 0, none⟩ = some (.slice (some ⟨r, 0, none⟩) q.S.length c) ∧ w.cell? ⟨g, 1, none⟩ = some (.bool q.dead) ∧ w.cell? ⟨g, 2, none⟩ = some (.bool q.armed) ∧ w.cell? ⟨g, 3, none⟩ = some (.int .i64 q.n) ∧
    w.cell? ⟨g, 4, none⟩ = some (.int .i64 q.part) ∧ w.cell? ⟨g, 5, none⟩ = some (.int .i64 q.writes) ∧ (∀ i, w.frozen? ⟨g, i, none⟩ = false) := by
  obtain ⟨c, h1, h2, h3, h4⟩ := h
  exact ⟨c, h1, h2.cell (by decide), h2.cell (by decide), h2.cell (by decide), h2.cell (by decide), h2.cell (by decide), h2.cell (by decide), h2.frozen⟩
/-- A cell of the disk's own is written. -/
theorem DocAt.set {w : World} {g r : Nat} {q q' : DSt} (h : DocAt w g r q) (i : Nat) (v : Value) (hS : q'.S = q.S) (hi : ∀ c j, j < 6 → dcell (.slice (some ⟨r, 0, none⟩) q.S.length c) q' j = if j = i then v else dcell (.slice (some ⟨r, 0, none⟩) q.S.length c) q j) : DocAt (w.setCell ⟨g, i, none⟩ v) g r q' := by
  obtain ⟨c, h1, h2, h3, h4⟩ := h
  refine ⟨c, by rw [hS]; exact h1, ?_, ?_, h4⟩
  · rw [hS]
    exact (h2.set i v).congr fun j hj => (hi c j hj).symm
  · rw [hS]
    exact h3.other (fun e => h4 e.symm) v
theorem r_start (q : DSt) (g r : Nat) (w : World) (h : DocAt w g r q) :
    Calls Tryz.prog 18 #[.pointer (some ⟨g, 0, none⟩)] w fun e w' => e = .returned (.tuple #[]) ∧ DocAt w' g r q.start ∧ OnlyTwo g r w w' := by
  obtain ⟨c, -, -, a1, a2, -, -, -, fz⟩ := doc_cells h
  have f1 := fz 1
  have f2 := fz 2
  have hlt := h.lt.1
  have H := Lib.hid h
  clear h
  go_enter Tryz.func18, Tryz.ntmps18
  go_wp2_with fail
  go_end0
  exact ⟨rfl, (H.out.set (q' := ⟨q.S, false, q.armed, q.n, q.part, q.writes⟩) 1 _ rfl (fun c j hj => by
    match j, hj with
    | 0, _ | 1, _ | 2, _ | 3, _ | 4, _ | 5, _ => rfl)).set 2 _ rfl (fun c j hj => by
    match j, hj with
    | 0, _ | 1, _ | 2, _ | 3, _ | 4, _ | 5, _ => rfl), ((OnlyTwo.refl g r w).set (Or.inl rfl) _).set (Or.inl rfl) _⟩
theorem r_arm (q : DSt) (g r : Nat) (n p : Int) (w : World) (h : DocAt w g r q) :
    Calls Tryz.prog 16 #[.pointer (some ⟨g, 0, none⟩), .int .i64 n, .int .i64 p] w fun e w' => e = .returned (.int .i64 (armE n p)) ∧ DocAt w' g r (q.arm n p) ∧ OnlyTwo g r w w' := by
  obtain ⟨c, -, -, -, -, -, -, -, fz⟩ := doc_cells h
  have b2 : ∃ v, w.cell? ⟨g, 2, none⟩ = some v := by obtain ⟨c, -, -, -, a2, -⟩ := doc_cells h; exact ⟨_, a2⟩
  have b3 : ∃ v, w.cell? ⟨g, 3, none⟩ = some v := by obtain ⟨c, -, -, -, -, a3, -⟩ := doc_cells h; exact ⟨_, a3⟩
  have b4 : ∃ v, w.cell? ⟨g, 4, none⟩ = some v := by obtain ⟨c, -, -, -, -, -, a4, -⟩ := doc_cells h; exact ⟨_, a4⟩
  obtain ⟨v2, b2⟩ := b2
  obtain ⟨v3, b3⟩ := b3
  obtain ⟨v4, b4⟩ := b4
  have f2 := fz 2
  have f3 := fz 3
  have f4 := fz 4
  have hlt := h.lt.1
  have H := Lib.hid h
  clear h fz
  by_cases ha : armB n p = true
  · have hb := of_decide_eq_true ha
    rw [show armE n p = 0 by unfold armE; rw [if_pos ha], show q.arm n p = ⟨q.S, q.dead, true, n, p, q.writes⟩ by unfold DSt.arm; rw [if_pos ha]]
    have t1 : decide (n < 0) = false := decide_eq_false (by omega)
    have t2 : decide (100000 < n) = false := decide_eq_false (by omega)
    have t3 : decide (p < 0) = false := decide_eq_false (by omega)
    have t4 : decide (256 < p) = false := decide_eq_false (by omega)
    clear ha hb
    go_enter Tryz.func16, Tryz.ntmps16
    go_wp2_with fail
    go_ret
    exact ⟨rfl, ((H.out.set (q' := ⟨q.S, q.dead, true, q.n, q.part, q.writes⟩) 2 _ rfl (fun c j hj => by
      match j, hj with
      | 0, _ | 1, _ | 2, _ | 3, _ | 4, _ | 5, _ => rfl)).set (q' := ⟨q.S, q.dead, true, n, q.part, q.writes⟩) 3 _ rfl (fun c j hj => by
      match j, hj with
      | 0, _ | 1, _ | 2, _ | 3, _ | 4, _ | 5, _ => rfl)).set 4 _ rfl (fun c j hj => by
      match j, hj with
      | 0, _ | 1, _ | 2, _ | 3, _ | 4, _ | 5, _ => rfl), (((OnlyTwo.refl g r w).set (Or.inl rfl) _).set (Or.inl rfl) _).set (Or.inl rfl) _⟩
  · have hb : n < 0 ∨ 100000 < n ∨ p < 0 ∨ 256 < p := by
      unfold armB at ha
      rw [decide_eq_true_iff] at ha
      omega
    rw [show armE n p = 1 by unfold armE; rw [if_neg ha], show q.arm n p = q by unfold DSt.arm; rw [if_neg ha]]
    clear ha
    by_cases c1 : n < 0
    · have t1 : decide (n < 0) = true := decide_eq_true c1
      go_enter Tryz.func16, Tryz.ntmps16
      go_wp2_with fail
      go_ret
      exact ⟨rfl, H.out, OnlyTwo.refl _ _ _⟩
    · have t1 : decide (n < 0) = false := decide_eq_false c1
      by_cases c2 : 100000 < n
      · have t2 : decide (100000 < n) = true := decide_eq_true c2
        go_enter Tryz.func16, Tryz.ntmps16
        go_wp2_with fail
        go_ret
        exact ⟨rfl, H.out, OnlyTwo.refl _ _ _⟩
      · have t2 : decide (100000 < n) = false := decide_eq_false c2
        by_cases c3 : p < 0
        · have t3 : decide (p < 0) = true := decide_eq_true c3
          go_enter Tryz.func16, Tryz.ntmps16
          go_wp2_with fail
          go_ret
          exact ⟨rfl, H.out, OnlyTwo.refl _ _ _⟩
        · have t3 : decide (p < 0) = false := decide_eq_false c3
          have t4 : decide (256 < p) = true := decide_eq_true (by omega)
          go_enter Tryz.func16, Tryz.ntmps16
          go_wp2_with fail
          go_ret
          exact ⟨rfl, H.out, OnlyTwo.refl _ _ _⟩
/-- A sector is written. -/
theorem DocAt.row {w : World} {g r : Nat} {q : DSt} (h : DocAt w g r q) (i : Nat) (x : ByteArray) (hi : i < q.S.length) : DocAt (w.setCell ⟨r, i, none⟩ (.string x)) g r ⟨q.S.set i x, q.dead, q.armed, q.n, q.part, q.writes⟩ := by
  obtain ⟨c, h1, h2, h3, h4⟩ := h
  refine ⟨c, by rw [List.length_set]; exact h1, ?_, ?_, h4⟩
  · show World.rowIs _ _ _ _ (dcell (.slice (some ⟨r, 0, none⟩) (q.S.set i x).length c) _)
    rw [List.length_set]
    exact h2.setOther h4 _
  · show Over _ _ _ (q.S.set i x).length _
    rw [List.length_set]
    refine h3.set i _ (fun j hj => ?_)
    show Value.string ((q.S.set i x).getD j none_) = _
    rw [getD_set]
    by_cases hij : i = j
    · rw [if_pos ⟨hij, hi⟩, if_pos hij.symm]
    · rw [if_neg (fun e => hij e.1), if_neg (fun e => hij e.symm)]
theorem Over.frozenD {w : World} {g r : Nat} {q : DSt} (h : DocAt w g r q) (i : Nat) (hi : i < q.S.length) : w.cell? ⟨r, i, none⟩ = some (.string (q.S.getD i none_)) ∧ w.frozen? ⟨r, i, none⟩ = false := by
  obtain ⟨c, h1, h2, h3, h4⟩ := h
  exact ⟨h3.cell hi, h3.frozen i⟩
def DocDid (q' : DSt) (e : Int) (g r : Nat) (w : World) (x : Ending) (w' : World) : Prop := x = .returned (.int .i64 e) ∧ DocAt w' g r q' ∧ OnlyTwo g r w w'
theorem write_dead (q : DSt) (g r : Nat) (i : Int) (s : ByteArray) (w : World) (h : DocAt w g r q) (hd : q.dead = true) :
    Calls Tryz.prog 23 #[.pointer (some ⟨g, 0, none⟩), .int .i64 i, .string s] w (DocDid q 74 g r w) := by
  obtain ⟨c, hlc, a0, a1, a2, a3, a4, a5, fz⟩ := doc_cells h
  have hlt := h.lt.1
  have hlr := h.lt.2
  have H := Lib.hid h
  rw [hd] at a1
  unfold DocDid
  go_enter Tryz.func23, Tryz.ntmps23
  go_wp2_with fail
  go_ret
  exact ⟨rfl, H.out, OnlyTwo.refl _ _ _⟩
theorem write_not (q : DSt) (g r : Nat) (i : Int) (s : ByteArray) (w : World) (h : DocAt w g r q) (hd : q.dead = false) (hn : ¬ ((0 ≤ i ∧ i < q.S.length) ∧ s.size = 256)) :
    Calls Tryz.prog 23 #[.pointer (some ⟨g, 0, none⟩), .int .i64 i, .string s] w (DocDid q 1 g r w) := by
  obtain ⟨c, hlc, a0, a1, a2, a3, a4, a5, fz⟩ := doc_cells h
  have hlt := h.lt.1
  have hlr := h.lt.2
  have H := Lib.hid h
  rw [hd] at a1
  unfold DocDid
  by_cases c1 : i < 0
  · have t1 : decide (i < 0) = true := decide_eq_true c1
    clear hd
    go_enter Tryz.func23, Tryz.ntmps23
    go_wp2_with fail
    go_ret
    exact ⟨rfl, H.out, OnlyTwo.refl _ _ _⟩
  · obtain ⟨j, rfl⟩ : ∃ j : Nat, i = j := ⟨i.toNat, by omega⟩
    have t1 : decide ((j : Int) < 0) = false := decide_eq_false c1
    by_cases c2 : q.S.length ≤ j
    · have t2 : decide (q.S.length ≤ j) = true := decide_eq_true c2
      clear hd
      go_enter Tryz.func23, Tryz.ntmps23
      go_wp2_with fail
      go_ret
      exact ⟨rfl, H.out, OnlyTwo.refl _ _ _⟩
    · have t2 : decide (q.S.length ≤ j) = false := decide_eq_false c2
      have t3 : ((s.size : Int) != 256) = true := by rw [bne_iff_ne]; omega
      clear hd
      go_enter Tryz.func23, Tryz.ntmps23
      go_wp2_with fail
      go_ret
      exact ⟨rfl, H.out, OnlyTwo.refl _ _ _⟩
set_option maxHeartbeats 1000000 in
theorem write_put (q : DSt) (g r j : Nat) (s : ByteArray) (w : World) (k m : Nat) (h : DocAt w g r q) (hf : q.Fit k m) (hm : m ≤ 1000000000) (hd : q.dead = false) (hj : j < q.S.length) (hs : s.size = 256) (hq : q.dies = false) :
    Calls Tryz.prog 23 #[.pointer (some ⟨g, 0, none⟩), .int .i64 (j : Nat), .string s] w (DocDid (q.put j s) 0 g r w) := by
  obtain ⟨c, hlc, a0, a1, a2, a3, a4, a5, fz⟩ := doc_cells h
  have hlt := h.lt.1
  have hlr := h.lt.2
  have H := Lib.hid h
  have f3 := fz 3
  have f5 := fz 5
  obtain ⟨aj, fj⟩ := Over.frozenD h j hj
  have hgr : ¬ g = r := by obtain ⟨_, _, _, _, e⟩ := h; exact e
  have hrg : ¬ r = g := fun e => hgr e.symm
  have hn := hf.n
  have hw := hf.writes
  rw [hd] at a1
  unfold DocDid
  have t1 : decide ((j : Int) < 0) = false := decide_eq_false (by omega)
  have t2 : decide (q.S.length ≤ j) = false := decide_eq_false (by omega)
  have t3 : ((s.size : Int) != 256) = false := by rw [hs]; rfl
  have i5 : IntKind.i64.wrap ((q.writes : Int) + 1) = (q.writes : Int) + 1 := IntWalk.i64_in _ (by omega)
  cases ha : q.armed with
  | false =>
    have HP : Hid (q.put j s = ⟨q.S.set j s, q.dead, q.armed, q.n, q.part, q.writes + 1⟩) := show _ = _ by unfold DSt.put; rw [if_neg (by rw [ha]; decide)]; rfl
    rw [ha] at a2
    rw [HP.out]
    clear hf hq
    go_enter Tryz.func23, Tryz.ntmps23
    go_wp2_with fail
    go_ret
    exact ⟨rfl, (H.out.row j s hj).set 5 _ rfl (fun c j hj => by
      match j, hj with
      | 0, _ | 1, _ | 2, _ | 3, _ | 4, _ | 5, _ => rfl), ((OnlyTwo.refl g r w).set (Or.inr rfl) _).set (Or.inl rfl) _⟩
  | true =>
    have hq0 : ¬ q.n = 0 := fun e => by
      unfold DSt.dies at hq
      rw [ha, e] at hq
      cases hq
    have t4 : (q.n == 0) = false := by rw [beq_eq_false_iff_ne]; exact hq0
    have i3 : IntKind.i64.wrap (q.n - 1) = q.n - 1 := IntWalk.i64_in _ (by omega)
    have HP : Hid (q.put j s = ⟨q.S.set j s, q.dead, q.armed, q.n - 1, q.part, q.writes + 1⟩) := show _ = _ by unfold DSt.put; rw [if_pos ha]; rfl
    rw [ha] at a2
    rw [HP.out]
    clear hf hq
    go_enter Tryz.func23, Tryz.ntmps23
    go_wp2_with fail
    go_ret
    exact ⟨rfl, ((H.out.set (q' := ⟨q.S, q.dead, q.armed, q.n - 1, q.part, q.writes⟩) 3 _ rfl (fun c j hj => by
      match j, hj with
      | 0, _ | 1, _ | 2, _ | 3, _ | 4, _ | 5, _ => rfl)).row j s hj).set 5 _ rfl (fun c j hj => by
      match j, hj with
      | 0, _ | 1, _ | 2, _ | 3, _ | 4, _ | 5, _ => rfl), (((OnlyTwo.refl g r w).set (Or.inl rfl) _).set (Or.inr rfl) _).set (Or.inl rfl) _⟩
set_option maxHeartbeats 1000000 in
theorem write_cut (q : DSt) (g r j : Nat) (s : ByteArray) (w : World) (k m : Nat) (h : DocAt w g r q) (hf : q.Fit k m) (hd : q.dead = false) (hj : j < q.S.length) (hs : s.size = 256) (hq : q.dies = true) :
    Calls Tryz.prog 23 #[.pointer (some ⟨g, 0, none⟩), .int .i64 (j : Nat), .string s] w (DocDid (q.cut j s) 74 g r w) := by
  obtain ⟨c, hlc, a0, a1, a2, a3, a4, a5, fz⟩ := doc_cells h
  have hlt := h.lt.1
  have hlr := h.lt.2
  have H := Lib.hid h
  have f1 := fz 1
  have f2 := fz 2
  obtain ⟨aj, fj⟩ := Over.frozenD h j hj
  have hgr : ¬ g = r := by obtain ⟨_, _, _, _, e⟩ := h; exact e
  have hrg : ¬ r = g := fun e => hgr e.symm
  have hp := hf.part
  have hx := hf.size j (by rw [← hf.len]; exact hj)
  unfold DSt.dies at hq
  simp only [Bool.and_eq_true, decide_eq_true_iff] at hq
  rw [hd] at a1
  rw [hq.1] at a2
  rw [hq.2] at a3
  obtain ⟨P, hP⟩ : ∃ P : Nat, q.part = P := ⟨q.part.toNat, by omega⟩
  rw [hP] at a4 hp
  unfold DocDid
  have t1 : decide ((j : Int) < 0) = false := decide_eq_false (by omega)
  have t2 : decide (q.S.length ≤ j) = false := decide_eq_false (by omega)
  have t3 : ((s.size : Int) != 256) = false := by rw [hs]; rfl
  have HP : Hid (q.cut j s = ⟨q.S.set j (s.extract 0 P ++ (q.S.getD j none_).extract P 256), true, false, q.n, q.part, q.writes⟩) := show _ = _ by
    unfold DSt.cut torn DSt.text
    rw [hP]; rfl
  rw [HP.out]
  have sz1 : (s.extract 0 P).size = P := by rw [ByteArray.size_extract]; omega
  have sz2 : ((q.S.getD j none_).extract P 256).size = 256 - P := by rw [ByteArray.size_extract]; omega
  have z1 : ¬ (9223372036854775807 < (s.extract 0 P).size + ((q.S.getD j none_).extract P 256).size) := by omega
  have P0 : (0 : Int) ≤ P := by omega
  have P1 : (P : Int) ≤ s.size := by omega
  have P2 : (P : Int) ≤ (q.S.getD j none_).size := by omega
  have hy : (q.S.getD j none_).size = 256 := hx
  clear hf hq HP hx
  generalize q.S.getD j none_ = y at *
  go_enter Tryz.func23, Tryz.ntmps23
  go_wp2_with fail
  go_region
  go_wp2_with fail
  go_ret
  have e0 := H.out.row j (s.extract 0 P ++ y.extract P 256) hj
  have e1 : DocAt (w.setCell ⟨r, j, none⟩ (.string (s.extract 0 P ++ y.extract P 256))).drew g r ⟨q.S.set j (s.extract 0 P ++ y.extract P 256), q.dead, q.armed, q.n, q.part, q.writes⟩ := e0
  exact ⟨rfl, (e1.set (q' := ⟨q.S.set j (s.extract 0 P ++ y.extract P 256), true, q.armed, q.n, q.part, q.writes⟩) 1 _ rfl (fun c j hj => by
    match j, hj with
    | 0, _ | 1, _ | 2, _ | 3, _ | 4, _ | 5, _ => rfl)).set 2 _ rfl (fun c j hj => by
    match j, hj with
    | 0, _ | 1, _ | 2, _ | 3, _ | 4, _ | 5, _ => rfl), ((((OnlyTwo.refl g r w).set (Or.inr rfl) _).drewN 1).set (Or.inl rfl) _).set (Or.inl rfl) _⟩
theorem r_write (q : DSt) (g r : Nat) (i : Int) (s : ByteArray) (w : World) (k m : Nat) (h : DocAt w g r q) (hf : q.Fit k m) (hm : m ≤ 1000000000) :
    Calls Tryz.prog 23 #[.pointer (some ⟨g, 0, none⟩), .int .i64 i, .string s] w (DocDid (q.write i s) (q.writeE i s) g r w) := by
  by_cases hd : q.dead = true
  · have hg : ¬ q.goes i s = true := fun e => by have := (goes_iff.1 e).1; rw [hd] at this; cases this
    rw [show q.write i s = q by unfold DSt.write; rw [if_neg hg], show q.writeE i s = 74 by unfold DSt.writeE; rw [if_pos hd]]
    exact write_dead q g r i s w h hd
  · have hd2 : q.dead = false := by rwa [Bool.not_eq_true] at hd
    by_cases hg : q.goes i s = true
    · obtain ⟨-, hi, hs⟩ := goes_iff.1 hg
      obtain ⟨j, rfl⟩ : ∃ j : Nat, i = j := ⟨i.toNat, by omega⟩
      cases hq : q.dies with
      | true =>
        rw [show q.write j s = q.cut j s by unfold DSt.write; rw [if_pos hg, if_pos hq], show q.writeE j s = 74 by unfold DSt.writeE; rw [if_neg hd, if_pos hg, if_pos hq]]
        exact write_cut q g r j s w k m h hf hd2 (by omega) hs hq
      | false =>
        rw [show q.write j s = q.put j s by unfold DSt.write; rw [if_pos hg, if_neg (by rw [hq]; decide)], show q.writeE j s = 0 by unfold DSt.writeE; rw [if_neg hd, if_pos hg, if_neg (by rw [hq]; decide)]]
        exact write_put q g r j s w k m h hf hm hd2 (by omega) hs hq
    · rw [show q.write i s = q by unfold DSt.write; rw [if_neg hg], show q.writeE i s = 1 by unfold DSt.writeE; rw [if_neg hd, if_neg hg]]
      exact write_not q g r i s w h hd2 (fun e => hg (goes_iff.2 ⟨hd2, e.1, e.2⟩))
end Go.Proofs.YtndanhacmfhlaaaGreat.Disk
namespace Go.Proofs.YtndanhacmfhlaaaGreat.Disk
open Go.ChangeShapes Go.WideShapes Go.ChangeAt Go.RowKit Go.Deep Slice Els Nul

theorem str_info : ∃ i, Tryz.prog.info? 9 = some i ∧ i.zero = some (.string ⟨#[]⟩) ∧ i.size = 1 ∧ i.bytes = 16 := by
  have h : (Tryz.prog.info? 9).map (fun i => (i.zero, i.size, i.bytes)) = some (some (.string ⟨#[]⟩), 1, 16) := by kernel_rfl
  obtain ⟨i, hi, e⟩ := Option.map_eq_some_iff.1 h
  simp only [Prod.mk.injEq] at e
  exact ⟨i, hi, e.1, e.2.1, e.2.2⟩
theorem rnew_bad (n : Int) (w : World) (hn : ¬ (1 ≤ n ∧ n ≤ 4096)) : Calls Tryz.prog 7 #[.int .i64 n] w fun e w' => e = .returned (.tuple #[.pointer none, .int .i64 1]) ∧ w = w' := by
  by_cases c1 : n < 1
  · have t1 : decide (n < 1) = true := decide_eq_true c1
    go_enter Tryz.func7, Tryz.ntmps7
    go_wp2_with fail
    go_ret2
    exact ⟨rfl, rfl⟩
  · have t1 : decide (n < 1) = false := decide_eq_false c1
    have t2 : decide (4096 < n) = true := decide_eq_true (by omega)
    go_enter Tryz.func7, Tryz.ntmps7
    go_wp2_with fail
    go_ret2
    exact ⟨rfl, rfl⟩
theorem r_new (k : Nat) (w : World) (h1 : 1 ≤ k) (h2 : k ≤ 4096) : Calls Tryz.prog 7 #[.int .i64 (k : Nat)] w fun e w' => ∃ g r, e = .returned (.tuple #[.pointer (some ⟨g, 0, none⟩), .int .i64 0]) ∧ DocAt w' g r (newD k) ∧ Below w.heap.size w w' ∧ w.heap.size ≤ g ∧ w.heap.size ≤ r := by
  have t1 : decide ((k : Int) < 1) = false := decide_eq_false (by omega)
  have t2 : decide ((4096 : Int) < k) = false := decide_eq_false (by omega)
  have hmk0 : ∀ W : World, (Instr.makeSlice 66 (.int .i64 256) (.int .i64 256)).run Tryz.prog W = .ok (.slice (some ⟨W.heap.size, 0, none⟩) 256 256) (W.alloc (.cells (madeCells #[.int .u8 0] 256) 5)) := make_bytes 256 (by decide)
  have cv0 : ∀ W : World, (convert 66 9 (.slice (some ⟨W.heap.size, 0, none⟩) 256 256)).run Tryz.prog (W.alloc (.cells (madeCells #[.int .u8 0] 256) 5)) = .ok (.string zero256) (W.alloc (.cells (madeCells #[.int .u8 0] 256) 5)) := made_text 256
  have cv1 : ∀ W : World, (convert 66 9 (.slice (some ⟨W.heap.size, 0, none⟩) 256 256)).run Tryz.prog (W.alloc (.cells (madeCells #[.int .u8 0] 256) 5)).drew = .ok (.string zero256) (W.alloc (.cells (madeCells #[.int .u8 0] 256) 5)).drew := made_text_drew 256
  generalize madeCells #[.int .u8 0] 256 = MC at *
  obtain ⟨j0, hj0, hj1, hj2, hj3⟩ := str_info
  have HJ := Lib.hid hj0
  have HY0 := Lib.hid hj1
  have HY1 := Lib.hid hj2
  have HY2 := Lib.hid hj3
  clear hj0 hj1 hj2 hj3
  go_enter Tryz.func7, Tryz.ntmps7
  go_wp2_with fail
  obtain ⟨g, hg⟩ : ∃ g, g = w.heap.size := ⟨_, rfl⟩
  have R0 := Lib.hid (World.rowIs_alloc w #[.slice none 0 0, .bool false, .bool false, .int .i64 0, .int .i64 0, .int .i64 0] 52 (dcell (.slice none 0 0) (newD 0)) (fun i hi => by
      match i, hi with
      | 0, _ | 1, _ | 2, _ | 3, _ | 4, _ | 5, _ => rfl))
  have B0 := Lib.hid ((Below.refl w.heap.size w).alloc (Nat.le_refl _) (.cells #[.slice none 0 0, .bool false, .bool false, .int .i64 0, .int .i64 0, .int .i64 0] 52))
  have hsz : (w.alloc (.cells #[.slice none 0 0, .bool false, .bool false, .int .i64 0, .int .i64 0, .int .i64 0] 52)).heap.size = g + 1 := by rw [hg]; simp
  generalize w.alloc (.cells #[.slice none 0 0, .bool false, .bool false, .int .i64 0, .int .i64 0, .int .i64 0] 52) = w1 at *
  rw [← hg] at R0 ⊢
  have HG := Lib.hid hg
  clear hg
  go_loopw [5] (fun t wr => ∃ (i : Nat) (V : Value), i ≤ k ∧ t = .int .i64 i ∧ Hid (wr.rowIs g 52 6 (dcell V (newD 0))) ∧ Hid (wr.ownsRow (g + 1) 9 1 V i (List.replicate i (.string zero256))) ∧ Hid (Below w.heap.size w wr) ∧ Hid (g + 1 ≤ wr.heap.size)) (fun t _ => k - (intOf t).toNat)
  case atStart => exact ⟨0, .slice none 0 0, Nat.zero_le _, rfl, R0, World.ownsRow_nil _ _ _ _, B0, Nat.le_of_eq hsz.symm⟩
  case round =>
    obtain ⟨i, V, hi, rfl, HR, HO, HW, HS⟩ := hrel
    obtain ⟨A, c, rfl⟩ := Slice.own_slice HO.out
    have a0 : wr.cell? ⟨g, 0, none⟩ = some (.slice A i c) := HR.out.cell (by decide)
    by_cases hlt : i < k
    · have u0 : decide ((i : Int) < (k : Int)) = true := decide_eq_true (by omega)
      have hgl := HR.out.lt
      have hsl := HS.out
      have OWN0 := HO.out
      go_wp2_with fail
      have HRW : (wr.alloc (.cells MC 5)).drew.rowIs g 52 6 (dcell (.slice A i c) (newD 0)) := (HR.out.alloc _).drew
      have HRW := Lib.hid HRW
      have BW : Hid (Below w.heap.size w (wr.alloc (.cells MC 5)).drew) := show Below _ _ _ from by
        have h := HW.out.alloc HW.out.size (.cells MC 5)
        exact ⟨h.os, h.tape, h.output, h.size, h.block⟩
      have SW : Hid (g + 1 ≤ (wr.alloc (.cells MC 5)).drew.heap.size) := show g + 1 ≤ (wr.alloc (.cells MC 5)).heap.size from by simp; omega
      have OWN1 := Lib.hid (show (wr.alloc (.cells MC 5)).drew.ownsRow (g + 1) 9 1 (.slice A i c) i (List.replicate i (.string zero256)) from World.ownsRow.drew (World.ownsRow.alloc OWN0 _))
      clear OWN0
      go_region_law
        (refine step_one (W := (wr.alloc (.cells MC 5)).drew) rfl (.tmp 23) (.tmp 26) _ rfl (g + 1) 9 j0 (.string ⟨#[]⟩) 16 Tryz.underlying50 HJ.out HY0.out HY1.out HY2.out rfl 9 (.string zero256) rfl (.slice A i c) i _ (by rfl) OWN1.out _ (by rfl) (by simp) (by unfold maxLen; omega) (by omega) (by simp; omega) ?_
         intro v' w' ho hgr
         obtain ⟨A2, c2, rfl⟩ := Slice.own_slice ho
         have hnb : (Value.slice A i c).ownBlock ≠ some g := fun e => by
           have := (OWN1.out.lt g e).1
           omega
         have R2 := HRW.out.of_block (hgr.block g HRW.out.lt (fun e => hnb e.symm))
         have c0 : w'.cell? ⟨g, 0, none⟩ = some (.slice A i c) := R2.cell (by decide)
         have f0 := R2.frozen 0
         have l0 := R2.lt
         have HR2 := Lib.hid R2
         have HO2 := Lib.hid ho
         have HB2 := Lib.hid (show Below w.heap.size w w' from below_row (a := w) BW.out (by have := HG.out; omega) OWN1.out hgr)
         have HS2 := Lib.hid (Nat.le_trans SW.out hgr.size)
         clear R2 ho hgr hnb)
      all_goals
        have HO3 := ownsRow_setCell_below HO2.out (a := ⟨g, 0, none⟩) (Nat.lt_succ_self g) (Value.slice A2 (i + 1) c2)
        rw [show List.replicate i (Value.string zero256) ++ [Value.string zero256] = List.replicate (i + 1) (Value.string zero256) from (List.replicate_succ' ..).symm] at HO3
        have HO3 := Lib.hid HO3
        have HR3 : World.rowIs _ g 52 6 (dcell (.slice A2 (i + 1) c2) (newD 0)) := (HR2.out.set 0 (.slice A2 (i + 1) c2)).congr (fun j hj => by
          match j, hj with
          | 0, _ | 1, _ | 2, _ | 3, _ | 4, _ | 5, _ => rfl)
        have HR3 := Lib.hid HR3
        have HB3 := Lib.hid (HB2.out.setCell (p := ⟨g, 0, none⟩) (Nat.le_of_eq HG.out.symm) (Value.slice A2 (i + 1) c2))
        have HS3 : Hid (g + 1 ≤ (w'.setCell ⟨g, 0, none⟩ (Value.slice A2 (i + 1) c2)).heap.size) := show g + 1 ≤ _ by rw [nblk_setCell]; exact HS2.out
        clear HR2 HO2 HB2 HS2 c0 f0 l0
        go_wp2_with fail
        go_roundw
        case rel => exact ⟨i + 1, .slice A2 (i + 1) c2, by omega, by go_num, HR3, HO3, HB3, HS3⟩
        case measure => simp [intOf]; omega
    · obtain rfl : i = k := by omega
      have u0 : decide ((i : Int) < (i : Int)) = false := decide_eq_false (by omega)
      go_wp2_with fail
      go_ret2
      obtain ⟨r, c', e, hr, hov⟩ := Over.of_own (X := fun j => .string ((newD i).S.getD j none_)) HO.out (by omega) (fun j hj => by
        show _ = some (Value.string ((List.replicate i zero256).getD j none_))
        rw [List.getElem?_replicate, if_pos hj, List.getD_eq_getElem?_getD, List.getElem?_replicate, if_pos hj]; rfl)
      injection e with e1 e2 e3
      subst e1 e3
      have hlen : (newD i).S.length = i := by unfold newD; simp
      have hic : i ≤ c := by
        obtain ⟨-, ⟨q, -⟩ | ⟨g', cap, cur, q, -, -, hnc, -⟩⟩ := HO.out
        · cases q
        · injection q with q1 q2 q3
          omega
      refine ⟨g, r, rfl, ⟨c, by rw [hlen]; exact hic, ?_, by rw [hlen]; exact hov, by omega⟩, HW.out, Nat.le_of_eq HG.out.symm, by have := HG.out; omega⟩
      rw [hlen]
      exact HR.out.congr (fun j hj => by
        match j, hj with
        | 0, _ | 1, _ | 2, _ | 3, _ | 4, _ | 5, _ => rfl)
end Go.Proofs.YtndanhacmfhlaaaGreat.Disk
namespace Go.Proofs.YtndanhacmfhlaaaGreat.Disk
open Go.ChangeShapes Go.WideShapes Go.ChangeAt Go.RowKit Go.Deep

structure OnlyF (F : Nat → Prop) (w w' : World) : Prop where
  os : w'.os = w.os
  tape : w'.tape = w.tape
  output : w'.output = w.output
  size : w.heap.size ≤ w'.heap.size
  block : ∀ i, i < w.heap.size → ¬ F i → w'.heap[i]? = w.heap[i]?
theorem OnlyF.refl (F : Nat → Prop) (w : World) : OnlyF F w w := ⟨rfl, rfl, rfl, Nat.le_refl _, fun _ _ _ => rfl⟩
theorem OnlyF.of_below {F : Nat → Prop} {w w' : World} (h : Below w.heap.size w w') : OnlyF F w w' := ⟨h.os, h.tape, h.output, h.size, fun i hi _ => h.block i hi⟩
theorem OnlyF.trans {F : Nat → Prop} {w w' w'' : World} (h : OnlyF F w w') (k : OnlyF F w' w'') : OnlyF F w w'' :=
  ⟨k.os.trans h.os, k.tape.trans h.tape, k.output.trans h.output, Nat.le_trans h.size k.size, fun i hi hf => (k.block i (Nat.lt_of_lt_of_le hi h.size) hf).trans (h.block i hi hf)⟩
theorem OnlyF.drewN {F : Nat → Prop} {w w' : World} (h : OnlyF F w w') (n : Nat) : OnlyF F w (w'.drewN n) := ⟨h.os, h.tape, h.output, h.size, h.block⟩
theorem OnlyF.set {F : Nat → Prop} {b i : Nat} {w w' : World} (h : OnlyF F w w') (hb : F b) (v : Value) : OnlyF F w (w'.setCell ⟨b, i, none⟩ v) :=
  ⟨h.os, h.tape, h.output, by rw [nblk_setCell]; exact h.size, fun j hj h1 => (blk_setCell_other _ _ _ _ (fun e => h1 (by rw [show j = b from e]; exact hb))).trans (h.block j hj h1)⟩
theorem only_far {B : Nat} {F : Nat → Prop} {w w1 w2 : World} (h : Below B w w1) (ho : OnlyF F w1 w2) (hF : ∀ i, F i → B ≤ i) (hs : B ≤ w1.heap.size) : Below B w w2 :=
  ⟨ho.os.trans h.os, ho.tape.trans h.tape, ho.output.trans h.output, Nat.le_trans h.size ho.size, fun i hi => (ho.block i (by omega) (fun hf => by have := hF i hf; omega)).trans (h.block i hi)⟩
theorem two_far {B g r : Nat} {w w1 w2 : World} (h : Below B w w1) (ho : OnlyTwo g r w1 w2) (hg : B ≤ g) (hr : B ≤ r) (hs : B ≤ w1.heap.size) : Below B w w2 :=
  ⟨ho.os.trans h.os, ho.tape.trans h.tape, ho.output.trans h.output, Nat.le_trans h.size ho.size, fun i hi => (ho.block i (by omega) (by omega) (by omega)).trans (h.block i hi)⟩
end Go.Proofs.YtndanhacmfhlaaaGreat.Disk
