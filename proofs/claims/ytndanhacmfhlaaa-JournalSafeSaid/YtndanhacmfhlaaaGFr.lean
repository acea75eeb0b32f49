/- The document's own Size, number, Num. The document's own Make. The document's own Read. annuitykeep.Texts of two slices that read as the same texts. -/
import Derived.Test.YtndanhacmfhlaaaGBase
import Derived.Test.YtndanhacmfhlaaaGPack
import Derived.Deep.DeepCutAuto
import Derived.Test.YtndanhacmfhlaaaGA
import Derived.Deep.RegionHeld3
import Derived.Laws.DeepStrings4
import Derived.Deep.WholeRow
import Derived.Laws.CopyOwn
import Derived.Test.YtndanhacmfhlaaaChecked
import Derived.Lib.Hide
import Derived.Deep.QuietTactic
import Derived.BigQuiet
namespace Go.Proofs.Ytndanhacmfhlaaa.Frame
open Go.ChangeShapes Go.WideShapes Go.ChangeAt Go.RowKit Pack Crc

theorem text_apart {s t : ByteArray} (h : s ≠ t) : ¬ s.toList = t.toList := fun e => h (Go.WideShapes.bytes_inj (by rw [← ByteArray.toList_eq, ← ByteArray.toList_eq]; exact e))
theorem text_ne {s t : ByteArray} (h : s ≠ t) : (s.toList == t.toList) = false := by rw [beq_eq_false_iff_ne]; exact text_apart h
theorem text_eq {s t : ByteArray} (h : s = t) : (s.toList == t.toList) = true := by rw [h]; simp
end Go.Proofs.Ytndanhacmfhlaaa.Frame
namespace Go.Proofs.Ytndanhacmfhlaaa.Frame
open Go.ChangeShapes Go.WideShapes Go.ChangeAt Go.RowKit Pack Crc Els

theorem below_on {a b c : World} (h : Below a.heap.size a b) (k : Below b.heap.size b c) : Below a.heap.size a c := h.trans (k.mono h.size)
theorem str_info : ∃ i, Try.prog.info? 9 = some i ∧ i.zero = some (.string ⟨#[]⟩) ∧ i.size = 1 ∧ i.bytes = 16 := by
  have h : (Try.prog.info? 9).map (fun i => (i.zero, i.size, i.bytes)) = some (some (.string ⟨#[]⟩), 1, 16) := by kernel_rfl
  obtain ⟨i, hi, e⟩ := Option.map_eq_some_iff.1 h
  simp only [Prod.mk.injEq] at e
  exact ⟨i, hi, e.1, e.2.1, e.2.2⟩
theorem nulls_text {w : World} {g k : Nat} {T : TypeId} (h : w.rowIs g T k (fun _ => .int .u8 0)) {P : Program} (src dst : TypeId) (hs : P.underlying src = some (.slice T)) (he : P.underlying T = some (.int .u8)) (hd : P.underlying dst = some .string) :
    (convert src dst (.slice (some ⟨g, 0, none⟩) k k)).run P w = .ok (.string (nulls k)) w := by
  have hl : (List.replicate k (0 : UInt8)).length = k := List.length_replicate
  have := run_convert_bytes_back (P := P) w src dst T ⟨g, 0, none⟩ k (List.replicate k 0) hs he hd (fun j hj => by
    rw [hl] at hj
    rw [Go.WideShapes.add_plain, Nat.zero_add, h.cell hj]
    simp)
  rw [hl] at this
  rw [this]
  unfold nulls
  rw [List.toArray_replicate]
theorem slice_two (s : ByteArray) (x y : Int) (i j : Nat) (hx : x = i) (hy : y = j) (h1 : i ≤ j) (h2 : j ≤ s.size) (W : World) :
    (Instr.slice 9 (.string s) (some (.int .i64 x)) (some (.int .i64 y)) none).run Try.prog W = .ok (.string (s.extract i j)) W := by
  subst hx hy
  rw [run_slice_string_if (P := Try.prog) (w := W) 9 s .i64 .i64 (i : Int) (j : Int) Try.underlying9, if_pos (by omega), if_pos (by omega)]
  simp
def makL (num : Nat) (s : ByteArray) : List ByteArray := if num = 0 ∨ 60000 < s.size then [] else secL num s
def makX (num : Nat) (s : ByteArray) : Int := if num = 0 then 1 else if 60000 < s.size then 2 else 0
def Made (num : Nat) (s : ByteArray) (w : World) (e : Ending) (w' : World) : Prop :=
  ∃ v, e = .returned (.tuple #[v, .int .i64 (makX num s)]) ∧ Txts w' w'.heap.size v (makL num s) ∧ Below w.heap.size w w'
/-- The value v is no slice of memory below block B. -/
def NewAt (B : Nat) (v : Value) : Prop := ∀ a len c, v = .slice (some a) len c → B ≤ a.block
theorem new_nil (B : Nat) : NewAt B (.slice none 0 0) := fun a len c h => by injection h with h; cases h
/-- .. and its sectors are memory of the call's own. -/
def MadeN (num : Nat) (s : ByteArray) (w : World) (e : Ending) (w' : World) : Prop :=
  ∃ v, e = .returned (.tuple #[v, .int .i64 (makX num s)]) ∧ Txts w' w'.heap.size v (makL num s) ∧ Below w.heap.size w w' ∧ NewAt w.heap.size v
theorem MadeN.made {num : Nat} {s : ByteArray} {w w' : World} {e : Ending} (h : MadeN num s w e w') : Made num s w e w' := by
  obtain ⟨v, h1, h2, h3, -⟩ := h
  exact ⟨v, h1, h2, h3⟩
end Go.Proofs.Ytndanhacmfhlaaa.Frame
namespace Go.Proofs.Ytndanhacmfhlaaa.Frame
open Go.ChangeShapes Go.WideShapes Go.ChangeAt Go.RowKit Pack Crc Els

theorem okR_zero {l : List ByteArray} : okR l 0 = false := by
  unfold okR
  rw [decide_eq_false (fun e => e.2.1 rfl), Bool.false_and]
theorem okR_few {l : List ByteArray} {num : Nat} (h : headN l < 1) : okR l num = false := by
  unfold okR
  rw [decide_eq_false (show ¬ (1 ≤ headN l ∧ headN l ≤ l.length) by omega), Bool.false_and, Bool.and_false]
theorem okR_okS {l : List ByteArray} {num i : Nat} (hi : i < headN l) (h : okS num (headN l) i (l.getD i e0) = false) : okR l num = false := by
  have : allB l num = false := by
    unfold allB
    rw [Bool.eq_false_iff]
    intro e
    have := List.all_eq_true.1 e i (List.mem_range.2 hi)
    rw [h] at this
    exact absurd this (by decide)
  unfold okR
  rw [this, Bool.false_and, Bool.and_false, Bool.and_false]
theorem okR_fit {l : List ByteArray} {num : Nat} (h : fitB (bodyL l (headN l)) (headN l) = false) : okR l num = false := by
  unfold okR
  rw [h, Bool.and_false, Bool.and_false, Bool.and_false]
theorem okR_yes {l : List ByteArray} {num : Nat} (h1 : l ≠ [] ∧ num ≠ 0 ∧ numV (l.getD 0 e0) = num) (h2 : 1 ≤ headN l ∧ headN l ≤ l.length) (h3 : ∀ j, j < headN l → okS num (headN l) j (l.getD j e0) = true) (h4 : fitB (bodyL l (headN l)) (headN l) = true) : okR l num = true := by
  have : allB l num = true := by
    unfold allB
    rw [List.all_eq_true]
    exact fun i hi => h3 i (List.mem_range.1 hi)
  unfold okR
  rw [decide_eq_true h1, decide_eq_true h2, this, h4]; rfl
theorem body_next {l : List ByteArray} {i : Nat} (h : i < l.length) : bodyL l (i + 1) = bodyL l i ++ (l.getD i e0).extract 8 252 := by
  unfold bodyL
  have : l.take (i + 1) = l.take i ++ [l.getD i e0] := by rw [List.take_add_one, List.getElem?_eq_getElem h, List.getD_eq_getElem?_getD, List.getElem?_eq_getElem h]; rfl
  rw [this, List.map_append, List.map_singleton, catL_last]
theorem body_size {l : List ByteArray} : ∀ i, i ≤ l.length → (∀ j, j < i → (l.getD j e0).size = 256) → (bodyL l i).size = i * 244
  | 0, _, _ => by unfold bodyL; rw [List.take_zero]; rfl
  | i + 1, h, hz => by
    rw [body_next (by omega), ByteArray.size_append, body_size i (by omega) (fun j hj => hz j (by omega)), ByteArray.size_extract, hz i (by omega)]
    omega
theorem num_whole {b : ByteArray} (h : numV b ≠ 0) : b.size = 256 := by
  unfold numV at h
  split at h
  · rename_i h1; exact h1.1
  · exact absurd rfl h
theorem got_one (s : ByteArray) (n : Int) (q : Bool) : (#[.string s, .int .i64 n, .bool q] : Array Value).all (·.oneCell') = true := by simp [Value.oneCell']
theorem store_row0 {P : Program} {ops : Array Oper} {rest : List Oper} {o : Oper} {a : Act} {w : World} {Q : Exit → Act → World → Prop} (hgd : o.guard = none) (ty : TypeId) (x y : Operand) (ho : o.op = .store ty x y) (hd : o.dst = none)
    (g : Nat) (cells : Array Value) (hx : a.eval x = .pointer (some ⟨g, 0, none⟩)) (hy : a.eval y = .agg cells)
    (t : TypeId) (old : Array Value) (hg : w.heap[g]? = some (.cells old t (0, 0))) (hi : (P.info? ty).map (·.size) = some cells.size)
    (hold : old.size = cells.size) (h1 : cells.all (·.oneCell') = true)
    (h : wpList P ops Q rest a (w.setRow g cells)) : wpList P ops Q (o :: rest) a w :=
  wpList_store_row hgd ty x y ho g cells hx hy t old hg hi hold h1 (by rw [hd]; exact h)
theorem slice_to (s : ByteArray) (y : Int) (j : Nat) (hy : y = j) (h2 : j ≤ s.size) (W : World) :
    (Instr.slice 9 (.string s) none (some (.int .i64 y)) none).run Try.prog W = .ok (.string (s.extract 0 j)) W := by
  subst hy
  rw [run_slice_string_h (P := Try.prog) W 9 s Try.underlying9 .i64 (j : Int) (by omega) (by omega)]
  simp
theorem slice_from (s : ByteArray) (x : Int) (i : Nat) (hx : x = i) (h2 : i ≤ s.size) (W : World) :
    (Instr.slice 9 (.string s) (some (.int .i64 x)) none none).run Try.prog W = .ok (.string (s.extract i s.size)) W := by
  subst hx
  rw [run_slice_string_l (P := Try.prog) W 9 s Try.underlying9 .i64 (i : Int) (by omega) (by omega)]
  simp
theorem fit_not {B : ByteArray} {n z : Nat} (hz : valN B 0 4 = z) (h : ¬ (z ≤ 60000 ∧ sizeN z = n ∧ valN B (4 + z) 4 = sumS (B.extract 0 (4 + z)) ∧ B.extract (8 + z) B.size = nulls (B.size - (8 + z)))) : fitB B n = false := by
  rw [Bool.eq_false_iff]
  intro e
  unfold fitB sumB restB at e
  rw [hz] at e
  simp only [Bool.and_eq_true, decide_eq_true_iff] at e
  exact h ⟨e.1.1, e.1.2, e.2.1, e.2.2⟩
theorem fit_yes {B : ByteArray} {n z : Nat} (hz : valN B 0 4 = z) (h : z ≤ 60000 ∧ sizeN z = n ∧ valN B (4 + z) 4 = sumS (B.extract 0 (4 + z)) ∧ B.extract (8 + z) B.size = nulls (B.size - (8 + z))) : fitB B n = true := by
  unfold fitB sumB restB
  rw [hz, decide_eq_true h.2.2.1, decide_eq_true h.2.2.2, decide_eq_true ⟨h.1, h.2.1⟩]; rfl
theorem sub_val {b : ByteArray} {i j : Nat} (hj : j ≤ b.size) (hi : i ≤ j) : valN (b.extract i j) 0 (j - i) = valN b i (j - i) := by
  have := valN_ext (s := b) (a := i) (j := j) hj (j - i) 0 (by omega)
  simpa using this
def Got (l : List ByteArray) (num : Nat) (w : World) (e : Ending) (w' : World) : Prop :=
  e = .returned (.agg #[.string (readS l num), .int .i64 (readN l num : Nat), .bool (okR l num)]) ∧ Below w.heap.size w w'
end Go.Proofs.Ytndanhacmfhlaaa.Frame
namespace Go.Proofs.Ytndanhacmfhlaaa.Els
open Go.ChangeShapes Go.WideShapes Go.ChangeAt Go.RowKit

theorem texts_same (l : List ByteArray) (v u : Value) (B B' : Nat) (w : World) (hv : Txts w B v l) (hu : Txts w B' u l) :
    Calls Try.prog 14 #[v, u] w fun e w' => e = .returned (.bool true) ∧ ∃ n, w' = w.drewN n := by
  obtain ⟨A, c, rfl, hl, -, hcell⟩ := hv
  obtain ⟨A', c', rfl, -, -, hcell'⟩ := hu
  have HC := Lib.hid hcell
  have HC' := Lib.hid hcell'
  clear hcell hcell'
  go_enter Try.func14, Try.ntmps14
  go_wp2_with fail
  go_loopw [5] (fun t wr => ∃ j : Nat, j ≤ l.length ∧ t = .int .i64 j ∧ ∃ n, wr = w.drewN n) (fun t _ => l.length - (intOf t).toNat)
  case atStart => exact ⟨0, Nat.zero_le _, rfl, 0, rfl⟩
  case round =>
    obtain ⟨j, hj, rfl, n, rfl⟩ := hrel
    by_cases hlt : j < l.length
    · obtain ⟨b, off, rfl, hb, hcell⟩ := HC.out (by omega)
      obtain ⟨b', off', rfl, hb', hcell'⟩ := HC'.out (by omega)
      obtain ⟨x, hx0⟩ : ∃ x, l[j]? = some x := ⟨_, List.getElem?_eq_getElem hlt⟩
      have hx := hcell j x hx0
      have hx' := hcell' j x hx0
      clear hcell hcell' hx0
      have h0 : (0 : Int) ≤ j := by omega
      go_wp2_with fail
      go_quiet (fail)
      go_wp2_with fail
      go_roundw
      case rel => exact ⟨j + 1, by omega, by go_num, _, rfl⟩
      case measure => simp [intOf]; omega
    · go_wp2_with fail
      go_ret
      exact ⟨rfl, _, rfl⟩
end Go.Proofs.Ytndanhacmfhlaaa.Els
