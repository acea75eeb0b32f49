/- The program's own package pack: a size, a number's bytes, a text's bytes, a text told anew. The program's own Packer: what lies in memory, a piece more, the panic that is kept within. The program's own Packer: put, and the panic that is kept within. The program's own Packer: Num, Text, at whatever is put. The program's own Packer: Done. The program's own Opener: the bytes, the number, the text that stand next. The program's own Opener: Open, Num, Text, Done, and the panic that is kept within. The program's own package pack: what it does, whatever is put and asked. -/
import Derived.Test.YtndanhacmfhlaaaGreatGPack
import Derived.Defers
import Derived.Recover
import Derived.WalkLawsBesides
import Derived.Lib.UnsafeStr
import Derived.Lib.BufferWrite
import Derived.Laws.MakeOwn
import Derived.Deep.RegionHeld3
import Derived.Deep.DeepCutAuto
import Derived.Laws.BitsAllLaws
namespace Go.Proofs.YtndanhacmfhlaaaGreat.Pack
open Go.ChangeShapes Go.WideShapes Go.ChangeAt Go.RowKit

/-- The panic that tells an error. -/
def errP (e : Int) : List PanicEntry := [{ v := .iface 26 (.int .i64 e), recovered := false }]
theorem p_size_ok (n : Int) (w : World) (h : sizedB n = true) : Calls Tryz.prog 89 #[.int .i64 n] w fun e w' => e = .returned (.tuple #[]) ∧ w = w' := by
  rcases (of_decide_eq_true h : n = 1 ∨ n = 2 ∨ n = 4 ∨ n = 8) with rfl | rfl | rfl | rfl
  all_goals
    go_enter Tryz.func89, Tryz.ntmps89
    go_wp2_with fail
    go_returns
    exact ⟨rfl, rfl⟩
theorem p_size_bad (n : Int) (w : World) (h : sizedB n = false) : Calls Tryz.prog 89 #[.int .i64 n] w fun e w' => e = .panicked (errP 11) ∧ w = w' := by
  have hn : ¬ (n = 1 ∨ n = 2 ∨ n = 4 ∨ n = 8) := of_decide_eq_false h
  have t1 : (n == 1) = false := by rw [beq_eq_false_iff_ne]; omega
  have t2 : (n == 2) = false := by rw [beq_eq_false_iff_ne]; omega
  have t4 : (n == 4) = false := by rw [beq_eq_false_iff_ne]; omega
  have t8 : (n == 8) = false := by rw [beq_eq_false_iff_ne]; omega
  clear h hn
  go_enter Tryz.func89, Tryz.ntmps89
  go_wp2_with fail
  exact ⟨rfl, rfl, rfl⟩
theorem byte_text8 {w : World} {g m v : Nat} {T U : TypeId} (h : w.rowIs g T 8 (byteAt v m)) (hm : m ≤ 8) {P : Program} (src dst : TypeId) (hs : P.underlying src = some (.slice U)) (he : P.underlying U = some (.int .u8)) (hd : P.underlying dst = some .string) :
    (convert src dst (.slice (some ⟨g, 0, none⟩) m 8)).run P w = .ok (.string (lowS v m)) w := by
  have hl : (lowB v m).length = m := by unfold lowB; simp
  have := run_convert_bytes_back (P := P) w src dst U ⟨g, 0, none⟩ 8 (lowB v m) hs he hd (fun j hj => by
    rw [hl] at hj
    rw [Go.WideShapes.add_plain, Nat.zero_add, h.cell (by omega)]
    unfold byteAt
    rw [if_pos hj, low_get])
  rw [hl] at this
  exact this
theorem shift_nat (v i : Nat) : (v : Int) / 2 ^ (8 * i) = ((v / 256 ^ i : Nat) : Int) := by
  rw [show (256 : Nat) = 2 ^ 8 by rfl, ← Nat.pow_mul]
  norm_cast
theorem slice_eight (w : World) (g i : Nat) (hi : i ≤ 8) :
    (Instr.sliceAt 151 (.pointer (some ⟨g, 0, none⟩)) none (some (.int .i64 (i : Int))) none).run Tryz.prog w = .ok (.slice (some ⟨g, 0, none⟩) i 8) w := by
  have al : Tryz.prog.arrayLen 151 = 8 := by kernel_rfl
  have h := run_sliceAt_array_h (P := Tryz.prog) w 151 ⟨g, 0, none⟩ (by kernel_rfl) .i64 (i : Int) (by omega) (by rw [al]; omega)
  rw [al] at h
  rw [h, show (sizeOf (Tryz.prog.elem 151)).run Tryz.prog w = .ok 1 w by kernel_rfl]
  rfl
set_option maxHeartbeats 2000000 in
theorem p_number (v : Nat) (n : Int) (w : World) (hv : v < 18446744073709551616) (h : goesB v n = true) :
    Calls Tryz.prog 102 #[.int .u64 v, .int .i64 n] w fun e w' => e = .returned (.string (lowS v n.toNat)) ∧ Below w.heap.size w w' := by
  have hs : sizedB n = true := by unfold goesB at h; rw [Bool.and_eq_true] at h; exact h.1
  have hlt : v < 256 ^ n.toNat := by unfold goesB at h; rw [Bool.and_eq_true] at h; exact of_decide_eq_true h.2
  have S := fun w => p_size_ok n w hs
  have hm : ∃ m : Nat, n = m ∧ 1 ≤ m ∧ m ≤ 8 := by
    rcases (of_decide_eq_true hs : n = 1 ∨ n = 2 ∨ n = 4 ∨ n = 8) with rfl | rfl | rfl | rfl
    · exact ⟨1, rfl, by omega, by omega⟩
    · exact ⟨2, rfl, by omega, by omega⟩
    · exact ⟨4, rfl, by omega, by omega⟩
    · exact ⟨8, rfl, by omega, by omega⟩
  obtain ⟨m, rfl, m1, m8⟩ := hm
  clear h hs
  have t1 : ((v : Int) / 2 ^ (8 * m) != 0) = false := by
    rw [bne_eq_false_iff_eq, shift_nat, Nat.div_eq_of_lt (by simpa using hlt)]; rfl
  clear hlt
  have HV := Lib.hid hv
  clear hv
  go_enter Tryz.func102, Tryz.ntmps102
  go_wp2_with fail
  refine (S w).mono ?_
  rintro e w' ⟨rfl, rfl⟩
  go_wp2_with fail
  clear S t1
  go_loopw [16] (fun t wr => ∃ i : Nat, i ≤ m ∧ t = .int .i64 i ∧ Hid (wr.rowIs w.heap.size 151 8 (byteAt v i)) ∧ Hid (Below w.heap.size w wr)) (fun t _ => m - (intOf t).toNat)
  case atStart => exact ⟨0, Nat.zero_le _, rfl, World.rowIs_alloc w _ _ _ (fun i hi => by
      match i, hi with
      | 0, _ | 1, _ | 2, _ | 3, _ | 4, _ | 5, _ | 6, _ | 7, _ => rfl), (Below.refl _ _).alloc (Nat.le_refl _) _⟩
  case round =>
    obtain ⟨i, hi, rfl, hr, hb⟩ := hrel
    by_cases hlt : i < m
    · have u0 : decide ((i : Int) < (m : Int)) = true := decide_eq_true (by omega)
      have i0 : (0 : Int) ≤ i := by omega
      have i8 : i < 8 := by omega
      have c0 := hr.out.cell i8
      have f0 := hr.out.frozen i
      have e1 := shift_nat v i
      have HR := Lib.hid (row_next hr.out)
      generalize v / 256 ^ i = x at *
      go_wp2_with fail
      go_roundw
      case rel => exact ⟨i + 1, by omega, by go_num, HR.out, below_set hb.out (Nat.le_refl _) _ _⟩
      case measure => simp [intOf]; omega
    · obtain rfl : i = m := by omega
      have u0 : decide ((i : Int) < (i : Int)) = false := decide_eq_false (by omega)
      have cv := byte_text8 (P := Tryz.prog) hr.out m8 66 9 Tryz.underlying66 Tryz.underlying5 Tryz.underlying9
      have cs := slice_eight wr w.heap.size i m8
      go_wp2_with fail
      go_ret
      exact ⟨rfl, hb.out⟩
theorem p_number_bad (v : Nat) (n : Int) (w : World) (h : goesB v n = false) :
    Calls Tryz.prog 102 #[.int .u64 v, .int .i64 n] w fun e w' => e = .panicked (errP 11) ∧ w = w' := by
  by_cases hs : sizedB n = true
  · have hlt : ¬ v < 256 ^ n.toNat := by
      unfold goesB at h; rw [hs, Bool.true_and] at h; exact of_decide_eq_false h
    have S := fun w => p_size_ok n w hs
    have hm : ∃ m : Nat, n = m ∧ 1 ≤ m ∧ m ≤ 8 := by
      rcases (of_decide_eq_true hs : n = 1 ∨ n = 2 ∨ n = 4 ∨ n = 8) with rfl | rfl | rfl | rfl
      · exact ⟨1, rfl, by omega, by omega⟩
      · exact ⟨2, rfl, by omega, by omega⟩
      · exact ⟨4, rfl, by omega, by omega⟩
      · exact ⟨8, rfl, by omega, by omega⟩
    obtain ⟨m, rfl, m1, m8⟩ := hm
    clear h hs
    have t1 : ((v : Int) / 2 ^ (8 * m) != 0) = true := by
      rw [bne_iff_ne, shift_nat]
      have : 0 < v / 256 ^ m := Nat.div_pos (by simpa using hlt) (Nat.pos_of_neZero _)
      omega
    clear hlt
    go_enter Tryz.func102, Tryz.ntmps102
    go_wp2_with fail
    refine (S w).mono ?_
    rintro e w' ⟨rfl, rfl⟩
    go_wp2_with fail
    exact ⟨rfl, rfl, rfl⟩
  · have S := fun w => p_size_bad n w (by simpa using hs)
    clear h hs
    go_enter Tryz.func102, Tryz.ntmps102
    go_wp2_with fail
    refine (S w).mono ?_
    rintro e w' ⟨rfl, rfl⟩
    go_wp2_with fail
    exact ⟨rfl, rfl, rfl⟩
set_option maxRecDepth 20000 in
/-- A text told anew. -/
theorem p_clone (s : ByteArray) (w : World) (hs : s.size ≤ 200000) :
    Calls Tryz.prog 50 #[.string s] w fun e w' => e = .returned (.string s) ∧ Below w.heap.size w w' := by
  by_cases h0 : s.size = 0
  · have hs : s = ⟨#[]⟩ := by
      apply ByteArray.ext
      exact Array.eq_empty_of_size_eq_zero h0
    subst hs
    go_enter Tryz.func50, Tryz.ntmps50
    go_wp2
    go_ret
    exact ⟨rfl, Below.refl _ _⟩
  · obtain ⟨M, hM⟩ : ∃ M, M = madeCells #[Value.int .u8 0] s.size := ⟨_, rfl⟩
    have hMs : M.size = s.size := by rw [hM, size_madeCells]
    have hmk : ∀ W : World, (Instr.makeSlice 66 (.int .i64 (s.size : Int)) (.int .i64 (s.size : Int))).run Tryz.prog W = .ok (.slice (some ⟨W.heap.size, 0, none⟩) s.size s.size) (W.alloc (.cells M 5)) := fun W => by
      have h := run_make_row' (P := Tryz.prog) 66 5 (.int .u8 0) 1 Tryz.underlying66 u8_info rfl .i64 .i64 s.size (by omega) (by omega) W
      rw [← hM] at h
      exact h
    clear hM
    have hinfo : (Tryz.prog.info? 5).map (·.size) = some 1 := by kernel_rfl
    have hco : Tryz.prog.cellsOf 5 = 1 := by kernel_rfl
    have hcp := Lib.run_copy_row_string (P := Tryz.prog) (w.alloc (.cells M 5)) 66 9 3 5 w.heap.size 0 s.size s.size s M 5 Tryz.underlying66 hinfo (heap_alloc_new w _) (Nat.le_refl _) (by omega)
    obtain ⟨Y, hY⟩ : ∃ Y, Y = (M.toList.take 0 ++ Lib.byteCells s.data.toList ++ M.toList.drop (0 + s.size)).toArray := ⟨_, rfl⟩
    rw [← hY] at hcp
    have hYl : Y.toList = Lib.byteCells s.data.toList := by
      rw [hY, List.toList_toArray, List.take_zero, List.nil_append, List.drop_of_length_le (by rw [Array.length_toList]; omega), List.append_nil]
    have hYs : Y.size = s.size := by rw [← Array.length_toList, hYl, Lib.byteCells_length, ← Lib.size_eq]
    have hgY : ((w.alloc (.cells M 5)).setRow w.heap.size Y).heap[w.heap.size]? = some (.cells Y 5 (0, 0)) := setRow_heap _ _ M _ 5 (0, 0) (heap_alloc_new w _)
    have hne : s.data.toList ≠ [] := fun e => h0 (by rw [Lib.size_eq, e]; rfl)
    have hUS := Lib.run_unsafeString_row (P := Tryz.prog) ((w.alloc (.cells M 5)).setRow w.heap.size Y) 114 3 9 5 Tryz.underlying114 hco w.heap.size Y.size (by unfold World.shape?; rw [hgY]) s.data.toList hne (by rw [← Lib.size_eq]; omega) (by rw [← Lib.size_eq]; omega)
      (fun j x hx => Lib.cells_of_row hgY Y.size j _ (by rw [List.take_of_length_le (by rw [Array.length_toList]; exact Nat.le_refl _), hYl]; simp [Lib.byteCells, hx]))
    rw [← Lib.size_eq] at hUS
    clear hY
    go_enter Tryz.func50, Tryz.ntmps50
    go_wp2
    go_ret
    have hb1 : Below w.heap.size w (w.alloc (.cells M 5)) := (Below.refl _ w).alloc (Nat.le_refl _) _
    have hb2 : Below w.heap.size (w.alloc (.cells M 5)) ((w.alloc (.cells M 5)).setRow w.heap.size Y) := ⟨rfl, rfl, rfl, by simp, fun k hk => setRow_other _ _ _ _ (by omega)⟩
    exact ⟨rfl, Lib.below_freeze (hb1.trans hb2) (p := ⟨w.heap.size, 0, none⟩) (Nat.le_refl _) _⟩
end Go.Proofs.YtndanhacmfhlaaaGreat.Pack
namespace Go.Proofs.YtndanhacmfhlaaaGreat.Pack
open Go.ChangeShapes Go.WideShapes Go.ChangeAt Go.RowKit

/-- Only blocks of F, and new ones, have turned. -/
structure Only (F : Nat → Prop) (w w' : World) : Prop where
  os : w'.os = w.os
  tape : w'.tape = w.tape
  output : w'.output = w.output
  size : w.heap.size ≤ w'.heap.size
  block : ∀ i, i < w.heap.size → ¬ F i → w'.heap[i]? = w.heap[i]?
/-- Pieces, the last one first, together. -/
def catR : List ByteArray → ByteArray
  | [] => ⟨#[]⟩
  | b :: ps => catR ps ++ b
def piece (b : ByteArray) (nxt : Value) (i : Nat) : Value := if i = 0 then .string b else nxt
/-- From v on lie these pieces, each in a block of F. -/
def Chain (w : World) (F : Nat → Prop) : Option Addr → List ByteArray → Prop
  | v, [] => v = none
  | v, b :: ps => ∃ (k : Nat) (nxt : Option Addr), v = some ⟨k, 0, none⟩ ∧ F k ∧ w.rowIs k 144 2 (piece b (.pointer nxt)) ∧ Chain w F nxt ps
theorem Chain.keep {w w' : World} {F F' : Nat → Prop} (hF : ∀ i, F i → F' i) (hk : ∀ i, F i → w'.heap[i]? = w.heap[i]?) : ∀ {v : Option Addr} (ps : List ByteArray), Chain w F v ps → Chain w' F' v ps
  | _, [], h => h
  | _, _ :: ps, ⟨k, nxt, hv, hf, hr, hc⟩ => ⟨k, nxt, hv, hF k hf, hr.of_block (hk k hf), Chain.keep hF hk ps hc⟩
def pkcell (L : Option Addr) (n e : Int) (i : Nat) : Value := if i = 0 then .pointer L else if i = 1 then .int .i64 n else .int .i64 e
/-- At block g stands a packer of these blocks that holds p. -/
def PkAt (w : World) (F : Nat → Prop) (g : Nat) (p : PSt) : Prop :=
  F g ∧ (∀ i, F i → i < w.heap.size) ∧ ∃ (L : Option Addr) (n : Int), w.rowIs g 127 3 (pkcell L n p.e) ∧
    (p.e = 0 → n = p.s.size ∧ p.s.size ≤ 60000 ∧ ∃ ps, (p.s = catR ps ∧ ∀ b ∈ ps, 0 < b.size) ∧ Chain w (fun k => F k ∧ k ≠ g) L ps)
theorem PkAt.lt {w : World} {F : Nat → Prop} {g : Nat} {p : PSt} (h : PkAt w F g p) : ∀ i, F i → i < w.heap.size := h.2.1
theorem PkAt.keep {w w' : World} {F : Nat → Prop} {g : Nat} {p : PSt} (h : PkAt w F g p) (hs : w.heap.size ≤ w'.heap.size) (hk : ∀ i, F i → w'.heap[i]? = w.heap[i]?) : PkAt w' F g p := by
  obtain ⟨h1, h2, L, n, h3, h4⟩ := h
  refine ⟨h1, fun i hi => Nat.lt_of_lt_of_le (h2 i hi) hs, L, n, h3.of_block (hk g h1), fun he => ?_⟩
  obtain ⟨a, b, ps, c, d⟩ := h4 he
  exact ⟨a, b, ps, c, d.keep (fun _ h => h) (fun i hi => hk i hi.1)⟩
/-- A packer that is zero. -/
def pkObj : Obj := .cells #[.pointer none, .int .i64 0, .int .i64 0] 127
theorem pk_zero (w : World) : PkAt (w.alloc pkObj) (fun i => i = w.heap.size) w.heap.size pst0 := by
  refine ⟨rfl, fun i hi => by simp [hi], none, 0, World.rowIs_alloc w _ _ _ (fun i hi => by
      match i, hi with
      | 0, _ | 1, _ | 2, _ => rfl), fun _ => ⟨rfl, Nat.zero_le _, [], ⟨rfl, fun _ h => absurd h (by simp)⟩, rfl⟩⟩
theorem p_add_bad (b : ByteArray) (p : PSt) (g : Nat) (F : Nat → Prop) (w : World) (hp : PkAt w F g p) (he : p.e = 0) (hb : b.size ≤ 200000) (hl : 60000 < p.s.size + b.size) :
    Calls Tryz.prog 109 #[.pointer (some ⟨g, 0, none⟩), .string b] w fun e w' => e = .panicked (errP 2) ∧ w = w' := by
  obtain ⟨h1, h2, L, n, h3, h4⟩ := hp
  obtain ⟨rfl, hs, -⟩ := h4 he
  have t1 : decide ((60000 : Int) < (p.s.size : Int) + b.size) = true := decide_eq_true (by omega)
  have e1 : IntKind.i64.wrap ((p.s.size : Int) + b.size) = (p.s.size : Int) + b.size := IntWalk.i64_in _ (by omega)
  have c1 : w.cell? ⟨g, 1, none⟩ = some (.int .i64 (p.s.size : Int)) := h3.cell (i := 1) (by omega)
  clear h1 h2 h3 h4 he
  go_enter Tryz.func109, Tryz.ntmps109
  go_wp2_with fail
  exact ⟨rfl, rfl, rfl⟩
theorem added {b s : ByteArray} {g : Nat} {F : Nat → Prop} {w : World} {L : Option Addr} {ps : List ByteArray} (h3 : w.rowIs g 127 3 (pkcell L (s.size : Int) 0)) (h1 : F g) (h2 : ∀ i, F i → i < w.heap.size) (hps : s = catR ps ∧ ∀ b ∈ ps, 0 < b.size) (hb0 : 0 < b.size) (hc : Chain w (fun k => F k ∧ k ≠ g) L ps) (hl : s.size + b.size ≤ 60000) :
    PkAt (((w.setCell ⟨g, 0, none⟩ (.pointer (some ⟨w.heap.size, 0, none⟩))).setCell ⟨g, 1, none⟩ (.int .i64 ((s.size : Int) + b.size))).alloc (.cells #[.string b, .pointer L] 144)) (fun i => F i ∨ i = w.heap.size) g ⟨s ++ b, 0⟩ ∧
    Only F w (((w.setCell ⟨g, 0, none⟩ (.pointer (some ⟨w.heap.size, 0, none⟩))).setCell ⟨g, 1, none⟩ (.int .i64 ((s.size : Int) + b.size))).alloc (.cells #[.string b, .pointer L] 144)) ∧ (∀ i, (F i ∨ i = w.heap.size) → F i ∨ w.heap.size ≤ i) := by
  have hg := h2 g h1
  have R : ((w.setCell ⟨g, 0, none⟩ (.pointer (some ⟨w.heap.size, 0, none⟩))).setCell ⟨g, 1, none⟩ (.int .i64 ((s.size : Int) + b.size))).rowIs g 127 3 (pkcell (some ⟨w.heap.size, 0, none⟩) ((s.size : Int) + b.size) 0) :=
    ((h3.set 0 _).set 1 _).congr fun i hi => by
      match i, hi with
      | 0, _ | 1, _ | 2, _ => rfl
  have hsz : ((w.setCell ⟨g, 0, none⟩ (.pointer (some ⟨w.heap.size, 0, none⟩))).setCell ⟨g, 1, none⟩ (.int .i64 ((s.size : Int) + b.size))).heap.size = w.heap.size := by simp [World.setCell]
  have hB : ∀ i, i ≠ g → ((w.setCell ⟨g, 0, none⟩ (.pointer (some ⟨w.heap.size, 0, none⟩))).setCell ⟨g, 1, none⟩ (.int .i64 ((s.size : Int) + b.size))).heap[i]? = w.heap[i]? := fun i hi =>
    (Below.heap_setCell _ ⟨g, 1, none⟩ _ i hi).trans (Below.heap_setCell w ⟨g, 0, none⟩ _ i hi)
  have hos : ((w.setCell ⟨g, 0, none⟩ (.pointer (some ⟨w.heap.size, 0, none⟩))).setCell ⟨g, 1, none⟩ (.int .i64 ((s.size : Int) + b.size))).os = w.os ∧ ((w.setCell ⟨g, 0, none⟩ (.pointer (some ⟨w.heap.size, 0, none⟩))).setCell ⟨g, 1, none⟩ (.int .i64 ((s.size : Int) + b.size))).tape = w.tape ∧ ((w.setCell ⟨g, 0, none⟩ (.pointer (some ⟨w.heap.size, 0, none⟩))).setCell ⟨g, 1, none⟩ (.int .i64 ((s.size : Int) + b.size))).output = w.output := ⟨rfl, rfl, rfl⟩
  generalize (w.setCell ⟨g, 0, none⟩ (.pointer (some ⟨w.heap.size, 0, none⟩))).setCell ⟨g, 1, none⟩ (.int .i64 ((s.size : Int) + b.size)) = W at *
  have hA : ∀ i, i < W.heap.size → (W.alloc (.cells #[.string b, .pointer L] 144)).heap[i]? = W.heap[i]? := fun i hi => Below.heap_alloc _ _ i hi
  refine ⟨⟨Or.inl h1, fun i hi => ?_, some ⟨w.heap.size, 0, none⟩, (s.size : Int) + b.size, R.of_block (hA g (by omega)), fun _ => ⟨by rw [ByteArray.size_append]; omega, by rw [ByteArray.size_append]; omega, b :: ps, ⟨by rw [hps.1]; rfl, fun x hx => by
      rcases List.mem_cons.1 hx with rfl | hx
      · exact hb0
      · exact hps.2 x hx⟩, w.heap.size, L, rfl, ⟨Or.inr rfl, by omega⟩, ?_, ?_⟩⟩, ⟨hos.1, hos.2.1, hos.2.2, by simp [hsz], fun i hi hf => ?_⟩, fun i hi => ?_⟩
  · have : (W.alloc (.cells #[.string b, .pointer L] 144)).heap.size = W.heap.size + 1 := by simp
    rcases hi with hi | hi
    · have := h2 i hi; omega
    · omega
  · rw [← hsz]
    exact World.rowIs_alloc W _ _ _ (fun i hi => by
      match i, hi with
      | 0, _ | 1, _ => rfl)
  · exact hc.keep (fun i hi => ⟨Or.inl hi.1, hi.2⟩) (fun i hi => by
      have := h2 i hi.1
      rw [hA i (by omega), hB i hi.2])
  · rw [hA i (by omega), hB i (fun e => hf (e ▸ h1))]
  · rcases hi with hi | hi
    · exact Or.inl hi
    · right; omega
theorem p_add (b : ByteArray) (p : PSt) (g : Nat) (F : Nat → Prop) (w : World) (hp : PkAt w F g p) (he : p.e = 0) (hb0 : 0 < b.size) (hl : p.s.size + b.size ≤ 60000) :
    Calls Tryz.prog 109 #[.pointer (some ⟨g, 0, none⟩), .string b] w fun e w' => e = .returned (.tuple #[]) ∧ ∃ F', PkAt w' F' g ⟨p.s ++ b, 0⟩ ∧ Only F w w' ∧ (∀ i, F' i → F i ∨ w.heap.size ≤ i) := by
  obtain ⟨h1, h2, L, n, h3, h4⟩ := hp
  obtain ⟨rfl, hs, ps, hps, hch⟩ := h4 he
  have c0 : w.cell? ⟨g, 0, none⟩ = some (.pointer L) := h3.cell (i := 0) (by omega)
  have c1 : w.cell? ⟨g, 1, none⟩ = some (.int .i64 (p.s.size : Int)) := h3.cell (i := 1) (by omega)
  have f0 := h3.frozen 0
  have f1 := h3.frozen 1
  have hg := h2 g h1
  have t1 : decide ((60000 : Int) < (p.s.size : Int) + b.size) = false := decide_eq_false (by omega)
  have e1 : IntKind.i64.wrap ((p.s.size : Int) + b.size) = (p.s.size : Int) + b.size := IntWalk.i64_in _ (by omega)
  have HCH := Lib.hid hch
  have H2 := Lib.hid h2
  have HPS := Lib.hid hps
  rw [he] at h3
  have H3 := Lib.hid h3
  clear h4 he hch hps h3 h2
  go_enter Tryz.func109, Tryz.ntmps109
  go_wp2_with fail
  go_returns
  exact ⟨rfl, _, added H3.out h1 H2.out HPS.out hb0 HCH.out hl⟩
end Go.Proofs.YtndanhacmfhlaaaGreat.Pack
namespace Go.Proofs.YtndanhacmfhlaaaGreat.Pack
open Go.ChangeShapes Go.WideShapes Go.ChangeAt Go.RowKit

theorem assert_none (w : World) : (Instr.typeAssert .nilIface 20 26 true).run Tryz.prog w = .ok (.tuple #[.int .i64 0, .bool false]) w := by kernel_rfl
theorem assert_some (e : Int) (w : World) : (Instr.typeAssert (.iface 26 (.int .i64 e)) 20 26 true).run Tryz.prog w = .ok (.tuple #[.int .i64 e, .bool true]) w := by kernel_rfl
theorem catch_idle (q : Addr) (w : World) :
    CallsD Tryz.prog 108 #[.pointer (some q)] .returning w fun e u' w' => e = .returned (.tuple #[]) ∧ u' = .returning ∧ w' = w := by
  refine callsD_of_wpS Tryz.func108 rfl fun c₀ cs hu => ?_
  have ha := assert_none w
  apply wpS_seq
  apply wpS_region
  simp [wpOpsS, go_sem, recoverD, hu, Tryz.ntmps108, Exit.thenS, ha]
  apply wpS_seq
  apply wpS_region
  simp [wpOpsS, go_sem, Array.replicate]
  refine wpS_cond (t := false) (by simp [Act.eval]) ?_
  simp only [Bool.false_eq_true, if_false]
  refine wpS_of_wp (wp_skip ?_)
  cases c₀
  simp_all [bodyPostS, results, Tryz.results108]
theorem catch_panicking (q : Addr) (g : Nat) (f : Nat → Value) (x : Int) (older : List PanicEntry) (w : World) (hq : w.cell? q = some (.pointer (some ⟨g, 0, none⟩))) (hr : w.rowIs g 127 3 f) :
    CallsD Tryz.prog 108 #[.pointer (some q)] (.panicking ({ v := .iface 26 (.int .i64 x), recovered := false } :: older)) w fun e u' w' =>
      e = .returned (.tuple #[]) ∧ u' = .panicking ({ v := .iface 26 (.int .i64 x), recovered := true } :: older) ∧ w' = ((w.setCell ⟨g, 0, none⟩ (.pointer none)).setCell ⟨g, 1, none⟩ (.int .i64 0)).setCell ⟨g, 2, none⟩ (.int .i64 x) := by
  refine callsD_of_wpS Tryz.func108 rfl fun c₀ cs hu => ?_
  have ha := assert_some x w
  have c0 := hr.cell (i := 0) (by omega)
  have c1 := hr.cell (i := 1) (by omega)
  have c2 := hr.cell (i := 2) (by omega)
  have f0 := hr.frozen 0
  have f1 := hr.frozen 1
  have f2 := hr.frozen 2
  apply wpS_seq
  apply wpS_region
  simp [wpOpsS, go_sem, recoverD, hu, Tryz.ntmps108, Exit.thenS, ha]
  apply wpS_seq
  apply wpS_region
  simp [wpOpsS, go_sem, Array.replicate]
  refine wpS_cond (t := true) (by simp [Act.eval]) ?_
  simp only [if_true]
  apply wpS_region
  simp [wpOpsS, go_sem, hq, c0, c1, c2, f0, f1, f2, bodyPostS, results, Tryz.results108]
/-- What a closure tells, in every world in which what it holds is as it was. -/
def Tells (Fn : FuncId) (cap : Array Value) (w : World) (b : ByteArray) : Prop := ∀ W, Below w.heap.size w W → Calls Tryz.prog Fn cap W fun e W' => e = .returned (.string b) ∧ Below W.heap.size W W'
/-- The error with which it panics. -/
def Fails (Fn : FuncId) (cap : Array Value) (w : World) (x : Int) : Prop := ∀ W, Below w.heap.size w W → Calls Tryz.prog Fn cap W fun e W' => e = .panicked (errP x) ∧ Below W.heap.size W W'
theorem make_fn (fn : Fn) (first cap : Array Value) (w : World) : (Instr.makeFunc fn first cap).run Tryz.prog w = .ok (.func fn first cap) w := rfl
theorem below_one (w : World) (o : Obj) : Below w.heap.size w (w.alloc o) := (Below.refl _ _).alloc (Nat.le_refl _) _
theorem only_new {F : Nat → Prop} {w w' : World} (h : Below w.heap.size w w') : Only F w w' := ⟨h.os, h.tape, h.output, h.size, fun i hi _ => h.block i hi⟩
theorem pk_new {F : Nat → Prop} {g : Nat} {p : PSt} {w w' : World} (hp : PkAt w F g p) (h : Below w.heap.size w w') : PkAt w' F g p := hp.keep h.size fun i hi => h.block i (hp.lt i hi)
theorem put_nil (Fn : Value) (w : World) :
    Calls Tryz.prog 100 #[.pointer none, Fn] w fun e w' => e = .returned (.tuple #[]) ∧ Below w.heap.size w w' := by
  go_enter_defers Tryz.func100, Tryz.ntmps100
  go_wp2_with fail
  simp [bodyPostD, Leaves, results, Tryz.results100]
  exact below_one w _
theorem put_spoilt (Fn : Value) (p : PSt) (g : Nat) (F : Nat → Prop) (w : World) (hp : PkAt w F g p) (he : p.e ≠ 0) :
    Calls Tryz.prog 100 #[.pointer (some ⟨g, 0, none⟩), Fn] w fun e w' => e = .returned (.tuple #[]) ∧ ∃ F', PkAt w' F' g p ∧ Only F w w' ∧ (∀ i, F' i → F i ∨ w.heap.size ≤ i) := by
  have HP := Lib.hid hp
  obtain ⟨h1, h2, L, n, h3, -⟩ := hp
  have c2 : w.cell? ⟨g, 2, none⟩ = some (.int .i64 p.e) := h3.cell (i := 2) (by omega)
  have hg := h2 g h1
  have b1 : (p.e != 0) = true := by rw [bne_iff_ne]; exact he
  clear h1 h2 h3
  go_enter_defers Tryz.func100, Tryz.ntmps100
  go_wp2_with fail
  simp [bodyPostD, Leaves, results, Tryz.results100]
  exact ⟨F, pk_new HP.out (below_one w _), only_new (below_one w _), fun i hi => Or.inl hi⟩
theorem only_cell {F : Nat → Prop} {w w' : World} (h : Only F w w') {k o : Nat} (hk : k < w.heap.size) (hf : ¬ F k) : w'.cell? ⟨k, o, none⟩ = w.cell? ⟨k, o, none⟩ := by
  have e := h.block k hk hf
  have e2 : w'.heap[k]? = w.heap[k]? := e
  unfold World.cell?
  simp only [e2]
theorem below_drew {n : Nat} {a b : World} (h : Below n a b.drew) : Below n a b := ⟨h.os, h.tape, h.output, h.size, h.block⟩
theorem drew_below {n : Nat} {a b : World} (h : Below n a.drew b) : Below n a b := ⟨h.os, h.tape, h.output, h.size, h.block⟩
theorem below_drewn {n : Nat} {a b : World} (h : Below n a b) : Below n a b.drew := ⟨h.os, h.tape, h.output, h.size, h.block⟩
theorem Only.after {F : Nat → Prop} {w w1 w2 : World} (h : Only F w1 w2) (hb : Below w.heap.size w w1) : Only F w w2 :=
  ⟨h.os.trans hb.os, h.tape.trans hb.tape, h.output.trans hb.output, Nat.le_trans hb.size h.size, fun i hi hf => (h.block i (Nat.lt_of_lt_of_le hi hb.size) hf).trans (hb.block i hi)⟩
set_option maxRecDepth 20000 in
theorem p_put_ok (Fn : FuncId) (cap : Array Value) (b : ByteArray) (p : PSt) (g : Nat) (F : Nat → Prop) (w : World) (hF : ∀ (args : Array Value) (w : World), (callFunc Fn args).run Tryz.prog w = .ok (.enter Fn args) w)
    (H : Tells Fn cap w b) (hp : PkAt w F g p) (he : p.e = 0) (hb0 : 0 < b.size) (hl : p.s.size + b.size ≤ 60000) :
    Calls Tryz.prog 100 #[.pointer (some ⟨g, 0, none⟩), .func (.func Fn) #[] cap] w fun e w' => e = .returned (.tuple #[]) ∧ ∃ F', PkAt w' F' g ⟨p.s ++ b, 0⟩ ∧ Only F w w' ∧ (∀ i, F' i → F i ∨ w.heap.size ≤ i) := by
  have HP := Lib.hid hp
  obtain ⟨h1, h2, L, n, h3, -⟩ := hp
  have c2 : w.cell? ⟨g, 2, none⟩ = some (.int .i64 p.e) := h3.cell (i := 2) (by omega)
  have hg := h2 g h1
  have b1 : (p.e != 0) = false := by rw [he]; rfl
  have hmf := make_fn
  have HH := Lib.hid H
  clear h1 h2 h3 H
  go_enter_defers Tryz.func100, Tryz.ntmps100
  go_wp2_with fail
  have hw0 : ∃ W0, W0 = w.alloc (.cells #[.pointer (some ⟨g, 0, none⟩)] 141) := ⟨_, rfl⟩
  obtain ⟨W0, hw0⟩ := hw0
  rw [← hw0]
  have q0 : W0.cell? ⟨w.heap.size, 0, none⟩ = some (.pointer (some ⟨g, 0, none⟩)) := by rw [hw0]; simp [go_sem]
  have B0 := Lib.hid (show Below w.heap.size w W0 by rw [hw0]; exact below_one w _)
  have Z0 : Hid (w.heap.size < W0.heap.size) := show _ < _ by rw [hw0]; simp
  clear hw0 c2
  go_region_held3 (fun w' => w'.cell? ⟨w.heap.size, 0, none⟩ = some (.pointer (some ⟨g, 0, none⟩)))
    (first | exact q2 | exact q1 | exact q0)
    (first
      | (go_at_call 109
         have hcc := p_add b p g F _ (pk_new HP.out B1.out) he hb0 hl
         refine hcc.mono ?_
         clear hcc
         rintro e w2 ⟨rfl, F', r1, r2, r3⟩
         have q2 : w2.cell? ⟨w.heap.size, 0, none⟩ = some (.pointer (some ⟨g, 0, none⟩)) := (only_cell r2 Z1.out (fun hf => absurd (HP.out.lt _ hf) (Nat.lt_irrefl _))).trans q1
         have R1 := Lib.hid r1
         have R2 := Lib.hid r2
         have R3 := Lib.hid r3
         clear r1 r2 r3)
      | (have hcc := HH.out W0.drew ⟨B0.out.os, B0.out.tape, B0.out.output, B0.out.size, B0.out.block⟩
         refine hcc.mono ?_
         clear hcc
         rintro e w1 ⟨rfl, hb⟩
         have B1 : Hid (Below w.heap.size w w1) := show Below _ _ _ from B0.out.trans ((drew_below hb).mono (Nat.le_of_lt Z0.out))
         have Z1 : Hid (w.heap.size < w1.heap.size) := show _ < _ from Nat.lt_of_lt_of_le Z0.out hb.size
         have q1 : w1.cell? ⟨w.heap.size, 0, none⟩ = some (.pointer (some ⟨g, 0, none⟩)) := (hb.cell (p := ⟨w.heap.size, 0, none⟩) Z0.out).trans q0
         clear hb))
  go_wp2_with fail
  refine leaves_cons (f := 108) (args := #[.pointer (some ⟨w.heap.size, 0, none⟩)]) (by simp) (by simp [go_sem]) ?_
  refine (catch_idle ⟨w.heap.size, 0, none⟩ _).mono ?_
  rintro e u' w'' ⟨rfl, rfl, rfl⟩
  simp [Leaves, settle, results, Tryz.results100]
  exact ⟨F', R1.out, R2.out.after B1.out, fun i hi => (R3.out i hi).imp id (Nat.le_trans B1.out.size)⟩
/-- A packer that tells an error from now on. -/
theorem pk_failed {F : Nat → Prop} {g : Nat} {p : PSt} {w : World} {x : Int} (hp : PkAt w F g p) (hx : x ≠ 0) :
    PkAt (((w.setCell ⟨g, 0, none⟩ (.pointer none)).setCell ⟨g, 1, none⟩ (.int .i64 0)).setCell ⟨g, 2, none⟩ (.int .i64 x)) F g ⟨p.s, x⟩ ∧ Only F w (((w.setCell ⟨g, 0, none⟩ (.pointer none)).setCell ⟨g, 1, none⟩ (.int .i64 0)).setCell ⟨g, 2, none⟩ (.int .i64 x)) := by
  obtain ⟨h1, h2, L, n, h3, -⟩ := hp
  have hsz : (((w.setCell ⟨g, 0, none⟩ (.pointer none)).setCell ⟨g, 1, none⟩ (.int .i64 0)).setCell ⟨g, 2, none⟩ (.int .i64 x)).heap.size = w.heap.size := by simp [World.setCell]
  refine ⟨⟨h1, fun i hi => by rw [hsz]; exact h2 i hi, none, 0, (((h3.set 0 _).set 1 _).set 2 _).congr fun i hi => by
      match i, hi with
      | 0, _ | 1, _ | 2, _ => rfl, fun he => absurd he hx⟩, ⟨rfl, rfl, rfl, by rw [hsz]; exact Nat.le_refl _, fun i hi hf => ?_⟩⟩
  have hne : i ≠ g := fun e => hf (e ▸ h1)
  exact (Below.heap_setCell _ ⟨g, 2, none⟩ _ i hne).trans ((Below.heap_setCell _ ⟨g, 1, none⟩ _ i hne).trans (Below.heap_setCell w ⟨g, 0, none⟩ _ i hne))
/-- What stands when put panics. -/
def Broke (D : List Deferred) (k g : Nat) (w : World) (x : Int) (e : Exit) (a : Act) (W : World) : Prop :=
  match e with
  | .panic c => c = errP x ∧ a.defers = D ∧ Below w.heap.size w W ∧ W.cell? ⟨k, 0, none⟩ = some (.pointer (some ⟨g, 0, none⟩))
  | _ => False
theorem broke_leaves {g : Nat} {p : PSt} {F : Nat → Prop} {w : World} {x : Int} (hp : PkAt w F g p) (hx : x ≠ 0) : ∀ (e : Exit) (a : Act) (W : World),
    Broke [{ target := .fn (.func 108) #[.pointer (some ⟨w.heap.size, 0, none⟩)], args := #[] }] w.heap.size g w x e a W →
    bodyPostD Tryz.prog Tryz.f100 (fun e w' => e = .returned (.tuple #[]) ∧ ∃ F', PkAt w' F' g ⟨p.s, x⟩ ∧ Only F w w' ∧ (∀ i, F' i → F i ∨ w.heap.size ≤ i)) e a W := by
  intro e a W h
  cases e with
  | panic c =>
    obtain ⟨rfl, hd, hb, hq⟩ := h
    show Leaves _ _ _ _ _ _ _
    rw [hd]
    have hp2 := pk_new hp hb
    obtain ⟨-, -, L, n, hr, -⟩ := id hp2
    refine leaves_cons (f := 108) (args := #[.pointer (some ⟨w.heap.size, 0, none⟩)]) (by simp) (by simp [go_sem]) ?_
    refine (catch_panicking ⟨w.heap.size, 0, none⟩ g _ x [] W hq hr).mono ?_
    rintro e u' w'' ⟨rfl, rfl, rfl⟩
    obtain ⟨K1, K2⟩ := pk_failed hp2 hx
    simp [Leaves, settle, results, Tryz.results100]
    exact ⟨F, K1, K2.after hb, fun i hi => Or.inl hi⟩
  | _ => exact h.elim
set_option maxRecDepth 20000 in
theorem put_long (Fn : FuncId) (cap : Array Value) (b : ByteArray) (p : PSt) (g : Nat) (F : Nat → Prop) (w : World) (hF : ∀ (args : Array Value) (w : World), (callFunc Fn args).run Tryz.prog w = .ok (.enter Fn args) w)
    (H : Tells Fn cap w b) (hp : PkAt w F g p) (he : p.e = 0) (hb : b.size ≤ 200000) (hl : 60000 < p.s.size + b.size) :
    Calls Tryz.prog 100 #[.pointer (some ⟨g, 0, none⟩), .func (.func Fn) #[] cap] w fun e w' => e = .returned (.tuple #[]) ∧ ∃ F', PkAt w' F' g ⟨p.s, 2⟩ ∧ Only F w w' ∧ (∀ i, F' i → F i ∨ w.heap.size ≤ i) := by
  have HP := Lib.hid hp
  obtain ⟨h1, h2, L, n, h3, -⟩ := hp
  have c2 : w.cell? ⟨g, 2, none⟩ = some (.int .i64 p.e) := h3.cell (i := 2) (by omega)
  have hg := h2 g h1
  have b1 : (p.e != 0) = false := by rw [he]; rfl
  have hmf := make_fn
  have HH := Lib.hid H
  clear h1 h2 h3 H
  go_enter_defers Tryz.func100, Tryz.ntmps100
  go_wp2_with fail
  refine Code.wp_mono (broke_leaves HP.out (by decide)) ?_
  have hw0 : ∃ W0, W0 = w.alloc (.cells #[.pointer (some ⟨g, 0, none⟩)] 141) := ⟨_, rfl⟩
  obtain ⟨W0, hw0⟩ := hw0
  rw [← hw0]
  have q0 : W0.cell? ⟨w.heap.size, 0, none⟩ = some (.pointer (some ⟨g, 0, none⟩)) := by rw [hw0]; simp [go_sem]
  have B0 := Lib.hid (show Below w.heap.size w W0 by rw [hw0]; exact below_one w _)
  have Z0 : Hid (w.heap.size < W0.heap.size) := show _ < _ by rw [hw0]; simp
  clear hw0 c2
  refine wp_region_held_drew (S := fun w' => w'.cell? ⟨w.heap.size, 0, none⟩ = some (.pointer (some ⟨g, 0, none⟩))) (by kernel_rfl) q0 (fun hHeld => ?_)
  refine ByHand.take_yes (v := ?_) 1 15 rfl rfl (by kernel_rfl) (by kernel_rfl) (by kernel_rfl) (fun _ _ _ h => h) (by rfl) ?_ (by assumption) ?_
  rotate_left
  · intro w' hSw
    (try dsimp only at hSw)
    go_simp
    all_goals with_reducible rfl
  (try simp only [Act.put, List.setIfInBounds_toArray, List.set_cons_zero, List.set_cons_succ])
  refine ByHand.take_yes (v := ?_) 0 14 rfl rfl (by kernel_rfl) (by kernel_rfl) (by kernel_rfl) (fun _ _ _ h => h) (by rfl) ?_ (by assumption) ?_
  rotate_left
  · intro w' hSw
    (try dsimp only at hSw)
    go_simp
    all_goals with_reducible rfl
  (try simp only [Act.put, List.setIfInBounds_toArray, List.set_cons_zero, List.set_cons_succ])
  refine wpAnyH_ready (rs := [2]) (by kernel_rfl) (by simp) (AllReadyH.cons rfl (fun K hK => ?_) AllReadyH.nil)
  go_simp
  have hcc := HH.out W0.drew (below_drewn B0.out)
  refine hcc.mono ?_
  clear hcc
  rintro e w1 ⟨rfl, hb1⟩
  have B1 : Hid (Below w.heap.size w w1) := show Below _ _ _ from B0.out.trans ((drew_below hb1).mono (Nat.le_of_lt Z0.out))
  have q1 : w1.cell? ⟨w.heap.size, 0, none⟩ = some (.pointer (some ⟨g, 0, none⟩)) := (hb1.cell (p := ⟨w.heap.size, 0, none⟩) Z0.out).trans q0
  clear hb1
  go_wp2_with fail
  refine hK.out _ _ ?_ (fun hHeld => ?_)
  · exact q1
  clear hK K
  (try simp only [Act.put, List.setIfInBounds_toArray, List.set_cons_zero, List.set_cons_succ])
  refine wpAnyH_ready (rs := [3]) (by kernel_rfl) (by simp) (AllReadyH.cons rfl (fun K hK => ?_) AllReadyH.nil)
  go_simp
  have hcc := p_add_bad b p g F w1 (pk_new HP.out B1.out) he hb hl
  refine hcc.mono ?_
  clear hcc
  rintro e w2 ⟨rfl, rfl⟩
  exact ⟨rfl, rfl, B1.out, q1⟩
set_option maxRecDepth 20000 in
theorem put_fails (Fn : FuncId) (cap : Array Value) (x : Int) (p : PSt) (g : Nat) (F : Nat → Prop) (w : World) (hF : ∀ (args : Array Value) (w : World), (callFunc Fn args).run Tryz.prog w = .ok (.enter Fn args) w)
    (H : Fails Fn cap w x) (hx : x ≠ 0) (hp : PkAt w F g p) (he : p.e = 0) :
    Calls Tryz.prog 100 #[.pointer (some ⟨g, 0, none⟩), .func (.func Fn) #[] cap] w fun e w' => e = .returned (.tuple #[]) ∧ ∃ F', PkAt w' F' g ⟨p.s, x⟩ ∧ Only F w w' ∧ (∀ i, F' i → F i ∨ w.heap.size ≤ i) := by
  have HP := Lib.hid hp
  obtain ⟨h1, h2, L, n, h3, -⟩ := hp
  have c2 : w.cell? ⟨g, 2, none⟩ = some (.int .i64 p.e) := h3.cell (i := 2) (by omega)
  have hg := h2 g h1
  have b1 : (p.e != 0) = false := by rw [he]; rfl
  have hmf := make_fn
  have HH := Lib.hid H
  clear h1 h2 h3 H
  go_enter_defers Tryz.func100, Tryz.ntmps100
  go_wp2_with fail
  refine Code.wp_mono (broke_leaves HP.out hx) ?_
  have hw0 : ∃ W0, W0 = w.alloc (.cells #[.pointer (some ⟨g, 0, none⟩)] 141) := ⟨_, rfl⟩
  obtain ⟨W0, hw0⟩ := hw0
  rw [← hw0]
  have q0 : W0.cell? ⟨w.heap.size, 0, none⟩ = some (.pointer (some ⟨g, 0, none⟩)) := by rw [hw0]; simp [go_sem]
  have B0 := Lib.hid (show Below w.heap.size w W0 by rw [hw0]; exact below_one w _)
  have Z0 : Hid (w.heap.size < W0.heap.size) := show _ < _ by rw [hw0]; simp
  clear hw0 c2
  refine wp_region_held_drew (S := fun w' => w'.cell? ⟨w.heap.size, 0, none⟩ = some (.pointer (some ⟨g, 0, none⟩))) (by kernel_rfl) q0 (fun hHeld => ?_)
  refine ByHand.take_yes (v := ?_) 1 15 rfl rfl (by kernel_rfl) (by kernel_rfl) (by kernel_rfl) (fun _ _ _ h => h) (by rfl) ?_ (by assumption) ?_
  rotate_left
  · intro w' hSw
    (try dsimp only at hSw)
    go_simp
    all_goals with_reducible rfl
  (try simp only [Act.put, List.setIfInBounds_toArray, List.set_cons_zero, List.set_cons_succ])
  refine ByHand.take_yes (v := ?_) 0 14 rfl rfl (by kernel_rfl) (by kernel_rfl) (by kernel_rfl) (fun _ _ _ h => h) (by rfl) ?_ (by assumption) ?_
  rotate_left
  · intro w' hSw
    (try dsimp only at hSw)
    go_simp
    all_goals with_reducible rfl
  (try simp only [Act.put, List.setIfInBounds_toArray, List.set_cons_zero, List.set_cons_succ])
  refine wpAnyH_ready (rs := [2]) (by kernel_rfl) (by simp) (AllReadyH.cons rfl (fun K hK => ?_) AllReadyH.nil)
  go_simp
  have hcc := HH.out W0.drew (below_drewn B0.out)
  refine hcc.mono ?_
  clear hcc
  rintro e w1 ⟨rfl, hb1⟩
  exact ⟨rfl, rfl, B0.out.trans ((drew_below hb1).mono (Nat.le_of_lt Z0.out)), (hb1.cell (p := ⟨w.heap.size, 0, none⟩) Z0.out).trans q0⟩
end Go.Proofs.YtndanhacmfhlaaaGreat.Pack
namespace Go.Proofs.YtndanhacmfhlaaaGreat.Pack
open Go.ChangeShapes Go.WideShapes Go.ChangeAt Go.RowKit

theorem num_tells {v : Nat} {n : Int} {w : World} {k j : Nat} (hv : v < 18446744073709551616) (h : goesB v n = true) (hk : w.cell? ⟨k, 0, none⟩ = some (.int .u64 v)) (hj : w.cell? ⟨j, 0, none⟩ = some (.int .i64 n)) :
    Tells 101 #[.pointer (some ⟨k, 0, none⟩), .pointer (some ⟨j, 0, none⟩)] w (lowS v n.toNat) := by
  intro W hb
  have ck : W.cell? ⟨k, 0, none⟩ = some (.int .u64 v) := (hb.cell (p := ⟨k, 0, none⟩) (World.block_lt_of_cell? _ _ hk)).trans hk
  have cj : W.cell? ⟨j, 0, none⟩ = some (.int .i64 n) := (hb.cell (p := ⟨j, 0, none⟩) (World.block_lt_of_cell? _ _ hj)).trans hj
  have N := p_number v n W hv h
  clear hk hj hb h
  go_enter Tryz.func101, Tryz.ntmps101
  go_wp2_with fail
  refine N.mono ?_
  rintro e w' ⟨rfl, hb⟩
  go_wp2_with fail
  go_ret
  exact ⟨rfl, hb⟩
theorem num_fails {v : Nat} {n : Int} {w : World} {k j : Nat} (h : goesB v n = false) (hk : w.cell? ⟨k, 0, none⟩ = some (.int .u64 v)) (hj : w.cell? ⟨j, 0, none⟩ = some (.int .i64 n)) :
    Fails 101 #[.pointer (some ⟨k, 0, none⟩), .pointer (some ⟨j, 0, none⟩)] w 11 := by
  intro W hb
  have ck : W.cell? ⟨k, 0, none⟩ = some (.int .u64 v) := (hb.cell (p := ⟨k, 0, none⟩) (World.block_lt_of_cell? _ _ hk)).trans hk
  have cj : W.cell? ⟨j, 0, none⟩ = some (.int .i64 n) := (hb.cell (p := ⟨j, 0, none⟩) (World.block_lt_of_cell? _ _ hj)).trans hj
  have N := p_number_bad v n W h
  clear hk hj hb h
  go_enter Tryz.func101, Tryz.ntmps101
  go_wp2_with fail
  refine N.mono ?_
  rintro e w' ⟨rfl, rfl⟩
  go_wp2_with fail
  exact ⟨rfl, rfl, Below.refl _ _⟩
/-- What becomes of put: the packer p became q. -/
def Became (F : Nat → Prop) (g : Nat) (q : PSt) (w : World) (e : Ending) (w' : World) : Prop :=
  e = .returned (.tuple #[]) ∧ ∃ F', PkAt w' F' g q ∧ Only F w w' ∧ (∀ i, F' i → F i ∨ w.heap.size ≤ i)
/-- put, whatever the closure is. -/
theorem put_tells (Fn : FuncId) (cap : Array Value) (b : ByteArray) (p : PSt) (g : Nat) (F : Nat → Prop) (w : World) (hF : ∀ (args : Array Value) (w : World), (callFunc Fn args).run Tryz.prog w = .ok (.enter Fn args) w)
    (H : Tells Fn cap w b) (hp : PkAt w F g p) (hb0 : 0 < b.size) (hb : b.size ≤ 200000) :
    Calls Tryz.prog 100 #[.pointer (some ⟨g, 0, none⟩), .func (.func Fn) #[] cap] w (Became F g (p.put b) w) := by
  by_cases he : p.e = 0
  · by_cases hl : 60000 < p.s.size + b.size
    · have : p.put b = ⟨p.s, 2⟩ := by unfold PSt.put; rw [if_neg (by omega), if_pos hl]
      rw [this]
      exact put_long Fn cap b p g F w hF H hp he hb hl
    · have : p.put b = ⟨p.s ++ b, 0⟩ := by unfold PSt.put; rw [if_neg (by omega), if_neg hl]
      rw [this]
      exact p_put_ok Fn cap b p g F w hF H hp he hb0 (by omega)
  · have : p.put b = p := by unfold PSt.put; rw [if_pos he]
    rw [this]
    exact put_spoilt _ p g F w hp he
theorem put_fail (Fn : FuncId) (cap : Array Value) (x : Int) (p : PSt) (g : Nat) (F : Nat → Prop) (w : World) (hF : ∀ (args : Array Value) (w : World), (callFunc Fn args).run Tryz.prog w = .ok (.enter Fn args) w)
    (H : Fails Fn cap w x) (hx : x ≠ 0) (hp : PkAt w F g p) :
    Calls Tryz.prog 100 #[.pointer (some ⟨g, 0, none⟩), .func (.func Fn) #[] cap] w (Became F g (if p.e ≠ 0 then p else ⟨p.s, x⟩) w) := by
  by_cases he : p.e = 0
  · rw [if_neg (by omega)]
    exact put_fails Fn cap x p g F w hF H hx hp he
  · rw [if_pos he]
    exact put_spoilt _ p g F w hp he
theorem enter_num (args : Array Value) (w : World) : (callFunc 101 args).run Tryz.prog w = .ok (.enter 101 args) w := by simp [go_sem]
theorem Became.after {F : Nat → Prop} {g : Nat} {q : PSt} {w w1 w2 : World} {e : Ending} (h : Became F g q w1 e w2) (hb : Below w.heap.size w w1) : Became F g q w e w2 := by
  obtain ⟨rfl, F', h1, h2, h3⟩ := h
  exact ⟨rfl, F', h1, h2.after hb, fun i hi => (h3 i hi).imp id (Nat.le_trans hb.size)⟩
theorem num_yes {v : Nat} {n : Int} (p : PSt) (h : goesB v n = true) : p.num v n = p.put (lowS v n.toNat) := by
  unfold PSt.num
  rw [if_pos h]
  by_cases he : p.e ≠ 0
  · rw [if_pos he]; unfold PSt.put; rw [if_pos he]
  · rw [if_neg he]
theorem num_no {v : Nat} {n : Int} (p : PSt) (h : goesB v n = false) : p.num v n = if p.e ≠ 0 then p else ⟨p.s, 11⟩ := by
  unfold PSt.num
  rw [h]; rfl
theorem text_yes' {t : ByteArray} (p : PSt) (h : t.size ≤ 65535) : p.text t = p.put (lowS t.size 2 ++ t) := by
  unfold PSt.text
  rw [if_neg (by omega : ¬ 65535 < t.size)]
  by_cases he : p.e ≠ 0
  · rw [if_pos he]; unfold PSt.put; rw [if_pos he]
  · rw [if_neg he]
theorem text_no {t : ByteArray} (p : PSt) (h : 65535 < t.size) : p.text t = if p.e ≠ 0 then p else ⟨p.s, 2⟩ := by
  unfold PSt.text
  rw [if_pos h]
theorem pk_num (p : PSt) (v : Nat) (n : Int) (g : Nat) (F : Nat → Prop) (w : World) (hp : PkAt w F g p) (hv : v < 18446744073709551616) (_ : -9223372036854775808 ≤ n ∧ n ≤ 9223372036854775807) :
    Calls Tryz.prog 91 #[.pointer (some ⟨g, 0, none⟩), .int .u64 v, .int .i64 n] w fun e w' => e = .returned (.tuple #[]) ∧ ∃ F', PkAt w' F' g (p.num v n) ∧ Only F w w' ∧ (∀ i, F' i → F i ∨ w.heap.size ≤ i) := by
  have hmf := make_fn
  have HP := Lib.hid hp
  clear hp
  obtain ⟨W, hW⟩ : ∃ W, W = (w.alloc (.cells #[.int .u64 v] 107)).alloc (.cells #[.int .i64 n] 3) := ⟨_, rfl⟩
  have B : Hid (Below w.heap.size w W) := show Below _ _ _ by rw [hW]; exact (below_one w _).alloc (by simp) _
  have ck : W.cell? ⟨w.heap.size, 0, none⟩ = some (.int .u64 v) := by rw [hW]; simp [go_sem]
  have cj : W.cell? ⟨w.heap.size + 1, 0, none⟩ = some (.int .i64 n) := by rw [hW]; simp [go_sem]
  have X : Calls Tryz.prog 100 #[.pointer (some ⟨g, 0, none⟩), .func (.func 101) #[] #[.pointer (some ⟨w.heap.size, 0, none⟩), .pointer (some ⟨w.heap.size + 1, 0, none⟩)]] W (Became F g (p.num v n) W) := by
    cases h : goesB v n
    · rw [num_no p h]
      exact put_fail _ _ 11 p g F W enter_num (num_fails h ck cj) (by decide) (pk_new HP.out B.out)
    · rw [num_yes p h]
      refine put_tells _ _ _ p g F W enter_num (num_tells hv h ck cj) (pk_new HP.out B.out) ?_ ?_
      all_goals
       rw [low_size]
       have := (of_decide_eq_true (by unfold goesB at h; rw [Bool.and_eq_true] at h; exact h.1) : n = 1 ∨ n = 2 ∨ n = 4 ∨ n = 8)
       omega
  rw [hW] at X
  have X := Lib.hid X
  rw [hW] at B
  clear ck cj hW
  go_enter Tryz.func91, Tryz.ntmps91
  go_wp2_with fail
  refine X.out.mono ?_
  intro e w' h
  have h := h.after B.out
  clear X B
  obtain ⟨rfl, R⟩ := h
  have R := Lib.hid R
  go_wp2_with fail
  go_returns
  exact ⟨rfl, R.out⟩
theorem pk_nil_num (v : Nat) (n : Int) (w : World) (_ : v < 18446744073709551616) (_ : -9223372036854775808 ≤ n ∧ n ≤ 9223372036854775807) : Calls Tryz.prog 91 #[.pointer none, .int .u64 v, .int .i64 n] w fun e w' => e = .returned (.tuple #[]) ∧ Below w.heap.size w w' := by
  have hmf := make_fn
  go_enter Tryz.func91, Tryz.ntmps91
  go_wp2_with fail
  refine (put_nil _ _).mono ?_
  rintro e w' ⟨rfl, hb⟩
  have R : Hid (Below w.heap.size w w') := show Below _ _ _ from ((below_one w _).alloc (by simp) _).trans (hb.mono (by simp; omega))
  clear hb
  go_wp2_with fail
  go_returns
  exact ⟨rfl, R.out⟩
end Go.Proofs.YtndanhacmfhlaaaGreat.Pack
namespace Go.Proofs.YtndanhacmfhlaaaGreat.Pack
open Go.ChangeShapes Go.WideShapes Go.ChangeAt Go.RowKit

/-- A text that is copied into a row. -/
theorem copy_text {w : World} {g n o dLen dCap : Nat} {f : Nat → Value} (h : w.rowIs g 5 n f) (b : ByteArray) (hle : b.size ≤ dLen) (hfit : o + b.size ≤ n) :
    ∃ w', (Builtin.copy_ #[66, 9] 3 #[.slice (some ⟨g, o, none⟩) dLen dCap, .string b]).run Tryz.prog w = .ok (goInt b.size) w' ∧
      w'.rowIs g 5 n (fun i => if o ≤ i ∧ i < o + b.size then .int .u8 (byteN b (i - o) : Nat) else f i) ∧ w.grownBy w' (some g) := by
  obtain ⟨c, h1, h2, h3⟩ := h
  have hcp := Lib.run_copy_row_string (P := Tryz.prog) w 66 9 3 5 g o dLen dCap b c 5 Tryz.underlying66 (by kernel_rfl) h1 hle (by omega)
  refine ⟨_, hcp, ⟨_, setRow_heap _ _ c _ 5 (0, 0) h1, ?_, fun i hi => ?_⟩, ⟨rfl, rfl, rfl, by simp, fun k _ hne => setRow_other _ _ _ _ (fun e => hne (by rw [e]))⟩⟩
  · have hbl : (Lib.byteCells b.data.toList).length = b.size := by rw [Lib.byteCells_length, ← Lib.size_eq]
    simp only [List.size_toArray, List.length_append, List.length_take, List.length_drop, Array.length_toList, hbl]; omega
  · have hcl : c.toList.length = n := by rw [Array.length_toList]; exact h2
    have hbl : (Lib.byteCells b.data.toList).length = b.size := by rw [Lib.byteCells_length, ← Lib.size_eq]
    rw [List.getElem?_toArray]
    show _ = some (if o ≤ i ∧ i < o + b.size then Value.int .u8 (byteN b (i - o) : Nat) else f i)
    by_cases h4 : i < o
    · rw [if_neg (by omega), List.append_assoc, List.getElem?_append_left (by rw [List.length_take]; omega), List.getElem?_take_of_lt h4, ← h3 i hi]
      simp
    · by_cases h5 : i < o + b.size
      · rw [if_pos ⟨by omega, h5⟩, List.getElem?_append_left (by rw [List.length_append, List.length_take]; omega), List.getElem?_append_right (by rw [List.length_take]; omega)]
        have ho : (List.take o c.toList).length = o := by rw [List.length_take]; omega
        rw [ho]
        unfold Lib.byteCells
        rw [List.getElem?_map, List.getElem?_eq_getElem (by rw [Array.length_toList]; show i - o < b.size; omega)]
        have hi2 : i - o < b.size := by omega
        have := byteN_at hi2
        rw [← this]; rfl
      · have hlen : (List.take o c.toList ++ Lib.byteCells b.data.toList).length = o + b.size := by rw [List.length_append, List.length_take]; omega
        rw [if_neg (by omega), List.getElem?_append_right (by rw [hlen]; omega), List.getElem?_drop, ← h3 i hi, Array.getElem?_toList, hlen, show o + b.size + (i - (o + b.size)) = i by omega]
/-- What a row holds whose last bytes are those of s, from k on. -/
def doneCell (s : ByteArray) (k i : Nat) : Value := if i < k then .int .u8 0 else .int .u8 (byteN s i : Nat)
theorem done_text {w : World} {g : Nat} {s : ByteArray} {T : TypeId} (h : w.rowIs g T s.size (doneCell s 0)) {P : Program} (src dst : TypeId) (hs : P.underlying src = some (.slice T)) (he : P.underlying T = some (.int .u8)) (hd : P.underlying dst = some .string) :
    (convert src dst (.slice (some ⟨g, 0, none⟩) s.size s.size)).run P w = .ok (.string s) w := by
  have hl : s.data.toList.length = s.size := by rw [Array.length_toList]; rfl
  have := run_convert_bytes_back (P := P) w src dst T ⟨g, 0, none⟩ s.size s.data.toList hs he hd (fun j hj => by
    rw [hl] at hj
    rw [Go.WideShapes.add_plain, Nat.zero_add, h.cell hj]
    unfold doneCell
    rw [if_neg (by omega), ← byteN_at hj]; rfl)
  rw [hl] at this
  exact this
theorem done_next {w : World} {g k : Nat} {s a b t : ByteArray} {T : TypeId} (hs : s = (a ++ b) ++ t) (hk : k = (a ++ b).size)
    (h : w.rowIs g T s.size (fun i => if a.size ≤ i ∧ i < a.size + b.size then .int .u8 (byteN b (i - a.size) : Nat) else doneCell s k i)) : w.rowIs g T s.size (doneCell s a.size) := by
  refine h.congr fun i hi => ?_
  have hab : (a ++ b).size = a.size + b.size := ByteArray.size_append
  by_cases h1 : i < a.size
  · rw [if_neg (by omega)]
    unfold doneCell
    rw [if_pos (by omega), if_pos h1]
  · by_cases h2 : i < a.size + b.size
    · rw [if_pos ⟨by omega, h2⟩]
      unfold doneCell
      rw [if_neg h1, hs, byteN_left _ _ (by omega)]
      rw [show i = a.size + (i - a.size) by omega, byteN_right]
      rw [show a.size + (i - a.size) - a.size = i - a.size by omega]
    · rw [if_neg (by omega)]
      unfold doneCell
      rw [if_neg (by omega), if_neg h1]
theorem pk_nil_done (w : World) : Calls Tryz.prog 92 #[.pointer none] w fun e w' => e = .returned (.tuple #[.string ⟨#[]⟩, .int .i64 1]) ∧ Below w.heap.size w w' := by
  go_enter Tryz.func92, Tryz.ntmps92
  go_wp2_with fail
  go_ret2
  exact ⟨rfl, Below.refl _ _⟩
theorem pk_done_bad (p : PSt) (g : Nat) (F : Nat → Prop) (w : World) (hp : PkAt w F g p) (he : p.e ≠ 0) :
    Calls Tryz.prog 92 #[.pointer (some ⟨g, 0, none⟩)] w fun e w' => e = .returned (.tuple #[.string ⟨#[]⟩, .int .i64 p.e]) ∧ Below w.heap.size w w' := by
  obtain ⟨h1, h2, L, n, h3, -⟩ := hp
  have c2 : w.cell? ⟨g, 2, none⟩ = some (.int .i64 p.e) := h3.cell (i := 2) (by omega)
  have b1 : (p.e != 0) = true := by rw [bne_iff_ne]; exact he
  clear h1 h2 h3
  go_enter Tryz.func92, Tryz.ntmps92
  go_wp2_with fail
  go_quiet (fail)
  go_wp2_with fail
  go_ret2
  exact ⟨rfl, ⟨rfl, rfl, rfl, Nat.le_refl _, fun _ _ => rfl⟩⟩
set_option maxHeartbeats 2000000 in
theorem pk_done_ok (p : PSt) (g : Nat) (F : Nat → Prop) (w : World) (hp : PkAt w F g p) (he : p.e = 0) :
    Calls Tryz.prog 92 #[.pointer (some ⟨g, 0, none⟩)] w fun e w' => e = .returned (.tuple #[.string p.s, .int .i64 0]) ∧ Below w.heap.size w w' := by
  have hmk := fun W : World => run_make_row' (P := Tryz.prog) 66 5 (.int .u8 0) 1 Tryz.underlying66 u8_info rfl .i64 .i64 p.s.size
  have HP := Lib.hid hp
  obtain ⟨h1, h2, L, n, h3, h4⟩ := hp
  obtain ⟨rfl, hs, ps, hps, hch⟩ := h4 he
  have hmk := hmk w (by omega) (by omega)
  have c0 : w.cell? ⟨g, 0, none⟩ = some (.pointer L) := h3.cell (i := 0) (by omega)
  have c1 : w.cell? ⟨g, 1, none⟩ = some (.int .i64 (p.s.size : Int)) := h3.cell (i := 1) (by omega)
  have c2 : w.cell? ⟨g, 2, none⟩ = some (.int .i64 p.e) := h3.cell (i := 2) (by omega)
  have b1 : (p.e != 0) = false := by rw [he]; rfl
  have hg := h2 g h1
  have HPS := Lib.hid hps
  have H2 := Lib.hid h2
  have HCH := Lib.hid hch
  clear h1 h2 h3 h4 hps hch
  go_enter Tryz.func92, Tryz.ntmps92
  go_wp2_with fail
  go_loopw [5, 6] (fun t u wr => ∃ (rest : List ByteArray) (A : Option Addr), t = .int .i64 ((catR rest).size : Nat) ∧ u = .pointer A ∧ Hid (Chain wr (fun k => F k ∧ k ≠ g) A rest) ∧ Hid (wr.rowIs w.heap.size 5 p.s.size (doneCell p.s (catR rest).size)) ∧ Hid (∃ tl, p.s = catR rest ++ tl) ∧ Hid (∀ b ∈ rest, 0 < b.size) ∧ Hid (Below w.heap.size w wr)) (fun t _ _ => (intOf t).toNat)
  case atStart =>
    refine ⟨ps, L, ?_, rfl, HCH.out.keep (fun _ h => h) (fun i hi => Below.heap_alloc _ _ i (H2.out i hi.1)), (World.rowIs_made w (.int .u8 0) p.s.size 5).congr fun i hi => ?_, ⟨⟨#[]⟩, ?_⟩, HPS.out.2, below_one w _⟩
    · rw [← HPS.out.1]
    · unfold doneCell; rw [← HPS.out.1, if_pos hi]
    · rw [← HPS.out.1]; apply ByteArray.ext; simp
  case round =>
    obtain ⟨rest, A, rfl, rfl, hc, hr, ht, hn, hb⟩ := hrel
    clear hmk
    rcases rest with _ | ⟨b, rest⟩
    · obtain rfl : A = none := hc.out
      have cv := done_text (P := Tryz.prog) hr.out 66 9 Tryz.underlying66 Tryz.underlying5 Tryz.underlying9
      clear c0 c1 c2 hr ht hn hc
      go_wp2_with fail
      go_ret2
      exact ⟨rfl, hb.out⟩
    · obtain ⟨k, nxt, rfl, hk, hkr, hch⟩ := hc.out
      have HKR := Lib.hid hkr
      have HNX := Lib.hid hch
      have k0 : wr.cell? ⟨k, 0, none⟩ = some (.string b) := hkr.cell (i := 0) (by omega)
      have k1 : wr.cell? ⟨k, 1, none⟩ = some (.pointer nxt) := hkr.cell (i := 1) (by omega)
      have hb0 : 0 < b.size := hn.out b (List.mem_cons_self ..)
      have hsz : (catR (b :: rest)).size = (catR rest).size + b.size := ByteArray.size_append
      have hle : (catR rest).size + b.size ≤ p.s.size := by
        obtain ⟨tl, e⟩ := ht.out
        rw [e, ByteArray.size_append, hsz]; omega
      obtain ⟨m, hm⟩ : ∃ m, m = (catR rest).size := ⟨_, rfl⟩
      rw [hsz, ← hm]
      rw [← hm] at hle
      have HM := Lib.hid hm
      clear hm
      have e1 : IntKind.i64.wrap (((m + b.size : Nat) : Int) - b.size) = m := by rw [IntWalk.i64_in _ (by omega)]; omega
      have e2 : wrap64 (((m + b.size : Nat) : Int) - b.size) = m := by unfold wrap64; omega
      have g0 : ¬ p.s.size = m := by omega
      have g1 : ((m : Nat) : Int) ≤ ((p.s.size : Nat) : Int) := by omega
      have g2 : (0 : Int) ≤ ((m : Nat) : Int) := by omega
      have hr2 : Hid (wr.drew.rowIs w.heap.size 5 p.s.size (doneCell p.s (m + b.size))) := show World.rowIs _ _ _ _ _ by have := hr.out; rw [hsz, ← HM.out] at this; exact this
      obtain ⟨w', hcp, hrow, hgr⟩ := copy_text (o := m) (dLen := p.s.size - m) (dCap := p.s.size - m) hr2.out b (by omega) (by omega)
      have hkw := H2.out k hk.1
      have hkr2 := hb.out.size
      have hkk : w'.heap[k]? = wr.heap[k]? := hgr.block k (by show k < wr.heap.size; omega) (by simp; omega)
      have j0 : w'.cell? ⟨k, 0, none⟩ = some (.string b) := (World.cell?_of_block (w := wr) (a := ⟨k, 0, none⟩) hkk).trans k0
      have j1 : w'.cell? ⟨k, 1, none⟩ = some (.pointer nxt) := (World.cell?_of_block (w := wr) (a := ⟨k, 1, none⟩) hkk).trans k1
      have HROW := Lib.hid hrow
      have HGR : Hid (wr.grownBy w' (some w.heap.size)) := show World.grownBy _ _ _ from ⟨hgr.os, hgr.tape, hgr.output, hgr.size, hgr.block⟩
      clear c0 c1 c2 hsz hc hkr hch hr hrow hgr
      go_wp2_with fail
      go_region_held3 (fun w' => w'.cell? ⟨k, 0, none⟩ = some (.string b))
        (first | exact j0 | exact k0)
        (first
          | fail)
      clear k0 k1 hcp
      go_wp2_with fail
      go_roundw
      case rel =>
        refine ⟨rest, nxt, by rw [HM.out], rfl, HNX.out.keep (fun _ h => h) (fun i hi => HGR.out.block i (by have := H2.out i hi.1; have := hb.out.size; omega) (by have := H2.out i hi.1; simp; omega)), ?_, ?_, fun x hx => hn.out x (List.mem_cons_of_mem _ hx), ?_⟩
        · obtain ⟨tl, e⟩ := ht.out
          have hq := done_next (k := m + b.size) (s := p.s) (a := catR rest) (b := b) (t := tl) e (by rw [ByteArray.size_append, HM.out]) (by rw [← HM.out]; exact HROW.out)
          exact hq
        · obtain ⟨tl, e⟩ := ht.out
          exact ⟨b ++ tl, by rw [e]; show catR rest ++ b ++ tl = _; rw [ByteArray.append_assoc]⟩
        · exact hb.out.trans ⟨HGR.out.os, HGR.out.tape, HGR.out.output, HGR.out.size, fun i hi => HGR.out.block i (by have := hb.out.size; omega) (by simp; omega)⟩
      case measure => simp [intOf]; omega
theorem pk_done (p : PSt) (g : Nat) (F : Nat → Prop) (w : World) (hp : PkAt w F g p) :
    Calls Tryz.prog 92 #[.pointer (some ⟨g, 0, none⟩)] w fun e w' => e = .returned (.tuple #[.string p.told, .int .i64 p.e]) ∧ ∃ F', PkAt w' F' g p ∧ Only F w w' ∧ (∀ i, F' i → F i ∨ w.heap.size ≤ i) := by
  by_cases he : p.e = 0
  · have H : p.told = p.s := by unfold PSt.told; rw [if_pos he]
    rw [H, he]
    exact (pk_done_ok p g F w hp he).mono fun e w' h => ⟨h.1, F, pk_new hp h.2, only_new h.2, fun i hi => Or.inl hi⟩
  · have H : p.told = ⟨#[]⟩ := by unfold PSt.told; rw [if_neg he]
    rw [H]
    exact (pk_done_bad p g F w hp he).mono fun e w' h => ⟨h.1, F, pk_new hp h.2, only_new h.2, fun i hi => Or.inl hi⟩
end Go.Proofs.YtndanhacmfhlaaaGreat.Pack
namespace Go.Proofs.YtndanhacmfhlaaaGreat.Pack
open Go.ChangeShapes Go.WideShapes Go.ChangeAt Go.RowKit

/-- The cells of an opener: what is before it, whether it is spoilt. -/
def opcell (r : ByteArray) (b : Bool) (i : Nat) : Value := if i = 0 then .string r else .bool b
/-- At block k the text r is left. -/
def Left (w : World) (k : Nat) (r : ByteArray) (b : Bool) : Prop := w.rowIs k 118 2 (opcell r b)
theorem left_set {w : World} {k : Nat} {r : ByteArray} {b : Bool} (h : Left w k r b) (t : ByteArray) : Left (w.setCell ⟨k, 0, none⟩ (.string t)) k t b :=
  (h.set 0 _).congr fun i hi => by
    match i, hi with
    | 0, _ | 1, _ => rfl
theorem only_one (w : World) (k o : Nat) (u : Value) : Only (fun i => i = k) w (w.setCell ⟨k, o, none⟩ u) :=
  ⟨rfl, rfl, rfl, by simp [World.setCell], fun i _ hf => Below.heap_setCell w ⟨k, o, none⟩ _ i hf⟩
theorem p_bytes_bad (k n : Nat) (r : ByteArray) (w : World) (h : Left w k r false) (hn : r.size < n) :
    Calls Tryz.prog 90 #[.pointer (some ⟨k, 0, none⟩), .int .i64 n] w fun e w' => e = .panicked (errP 11) ∧ w = w' := by
  have c0 : w.cell? ⟨k, 0, none⟩ = some (.string r) := h.cell (i := 0) (by omega)
  have t1 : decide ((r.size : Int) < (n : Int)) = true := decide_eq_true (by omega)
  clear h
  go_enter Tryz.func90, Tryz.ntmps90
  go_wp2_with fail
  exact ⟨rfl, rfl, rfl⟩
theorem p_bytes (k n : Nat) (r : ByteArray) (w : World) (h : Left w k r false) (hn : n ≤ r.size) :
    Calls Tryz.prog 90 #[.pointer (some ⟨k, 0, none⟩), .int .i64 n] w fun e w' => e = .returned (.string (r.extract 0 n)) ∧ Left w' k (r.extract n r.size) false ∧ Only (fun i => i = k) w w' := by
  have c0 : w.cell? ⟨k, 0, none⟩ = some (.string r) := h.cell (i := 0) (by omega)
  have f0 := h.frozen 0
  have t1 : decide ((r.size : Int) < (n : Int)) = false := decide_eq_false (by omega)
  have n0 : (0 : Int) ≤ (n : Int) := by omega
  have n1 : (n : Int) ≤ (r.size : Int) := by omega
  have HL := Lib.hid h
  clear h
  go_enter Tryz.func90, Tryz.ntmps90
  go_wp2_with fail
  go_ret
  exact ⟨rfl, left_set HL.out _, only_one w k 0 _⟩
theorem val_last (s : ByteArray) : ∀ (i a : Nat), valN s a (i + 1) = valN s a i + byteN s (a + i) * 256 ^ i
  | 0, a => by show byteN s a + 256 * 0 = 0 + byteN s (a + 0) * 256 ^ 0; simp
  | i + 1, a => by
    show byteN s a + 256 * valN s (a + 1) (i + 1) = byteN s a + 256 * valN s (a + 1) i + byteN s (a + (i + 1)) * 256 ^ (i + 1)
    rw [val_last s i (a + 1), show a + 1 + i = a + (i + 1) by omega, Nat.pow_succ, Nat.mul_add]
    have : 256 * (byteN s (a + (i + 1)) * 256 ^ i) = byteN s (a + (i + 1)) * (256 ^ i * 256) := by
      rw [Nat.mul_comm (256 ^ i) 256, ← Nat.mul_assoc, ← Nat.mul_assoc, Nat.mul_comm 256]
    omega
theorem or_sum {x y i : Nat} (hx : x < 256 ^ i) (hy : y < 256) (h8 : i < 8) : bits .or .u64 (x : Int) ((y * 256 ^ i : Nat) : Int) = ((x + y * 256 ^ i : Nat) : Int) := by
  have hp : 256 ^ i ≤ 256 ^ 7 := Nat.pow_le_pow_right (by decide) (by omega)
  have hy2 : y * 256 ^ i ≤ 255 * 256 ^ 7 := Nat.mul_le_mul (by omega) hp
  have e7 : (256 : Nat) ^ 7 = 72057594037927936 := by decide
  rw [e7] at hp hy2
  rw [u64_or_nat x (y * 256 ^ i) (by omega) (by omega)]
  have e : (256 : Nat) ^ i = 2 ^ (8 * i) := by rw [Nat.pow_mul]
  rw [e] at hx ⊢
  have := Nat.two_pow_add_eq_or_of_lt hx y
  rw [Nat.mul_comm y, Nat.or_comm, ← this, Nat.add_comm]
theorem shl_nat {y i : Nat} (hy : y < 256) (h8 : i < 8) : IntKind.u64.wrap (IntKind.u64.wrap ((y : Nat) : Int) * 2 ^ (8 * i)) = ((y * 256 ^ i : Nat) : Int) := by
  have hp : 256 ^ i ≤ 256 ^ 7 := Nat.pow_le_pow_right (by decide) (by omega)
  have hy2 : y * 256 ^ i ≤ 255 * 256 ^ 7 := Nat.mul_le_mul (by omega) hp
  have e7 : (256 : Nat) ^ 7 = 72057594037927936 := by decide
  rw [e7] at hp hy2
  have e : (256 : Nat) ^ i = 2 ^ (8 * i) := by rw [Nat.pow_mul]
  rw [IntWalk.u64_in (y : Int) (by omega)]
  have : ((y : Nat) : Int) * 2 ^ (8 * i) = ((y * 256 ^ i : Nat) : Int) := by rw [e]; norm_cast
  rw [this, IntWalk.u64_in _ (by omega)]
theorem p_onumber_bad (k : Nat) (n : Int) (r : ByteArray) (w : World) (h : Left w k r false) (hn : sizedB n = false ∨ (r.size : Int) < n) :
    Calls Tryz.prog 81 #[.pointer (some ⟨k, 0, none⟩), .int .i64 n] w fun e w' => e = .panicked (errP 11) ∧ w = w' := by
  cases hs : sizedB n
  · have S := p_size_bad n w hs
    go_enter Tryz.func81, Tryz.ntmps81
    go_wp2_with fail
    refine S.mono ?_
    rintro e w' ⟨rfl, rfl⟩
    go_wp2_with fail
    exact ⟨rfl, rfl, rfl⟩
  · have S := p_size_ok n w hs
    have hm : ∃ m : Nat, n = m := by
      rcases (of_decide_eq_true hs : n = 1 ∨ n = 2 ∨ n = 4 ∨ n = 8) with rfl | rfl | rfl | rfl
      · exact ⟨1, rfl⟩
      · exact ⟨2, rfl⟩
      · exact ⟨4, rfl⟩
      · exact ⟨8, rfl⟩
    obtain ⟨m, rfl⟩ := hm
    have B := p_bytes_bad k m r w h (by
      rcases hn with hn | hn
      · rw [hs] at hn; exact absurd hn (by decide)
      · omega)
    clear hn hs h
    go_enter Tryz.func81, Tryz.ntmps81
    go_wp2_with fail
    refine S.mono ?_
    rintro e w' ⟨rfl, rfl⟩
    go_wp2_with fail
    refine B.mono ?_
    rintro e w' ⟨rfl, rfl⟩
    go_wp2_with fail
    exact ⟨rfl, rfl, rfl⟩
set_option maxHeartbeats 2000000 in
theorem p_onumber (k m : Nat) (r : ByteArray) (w : World) (h : Left w k r false) (hs : sizedB m = true) (hn : m ≤ r.size) :
    Calls Tryz.prog 81 #[.pointer (some ⟨k, 0, none⟩), .int .i64 m] w fun e w' => e = .returned (.int .u64 (valN (r.extract 0 m) 0 m : Nat)) ∧ Left w' k (r.extract m r.size) false ∧ Only (fun i => i = k) w w' := by
  have S := p_size_ok m w hs
  have B := p_bytes k m r w h hn
  have hm : m = 1 ∨ m = 2 ∨ m = 4 ∨ m = 8 := by
    have := (of_decide_eq_true hs : (m : Int) = 1 ∨ (m : Int) = 2 ∨ (m : Int) = 4 ∨ (m : Int) = 8)
    omega
  have m8 : m ≤ 8 := by omega
  have hbs : (r.extract 0 m).size = m := by rw [ByteArray.size_extract]; omega
  generalize r.extract 0 m = b at *
  clear hm hs h hn
  go_enter Tryz.func81, Tryz.ntmps81
  go_wp2_with fail
  refine S.mono ?_
  rintro e w' ⟨rfl, rfl⟩
  go_wp2_with fail
  refine B.mono ?_
  rintro e w1 ⟨rfl, hL, hO⟩
  have HL := Lib.hid hL
  have HO := Lib.hid hO
  clear S B hL hO
  go_wp2_with fail
  go_loop [6, 14] (fun u t => ∃ (i : Nat), i ≤ m ∧ t = .int .i64 i ∧ u = .int .u64 (valN b 0 i : Nat)) (fun _ t => m - (intOf t).toNat)
  case atStart => exact ⟨0, Nat.zero_le _, rfl, rfl⟩
  case round =>
    obtain ⟨i, hi, rfl, rfl⟩ := hrel
    by_cases hlt : i < m
    · have u0 : decide ((i : Int) < (m : Int)) = true := decide_eq_true (by omega)
      have i0 : (0 : Int) ≤ i := by omega
      have i1 : i < b.size := by omega
      have HV := Lib.hid (val_last b i 0)
      rw [Nat.zero_add] at HV
      have OS := or_sum (valN_lt b i 0) (byteN_lt b i) (by omega)
      have HB := byteN_at i1
      have HS := Lib.hid (shl_nat (byteN_lt b i) (show i < 8 by omega))
      generalize valN b 0 i = x at *
      go_wp2_with fail
      go_round
      case rel => exact ⟨i + 1, by omega, by go_num, by rw [HS.out, OS, HV.out]⟩
      case measure => simp [intOf]; omega
    · obtain rfl : i = m := by omega
      have u0 : decide ((i : Int) < (i : Int)) = false := decide_eq_false (by omega)
      go_wp2_with fail
      go_ret
      exact ⟨rfl, HL.out, HO.out⟩
theorem Only.refl (F : Nat → Prop) (w : World) : Only F w w := ⟨rfl, rfl, rfl, Nat.le_refl _, fun _ _ _ => rfl⟩
theorem Only.trans {F : Nat → Prop} {w w1 w2 : World} (h : Only F w w1) (h2 : Only F w1 w2) : Only F w w2 :=
  ⟨h2.os.trans h.os, h2.tape.trans h.tape, h2.output.trans h.output, Nat.le_trans h.size h2.size, fun i hi hf => (h2.block i (Nat.lt_of_lt_of_le hi h.size) hf).trans (h.block i hi hf)⟩
theorem Left.new {w w' : World} {k : Nat} {r : ByteArray} {b : Bool} (h : Left w k r b) (hb : Below w.heap.size w w') : Left w' k r b := h.of_block (hb.block k h.lt)
/-- A panic behind which a text is left. -/
def Panics (w : World) (k : Nat) (e : Ending) (w' : World) : Prop := ∃ (x : Int) (r : ByteArray), e = .panicked (errP x) ∧ Left w' k r false ∧ Only (fun i => i = k) w w'
end Go.Proofs.YtndanhacmfhlaaaGreat.Pack
namespace Go.Proofs.YtndanhacmfhlaaaGreat.Pack
open Go.ChangeShapes Go.WideShapes Go.ChangeAt Go.RowKit

/-- The world in which what stands next is taken: the opener's pointer lies behind all. -/
def boxed (w : World) (k : Nat) : World := w.alloc (.cells #[.pointer (some ⟨k, 0, none⟩)] 108)
theorem boxed_below (w : World) (k : Nat) : Below w.heap.size w (boxed w k) := below_one w _
theorem boxed_cell (w : World) (k : Nat) : (boxed w k).cell? ⟨w.heap.size, 0, none⟩ = some (.pointer (some ⟨k, 0, none⟩)) := by unfold boxed; simp [go_sem]
theorem left_spoilt {w : World} {k : Nat} {r : ByteArray} {b : Bool} (h : Left w k r b) : Left ((w.setCell ⟨k, 0, none⟩ (.string ⟨#[]⟩)).setCell ⟨k, 1, none⟩ (.bool true)) k ⟨#[]⟩ true :=
  ((h.set 0 _).set 1 _).congr fun i hi => by
    match i, hi with
    | 0, _ | 1, _ => rfl
theorem only_two (w : World) (k : Nat) (u v : Value) : Only (fun i => i = k) w ((w.setCell ⟨k, 0, none⟩ u).setCell ⟨k, 1, none⟩ v) := (only_one w k 0 u).trans (only_one _ k 1 v)

theorem idle_num (q : Addr) (w : World) :
    CallsD Tryz.prog 88 #[.pointer (some q)] .returning w fun e u' w' => e = .returned (.tuple #[]) ∧ u' = .returning ∧ w' = w := by
  refine callsD_of_wpS Tryz.func88 rfl fun c₀ cs hu => ?_
  apply wpS_seq
  apply wpS_region
  simp [wpOpsS, go_sem, recoverD, hu, Tryz.ntmps88, Exit.thenS]
  refine wpS_cond (t := false) (by simp [Act.eval, Array.replicate]) ?_
  simp only [Bool.false_eq_true, if_false]
  refine wpS_of_wp (wp_skip ?_)
  cases c₀
  simp_all [bodyPostS, results, Tryz.results88]
theorem caught_num (q : Addr) (k : Nat) (f : Nat → Value) (x : Int) (older : List PanicEntry) (w : World) (hq : w.cell? q = some (.pointer (some ⟨k, 0, none⟩))) (hr : w.rowIs k 118 2 f) :
    CallsD Tryz.prog 88 #[.pointer (some q)] (.panicking ({ v := .iface 26 (.int .i64 x), recovered := false } :: older)) w fun e u' w' =>
      e = .returned (.tuple #[]) ∧ u' = .panicking ({ v := .iface 26 (.int .i64 x), recovered := true } :: older) ∧ w' = (w.setCell ⟨k, 0, none⟩ (.string ⟨#[]⟩)).setCell ⟨k, 1, none⟩ (.bool true) := by
  refine callsD_of_wpS Tryz.func88 rfl fun c₀ cs hu => ?_
  have c0 := hr.cell (i := 0) (by omega)
  have c1 := hr.cell (i := 1) (by omega)
  have f0 := hr.frozen 0
  have f1 := hr.frozen 1
  apply wpS_seq
  apply wpS_region
  simp [wpOpsS, go_sem, recoverD, hu, Tryz.ntmps88, Exit.thenS]
  refine wpS_cond (t := true) (by simp [Act.eval, Array.replicate]) ?_
  simp only [if_true]
  apply wpS_region
  simp [wpOpsS, go_sem, hq, c0, c1, f0, f1, bodyPostS, results, Tryz.results88]
theorem next_nil_num (Fn : Value) (w : World) :
    Calls Tryz.prog 79 #[.pointer none, Fn] w fun e w' => e = .returned (.int .u64 0) ∧ Below w.heap.size w w' := by
  go_enter_defers Tryz.func79, Tryz.ntmps79
  go_wp2_with fail
  simp [bodyPostD, Leaves, results, Tryz.results79]
  exact below_one w _
theorem next_spoilt_num (Fn : Value) (k : Nat) (r : ByteArray) (w : World) (h : Left w k r true) :
    Calls Tryz.prog 79 #[.pointer (some ⟨k, 0, none⟩), Fn] w fun e w' => e = .returned (.int .u64 0) ∧ Below w.heap.size w w' := by
  have c1 : w.cell? ⟨k, 1, none⟩ = some (.bool true) := h.cell (i := 1) (by omega)
  have hk := h.lt
  clear h
  go_enter_defers Tryz.func79, Tryz.ntmps79
  go_wp2_with fail
  simp [bodyPostD, Leaves, results, Tryz.results79]
  exact below_one w _
theorem next_ok_num (Fn : FuncId) (cap : Array Value) (v : Value) (R : World → Prop) (k : Nat) (r : ByteArray) (w : World) (hF : ∀ (args : Array Value) (w : World), (callFunc Fn args).run Tryz.prog w = .ok (.enter Fn args) w)
    (h : Left w k r false) (H : Calls Tryz.prog Fn cap (boxed w k) fun e w' => e = .returned v ∧ R w') :
    Calls Tryz.prog 79 #[.pointer (some ⟨k, 0, none⟩), .func (.func Fn) #[] cap] w fun e w' => e = .returned v ∧ R w' := by
  have c1 : w.cell? ⟨k, 1, none⟩ = some (.bool false) := h.cell (i := 1) (by omega)
  have hk := h.lt
  have hmf := make_fn
  have HH := Lib.hid H
  clear h H
  go_enter_defers Tryz.func79, Tryz.ntmps79
  go_wp2_with fail
  refine (HH.out).mono ?_
  rintro e w' ⟨rfl, hR⟩
  have HR := Lib.hid hR
  clear HH hR
  go_wp2_with fail
  refine leaves_cons (f := 88) (args := #[.pointer (some ⟨w.heap.size, 0, none⟩)]) (by simp) (by simp [go_sem]) ?_
  refine (idle_num ⟨w.heap.size, 0, none⟩ _).mono ?_
  rintro e u' w'' ⟨rfl, rfl, rfl⟩
  simp [Leaves, settle, results, Tryz.results79, go_sem]
  exact HR.out
theorem next_bad_num (Fn : FuncId) (cap : Array Value) (k : Nat) (r : ByteArray) (w : World) (hF : ∀ (args : Array Value) (w : World), (callFunc Fn args).run Tryz.prog w = .ok (.enter Fn args) w)
    (h : Left w k r false) (H : Calls Tryz.prog Fn cap (boxed w k) (Panics (boxed w k) k)) :
    Calls Tryz.prog 79 #[.pointer (some ⟨k, 0, none⟩), .func (.func Fn) #[] cap] w fun e w' => e = .returned (.int .u64 0) ∧ Left w' k ⟨#[]⟩ true ∧ Only (fun i => i = k) w w' := by
  have c1 : w.cell? ⟨k, 1, none⟩ = some (.bool false) := h.cell (i := 1) (by omega)
  have hk := h.lt
  have hmf := make_fn
  have HH := Lib.hid H
  clear h H
  go_enter_defers Tryz.func79, Tryz.ntmps79
  go_wp2_with fail
  refine (HH.out).mono ?_
  rintro e w' ⟨x, r', rfl, hL, hO⟩
  have HL := Lib.hid hL
  have HO := Lib.hid hO
  have hq : w'.cell? ⟨w.heap.size, 0, none⟩ = some (.pointer (some ⟨k, 0, none⟩)) := (only_cell hO (by unfold boxed; simp) (by show ¬ w.heap.size = k; omega)).trans (boxed_cell w k)
  clear HH hL hO
  go_wp2_with fail
  refine leaves_cons (f := 88) (args := #[.pointer (some ⟨w.heap.size, 0, none⟩)]) (by simp) (by simp [go_sem]) ?_
  refine (caught_num ⟨w.heap.size, 0, none⟩ k _ x [] w' hq HL.out).mono ?_
  rintro e u' w'' ⟨rfl, rfl, rfl⟩
  simp [Leaves, settle, results, Tryz.results79, go_sem]
  exact ⟨left_spoilt HL.out, (HO.out.trans (only_two w' k _ _)).after (boxed_below w k)⟩
end Go.Proofs.YtndanhacmfhlaaaGreat.Pack
namespace Go.Proofs.YtndanhacmfhlaaaGreat.Pack
open Go.ChangeShapes Go.WideShapes Go.ChangeAt Go.RowKit

/-- At v stands an opener of these blocks that holds o. -/
def OpAt (w : World) (F : Nat → Prop) (v : Value) (o : OSt) : Prop :=
  ∃ k : Nat, v = .pointer (some ⟨k, 0, none⟩) ∧ F k ∧ (∀ i, F i → i < w.heap.size) ∧ (∃ r, Left w k r o.bad ∧ (o.bad = false → r = o.s.extract o.at_ o.s.size)) ∧ o.at_ ≤ o.s.size ∧ o.s.size ≤ 200000
theorem OpAt.lt {w : World} {F : Nat → Prop} {v : Value} {o : OSt} (h : OpAt w F v o) : ∀ i, F i → i < w.heap.size := by
  obtain ⟨k, -, -, h, -⟩ := h
  exact h
theorem OpAt.keep {w w' : World} {F : Nat → Prop} {v : Value} {o : OSt} (h : OpAt w F v o) (hs : w.heap.size ≤ w'.heap.size) (hk : ∀ i, F i → w'.heap[i]? = w.heap[i]?) : OpAt w' F v o := by
  obtain ⟨k, h1, h2, h3, ⟨r, h4, h5⟩, h6⟩ := h
  exact ⟨k, h1, h2, fun i hi => Nat.lt_of_lt_of_le (h3 i hi) hs, ⟨r, h4.of_block (hk k h2), h5⟩, h6⟩
/-- What becomes of an opener that is asked. -/
theorem op_next {w w' : World} {F : Nat → Prop} {k : Nat} {o' : OSt} {r : ByteArray} (h2 : F k) (h3 : ∀ i, F i → i < w.heap.size) (hO : Only (fun i => i = k) w w') (hL : Left w' k r o'.bad) (hr : o'.bad = false → r = o'.s.extract o'.at_ o'.s.size) (ha : o'.at_ ≤ o'.s.size ∧ o'.s.size ≤ 200000) :
    ∃ F', OpAt w' F' (.pointer (some ⟨k, 0, none⟩)) o' ∧ Only F w w' ∧ (∀ i, F' i → F i ∨ w.heap.size ≤ i) :=
  ⟨F, ⟨k, rfl, h2, fun i hi => Nat.lt_of_lt_of_le (h3 i hi) hO.size, ⟨r, hL, hr⟩, ha⟩, ⟨hO.os, hO.tape, hO.output, hO.size, fun i hi hf => hO.block i hi (fun e => hf (by rw [show i = k from e]; exact h2))⟩, fun i hi => Or.inl hi⟩
theorem enter_onum (args : Array Value) (w : World) : (callFunc 80 args).run Tryz.prog w = .ok (.enter 80 args) w := by simp [go_sem]
theorem take_num {k a b : Nat} {n : Int} {w : World} {R : Ending → World → Prop} (ha : w.cell? ⟨a, 0, none⟩ = some (.pointer (some ⟨k, 0, none⟩))) (hb : w.cell? ⟨b, 0, none⟩ = some (.int .i64 n))
    (h : Calls Tryz.prog 81 #[.pointer (some ⟨k, 0, none⟩), .int .i64 n] w R) (hR : ∀ e w', R e w' → ∃ x y, e = .returned (.int .u64 x) ∨ e = .panicked y) :
    Calls Tryz.prog 80 #[.pointer (some ⟨a, 0, none⟩), .pointer (some ⟨b, 0, none⟩)] w R := by
  have HR := Lib.hid hR
  clear hR
  go_enter Tryz.func80, Tryz.ntmps80
  go_wp2_with fail
  refine h.mono ?_
  intro e w' hr
  obtain ⟨x, y, he⟩ := HR.out _ _ hr
  rcases he with rfl | rfl
  · go_wp2_with fail
    exact hr
  · go_wp2_with fail
    exact ⟨rfl, hr⟩
theorem op_open (s : ByteArray) (w : World) (hs : s.size ≤ 200000) :
    Calls Tryz.prog 70 #[.string s] w fun e w' => ∃ a, e = .returned (.pointer (some a)) ∧ ∃ F, OpAt w' F (.pointer (some a)) ⟨s, 0, false⟩ ∧ Below w.heap.size w w' ∧ (∀ i, F i → w.heap.size ≤ i) := by
  have R := Lib.hid (World.rowIs_alloc w #[.string s, .bool false] 118 (opcell s false) (fun i hi => by
      match i, hi with
      | 0, _ | 1, _ => rfl))
  go_enter Tryz.func70, Tryz.ntmps70
  go_wp2_with fail
  go_ret
  refine ⟨_, rfl, fun i => i = w.heap.size, ⟨w.heap.size, rfl, rfl, fun i hi => by simp [hi], ⟨s, R.out, fun _ => ?_⟩, Nat.zero_le _, hs⟩, below_one w _, fun i hi => by rw [hi]; exact Nat.le_refl _⟩
  apply ByteArray.ext
  simp
theorem op_nil_num (n : Int) (w : World) (_ : -9223372036854775808 ≤ n ∧ n ≤ 9223372036854775807) : Calls Tryz.prog 71 #[.pointer none, .int .i64 n] w fun e w' => e = .returned (.int .u64 0) ∧ Below w.heap.size w w' := by
  have hmf := make_fn
  go_enter Tryz.func71, Tryz.ntmps71
  go_wp2_with fail
  refine (next_nil_num _ _).mono ?_
  rintro e w' ⟨rfl, hb⟩
  have R : Hid (Below w.heap.size w w') := show Below _ _ _ from ((below_one w _).alloc (by simp) _).trans (hb.mono (by simp; omega))
  clear hb
  go_wp2_with fail
  go_ret
  exact ⟨rfl, R.out⟩
/-- The world in which next is called: two boxes behind all. -/
def twoBoxes (w : World) (k : Nat) (n : Int) : World := (w.alloc (.cells #[.pointer (some ⟨k, 0, none⟩)] 108)).alloc (.cells #[.int .i64 n] 3)
theorem two_below (w : World) (k : Nat) (n : Int) : Below w.heap.size w (twoBoxes w k n) := (below_one w _).alloc (by simp) _
theorem two_a (w : World) (k : Nat) (n : Int) : (boxed (twoBoxes w k n) k).cell? ⟨w.heap.size, 0, none⟩ = some (.pointer (some ⟨k, 0, none⟩)) := by unfold boxed twoBoxes; simp [go_sem]
theorem two_b (w : World) (k : Nat) (n : Int) : (boxed (twoBoxes w k n) k).cell? ⟨w.heap.size + 1, 0, none⟩ = some (.int .i64 n) := by unfold boxed twoBoxes; simp [go_sem]
theorem two_size (w : World) (k : Nat) (n : Int) : (boxed (twoBoxes w k n) k).heap.size = w.heap.size + 3 := by unfold boxed twoBoxes; simp
theorem Only.inner {k : Nat} {w W w' : World} (h : Only (fun i => i = k) W w') (hb : Below w.heap.size w W) : Only (fun i => i = k) w w' := h.after hb
theorem op_num (o : OSt) (n : Int) (a : Addr) (F : Nat → Prop) (w : World) (hp : OpAt w F (.pointer (some a)) o) (_ : -9223372036854775808 ≤ n ∧ n ≤ 9223372036854775807) :
    Calls Tryz.prog 71 #[.pointer (some a), .int .i64 n] w fun e w' => e = .returned (.int .u64 ((o.num n).1 : Int)) ∧ ∃ F', OpAt w' F' (.pointer (some a)) (o.num n).2 ∧ Only F w w' ∧ (∀ i, F' i → F i ∨ w.heap.size ≤ i) := by
  obtain ⟨k, h1, h2, h3, ⟨r, h4, h5⟩, h6, h7⟩ := hp
  obtain rfl : a = ⟨k, 0, none⟩ := by injection h1 with h1; injection h1
  have hmf := make_fn
  have X : Calls Tryz.prog 79 #[.pointer (some ⟨k, 0, none⟩), .func (.func 80) #[] #[.pointer (some ⟨w.heap.size, 0, none⟩), .pointer (some ⟨w.heap.size + 1, 0, none⟩)]] (twoBoxes w k n) fun e w' =>
      e = .returned (.int .u64 ((o.num n).1 : Int)) ∧ ∃ F', OpAt w' F' (.pointer (some ⟨k, 0, none⟩)) (o.num n).2 ∧ Only F w w' ∧ (∀ i, F' i → F i ∨ w.heap.size ≤ i) := by
    have hL2 : Left (twoBoxes w k n) k r o.bad := h4.new (two_below w k n)
    have hB : Below w.heap.size w (boxed (twoBoxes w k n) k) := (two_below w k n).trans ((boxed_below _ k).mono (two_below w k n).size)
    have hL3 : Left (boxed (twoBoxes w k n) k) k r o.bad := h4.new hB
    cases hb : o.bad
    · have hr := h5 hb
      rw [hb] at hL2 hL3 h4
      have hsz : r.size = o.s.size - o.at_ := by rw [hr, ByteArray.size_extract]; omega
      cases hs : o.hasNum n
      · have H : o.num n = (0, o.spoil) := by unfold OSt.num; rw [hs]; rfl
        rw [H]
        have hbad : sizedB n = false ∨ (r.size : Int) < n := by
          unfold OSt.hasNum at hs
          rw [hb, Bool.not_false, Bool.true_and] at hs
          cases h8 : sizedB n
          · exact Or.inl rfl
          · rw [h8, Bool.true_and] at hs
            have := of_decide_eq_false hs
            right; omega
        refine (next_bad_num _ _ k r _ enter_onum hL2 (take_num (two_a w k n) (two_b w k n) ((p_onumber_bad k n r _ hL3 hbad).mono fun e w' h => ⟨11, r, h.1, h.2 ▸ hL3, h.2 ▸ Only.refl _ _⟩) (fun e w' h => by
          obtain ⟨x, r', he, -⟩ := h
          exact ⟨0, _, Or.inr he⟩))).mono ?_
        rintro e w' ⟨rfl, hL, hO⟩
        exact ⟨rfl, op_next h2 h3 (hO.after (two_below w k n)) hL (fun h => by simp [OSt.spoil] at h) ⟨h6, h7⟩⟩
      · have hs' : sizedB n = true ∧ n ≤ (o.s.size : Int) - o.at_ := by
          unfold OSt.hasNum at hs
          simp only [Bool.and_eq_true] at hs
          exact ⟨hs.1.2, of_decide_eq_true hs.2⟩
        have hm : ∃ m : Nat, n = m := by
          rcases (of_decide_eq_true hs'.1 : n = 1 ∨ n = 2 ∨ n = 4 ∨ n = 8) with rfl | rfl | rfl | rfl
          · exact ⟨1, rfl⟩
          · exact ⟨2, rfl⟩
          · exact ⟨4, rfl⟩
          · exact ⟨8, rfl⟩
        obtain ⟨m, rfl⟩ := hm
        have H : o.num m = (valN o.s o.at_ m, ⟨o.s, o.at_ + m, false⟩) := by unfold OSt.num; rw [hs]; rfl
        rw [H]
        have hmr : m ≤ r.size := by omega
        have hv : valN (r.extract 0 m) 0 m = valN o.s o.at_ m := by
          rw [hr, ext_ext _ _ _ _ h6 (by omega), valN_ext (by omega) m 0 (by omega)]
          simp
        have hrest : r.extract m r.size = o.s.extract (o.at_ + m) o.s.size := by
          rw [hsz, hr, ext_ext _ _ _ _ h6 (by omega)]
          congr 1
          omega
        refine (next_ok_num _ _ _ (fun w' => Left w' k (r.extract m r.size) false ∧ Only (fun i => i = k) (boxed (twoBoxes w k m) k) w') k r _ enter_onum hL2 (take_num (two_a w k m) (two_b w k m) (p_onumber k m r _ hL3 hs'.1 hmr) (fun e w' h => ⟨_, [], Or.inl h.1⟩))).mono ?_
        rintro e w' ⟨rfl, hL, hO⟩
        rw [hv]
        exact ⟨rfl, op_next h2 h3 (hO.after hB) hL (fun _ => hrest) ⟨by show o.at_ + m ≤ o.s.size; omega, h7⟩⟩
    · have H : o.num n = (0, o.spoil) := by unfold OSt.num OSt.hasNum; rw [hb]; rfl
      rw [H]
      rw [hb] at hL2
      refine (next_spoilt_num _ k r _ hL2).mono ?_
      rintro e w' ⟨rfl, hb2⟩
      have hb3 : Below w.heap.size w w' := (two_below w k n).trans (hb2.mono (two_below w k n).size)
      rw [hb] at h4
      exact ⟨rfl, op_next h2 h3 (only_new hb3) (h4.new hb3) (fun h => by simp [OSt.spoil] at h) ⟨h6, h7⟩⟩
  have X := Lib.hid X
  unfold twoBoxes at X
  clear h1 h2 h3 h4 h5 h6 h7
  go_enter Tryz.func71, Tryz.ntmps71
  go_wp2_with fail
  refine X.out.mono ?_
  rintro e w' ⟨rfl, R⟩
  have R := Lib.hid R
  clear X
  go_wp2_with fail
  go_ret
  exact ⟨rfl, R.out⟩
end Go.Proofs.YtndanhacmfhlaaaGreat.Pack
