/- The program's own package pack: a size, a number's bytes, a text's bytes, a text told anew. -/
import Derived.Test.YtndmimmkjccgmaaRefPack3
import Derived.Defers
import Derived.Recover
import Derived.WalkLawsBesides
import Derived.Lib.UnsafeStr
import Derived.Lib.BufferWrite
import Derived.Laws.MakeOwn
namespace Go.Proofs.Ytndmimmkjccgmaa.Pack
open Go.ChangeShapes Go.WideShapes Go.ChangeAt Go.RowKit

/-- The panic that tells an error. -/
def errP (e : Int) : List PanicEntry := [{ v := .iface 27 (.int .i64 e), recovered := false }]
theorem p_size_ok (n : Int) (w : World) (h : sizedB n = true) : Calls Try.prog 40 #[.int .i64 n] w fun e w' => e = .returned (.tuple #[]) ∧ w = w' := by
  rcases (of_decide_eq_true h : n = 1 ∨ n = 2 ∨ n = 4 ∨ n = 8) with rfl | rfl | rfl | rfl
  all_goals
    go_enter Try.func40, Try.ntmps40
    go_wp2_with fail
    go_returns
    exact ⟨rfl, rfl⟩
theorem p_size_bad (n : Int) (w : World) (h : sizedB n = false) : Calls Try.prog 40 #[.int .i64 n] w fun e w' => e = .panicked (errP 11) ∧ w = w' := by
  have hn : ¬ (n = 1 ∨ n = 2 ∨ n = 4 ∨ n = 8) := of_decide_eq_false h
  have t1 : (n == 1) = false := by rw [beq_eq_false_iff_ne]; omega
  have t2 : (n == 2) = false := by rw [beq_eq_false_iff_ne]; omega
  have t4 : (n == 4) = false := by rw [beq_eq_false_iff_ne]; omega
  have t8 : (n == 8) = false := by rw [beq_eq_false_iff_ne]; omega
  clear h hn
  go_enter Try.func40, Try.ntmps40
  go_wp2_with fail
  exact ⟨rfl, rfl, rfl⟩
theorem byte_text8 {w : World} {g m v : Nat} {T U : TypeId} (h : w.rowIs g T 8 (byteAt v m)) (hm : m ≤ 8) {P : Program} (src dst : TypeId) (hs : P.underlying src = some (.slice U)) (he : P.underlying U = some (.int .u8)) (hd : P.underlying dst = some .string) :
    (convert src dst (.slice (some ⟨g, 0, none⟩) m 8)).run P w = .ok (.string (lowS v m)) w := by
  have hl : (lowB v m).length = m := by unfold lowB; simp
  have := run_convert_bytes_back (P := P) w src dst U ⟨g, 0, none⟩ 8 (lowB v m) hs he hd (fun j hj => by
    rw [hl] at hj
    rw [Go.WideShapes.add_plain, Nat.zero_add, h.cell (by omega)]
    unfold byteAt
    rw [if_pos hj, low_get])
  rw [hl] at this
  exact this
theorem shift_nat (v i : Nat) : (v : Int) / 2 ^ (8 * i) = ((v / 256 ^ i : Nat) : Int) := by
  rw [show (256 : Nat) = 2 ^ 8 by rfl, ← Nat.pow_mul]
  norm_cast
theorem slice_eight (w : World) (g i : Nat) (hi : i ≤ 8) :
    (Instr.sliceAt 69 (.pointer (some ⟨g, 0, none⟩)) none (some (.int .i64 (i : Int))) none).run Try.prog w = .ok (.slice (some ⟨g, 0, none⟩) i 8) w := by
  have al : Try.prog.arrayLen 69 = 8 := by kernel_rfl
  have h := run_sliceAt_array_h (P := Try.prog) w 69 ⟨g, 0, none⟩ (by kernel_rfl) .i64 (i : Int) (by omega) (by rw [al]; omega)
  rw [al] at h
  rw [h, show (sizeOf (Try.prog.elem 69)).run Try.prog w = .ok 1 w by kernel_rfl]
  rfl
set_option maxHeartbeats 2000000 in
theorem p_number (v : Nat) (n : Int) (w : World) (hv : v < 18446744073709551616) (h : goesB v n = true) :
    Calls Try.prog 30 #[.int .u64 v, .int .i64 n] w fun e w' => e = .returned (.string (lowS v n.toNat)) ∧ Below w.heap.size w w' := by
  have hs : sizedB n = true := by unfold goesB at h; rw [Bool.and_eq_true] at h; exact h.1
  have hlt : v < 256 ^ n.toNat := by unfold goesB at h; rw [Bool.and_eq_true] at h; exact of_decide_eq_true h.2
  have S := fun w => p_size_ok n w hs
  have hm : ∃ m : Nat, n = m ∧ 1 ≤ m ∧ m ≤ 8 := by
    rcases (of_decide_eq_true hs : n = 1 ∨ n = 2 ∨ n = 4 ∨ n = 8) with rfl | rfl | rfl | rfl
    · exact ⟨1, rfl, by omega, by omega⟩
    · exact ⟨2, rfl, by omega, by omega⟩
    · exact ⟨4, rfl, by omega, by omega⟩
    · exact ⟨8, rfl, by omega, by omega⟩
  obtain ⟨m, rfl, m1, m8⟩ := hm
  clear h hs
  have t1 : ((v : Int) / 2 ^ (8 * m) != 0) = false := by
    rw [bne_eq_false_iff_eq, shift_nat, Nat.div_eq_of_lt (by simpa using hlt)]; rfl
  clear hlt
  have HV := Lib.hid hv
  clear hv
  go_enter Try.func30, Try.ntmps30
  go_wp2_with fail
  refine (S w).mono ?_
  rintro e w' ⟨rfl, rfl⟩
  go_wp2_with fail
  clear S t1
  go_loopw [16] (fun t wr => ∃ i : Nat, i ≤ m ∧ t = .int .i64 i ∧ Hid (wr.rowIs w.heap.size 69 8 (byteAt v i)) ∧ Hid (Below w.heap.size w wr)) (fun t _ => m - (intOf t).toNat)
  case atStart => exact ⟨0, Nat.zero_le _, rfl, World.rowIs_alloc w _ _ _ (fun i hi => by
      match i, hi with
      | 0, _ | 1, _ | 2, _ | 3, _ | 4, _ | 5, _ | 6, _ | 7, _ => rfl), (Below.refl _ _).alloc (Nat.le_refl _) _⟩
  case round =>
    obtain ⟨i, hi, rfl, hr, hb⟩ := hrel
    by_cases hlt : i < m
    · have u0 : decide ((i : Int) < (m : Int)) = true := decide_eq_true (by omega)
      have i0 : (0 : Int) ≤ i := by omega
      have i8 : i < 8 := by omega
      have c0 := hr.out.cell i8
      have f0 := hr.out.frozen i
      have e1 := shift_nat v i
      have HR := Lib.hid (row_next hr.out)
      generalize v / 256 ^ i = x at *
      go_wp2_with fail
      go_roundw
      case rel => exact ⟨i + 1, by omega, by go_num, HR.out, below_set hb.out (Nat.le_refl _) _ _⟩
      case measure => simp [intOf]; omega
    · obtain rfl : i = m := by omega
      have u0 : decide ((i : Int) < (i : Int)) = false := decide_eq_false (by omega)
      have cv := byte_text8 (P := Try.prog) hr.out m8 59 9 Try.underlying59 Try.underlying5 Try.underlying9
      have cs := slice_eight wr w.heap.size i m8
      go_wp2_with fail
      go_ret
      exact ⟨rfl, hb.out⟩
theorem p_number_bad (v : Nat) (n : Int) (w : World) (h : goesB v n = false) :
    Calls Try.prog 30 #[.int .u64 v, .int .i64 n] w fun e w' => e = .panicked (errP 11) ∧ w = w' := by
  by_cases hs : sizedB n = true
  · have hlt : ¬ v < 256 ^ n.toNat := by
      unfold goesB at h; rw [hs, Bool.true_and] at h; exact of_decide_eq_false h
    have S := fun w => p_size_ok n w hs
    have hm : ∃ m : Nat, n = m ∧ 1 ≤ m ∧ m ≤ 8 := by
      rcases (of_decide_eq_true hs : n = 1 ∨ n = 2 ∨ n = 4 ∨ n = 8) with rfl | rfl | rfl | rfl
      · exact ⟨1, rfl, by omega, by omega⟩
      · exact ⟨2, rfl, by omega, by omega⟩
      · exact ⟨4, rfl, by omega, by omega⟩
      · exact ⟨8, rfl, by omega, by omega⟩
    obtain ⟨m, rfl, m1, m8⟩ := hm
    clear h hs
    have t1 : ((v : Int) / 2 ^ (8 * m) != 0) = true := by
      rw [bne_iff_ne, shift_nat]
      have : 0 < v / 256 ^ m := Nat.div_pos (by simpa using hlt) (Nat.pos_of_neZero _)
      omega
    clear hlt
    go_enter Try.func30, Try.ntmps30
    go_wp2_with fail
    refine (S w).mono ?_
    rintro e w' ⟨rfl, rfl⟩
    go_wp2_with fail
    exact ⟨rfl, rfl, rfl⟩
  · have S := fun w => p_size_bad n w (by simpa using hs)
    clear h hs
    go_enter Try.func30, Try.ntmps30
    go_wp2_with fail
    refine (S w).mono ?_
    rintro e w' ⟨rfl, rfl⟩
    go_wp2_with fail
    exact ⟨rfl, rfl, rfl⟩
theorem p_text (s : ByteArray) (w : World) (h : s.size ≤ 65535) :
    Calls Try.prog 26 #[.string s] w fun e w' => e = .returned (.string (lowS s.size 2 ++ s)) ∧ Below w.heap.size w w' := by
  have t1 : decide ((65535 : Int) < (s.size : Int)) = false := decide_eq_false (by omega)
  have N := p_number s.size 2 w (by omega) (by unfold goesB; rw [show sizedB 2 = true by rfl, decide_eq_true (show s.size < 256 ^ (2 : Int).toNat by show s.size < 65536; omega)]; rfl)
  have z1 : ¬ (9223372036854775807 < (lowS s.size 2).size + s.size) := by rw [low_size]; omega
  have e1 : IntKind.u64.wrap (s.size : Int) = s.size := IntWalk.u64_in _ (by omega)
  have e2 : (s.size : Int) % 18446744073709551616 = s.size := by omega
  clear h
  go_enter Try.func26, Try.ntmps26
  go_wp2_with fail
  refine N.mono ?_
  rintro e w' ⟨rfl, hb⟩
  go_wp2_with fail
  go_ret
  exact ⟨rfl, hb⟩
theorem p_text_bad (s : ByteArray) (w : World) (h : 65535 < s.size) :
    Calls Try.prog 26 #[.string s] w fun e w' => e = .panicked (errP 2) ∧ w = w' := by
  have t1 : decide ((65535 : Int) < (s.size : Int)) = true := decide_eq_true (by omega)
  go_enter Try.func26, Try.ntmps26
  go_wp2_with fail
  exact ⟨rfl, rfl, rfl⟩
/-- A text told anew. -/
theorem p_clone (s : ByteArray) (w : World) (hs : s.size ≤ 200000) :
    Calls Try.prog 42 #[.string s] w fun e w' => e = .returned (.string s) ∧ Below w.heap.size w w' := by
  by_cases h0 : s.size = 0
  · have hs : s = ⟨#[]⟩ := by
      apply ByteArray.ext
      exact Array.eq_empty_of_size_eq_zero h0
    subst hs
    go_enter Try.func42, Try.ntmps42
    go_wp2
    go_ret
    exact ⟨rfl, Below.refl _ _⟩
  · obtain ⟨M, hM⟩ : ∃ M, M = madeCells #[Value.int .u8 0] s.size := ⟨_, rfl⟩
    have hMs : M.size = s.size := by rw [hM, size_madeCells]
    have hmk : ∀ W : World, (Instr.makeSlice 59 (.int .i64 (s.size : Int)) (.int .i64 (s.size : Int))).run Try.prog W = .ok (.slice (some ⟨W.heap.size, 0, none⟩) s.size s.size) (W.alloc (.cells M 5)) := fun W => by
      have h := run_make_row' (P := Try.prog) 59 5 (.int .u8 0) 1 Try.underlying59 u8_info rfl .i64 .i64 s.size (by omega) (by omega) W
      rw [← hM] at h
      exact h
    clear hM
    have hinfo : (Try.prog.info? 5).map (·.size) = some 1 := by kernel_rfl
    have hco : Try.prog.cellsOf 5 = 1 := by kernel_rfl
    have hcp := Lib.run_copy_row_string (P := Try.prog) (w.alloc (.cells M 5)) 59 9 3 5 w.heap.size 0 s.size s.size s M 5 Try.underlying59 hinfo (heap_alloc_new w _) (Nat.le_refl _) (by omega)
    obtain ⟨Y, hY⟩ : ∃ Y, Y = (M.toList.take 0 ++ Lib.byteCells s.data.toList ++ M.toList.drop (0 + s.size)).toArray := ⟨_, rfl⟩
    rw [← hY] at hcp
    have hYl : Y.toList = Lib.byteCells s.data.toList := by
      rw [hY, List.toList_toArray, List.take_zero, List.nil_append, List.drop_of_length_le (by rw [Array.length_toList]; omega), List.append_nil]
    have hYs : Y.size = s.size := by rw [← Array.length_toList, hYl, Lib.byteCells_length, ← Lib.size_eq]
    have hgY : ((w.alloc (.cells M 5)).setRow w.heap.size Y).heap[w.heap.size]? = some (.cells Y 5 (0, 0)) := setRow_heap _ _ M _ 5 (0, 0) (heap_alloc_new w _)
    have hne : s.data.toList ≠ [] := fun e => h0 (by rw [Lib.size_eq, e]; rfl)
    have hUS := Lib.run_unsafeString_row (P := Try.prog) ((w.alloc (.cells M 5)).setRow w.heap.size Y) 70 3 9 5 Try.underlying70 hco w.heap.size Y.size (by unfold World.shape?; rw [hgY]) s.data.toList hne (by rw [← Lib.size_eq]; omega) (by rw [← Lib.size_eq]; omega)
      (fun j x hx => Lib.cells_of_row hgY Y.size j _ (by rw [List.take_of_length_le (by rw [Array.length_toList]; exact Nat.le_refl _), hYl]; simp [Lib.byteCells, hx]))
    rw [← Lib.size_eq] at hUS
    clear hY
    go_enter Try.func42, Try.ntmps42
    go_wp2
    go_ret
    have hb1 : Below w.heap.size w (w.alloc (.cells M 5)) := (Below.refl _ w).alloc (Nat.le_refl _) _
    have hb2 : Below w.heap.size (w.alloc (.cells M 5)) ((w.alloc (.cells M 5)).setRow w.heap.size Y) := ⟨rfl, rfl, rfl, by simp, fun k hk => setRow_other _ _ _ _ (by omega)⟩
    exact ⟨rfl, Lib.below_freeze (hb1.trans hb2) (p := ⟨w.heap.size, 0, none⟩) (Nat.le_refl _) _⟩
end Go.Proofs.Ytndmimmkjccgmaa.Pack
