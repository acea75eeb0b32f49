/- The program's own Opener: the bytes, the number, the text that stand next. -/
import Derived.Test.YtndmimmkjccgmaaPackOwn5
import Derived.Laws.BitsAllLaws
namespace Go.Proofs.Ytndmimmkjccgmaa.Pack
open Go.ChangeShapes Go.WideShapes Go.ChangeAt Go.RowKit

/-- The cells of an opener: what is before it, whether it is spoilt. -/
def opcell (r : ByteArray) (b : Bool) (i : Nat) : Value := if i = 0 then .string r else .bool b
/-- At block k the text r is left. -/
def Left (w : World) (k : Nat) (r : ByteArray) (b : Bool) : Prop := w.rowIs k 63 2 (opcell r b)
theorem left_set {w : World} {k : Nat} {r : ByteArray} {b : Bool} (h : Left w k r b) (t : ByteArray) : Left (w.setCell ⟨k, 0, none⟩ (.string t)) k t b :=
  (h.set 0 _).congr fun i hi => by
    match i, hi with
    | 0, _ | 1, _ => rfl
theorem only_one (w : World) (k o : Nat) (u : Value) : Only (fun i => i = k) w (w.setCell ⟨k, o, none⟩ u) :=
  ⟨rfl, rfl, rfl, by simp [World.setCell], fun i _ hf => Below.heap_setCell w ⟨k, o, none⟩ _ i hf⟩
theorem p_bytes_bad (k n : Nat) (r : ByteArray) (w : World) (h : Left w k r false) (hn : r.size < n) :
    Calls Try.prog 43 #[.pointer (some ⟨k, 0, none⟩), .int .i64 n] w fun e w' => e = .panicked (errP 11) ∧ w = w' := by
  have c0 : w.cell? ⟨k, 0, none⟩ = some (.string r) := h.cell (i := 0) (by omega)
  have t1 : decide ((r.size : Int) < (n : Int)) = true := decide_eq_true (by omega)
  clear h
  go_enter Try.func43, Try.ntmps43
  go_wp2_with fail
  exact ⟨rfl, rfl, rfl⟩
theorem p_bytes (k n : Nat) (r : ByteArray) (w : World) (h : Left w k r false) (hn : n ≤ r.size) :
    Calls Try.prog 43 #[.pointer (some ⟨k, 0, none⟩), .int .i64 n] w fun e w' => e = .returned (.string (r.extract 0 n)) ∧ Left w' k (r.extract n r.size) false ∧ Only (fun i => i = k) w w' := by
  have c0 : w.cell? ⟨k, 0, none⟩ = some (.string r) := h.cell (i := 0) (by omega)
  have f0 := h.frozen 0
  have t1 : decide ((r.size : Int) < (n : Int)) = false := decide_eq_false (by omega)
  have n0 : (0 : Int) ≤ (n : Int) := by omega
  have n1 : (n : Int) ≤ (r.size : Int) := by omega
  have HL := Lib.hid h
  clear h
  go_enter Try.func43, Try.ntmps43
  go_wp2_with fail
  go_ret
  exact ⟨rfl, left_set HL.out _, only_one w k 0 _⟩
theorem val_last (s : ByteArray) : ∀ (i a : Nat), valN s a (i + 1) = valN s a i + byteN s (a + i) * 256 ^ i
  | 0, a => by show byteN s a + 256 * 0 = 0 + byteN s (a + 0) * 256 ^ 0; simp
  | i + 1, a => by
    show byteN s a + 256 * valN s (a + 1) (i + 1) = byteN s a + 256 * valN s (a + 1) i + byteN s (a + (i + 1)) * 256 ^ (i + 1)
    rw [val_last s i (a + 1), show a + 1 + i = a + (i + 1) by omega, Nat.pow_succ, Nat.mul_add]
    have : 256 * (byteN s (a + (i + 1)) * 256 ^ i) = byteN s (a + (i + 1)) * (256 ^ i * 256) := by
      rw [Nat.mul_comm (256 ^ i) 256, ← Nat.mul_assoc, ← Nat.mul_assoc, Nat.mul_comm 256]
    omega
theorem or_sum {x y i : Nat} (hx : x < 256 ^ i) (hy : y < 256) (h8 : i < 8) : bits .or .u64 (x : Int) ((y * 256 ^ i : Nat) : Int) = ((x + y * 256 ^ i : Nat) : Int) := by
  have hp : 256 ^ i ≤ 256 ^ 7 := Nat.pow_le_pow_right (by decide) (by omega)
  have hy2 : y * 256 ^ i ≤ 255 * 256 ^ 7 := Nat.mul_le_mul (by omega) hp
  have e7 : (256 : Nat) ^ 7 = 72057594037927936 := by decide
  rw [e7] at hp hy2
  rw [u64_or_nat x (y * 256 ^ i) (by omega) (by omega)]
  have e : (256 : Nat) ^ i = 2 ^ (8 * i) := by rw [Nat.pow_mul]
  rw [e] at hx ⊢
  have := Nat.two_pow_add_eq_or_of_lt hx y
  rw [Nat.mul_comm y, Nat.or_comm, ← this, Nat.add_comm]
theorem shl_nat {y i : Nat} (hy : y < 256) (h8 : i < 8) : IntKind.u64.wrap (IntKind.u64.wrap ((y : Nat) : Int) * 2 ^ (8 * i)) = ((y * 256 ^ i : Nat) : Int) := by
  have hp : 256 ^ i ≤ 256 ^ 7 := Nat.pow_le_pow_right (by decide) (by omega)
  have hy2 : y * 256 ^ i ≤ 255 * 256 ^ 7 := Nat.mul_le_mul (by omega) hp
  have e7 : (256 : Nat) ^ 7 = 72057594037927936 := by decide
  rw [e7] at hp hy2
  have e : (256 : Nat) ^ i = 2 ^ (8 * i) := by rw [Nat.pow_mul]
  rw [IntWalk.u64_in (y : Int) (by omega)]
  have : ((y : Nat) : Int) * 2 ^ (8 * i) = ((y * 256 ^ i : Nat) : Int) := by rw [e]; norm_cast
  rw [this, IntWalk.u64_in _ (by omega)]
theorem p_onumber_bad (k : Nat) (n : Int) (r : ByteArray) (w : World) (h : Left w k r false) (hn : sizedB n = false ∨ (r.size : Int) < n) :
    Calls Try.prog 37 #[.pointer (some ⟨k, 0, none⟩), .int .i64 n] w fun e w' => e = .panicked (errP 11) ∧ w = w' := by
  cases hs : sizedB n
  · have S := p_size_bad n w hs
    go_enter Try.func37, Try.ntmps37
    go_wp2_with fail
    refine S.mono ?_
    rintro e w' ⟨rfl, rfl⟩
    go_wp2_with fail
    exact ⟨rfl, rfl, rfl⟩
  · have S := p_size_ok n w hs
    have hm : ∃ m : Nat, n = m := by
      rcases (of_decide_eq_true hs : n = 1 ∨ n = 2 ∨ n = 4 ∨ n = 8) with rfl | rfl | rfl | rfl
      · exact ⟨1, rfl⟩
      · exact ⟨2, rfl⟩
      · exact ⟨4, rfl⟩
      · exact ⟨8, rfl⟩
    obtain ⟨m, rfl⟩ := hm
    have B := p_bytes_bad k m r w h (by
      rcases hn with hn | hn
      · rw [hs] at hn; exact absurd hn (by decide)
      · omega)
    clear hn hs h
    go_enter Try.func37, Try.ntmps37
    go_wp2_with fail
    refine S.mono ?_
    rintro e w' ⟨rfl, rfl⟩
    go_wp2_with fail
    refine B.mono ?_
    rintro e w' ⟨rfl, rfl⟩
    go_wp2_with fail
    exact ⟨rfl, rfl, rfl⟩
set_option maxHeartbeats 2000000 in
theorem p_onumber (k m : Nat) (r : ByteArray) (w : World) (h : Left w k r false) (hs : sizedB m = true) (hn : m ≤ r.size) :
    Calls Try.prog 37 #[.pointer (some ⟨k, 0, none⟩), .int .i64 m] w fun e w' => e = .returned (.int .u64 (valN (r.extract 0 m) 0 m : Nat)) ∧ Left w' k (r.extract m r.size) false ∧ Only (fun i => i = k) w w' := by
  have S := p_size_ok m w hs
  have B := p_bytes k m r w h hn
  have hm : m = 1 ∨ m = 2 ∨ m = 4 ∨ m = 8 := by
    have := (of_decide_eq_true hs : (m : Int) = 1 ∨ (m : Int) = 2 ∨ (m : Int) = 4 ∨ (m : Int) = 8)
    omega
  have m8 : m ≤ 8 := by omega
  have hbs : (r.extract 0 m).size = m := by rw [ByteArray.size_extract]; omega
  generalize r.extract 0 m = b at *
  clear hm hs h hn
  go_enter Try.func37, Try.ntmps37
  go_wp2_with fail
  refine S.mono ?_
  rintro e w' ⟨rfl, rfl⟩
  go_wp2_with fail
  refine B.mono ?_
  rintro e w1 ⟨rfl, hL, hO⟩
  have HL := Lib.hid hL
  have HO := Lib.hid hO
  clear S B hL hO
  go_wp2_with fail
  go_loop [6, 14] (fun u t => ∃ (i : Nat), i ≤ m ∧ t = .int .i64 i ∧ u = .int .u64 (valN b 0 i : Nat)) (fun _ t => m - (intOf t).toNat)
  case atStart => exact ⟨0, Nat.zero_le _, rfl, rfl⟩
  case round =>
    obtain ⟨i, hi, rfl, rfl⟩ := hrel
    by_cases hlt : i < m
    · have u0 : decide ((i : Int) < (m : Int)) = true := decide_eq_true (by omega)
      have i0 : (0 : Int) ≤ i := by omega
      have i1 : i < b.size := by omega
      have HV := Lib.hid (val_last b i 0)
      rw [Nat.zero_add] at HV
      have OS := or_sum (valN_lt b i 0) (byteN_lt b i) (by omega)
      have HB := byteN_at i1
      have HS := Lib.hid (shl_nat (byteN_lt b i) (show i < 8 by omega))
      generalize valN b 0 i = x at *
      go_wp2_with fail
      go_round
      case rel => exact ⟨i + 1, by omega, by go_num, by rw [HS.out, OS, HV.out]⟩
      case measure => simp [intOf]; omega
    · obtain rfl : i = m := by omega
      have u0 : decide ((i : Int) < (i : Int)) = false := decide_eq_false (by omega)
      go_wp2_with fail
      go_ret
      exact ⟨rfl, HL.out, HO.out⟩
theorem Only.refl (F : Nat → Prop) (w : World) : Only F w w := ⟨rfl, rfl, rfl, Nat.le_refl _, fun _ _ _ => rfl⟩
theorem Only.trans {F : Nat → Prop} {w w1 w2 : World} (h : Only F w w1) (h2 : Only F w1 w2) : Only F w w2 :=
  ⟨h2.os.trans h.os, h2.tape.trans h.tape, h2.output.trans h.output, Nat.le_trans h.size h2.size, fun i hi hf => (h2.block i (Nat.lt_of_lt_of_le hi h.size) hf).trans (h.block i hi hf)⟩
theorem Left.new {w w' : World} {k : Nat} {r : ByteArray} {b : Bool} (h : Left w k r b) (hb : Below w.heap.size w w') : Left w' k r b := h.of_block (hb.block k h.lt)
/-- A panic behind which a text is left. -/
def Panics (w : World) (k : Nat) (e : Ending) (w' : World) : Prop := ∃ (x : Int) (r : ByteArray), e = .panicked (errP x) ∧ Left w' k r false ∧ Only (fun i => i = k) w w'
theorem p_otext_bad (k : Nat) (most : Int) (r : ByteArray) (w : World) (h : Left w k r false) (hn : ¬ (2 ≤ r.size ∧ ((valN (r.extract 0 2) 0 2 : Nat) : Int) ≤ most ∧ valN (r.extract 0 2) 0 2 ≤ (r.extract 2 r.size).size)) :
    Calls Try.prog 34 #[.pointer (some ⟨k, 0, none⟩), .int .i64 most] w (Panics w k) := by
  by_cases h2 : 2 ≤ r.size
  · have N := p_onumber k 2 r w h (by rfl) h2
    have hv := valN_lt (r.extract 0 2) 2 0
    generalize valN (r.extract 0 2) 0 2 = L at *
    have e1 : IntKind.i64.wrap (L : Int) = L := IntWalk.i64_in _ (by omega)
    by_cases h3 : (L : Int) ≤ most
    · have t1 : decide (most < (L : Int)) = false := decide_eq_false (by omega)
      have B := fun w1 h => p_bytes_bad k L (r.extract 2 r.size) w1 h (by omega)
      clear hn h
      go_enter Try.func34, Try.ntmps34
      go_wp2_with fail
      refine N.mono ?_
      rintro e w1 ⟨rfl, hL, hO⟩
      have B := B w1 hL
      have HL := Lib.hid hL
      have HO := Lib.hid hO
      clear N hL hO
      go_wp2_with fail
      refine B.mono ?_
      rintro e w2 ⟨rfl, rfl⟩
      go_wp2_with fail
      exact ⟨rfl, 11, _, rfl, HL.out, HO.out⟩
    · have t1 : decide (most < (L : Int)) = true := decide_eq_true (by omega)
      clear hn h
      go_enter Try.func34, Try.ntmps34
      go_wp2_with fail
      refine N.mono ?_
      rintro e w1 ⟨rfl, hL, hO⟩
      have HL := Lib.hid hL
      have HO := Lib.hid hO
      clear N hL hO
      go_wp2_with fail
      exact ⟨rfl, 2, _, rfl, HL.out, HO.out⟩
  · have N := p_onumber_bad k 2 r w h (Or.inr (by omega))
    have HL := Lib.hid h
    clear hn h
    go_enter Try.func34, Try.ntmps34
    go_wp2_with fail
    refine N.mono ?_
    rintro e w1 ⟨rfl, rfl⟩
    go_wp2_with fail
    exact ⟨rfl, 11, _, rfl, HL.out, Only.refl _ _⟩
theorem p_otext (k : Nat) (most : Int) (r : ByteArray) (w : World) (h : Left w k r false) (h2 : 2 ≤ r.size) (h3 : ((valN (r.extract 0 2) 0 2 : Nat) : Int) ≤ most) (h4 : valN (r.extract 0 2) 0 2 ≤ (r.extract 2 r.size).size) (h5 : r.size ≤ 200000) :
    Calls Try.prog 34 #[.pointer (some ⟨k, 0, none⟩), .int .i64 most] w fun e w' =>
      e = .returned (.string ((r.extract 2 r.size).extract 0 (valN (r.extract 0 2) 0 2))) ∧ Left w' k ((r.extract 2 r.size).extract (valN (r.extract 0 2) 0 2) (r.extract 2 r.size).size) false ∧ Only (fun i => i = k) w w' := by
  have N := p_onumber k 2 r w h (by rfl) h2
  have hv := valN_lt (r.extract 0 2) 2 0
  generalize valN (r.extract 0 2) 0 2 = L at *
  have e1 : IntKind.i64.wrap (L : Int) = L := IntWalk.i64_in _ (by omega)
  have t1 : decide (most < (L : Int)) = false := decide_eq_false (by omega)
  have B := fun w1 h => p_bytes k L (r.extract 2 r.size) w1 h (by omega)
  have hsz : (r.extract 2 r.size).size ≤ 200000 := by rw [ByteArray.size_extract]; omega
  have hsz2 : ((r.extract 2 r.size).extract 0 L).size ≤ 200000 := by rw [ByteArray.size_extract]; omega
  have C := fun w1 => p_clone ((r.extract 2 r.size).extract 0 L) w1 hsz2
  clear h h3 h4 h5 hsz hsz2
  go_enter Try.func34, Try.ntmps34
  go_wp2_with fail
  refine N.mono ?_
  rintro e w1 ⟨rfl, hL, hO⟩
  have B := B w1 hL
  have HO := Lib.hid hO
  clear N hL hO
  go_wp2_with fail
  refine B.mono ?_
  rintro e w2 ⟨rfl, hL, hO⟩
  have HL := Lib.hid hL
  have HO := Lib.hid (HO.out.trans hO)
  have C := C w2
  clear hL hO B
  go_wp2_with fail
  refine C.mono ?_
  rintro e w3 ⟨rfl, hb⟩
  have HL := Lib.hid (HL.out.new hb)
  have HO := Lib.hid (HO.out.trans (only_new hb))
  clear C hb
  go_wp2_with fail
  go_ret
  exact ⟨rfl, HL.out, HO.out⟩
end Go.Proofs.Ytndmimmkjccgmaa.Pack
