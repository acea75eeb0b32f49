/- The library's contracts of strings.Builder, strings.Repeat, slices.Equal at this program: which function and type is which. Of no one law: a strings.Builder of the call's own that is grown, written and told; strings.Repeat of the byte 0; slices.Equal of texts. The program's own package crc: Sum, Again, at any text and any sum (for seats that have no Join). The program's own package frame: Size, a number's bytes, a sector's number. The program's own package frame: pieces put together. The program's own package frame: a record's bytes, a sector. The program's own package frame: Make. The program's own package frame: the text that sectors claim, Read. The program's own package frame: Size, Num, Make, Read, at any text, any number and any sectors. -/
import Derived.Shelf.Strings.Builder1
import Derived.Shelf.Strings.Builder2
import Derived.Shelf.Strings.BuilderF
import Derived.Shelf.Strings.Prefix
import Derived.Shelf.Bits.Mul64
import Derived.Shelf.Strings.Repeat
import Derived.Shelf.Slices.Equal
import Derived.Shelf.Slices.Empties2
import Derived.Test.YtndanhacmfhlaaaGreatProg
import Derived.Test.YtndanhacmfhlaaaGreatGPack
import Derived.Test.YtndanhacmfhlaaaGreatGA
import Derived.Test.YtndanhacmfhlaaaGreatGBase
import Derived.Deep.QuietTactic
import Derived.Laws.BitsLemmas
import Derived.Test.YtndanhacmfhlaaaGreatGOwnP
import Derived.Test.YtndanhacmfhlaaaGreatGFr
import Derived.Deep.OwnRows
namespace Go.Proofs.YtndanhacmfhlaaaGreat
open Go.Shelf
def lays105_ren : Go.Shelf.Ren := ⟨fun | 105 => 86 | 212 => 97 | 99 => 98 | 165 => 94 | 166 => 95 | 170 => 99 | 169 => 96 | 263 => 105 | 264 => 106 | 206 => 107 | 240 => 103 | 241 => 104 | 276 => 110 | 277 => 111 | n => n, fun | 9 => 9 | 3 => 3 | 4 => 4 | 20 => 20 | 0 => 0 | 46 => 123 | 109 => 138 | 5 => 5 | 72 => 133 | 76 => 136 | 51 => 59 | 146 => 145 | 53 => 107 | 148 => 147 | 70 => 131 | 37 => 66 | 75 => 135 | 127 => 114 | 164 => 152 | 80 => 56 | n => n, fun | n => n⟩
theorem lays105 : Go.Proofs.Lays.n105 Tryz.prog lays105_ren := {
  mixed := by kernel_rfl
  f99 := Tryz.func98.trans (congrArg some (by kernel_rfl))
  f105 := Tryz.func86.trans (congrArg some (by kernel_rfl))
  f165 := Tryz.func94.trans (congrArg some (by kernel_rfl))
  f166 := Tryz.func95.trans (congrArg some (by kernel_rfl))
  f169 := Tryz.func96.trans (congrArg some (by kernel_rfl))
  f170 := Tryz.func99.trans (congrArg some (by kernel_rfl))
  f206 := Tryz.func107.trans (congrArg some (by kernel_rfl))
  f212 := Tryz.func97.trans (congrArg some (by kernel_rfl))
  f240 := Tryz.func103.trans (congrArg some (by kernel_rfl))
  f241 := Tryz.func104.trans (congrArg some (by kernel_rfl))
  f263 := Tryz.func105.trans (congrArg some (by kernel_rfl))
  f264 := Tryz.func106.trans (congrArg some (by kernel_rfl))
  f276 := Tryz.func110.trans (congrArg some (by kernel_rfl))
  f277 := Tryz.func111.trans (congrArg some (by kernel_rfl))
  t0 := Tryz.underlying0
  a0 := Tryz.isAgg0
  z0 := Tryz.sizeOf0
  v0 := Tryz.zeroValue0
  t3 := Tryz.underlying3
  a3 := Tryz.isAgg3
  z3 := Tryz.sizeOf3
  v3 := Tryz.zeroValue3
  t4 := Tryz.underlying4
  a4 := Tryz.isAgg4
  z4 := Tryz.sizeOf4
  v4 := Tryz.zeroValue4
  t5 := Tryz.underlying5
  a5 := Tryz.isAgg5
  z5 := Tryz.sizeOf5
  v5 := Tryz.zeroValue5
  t9 := Tryz.underlying9
  a9 := Tryz.isAgg9
  z9 := Tryz.sizeOf9
  v9 := Tryz.zeroValue9
  t20 := Tryz.underlying20
  a20 := Tryz.isAgg20
  z20 := Tryz.sizeOf20
  v20 := Tryz.zeroValue20
  t37 := Tryz.underlying66
  a37 := Tryz.isAgg66
  z37 := Tryz.sizeOf66
  v37 := Tryz.zeroValue66
  t46 := Tryz.underlying123
  a46 := Tryz.isAgg123
  z46 := Tryz.sizeOf123
  v46 := Tryz.zeroValue123
  t51 := Tryz.underlying59
  a51 := Tryz.isAgg59
  z51 := Tryz.sizeOf59
  v51 := Tryz.zeroValue59
  t53 := Tryz.underlying107
  a53 := Tryz.isAgg107
  z53 := Tryz.sizeOf107
  v53 := Tryz.zeroValue107
  t70 := Tryz.underlying131
  a70 := Tryz.isAgg131
  z70 := Tryz.sizeOf131
  v70 := Tryz.zeroValue131
  t72 := Tryz.underlying133
  a72 := Tryz.isAgg133
  z72 := Tryz.sizeOf133
  v72 := Tryz.zeroValue133
  t75 := Tryz.underlying135
  a75 := Tryz.isAgg135
  z75 := Tryz.sizeOf135
  v75 := Tryz.zeroValue135
  t76 := Tryz.underlying136
  a76 := Tryz.isAgg136
  z76 := Tryz.sizeOf136
  v76 := Tryz.zeroValue136
  t109 := Tryz.underlying138
  a109 := Tryz.isAgg138
  z109 := Tryz.sizeOf138
  v109 := Tryz.zeroValue138
  t127 := Tryz.underlying114
  a127 := Tryz.isAgg114
  z127 := Tryz.sizeOf114
  v127 := Tryz.zeroValue114
  t146 := Tryz.underlying145
  a146 := Tryz.isAgg145
  z146 := Tryz.sizeOf145
  v146 := Tryz.zeroValue145
  t148 := Tryz.underlying147
  a148 := Tryz.isAgg147
  z148 := Tryz.sizeOf147
  v148 := Tryz.zeroValue147
  t164 := Tryz.underlying152
  a164 := Tryz.isAgg152
  z164 := Tryz.sizeOf152
  v164 := Tryz.zeroValue152 }
theorem Builder_Extra_105 : Builder.Extra Tryz.prog lays105_ren := {
  sizeBuilder := by kernel_rfl
  liesBuilder := by kernel_rfl
  t5 := Tryz.underlying5
  a5 := Tryz.isAgg5
  z5 := Tryz.sizeOf5
  v5 := Tryz.zeroValue5
  infoByte := by kernel_rfl
  cellsByte := by kernel_rfl
  sizeByte := by kernel_rfl
  neB5 := by decide }
def lays193_ren : Go.Shelf.Ren := ⟨fun | 193 => 77 | n => n, fun | 31 => 50 | 9 => 9 | 4 => 4 | 3 => 3 | 0 => 0 | n => n, fun | n => n⟩
theorem lays193 : Go.Proofs.Lays.n193 Tryz.prog lays193_ren := {
  mixed := by kernel_rfl
  f193 := Tryz.func77.trans (congrArg some (by kernel_rfl))
  t0 := Tryz.underlying0
  a0 := Tryz.isAgg0
  z0 := Tryz.sizeOf0
  v0 := Tryz.zeroValue0
  t3 := Tryz.underlying3
  a3 := Tryz.isAgg3
  z3 := Tryz.sizeOf3
  v3 := Tryz.zeroValue3
  t4 := Tryz.underlying4
  a4 := Tryz.isAgg4
  z4 := Tryz.sizeOf4
  v4 := Tryz.zeroValue4
  t9 := Tryz.underlying9
  a9 := Tryz.isAgg9
  z9 := Tryz.sizeOf9
  v9 := Tryz.zeroValue9
  t31 := Tryz.underlying50
  a31 := Tryz.isAgg50
  z31 := Tryz.sizeOf50
  v31 := Tryz.zeroValue50 }
end Go.Proofs.YtndanhacmfhlaaaGreat
namespace Go.Proofs.YtndanhacmfhlaaaGreat.Str
open Go.ChangeShapes Go.WideShapes Go.ChangeAt Go.RowKit Els Pack

/-- At block b stands a builder of the call's own (from block B on) that holds s. -/
def Bld (B b : Nat) (s : ByteArray) (w : World) : Prop := Lib.IsBuilder 133 5 B b (Lib.strCells s) w
theorem b_grow (B b n : Nat) (w : World) (hB : B ≤ b) (hbk : w.heap[b]? = some (.cells #[.pointer none, .slice none 0 0] 133 (0, 0))) (hBw : B ≤ w.heap.size) (hn : n ≤ 281474976710656) :
    Calls Tryz.prog 94 #[.pointer (some ⟨b, 0, none⟩), .int .i64 n] w fun e w' => e = .returned (.tuple #[]) ∧ Bld B b ⟨#[]⟩ w' ∧ Below B w w' :=
  (Any.Builder_Grow_fresh { lays105 with } Builder_Extra_105 B b n w hB hbk hBw hn).mono fun _ _ h => ⟨h.1, Or.inr h.2.1, h.2.2⟩
theorem b_write (B b : Nat) (s t : ByteArray) (w : World) (h : Bld B b s w) (hl : s.size + t.size ≤ 140737488355328) (hBw : B ≤ w.heap.size) :
    Calls Tryz.prog 95 #[.pointer (some ⟨b, 0, none⟩), .string t] w fun e w' => e = .returned (.tuple #[.int .i64 t.size, .nilIface]) ∧ Bld B b (s ++ t) w' ∧ Below B w w' :=
  (Any.Builder_WriteString { lays105 with } Builder_Extra_105 B b (Lib.strCells s) t w h (by rw [Lib.strCells_length]; exact hl) hBw).mono fun _ _ h => ⟨h.1, Or.inr (by
    have := h.2.1
    rwa [show Lib.strCells s ++ Lib.strCells t = Lib.strCells (s ++ t) by unfold Lib.strCells; simp] at this), h.2.2⟩
theorem b_string (B b : Nat) (s : ByteArray) (w : World) (h : Bld B b s w) (hBw : B ≤ w.heap.size) :
    Calls Tryz.prog 96 #[.pointer (some ⟨b, 0, none⟩)] w fun e w' => e = .returned (.string s) ∧ Below B w w' := by
  have := Any.Builder_String_any { lays105 with } Builder_Extra_105 B b s.data.toList w h hBw
  exact this
theorem s_repeat (c : Nat) (w : World) (hc : c ≤ 100000) :
    Calls Tryz.prog 86 #[.string ⟨#[0]⟩, .int .i64 c] w fun e w' => e = .returned (.string (nulls c)) ∧ Below w.heap.size w w' := by
  have := Any.strings_Repeat lays105 Builder_Extra_105 ⟨#[0]⟩ c w (by omega) (by show 1 * c ≤ _; omega)
  have e : (Lib.repeatL (⟨#[0]⟩ : ByteArray).data.toList c).toArray = Array.replicate c 0 := by
    rw [show (⟨#[0]⟩ : ByteArray).data.toList = List.replicate 1 0 from rfl, Lib.repeatL_replicate, Nat.mul_one, List.toArray_replicate]
  rw [e] at this
  exact this
theorem t_equal (w : World) (B B' : Nat) (u v : Value) (l m : List ByteArray) (hu : Txts w B u l) (hv : Txts w B' v m) :
    Calls Tryz.prog 77 #[u, v] w fun e w' => e = .returned (.bool (decide (l = m))) ∧ ∃ q, w' = w.drewN q := by
  obtain ⟨A, c, rfl, hl, -, hc⟩ := hu
  obtain ⟨A', c', rfl, hl', -, hc'⟩ := hv
  by_cases hn : l.length = m.length
  · rcases Nat.eq_zero_or_pos l.length with h0 | h0
    · obtain rfl := List.eq_nil_of_length_eq_zero h0
      obtain rfl := List.eq_nil_of_length_eq_zero (hn.symm.trans h0)
      refine (Any.slices_Equal_string_empty lays193 A A' c 0 c' w (by omega)).mono ?_
      rintro e w' ⟨rfl, rfl⟩
      exact ⟨by simp, 0, rfl⟩
    · obtain ⟨b, off, rfl, -, h1⟩ := hc h0
      obtain ⟨b', off', rfl, -, h2⟩ := hc' (by omega)
      have key := Any.slices_Equal_string lays193 b off l.length c b' off' m.length c' l m w (Nat.le_refl _) (Nat.le_refl _) (by omega) (by omega)
        (fun j hj => by rw [List.getD_eq_getElem?_getD, List.getElem?_eq_getElem hj]; exact h1 j _ (List.getElem?_eq_getElem hj))
        (fun j hj => by rw [List.getD_eq_getElem?_getD, List.getElem?_eq_getElem hj]; exact h2 j _ (List.getElem?_eq_getElem hj))
      rw [List.take_length, List.take_length] at key
      exact key
  · refine (Any.slices_Equal_string_lens lays193 A A' l.length c m.length c' w hn).mono ?_
    rintro e w' ⟨rfl, rfl⟩
    exact ⟨by rw [decide_eq_false (fun e => hn (by rw [e]))], 0, rfl⟩
end Go.Proofs.YtndanhacmfhlaaaGreat.Str
namespace Go.Proofs.YtndanhacmfhlaaaGreat.Crc
open Go.ChangeShapes Go.WideShapes Go.ChangeAt Go.RowKit

theorem ln_odd {k n y : Nat} (h : y = Ln k n) (h1 : y % 2 = 1) : (y / 2) ^^^ 3988292384 = Ln (k + 1) n := by
  rw [Ln_last, ← h]; unfold L; rw [if_pos h1]
theorem ln_even {k n y : Nat} (h : y = Ln k n) (h1 : ¬ y % 2 = 1) : y / 2 = Ln (k + 1) n := by
  rw [Ln_last, ← h]; unfold L; rw [if_neg h1, Nat.xor_zero]
theorem and_odd {y : Nat} (h : y < 4294967296) (h1 : y % 2 = 1) : bits .and .u32 (y : Int) 1 = 1 := by rw [and_one h, h1]; rfl
theorem and_even {y : Nat} (h : y < 4294967296) (h1 : ¬ y % 2 = 1) : bits .and .u32 (y : Int) 1 = 0 := by rw [and_one h, show y % 2 = 0 by omega]; rfl
theorem xor_odd_poly {y : Nat} (h : y < 4294967296) : bits .xor .u32 ((y : Int) / 2) (bits .and .u32 3988292384 4294967295) = (((y / 2) ^^^ 3988292384 : Nat) : Int) := by
  rw [show bits .and .u32 3988292384 4294967295 = 3988292384 by decide]
  exact xor_poly h
theorem xor_even_poly {y : Nat} (h : y < 4294967296) : bits .xor .u32 ((y : Int) / 2) (bits .and .u32 3988292384 0) = ((y / 2 : Nat) : Int) := by
  rw [show bits .and .u32 3988292384 0 = 0 by decide]
  have := u32_xor_nat (y / 2) 0 (by omega) (by decide)
  rw [Nat.xor_zero] at this
  exact this
theorem p_eight (n : Nat) (w : World) (hn : n < 4294967296) :
    Calls Tryz.prog 93 #[.int .u32 n] w fun e w' => e = .returned (.int .u32 (Ln 8 n : Nat)) ∧ w = w' := by
  have HN := Lib.hid hn
  clear hn
  go_enter Tryz.func93, Tryz.ntmps93
  go_wp2_with fail
  go_loop [0, 4] (fun u t => ∃ (k y : Nat), k ≤ 8 ∧ t = .int .i64 k ∧ u = .int .u32 y ∧ Hid (y = Ln k n) ∧ Hid (y < 4294967296)) (fun _ t => 8 - (intOf t).toNat)
  case atStart => exact ⟨0, n, Nat.zero_le _, rfl, rfl, rfl, HN⟩
  case round =>
    obtain ⟨k, y, hk, rfl, rfl, hy, hyl⟩ := hrel
    by_cases hk8 : k < 8
    · have k0 : (0 : Int) ≤ k := by omega
      by_cases hbit : y % 2 = 1
      · have t1 := and_odd hyl.out hbit
        have t2 := xor_odd_poly hyl.out
        have S1 := Lib.hid (ln_odd hy.out hbit)
        clear hbit
        go_wp2_with fail
        go_round
        case rel => exact ⟨k + 1, _, by omega, by go_num, by first | rfl | rw [t2], S1, half_lt hyl.out⟩
        case measure => simp [intOf]; omega
      · have t1 := and_even hyl.out hbit
        have t2 := xor_even_poly hyl.out
        have S1 := Lib.hid (ln_even hy.out hbit)
        clear hbit
        go_wp2_with fail
        go_round
        case rel => exact ⟨k + 1, y / 2, by omega, by go_num, by first | rfl | rw [t2], S1, show y / 2 < 4294967296 by have := hyl.out; omega⟩
        case measure => simp [intOf]; omega
    · obtain rfl : k = 8 := by omega
      have E := hy.out
      clear hy
      subst E
      go_wp2_with fail
      go_ret
      exact ⟨rfl, rfl⟩
theorem c_again (c : Nat) (s : ByteArray) (w : World) (hc : c < 4294967296) (hl : s.size ≤ 100000) :
    Calls Tryz.prog 83 #[.int .u32 c, .string s] w fun e w' => e = .returned (.int .u32 (again c (bs s) : Nat)) ∧ Below w.heap.size w w' := by
  have HF := Lib.hid (Nat.xor_lt_two_pow (n := 32) F_lt hc)
  have t1 := max_xor hc
  have HL := Lib.hid hl
  clear hl hc
  have HE : again c (bs s) = F ^^^ G (F ^^^ c) (bs s) := rfl
  generalize hx0 : F ^^^ c = x0 at *
  clear hx0
  have HG := Lib.hid (fun k => G_lt (s := (bs s).take k) HF.out fun b hb => bs_lt s b (List.mem_of_mem_take hb))
  rw [HE]
  clear HE
  go_enter Tryz.func83, Tryz.ntmps83
  go_wp2_with fail
  go_loop [5, 11] (fun u t => ∃ (j x : Nat), j ≤ s.size ∧ t = .int .i64 j ∧ u = .int .u32 x ∧ Hid (x = G x0 ((bs s).take j)) ∧ Hid (x < 4294967296)) (fun _ t => s.size - (intOf t).toNat)
  case atStart => exact ⟨0, x0, Nat.zero_le _, rfl, rfl, rfl, HF⟩
  case round =>
    obtain ⟨j, x, hj, rfl, rfl, hx, hxl⟩ := hrel
    by_cases hlt : j < s.size
    · have h0 : (0 : Int) ≤ j := by omega
      have h9 := HL.out
      obtain ⟨b, hb⟩ : ∃ b, s[j].toNat = b := ⟨_, rfl⟩
      have hb8 : b < 256 := by rw [← hb]; exact s[j].toNat_lt
      have HN := Lib.hid ((go_next x0 (bs s) (j := j) (by rw [bs_length]; exact hlt)).trans (by rw [bs_at s hlt, hb, ← hx.out]))
      have t2 := u32_xor_nat x b hxl.out (by omega)
      have HX := Lib.hid (Nat.xor_lt_two_pow (n := 32) (x := x) (y := b) hxl.out (by omega))
      have m1 : (b : Int) % 4294967296 = b := by omega
      clear hb8
      have P1 := p_eight (x ^^^ b) w HX.out
      rw [← HN.out] at P1
      go_wp2_with fail
      refine P1.mono ?_
      rintro e w1 ⟨rfl, rfl⟩
      go_wp2_with fail
      go_round
      case rel => exact ⟨j + 1, _, by omega, by go_num, rfl, rfl, HG.out (j + 1)⟩
      case measure => simp [intOf]; omega
    · obtain rfl : j = s.size := by omega
      have E : Hid (x = G x0 (bs s)) := show _ = _ by have := hx.out; rwa [← bs_length, List.take_length] at this
      have E := E.out
      clear hx
      subst E
      have t2 := max_xor hxl.out
      go_wp2_with fail
      go_ret
      exact ⟨rfl, Below.refl _ _⟩
theorem c_sum (s : ByteArray) (w : World) (hl : s.size ≤ 100000) :
    Calls Tryz.prog 84 #[.string s] w fun e w' => e = .returned (.int .u32 (sum (bs s) : Nat)) ∧ Below w.heap.size w w' := by
  have hc := c_again 0 s w (by decide) hl
  have HE : again 0 (bs s) = sum (bs s) := rfl
  rw [HE] at hc
  generalize sum (bs s) = x at *
  have HL := Lib.hid hl
  clear hl HE
  go_enter Tryz.func84, Tryz.ntmps84
  go_wp2_with fail
  refine hc.mono ?_
  rintro e w1 ⟨rfl, hb⟩
  go_wp2_with fail
  go_ret
  exact ⟨rfl, hb⟩
end Go.Proofs.YtndanhacmfhlaaaGreat.Crc
namespace Go.Proofs.YtndanhacmfhlaaaGreat.Frame
open Go.ChangeShapes Go.WideShapes Go.ChangeAt Go.RowKit Pack Crc Els Str

theorem only_below {B : Nat} {F : Nat → Prop} {w w1 w2 : World} (h : Below B w w1) (ho : Only F w1 w2) (hF : ∀ i, F i → B ≤ i) (hs : B ≤ w1.heap.size) : Below B w w2 :=
  ⟨ho.os.trans h.os, ho.tape.trans h.tape, ho.output.trans h.output, Nat.le_trans h.size ho.size, fun i hi => (ho.block i (by omega) (fun hf => by have := hF i hf; omega)).trans (h.block i hi)⟩
theorem drew_on {w w2 : World} {n : Nat} (h : Below (w.drewN n).heap.size (w.drewN n) w2) : Below w.heap.size w w2 := ⟨h.os, h.tape, h.output, h.size, h.block⟩
theorem f_size (n : Int) (w : World) (h : -9223372036854775808 ≤ n ∧ n ≤ 9223372036854775807) : Calls Tryz.prog 51 #[.int .i64 n] w fun e w' => e = .returned (.int .i64 (sizeV n)) ∧ Below w.heap.size w w' := by
  by_cases h0 : n < 0
  · have t1 : decide (n < 0) = true := decide_eq_true h0
    have H : Hid (sizeV n = 0) := show _ = _ by unfold sizeV; rw [if_neg (by omega)]
    rw [H.out]
    go_enter Tryz.func51, Tryz.ntmps51
    go_wp2_with fail
    go_ret
    exact ⟨rfl, Below.refl _ _⟩
  · have t1 : decide (n < 0) = false := decide_eq_false h0
    by_cases h1 : 60000 < n
    · have t2 : decide (60000 < n) = true := decide_eq_true h1
      have H : Hid (sizeV n = 0) := show _ = _ by unfold sizeV; rw [if_neg (by omega)]
      rw [H.out]
      go_enter Tryz.func51, Tryz.ntmps51
      go_wp2_with fail
      go_ret
      exact ⟨rfl, Below.refl _ _⟩
    · have t2 : decide (60000 < n) = false := decide_eq_false h1
      obtain ⟨k, rfl⟩ : ∃ k : Nat, n = k := ⟨n.toNat, by omega⟩
      have H : Hid (sizeV (k : Int) = ((k + 251) / 244 : Nat)) := show _ = _ by unfold sizeV sizeN; rw [if_pos (by omega), Int.toNat_natCast]
      rw [H.out]
      have i1 : IntKind.i64.wrap (4 + (k : Int)) = 4 + (k : Int) := IntWalk.i64_in _ (by omega)
      have i2 : IntKind.i64.wrap (4 + (k : Int) + 4) = 4 + (k : Int) + 4 := IntWalk.i64_in _ (by omega)
      have i3 : IntKind.i64.wrap (4 + (k : Int) + 4 + 244) = 4 + (k : Int) + 4 + 244 := IntWalk.i64_in _ (by omega)
      have i4 : IntKind.i64.wrap (4 + (k : Int) + 4 + 244 - 1) = (k + 251 : Nat) := by rw [IntWalk.i64_in _ (by omega)]; omega
      have i5 : IntKind.i64.wrap (((k + 251 : Nat) : Int) / 244) = ((k + 251) / 244 : Nat) := by rw [IntWalk.i64_in _ (by omega)]; omega
      have i6 : IntKind.i64.wrap (Int.tdiv ((k + 251 : Nat) : Int) 244) = ((k + 251) / 244 : Nat) := by
        rw [Int.tdiv_eq_ediv_of_nonneg (by omega)]; exact i5
      go_enter Tryz.func51, Tryz.ntmps51
      go_wp2_with fail
      go_ret
      exact ⟨rfl, Below.refl _ _⟩
theorem n_number (v : Nat) (n : Nat) (m : Int) (w : World) (hm : m = n) (hn : n = 2 ∨ n = 4) (hv : v < 256 ^ n) :
    Calls Tryz.prog 82 #[.int .u64 v, .int .i64 m] w fun e w' => e = .returned (.string (lowS v n)) ∧ Below w.heap.size w w' := by
  subst hm
  have h4 : v < 4294967296 := by rcases hn with rfl | rfl <;> omega
  have hg : goesB v n = true := by
    unfold goesB
    rw [Int.toNat_natCast]
    rcases hn with rfl | rfl
    · rw [decide_eq_true hv]; rfl
    · rw [decide_eq_true hv]; rfl
  have E1 : Hid (pst0.num v n = ⟨lowS v n, 0⟩) := show _ = _ by
    rw [num_yes _ hg, Int.toNat_natCast]
    unfold PSt.put pst0
    rw [if_neg (by simp), if_neg (by rw [low_size]; show ¬ 60000 < 0 + n; omega)]
    show (⟨⟨#[]⟩ ++ lowS v n, 0⟩ : PSt) = _
    rw [show (⟨#[]⟩ : ByteArray) ++ lowS v n = lowS v n from ByteArray.empty_append ..]
  have P1 := pk_num pst0 v n w.heap.size (fun i => i = w.heap.size) (w.alloc pkObj) (pk_zero w) (by omega) (by omega)
  rw [E1.out] at P1
  unfold pkObj at P1
  clear hg E1 hn hv
  generalize lowS v n = s at *
  go_enter Tryz.func82, Tryz.ntmps82
  go_wp2_with fail
  refine P1.mono ?_
  rintro e w1 ⟨rfl, F', h1, h2, h3⟩
  have hs : w.heap.size ≤ (w.alloc (.cells #[.pointer none, .int .i64 0, .int .i64 0] 127)).heap.size := (below_one w _).size
  have HW := Lib.hid (only_below (below_one w _) h2 (fun i hi => by rw [hi]; exact Nat.le_refl _) hs)
  have H3 : Hid (∀ i, F' i → w.heap.size ≤ i) := fun i hi => by
    rcases h3 i hi with q | q
    · omega
    · omega
  clear h2 h3 hs
  go_wp2_with fail
  refine (pk_done _ _ _ w1 h1).mono ?_
  rintro e w2 ⟨rfl, F2, -, h5, -⟩
  have HW2 := Lib.hid (only_below HW.out h5 H3.out HW.out.size)
  clear h1 h5
  go_wp2_with fail
  go_ret
  exact ⟨rfl, HW2.out⟩
theorem open_num (b : ByteArray) (m : Int) (w : World) (hm : m = 4) (hl : b.size = 4 ∨ 8 ≤ b.size ∧ b.size ≤ 200000) :
    Calls Tryz.prog 70 #[.string b] w fun e w' => ∃ a, e = .returned (.pointer (some a)) ∧ Below w.heap.size w w' ∧
      Calls Tryz.prog 71 #[.pointer (some a), .int .i64 m] w' fun e2 w2 => e2 = .returned (.int .u64 (valN b 0 4 : Nat)) ∧ Below w.heap.size w w2 := by
  subst hm
  have hn : (⟨b, 0, false⟩ : OSt).num 4 = (valN b 0 4, ⟨b, 4, false⟩) := by
    unfold OSt.num OSt.hasNum
    rw [if_pos (by rw [decide_eq_true (by show (4 : Int) ≤ (b.size : Int) - ((0 : Nat) : Int); omega)]; rfl)]
    rfl
  refine (op_open b w (by omega)).mono ?_
  rintro e w1 ⟨a, rfl, F, h1, h2, h3⟩
  refine ⟨a, rfl, h2, (op_num _ 4 a F w1 h1 (by omega)).mono ?_⟩
  rintro e w2 ⟨rfl, F', -, h5, -⟩
  rw [hn]
  exact ⟨rfl, only_below h2 h5 h3 h2.size⟩
set_option maxHeartbeats 1000000 in
theorem f_num (b : ByteArray) (w : World) (_ : b.size ≤ 100000) : Calls Tryz.prog 61 #[.string b] w fun e w' => e = .returned (.int .u32 (numV b : Nat)) ∧ Below w.heap.size w w' := by
  by_cases hs : b.size = 256
  · have s1 : (0 : Int) ≤ (b.size : Int) := by omega
    have t1 : ((b.size : Int) != 256) = false := by rw [bne_eq_false_iff_eq]; omega
    have s4 : (4 : Int) ≤ (b.size : Int) := by omega
    have s252 : (252 : Int) ≤ (b.size : Int) := by omega
    have hz4 : (b.extract 0 4).size = 4 := by rw [size_ext' b (by omega)]
    have hv : valN (b.extract 0 4) 0 4 = valN b 0 4 := by
      have := valN_ext (s := b) (a := 0) (j := 4) (by omega) 4 0 (by omega)
      simpa using this
    have hlt : valN b 0 4 < 4294967296 := valN_lt b 4 0
    by_cases he : b.extract 0 4 = b.extract 252 256
    · have t2 : ((b.extract 0 4).toList == (b.extract 252 256).toList) = true := text_eq he
      have H : Hid (numV b = valN b 0 4) := show _ = _ by unfold numV; rw [if_pos ⟨hs, he⟩]
      have N := fun W => open_num (b.extract 0 4) 4 W rfl (Or.inl hz4)
      rw [H.out]
      rw [hv] at N
      generalize valN b 0 4 = v at *
      have m1 : IntKind.u32.wrap (v : Int) = v := IntWalk.u32_in _ (by omega)
      have HN := Lib.hid N
      clear he hv H N
      go_enter Tryz.func61, Tryz.ntmps61
      go_wp2_with fail
      go_quiet (fail)
      go_wp2_with fail
      refine (HN.out _).mono ?_
      rintro e w1 ⟨a, rfl, hb, N2⟩
      have HB := Lib.hid hb
      clear hb
      go_wp2_with fail
      refine N2.mono ?_
      rintro e w2 ⟨rfl, hb⟩
      have HB := Lib.hid hb
      clear hb
      go_wp2_with fail
      go_ret
      exact ⟨rfl, drew_on HB.out⟩
    · have t2 : ((b.extract 0 4).toList == (b.extract 252 256).toList) = false := text_ne he
      have H : Hid (numV b = 0) := show _ = _ by unfold numV; rw [if_neg (fun h => he h.2)]
      rw [H.out]
      clear he hv H
      go_enter Tryz.func61, Tryz.ntmps61
      go_wp2_with fail
      go_quiet (fail)
      go_wp2_with fail
      go_ret
      exact ⟨rfl, drew_on (Below.refl _ _)⟩
  · have t1 : ((b.size : Int) != 256) = true := by rw [bne_iff_ne]; omega
    have H : Hid (numV b = 0) := show _ = _ by unfold numV; rw [if_neg (fun h => hs h.1)]
    rw [H.out]
    go_enter Tryz.func61, Tryz.ntmps61
    go_wp2_with fail
    go_quiet (fail)
    go_wp2_with fail
    go_ret
    exact ⟨rfl, drew_on (Below.refl _ _)⟩
end Go.Proofs.YtndanhacmfhlaaaGreat.Frame
namespace Go.Proofs.YtndanhacmfhlaaaGreat.Frame
open Go.ChangeShapes Go.WideShapes Go.ChangeAt Go.RowKit Pack Crc Els Str

/-- How long pieces are together. -/
def lenL : List ByteArray → Nat
  | [] => 0
  | b :: l => b.size + lenL l
theorem lenL_last : ∀ (l : List ByteArray) (b : ByteArray), lenL (l ++ [b]) = lenL l + b.size
  | [], b => by show b.size + 0 = 0 + b.size; omega
  | x :: l, b => by show x.size + lenL (l ++ [b]) = x.size + lenL l + b.size; rw [lenL_last l b]; omega
theorem catL_len : ∀ l : List ByteArray, (catL l).size = lenL l
  | [] => rfl
  | b :: l => by show (b ++ catL l).size = b.size + lenL l; rw [ByteArray.size_append, catL_len l]
theorem lenL_take (l : List ByteArray) : ∀ j, lenL (l.take j) ≤ lenL l := by
  intro j
  induction l generalizing j with
  | nil => simp [lenL]
  | cons b l ih =>
    cases j with
    | zero => simp [lenL]
    | succ j => show b.size + lenL (l.take j) ≤ b.size + lenL l; have := ih j; omega
theorem take_at {l : List ByteArray} {j : Nat} (h : j < l.length) : l.take (j + 1) = l.take j ++ [l[j]] := by
  rw [List.take_add_one, List.getElem?_eq_getElem h]; rfl
set_option maxRecDepth 20000 in
set_option maxHeartbeats 1000000 in
theorem t_gether (l : List ByteArray) (v : Value) (w : World) (hv : Txts w w.heap.size v l) (hl : lenL l ≤ 1000000) :
    Calls Tryz.prog 85 #[v] w fun e w' => e = .returned (.string (catL l)) ∧ Below w.heap.size w w' := by
  obtain ⟨A, c, rfl, hn, hcap, hc⟩ := hv
  have HC := Lib.hid hc
  clear hc hcap
  have HL := Lib.hid hl
  clear hl
  go_enter Tryz.func85, Tryz.ntmps85
  go_wp2_with fail
  go_loop [3, 11] (fun u t => ∃ j : Nat, j ≤ l.length ∧ t = .int .i64 j ∧ u = .int .i64 (lenL (l.take j) : Nat)) (fun _ t => l.length - (intOf t).toNat)
  case atStart => exact ⟨0, Nat.zero_le _, rfl, rfl⟩
  case round =>
    obtain ⟨j, hj, rfl, rfl⟩ := hrel
    have hle := lenL_take l j
    have hL := HL.out
    by_cases hlt : j < l.length
    · obtain ⟨b, off, rfl, hb, hcell⟩ := HC.out (by omega)
      have h1 := hcell j _ (List.getElem?_eq_getElem hlt)
      have hle2 := lenL_take l (j + 1)
      rw [take_at hlt, lenL_last] at hle2
      have HN : Hid (lenL (l.take (j + 1)) = lenL (l.take j) + l[j].size) := show _ = _ by rw [take_at hlt, lenL_last]
      have t1 : decide ((j : Int) < (l.length : Int)) = true := decide_eq_true (by omega)
      have h0 : (0 : Int) ≤ j := by omega
      generalize l[j] = x at *
      generalize lenL (l.take j) = q at *
      clear hcell hb HC
      have i1 : IntKind.i64.wrap ((q : Int) + (x.size : Int)) = ((q + x.size : Nat) : Int) := by rw [IntWalk.i64_in _ (by omega)]; omega
      go_wp2_with fail
      go_round
      case rel => exact ⟨j + 1, by omega, by go_num, by rw [HN.out]; rfl⟩
      case measure => simp [intOf]; omega
    · obtain rfl : j = l.length := by omega
      have t1 : decide ((l.length : Int) < (l.length : Int)) = false := decide_eq_false (by omega)
      rw [List.take_length] at hle ⊢
      go_wp2_with fail
      refine (b_grow w.heap.size w.heap.size (lenL l) (w.alloc (.cells #[.pointer none, .slice none 0 0] 133)) (Nat.le_refl _) (heap_alloc_new w _) (by simp) (by omega)).mono ?_
      rintro e w1 ⟨rfl, hB, hb⟩
      have HB := Lib.hid hB
      have HW := Lib.hid ((below_one w (.cells #[.pointer none, .slice none 0 0] 133)).trans hb)
      clear hB hb t1 hlt hle
      go_wp2_with fail
      go_loopw [24] (fun t wr => ∃ j : Nat, j ≤ l.length ∧ t = .int .i64 j ∧ Hid (Bld w.heap.size w.heap.size (catL (l.take j)) wr) ∧ Hid (Below w.heap.size w wr)) (fun t _ => l.length - (intOf t).toNat)
      case atStart => exact ⟨0, Nat.zero_le _, rfl, HB, HW⟩
      case round =>
        obtain ⟨j, hj, rfl, HB, HW⟩ := hrel
        by_cases hlt : j < l.length
        · obtain ⟨b, off, rfl, hb, hcell⟩ := HC.out (by omega)
          have h1 := (HW.out.cell (p := ⟨b, off + j, none⟩) hb).trans (hcell j _ (List.getElem?_eq_getElem hlt))
          have t1 : decide ((j : Int) < (l.length : Int)) = true := decide_eq_true (by omega)
          have h0 : (0 : Int) ≤ j := by omega
          have hle2 := lenL_take l (j + 1)
          rw [take_at hlt, lenL_last] at hle2
          have HN : Hid (catL (l.take (j + 1)) = catL (l.take j) ++ l[j]) := show _ = _ by rw [take_at hlt, catL_last]
          have P := b_write w.heap.size w.heap.size (catL (l.take j)) l[j] wr HB.out (by rw [catL_len]; omega) HW.out.size
          generalize l[j] = x at *
          rw [← HN.out] at P
          clear hcell hb HC hle2 HB HN
          go_wp2_with fail
          refine P.mono ?_
          rintro e w2 ⟨rfl, hB2, hb2⟩
          have HB := Lib.hid hB2
          have HW2 := Lib.hid (HW.out.trans hb2)
          clear hB2 hb2
          go_wp2_with fail
          go_round
          case rel => exact ⟨j + 1, by omega, by go_num, HB, HW2⟩
          case measure => simp [intOf]; omega
        · obtain rfl : j = l.length := by omega
          have t1 : decide ((l.length : Int) < (l.length : Int)) = false := decide_eq_false (by omega)
          rw [List.take_length] at HB
          have P := b_string w.heap.size w.heap.size (catL l) wr HB.out HW.out.size
          go_wp2_with fail
          refine P.mono ?_
          rintro e w2 ⟨rfl, hb2⟩
          have HW2 := Lib.hid (HW.out.trans hb2)
          clear hb2
          go_wp2_with fail
          go_ret
          exact ⟨rfl, HW2.out⟩
end Go.Proofs.YtndanhacmfhlaaaGreat.Frame
namespace Go.Proofs.YtndanhacmfhlaaaGreat.Frame
open Go.ChangeShapes Go.WideShapes Go.ChangeAt Go.RowKit Pack Crc Els Str

theorem wpList_slice {P : Program} {ops : Array Oper} {rest : List Oper} {o : Oper} {a : Act} {w w' : World} {Q : Exit → Act → World → Prop} (hgd : o.guard = none) (t : TypeId) (n : Nat) (ps : Array (Nat × Operand)) (ho : o.op = .buildSlice t n ps) (v : Value) (qs : Array (Nat × Value)) (hq : (ps.map fun x => (x.fst, a.eval x.snd)) = qs)
    (hr : (Instr.buildSlice t n qs).run P w = .ok v w')
    (h : wpList P ops Q rest (a.put o.dst v) w') : wpList P ops Q (o :: rest) a w :=
  wpList_plain hgd fun _ hK => by
    unfold Oper.wp execOp
    simp only [ho, Sem.run_bind, Sem.run_pure]
    rw [hq, hr]
    exact hK _ _ h
/-- A slice literal of texts. -/
theorem texts_new (w : World) (l : List ByteArray) (hl : l.length ≤ 1000) : Txts (w.alloc (.cells (l.map Value.string).toArray 9)) (w.alloc (.cells (l.map Value.string).toArray 9)).heap.size (.slice (some ⟨w.heap.size, 0, none⟩) l.length l.length) l :=
  ⟨_, _, rfl, by omega, ⟨fun h => (by cases h), Nat.le_refl _⟩, fun _ => ⟨w.heap.size, 0, rfl, by simp, fun i x hi => by
    have h := heap_alloc_new w (.cells (l.map Value.string).toArray 9)
    simp only [World.cell?, h, Nat.zero_add]
    simp [hi]⟩⟩
def lit5 (w : World) (a b c d e : ByteArray) : World := w.alloc (.cells #[.string a, .string b, .string c, .string d, .string e] 9)
def lit4 (w : World) (a b c d : ByteArray) : World := w.alloc (.cells #[.string a, .string b, .string c, .string d] 9)
theorem run_five (w : World) (a b c d e : ByteArray) : (Instr.buildSlice 50 5 #[(0, .string a), (1, .string b), (2, .string c), (3, .string d), (4, .string e)]).run Tryz.prog w = .ok (.slice (some ⟨w.heap.size, 0, none⟩) 5 5) (lit5 w a b c d e) := by kernel_rfl
theorem run_four (w : World) (a b c d : ByteArray) : (Instr.buildSlice 50 4 #[(0, .string a), (1, .string b), (2, .string c), (3, .string d)]).run Tryz.prog w = .ok (.slice (some ⟨w.heap.size, 0, none⟩) 4 4) (lit4 w a b c d) := by kernel_rfl
set_option maxRecDepth 20000 in
set_option maxHeartbeats 1000000 in
theorem f_sector (num i q : Nat) (p : ByteArray) (w : World) (hn : num < 4294967296) (hi : i < 65536) (hq : q < 65536) (hp : p.size ≤ 1000) :
    Calls Tryz.prog 74 #[.int .u32 (num : Nat), .int .i64 (i : Nat), .int .i64 (q : Nat), .string p] w fun e w' => e = .returned (.string (secS num q i p)) ∧ Below w.heap.size w w' := by
  have m1 : IntKind.u64.wrap (num : Int) = num := IntWalk.u64_in _ (by omega)
  have m2 : IntKind.u64.wrap (i : Int) = i := IntWalk.u64_in _ (by omega)
  have m3 : IntKind.u64.wrap (q : Int) = q := IntWalk.u64_in _ (by omega)
  have N1 : Hid (∀ W, Calls Tryz.prog 82 #[.int .u64 (num : Nat), .int .i64 4] W fun e w' => e = .returned (.string (lowS num 4)) ∧ Below W.heap.size W w') := fun W => n_number num 4 4 W rfl (Or.inr rfl) (by omega)
  have N2 : Hid (∀ W, Calls Tryz.prog 82 #[.int .u64 (i : Nat), .int .i64 2] W fun e w' => e = .returned (.string (lowS i 2)) ∧ Below W.heap.size W w') := fun W => n_number i 2 2 W rfl (Or.inl rfl) (by omega)
  have N3 : Hid (∀ W, Calls Tryz.prog 82 #[.int .u64 (q : Nat), .int .i64 2] W fun e w' => e = .returned (.string (lowS q 2)) ∧ Below W.heap.size W w') := fun W => n_number q 2 2 W rfl (Or.inl rfl) (by omega)
  have TG : Hid (∀ W, Calls Tryz.prog 85 #[.slice (some ⟨W.heap.size, 0, none⟩) 5 5] (lit5 W (lowS num 4) (lowS i 2) (lowS q 2) p (lowS num 4)) fun e w' => e = .returned (.string (secS num q i p)) ∧ Below W.heap.size W w') := fun W => by
    have h := t_gether [lowS num 4, lowS i 2, lowS q 2, p, lowS num 4] (.slice (some ⟨W.heap.size, 0, none⟩) 5 5) (lit5 W (lowS num 4) (lowS i 2) (lowS q 2) p (lowS num 4)) (texts_new W [lowS num 4, lowS i 2, lowS q 2, p, lowS num 4] (by simp)) (by simp only [lenL, low_size]; omega)
    have e : catL [lowS num 4, lowS i 2, lowS q 2, p, lowS num 4] = secS num q i p := by
      unfold secS
      show lowS num 4 ++ (lowS i 2 ++ (lowS q 2 ++ (p ++ (lowS num 4 ++ ⟨#[]⟩)))) = _
      rw [show lowS num 4 ++ (⟨#[]⟩ : ByteArray) = lowS num 4 from ByteArray.append_empty .., ByteArray.append_assoc, ByteArray.append_assoc, ByteArray.append_assoc]
    rw [e] at h
    exact h.mono fun x y hxy => ⟨hxy.1, (below_one W _).trans (hxy.2.mono (below_one W (.cells #[.string (lowS num 4), .string (lowS i 2), .string (lowS q 2), .string p, .string (lowS num 4)] 9)).size)⟩
  generalize secS num q i p = r at *
  generalize lowS num 4 = M at *
  generalize lowS i 2 = I at *
  generalize lowS q 2 = N at *
  go_enter Tryz.func74, Tryz.ntmps74
  go_wp2_with (first
    | (with_reducible refine (N1.out _).mono ?_; rintro e w1 ⟨rfl, hb⟩; have HB := Lib.hid hb; clear hb)
    | (with_reducible refine (N2.out _).mono ?_; rintro e w2 ⟨rfl, hb⟩; have HB2 := Lib.hid (below_on HB.out hb); clear hb)
    | (with_reducible refine (N3.out _).mono ?_; rintro e w3 ⟨rfl, hb⟩; have HB3 := Lib.hid (below_on HB2.out hb); clear hb)
    | (refine wpList_slice rfl _ _ _ rfl _ _ (by simp [Act.eval]) (run_five w3 M I N p M) ?_)
    | (with_reducible refine (TG.out _).mono ?_; rintro e w4 ⟨rfl, hb⟩; have HB4 := Lib.hid (below_on HB3.out hb); clear hb))
  go_ret
  exact ⟨rfl, HB4.out⟩
theorem bs_cat (s t : ByteArray) : bs (s ++ t) = bs s ++ bs t := by
  unfold bs
  rw [ByteArray.data_append, Array.toList_append, List.map_append]
set_option maxRecDepth 20000 in
set_option maxHeartbeats 1000000 in
theorem f_record (s : ByteArray) (w : World) (hs : s.size ≤ 60000) :
    Calls Tryz.prog 73 #[.string s] w fun e w' => e = .returned (.string (fullS s)) ∧ Below w.heap.size w w' := by
  have m1 : IntKind.u64.wrap (s.size : Int) = s.size := IntWalk.u64_in _ (by omega)
  have hL := low_size s.size 4
  have N1 : Hid (∀ W, Calls Tryz.prog 82 #[.int .u64 (s.size : Nat), .int .i64 4] W fun e w' => e = .returned (.string (lowS s.size 4)) ∧ Below W.heap.size W w') := fun W => n_number s.size 4 4 W rfl (Or.inr rfl) (by omega)
  have S1 : Hid (∀ W, Calls Tryz.prog 84 #[.string (lowS s.size 4)] W fun e w' => e = .returned (.int .u32 (sumS (lowS s.size 4) : Nat)) ∧ Below W.heap.size W w') := fun W => c_sum _ W (by rw [hL]; omega)
  have hlt := sumS_lt (lowS s.size 4)
  have S2 : Hid (∀ W, Calls Tryz.prog 83 #[.int .u32 (sumS (lowS s.size 4) : Nat), .string s] W fun e w' => e = .returned (.int .u32 (sumS (headS s) : Nat)) ∧ Below W.heap.size W w') := fun W => by
    have h := c_again (sumS (lowS s.size 4)) s W hlt (by omega)
    have e : again (sumS (lowS s.size 4)) (bs s) = sumS (headS s) := by
      unfold sumS headS
      rw [again_sum, bs_cat]
    rwa [e] at h
  have hlt2 := sumS_lt (headS s)
  have N2 : Hid (∀ W, Calls Tryz.prog 82 #[.int .u64 (sumS (headS s) : Nat), .int .i64 4] W fun e w' => e = .returned (.string (lowS (sumS (headS s)) 4)) ∧ Below W.heap.size W w') := fun W => n_number _ 4 4 W rfl (Or.inr rfl) (by omega)
  have hm := size_most hs
  have hr := size_room s.size
  have hz : sizeV (s.size : Int) = (sizeN s.size : Nat) := by unfold sizeV; rw [if_pos (by omega), Int.toNat_natCast]
  obtain ⟨d, hd⟩ : ∃ d, sizeN s.size * 244 - (s.size + 8) = d := ⟨_, rfl⟩
  have SZ : Hid (∀ W, Calls Tryz.prog 51 #[.int .i64 (s.size : Nat)] W fun e w' => e = .returned (.int .i64 (sizeN s.size : Nat)) ∧ Below W.heap.size W w') := fun W => by
    have h := f_size (s.size : Int) W (by omega)
    rwa [hz] at h
  have RP : Hid (∀ W, Calls Tryz.prog 86 #[.string ⟨#[0]⟩, .int .i64 (d : Nat)] W fun e w' => e = .returned (.string (nulls d)) ∧ Below W.heap.size W w') := fun W => s_repeat d W (by omega)
  have TG : Hid (∀ W, Calls Tryz.prog 85 #[.slice (some ⟨W.heap.size, 0, none⟩) 4 4] (lit4 W (lowS s.size 4) s (lowS (sumS (headS s)) 4) (nulls d)) fun e w' => e = .returned (.string (fullS s)) ∧ Below W.heap.size W w') := fun W => by
    have h := t_gether [lowS s.size 4, s, lowS (sumS (headS s)) 4, nulls d] (.slice (some ⟨W.heap.size, 0, none⟩) 4 4) (lit4 W (lowS s.size 4) s (lowS (sumS (headS s)) 4) (nulls d)) (texts_new W [lowS s.size 4, s, lowS (sumS (headS s)) 4, nulls d] (by simp)) (by simp only [lenL, low_size, nulls_size]; omega)
    have e : catL [lowS s.size 4, s, lowS (sumS (headS s)) 4, nulls d] = fullS s := by
      unfold fullS recS headS
      rw [hd]
      show lowS s.size 4 ++ (s ++ (lowS (sumS (lowS s.size 4 ++ s)) 4 ++ (nulls d ++ ⟨#[]⟩))) = _
      rw [show nulls d ++ (⟨#[]⟩ : ByteArray) = nulls d from ByteArray.append_empty .., ByteArray.append_assoc, ByteArray.append_assoc]
    rw [e] at h
    exact h.mono fun x y hxy => ⟨hxy.1, (below_one W _).trans (hxy.2.mono (below_one W (.cells #[.string (lowS s.size 4), .string s, .string (lowS (sumS (headS s)) 4), .string (nulls d)] 9)).size)⟩
  have m2 : IntKind.u64.wrap ((sumS (headS s) : Nat) : Int) = (sumS (headS s) : Nat) := IntWalk.u64_in _ (by omega)
  generalize fullS s = r at *
  generalize lowS (sumS (headS s)) 4 = M2 at *
  generalize sumS (headS s) = k2 at *
  generalize sumS (lowS s.size 4) = k1 at *
  generalize lowS s.size 4 = M at *
  generalize sizeN s.size = q at *
  have i1 : IntKind.i64.wrap ((q : Int) * 244) = (q : Int) * 244 := IntWalk.i64_in _ (by omega)
  have i2 : IntKind.i64.wrap ((q : Int) * 244 - 4) = (q : Int) * 244 - 4 := IntWalk.i64_in _ (by omega)
  have i3 : IntKind.i64.wrap ((q : Int) * 244 - 4 - s.size) = (q : Int) * 244 - 4 - s.size := IntWalk.i64_in _ (by omega)
  have i4 : IntKind.i64.wrap ((q : Int) * 244 - 4 - s.size - 4) = (d : Nat) := by rw [IntWalk.i64_in _ (by omega)]; omega
  clear hz hlt hlt2 hr hm hd
  generalize nulls d = Z at *
  go_enter Tryz.func73, Tryz.ntmps73
  go_wp2_with (first
    | (with_reducible refine (N1.out _).mono ?_; rintro e w1 ⟨rfl, hb⟩; have HB := Lib.hid hb; clear hb)
    | (with_reducible refine (S1.out _).mono ?_; rintro e w2 ⟨rfl, hb⟩; have HB2 := Lib.hid (below_on HB.out hb); clear hb)
    | (with_reducible refine (S2.out _).mono ?_; rintro e w3 ⟨rfl, hb⟩; have HB3 := Lib.hid (below_on HB2.out hb); clear hb)
    | (with_reducible refine (N2.out _).mono ?_; rintro e w4 ⟨rfl, hb⟩; have HB4 := Lib.hid (below_on HB3.out hb); clear hb)
    | (with_reducible refine (SZ.out _).mono ?_; rintro e w5 ⟨rfl, hb⟩; have HB5 := Lib.hid (below_on HB4.out hb); clear hb)
    | (with_reducible refine (RP.out _).mono ?_; rintro e w6 ⟨rfl, hb⟩; have HB6 := Lib.hid (below_on HB5.out hb); clear hb)
    | (refine wpList_slice rfl _ _ _ rfl _ _ (by simp [Act.eval]) (run_four w6 M s M2 Z) ?_)
    | (with_reducible refine (TG.out _).mono ?_; rintro e w7 ⟨rfl, hb⟩; have HB7 := Lib.hid (below_on HB6.out hb); clear hb))
  go_ret
  exact ⟨rfl, HB7.out⟩
end Go.Proofs.YtndanhacmfhlaaaGreat.Frame
namespace Go.Proofs.YtndanhacmfhlaaaGreat.Frame
open Go.ChangeShapes Go.WideShapes Go.ChangeAt Go.RowKit Pack Crc Els Str

theorem txt_info : (Tryz.prog.info? 9).map (fun i => (i.zero, i.size, i.bytes)) = some (some (.string ⟨#[]⟩), 1, 16) := by kernel_rfl
/-- A row of sectors of which the first n are made. -/
def secRow (num q : Nat) (s : ByteArray) (n j : Nat) : Value := if j < n then .string (secS num q j (pieceS s j)) else .string ⟨#[]⟩
theorem secRow_step {w : World} {g T num q n : Nat} {s : ByteArray} (h : w.rowIs g T q (fun j => if j = n then .string (secS num q n (pieceS s n)) else secRow num q s n j)) : w.rowIs g T q (secRow num q s (n + 1)) :=
  h.congr fun j _ => by
    unfold secRow
    by_cases h1 : j = n
    · rw [if_pos h1, if_pos (by omega), h1]
    · rw [if_neg h1]
      by_cases h2 : j < n
      · rw [if_pos h2, if_pos (by omega)]
      · rw [if_neg h2, if_neg (by omega)]
theorem secRow_all {w : World} {g T num : Nat} {s : ByteArray} (hs : s.size ≤ 60000) (h : w.rowIs g T (sizeN s.size) (secRow num (sizeN s.size) s (sizeN s.size))) : Txts w w.heap.size (.slice (some ⟨g, 0, none⟩) (sizeN s.size) (sizeN s.size)) (secL num s) := by
  have hm := size_most hs
  refine ⟨some ⟨g, 0, none⟩, sizeN s.size, by rw [secL_length], by rw [secL_length]; omega, ⟨fun h => (by cases h), by rw [secL_length]; exact Nat.le_refl _⟩, fun _ => ⟨g, 0, rfl, h.lt, fun i x hx => ?_⟩⟩
  have hi : i < sizeN s.size := by have := (List.getElem?_eq_some_iff.1 hx).1; rwa [secL_length] at this
  rw [Nat.zero_add, h.cell hi]
  unfold secRow
  rw [if_pos hi]
  rw [secL_at hi] at hx
  injection hx with hx
  rw [hx]
theorem own_zero (s : ByteArray) (w : World) : Calls Tryz.prog 65 #[.int .u32 (0 : Nat), .string s] w (MadeN 0 s w) := by
  have H : Hid (makL 0 s = [] ∧ makX 0 s = 1) := show _ ∧ _ from ⟨by unfold makL; rw [if_pos (Or.inl rfl)], rfl⟩
  unfold MadeN
  rw [H.out.1, H.out.2]
  go_enter Tryz.func65, Tryz.ntmps65
  go_wp2_with fail
  go_ret2
  exact ⟨_, rfl, Els.nil_ _ _, Below.refl _ _, new_nil _⟩
theorem own_long (num : Nat) (s : ByteArray) (w : World) (h0 : num ≠ 0) (hs : 60000 < s.size) : Calls Tryz.prog 65 #[.int .u32 (num : Nat), .string s] w (MadeN num s w) := by
  have H : Hid (makL num s = [] ∧ makX num s = 2) := show _ ∧ _ from ⟨by unfold makL; rw [if_pos (Or.inr hs)], by unfold makX; rw [if_neg h0, if_pos hs]⟩
  unfold MadeN
  rw [H.out.1, H.out.2]
  have t1 : ((num : Int) == 0) = false := by rw [beq_eq_false_iff_ne]; omega
  have t2 : decide ((60000 : Int) < (s.size : Int)) = true := decide_eq_true (by omega)
  go_enter Tryz.func65, Tryz.ntmps65
  go_wp2_with fail
  go_ret2
  exact ⟨_, rfl, Els.nil_ _ _, Below.refl _ _, new_nil _⟩
set_option maxRecDepth 20000 in
set_option maxHeartbeats 2000000 in
theorem own_all (num : Nat) (s : ByteArray) (w : World) (h0 : num ≠ 0) (hn : num < 4294967296) (hs : s.size ≤ 60000) : Calls Tryz.prog 65 #[.int .u32 (num : Nat), .string s] w (MadeN num s w) := by
  have H : Hid (makL num s = secL num s ∧ makX num s = 0) := show _ ∧ _ from ⟨by unfold makL; rw [if_neg (by omega)], by unfold makX; rw [if_neg h0, if_neg (by omega)]⟩
  unfold MadeN
  rw [H.out.1, H.out.2]
  have t1 : ((num : Int) == 0) = false := by rw [beq_eq_false_iff_ne]; omega
  have t2 : decide ((60000 : Int) < (s.size : Int)) = false := decide_eq_false (by omega)
  have RC : Hid (∀ W, Calls Tryz.prog 73 #[.string s] W fun e w' => e = .returned (.string (fullS s)) ∧ Below W.heap.size W w') := fun W => f_record s W hs
  have SZ : Hid (∀ W, Calls Tryz.prog 51 #[.int .i64 (s.size : Nat)] W fun e w' => e = .returned (.int .i64 (sizeN s.size : Nat)) ∧ Below W.heap.size W w') := fun W => by
    have h := f_size (s.size : Int) W (by omega)
    rwa [show sizeV (s.size : Int) = (sizeN s.size : Nat) by unfold sizeV; rw [if_pos (by omega), Int.toNat_natCast]] at h
  have hm := size_most hs
  have HE : Hid (∀ (wr : World) (g T : Nat), wr.rowIs g T (sizeN s.size) (secRow num (sizeN s.size) s (sizeN s.size)) → Txts wr wr.heap.size (.slice (some ⟨g, 0, none⟩) (sizeN s.size) (sizeN s.size)) (secL num s)) := fun wr g T h => secRow_all hs h
  have FZ := full_size s
  have HPC : Hid (∀ i, pieceS s i = (fullS s).extract (i * 244) ((i + 1) * 244)) := fun i => rfl
  generalize secL num s = L at *
  generalize sizeN s.size = q at *
  generalize fullS s = b at *
  have hmk := fun W : World => run_make_row' (P := Tryz.prog) 50 9 (.string ⟨#[]⟩) 16 Tryz.underlying50 txt_info rfl .i64 .i64 q (by omega) (by omega) W
  go_enter Tryz.func65, Tryz.ntmps65
  go_wp2_with fail
  refine (RC.out w).mono ?_
  rintro e w1 ⟨rfl, hb⟩
  have HB := Lib.hid hb
  clear hb
  go_wp2_with fail
  refine (SZ.out w1).mono ?_
  rintro e w2 ⟨rfl, hb⟩
  have HB2 := Lib.hid (below_on HB.out hb)
  clear hb
  go_wp2_with fail
  have GG : ∃ g, g = w2.heap.size ∧ w.heap.size ≤ g := ⟨_, rfl, HB2.out.size⟩
  have HR0 := Lib.hid (World.rowIs_made w2 (.string ⟨#[]⟩) q 9)
  have HB3 := Lib.hid (HB2.out.alloc HB2.out.size (.cells (madeCells #[.string ⟨#[]⟩] q) 9))
  generalize w2.alloc (.cells (madeCells #[.string ⟨#[]⟩] q) 9) = w3 at *
  obtain ⟨g, hg, hgw⟩ := GG
  rw [← hg] at HR0 ⊢
  clear hmk hg
  go_loopw [24] (fun t wr => ∃ i : Nat, i ≤ q ∧ t = .int .i64 i ∧ Hid (wr.rowIs g 9 q (secRow num q s i)) ∧ Hid (Below w.heap.size w wr)) (fun t _ => q - (intOf t).toNat)
  case atStart => exact ⟨0, Nat.zero_le _, rfl, (HR0.out.congr fun i _ => rfl : World.rowIs _ _ _ _ _), HB3⟩
  case round =>
    obtain ⟨i, hi, rfl, HR, HW⟩ := hrel
    by_cases hlt : i < q
    · have t3 : decide ((i : Int) < (q : Int)) = true := decide_eq_true (by omega)
      have i1 : IntKind.i64.wrap ((i : Int) * 244) = (i : Int) * 244 := IntWalk.i64_in _ (by omega)
      have sl1 := slice_from b ((i : Int) * 244) (i * 244) (by omega) (by omega)
      have hz : (b.extract (i * 244) (q * 244)).size = q * 244 - i * 244 := size_ext' _ (by omega)
      have sl2 := slice_to (b.extract (i * 244) (q * 244)) 244 244 rfl (by omega)
      have hpe : Hid ((b.extract (i * 244) (q * 244)).extract 0 244 = pieceS s i) := show _ = _ by
        rw [HPC.out i, ← FZ, ext_ext b (i * 244) 0 244 (by omega) (by omega), show i * 244 + 0 = i * 244 by omega, show i * 244 + 244 = (i + 1) * 244 by omega]
      have hps : (pieceS s i).size = 244 := by rw [HPC.out i, size_ext' _ (by omega)]; omega
      have SC : Hid (∀ W, Calls Tryz.prog 74 #[.int .u32 (num : Nat), .int .i64 (i : Nat), .int .i64 (q : Nat), .string (pieceS s i)] W fun e w' => e = .returned (.string (secS num q i (pieceS s i))) ∧ Below W.heap.size W w') := fun W => f_sector num i q (pieceS s i) W hn (by omega) (by omega) (by omega)
      have HST : Hid (∀ W : World, W.rowIs g 9 q (secRow num q s i) → (W.setCell ⟨g, i, none⟩ (.string (secS num q i (pieceS s i)))).rowIs g 9 q (secRow num q s (i + 1))) := fun W h => secRow_step (h.set i _)
      have g4 : (0 : Int) ≤ (i : Int) := by omega
      clear hps hz
      generalize pieceS s i = p at *
      generalize secS num q i p = r at *
      go_wp2_with fail
      rw [hpe.out]
      refine (SC.out wr).mono ?_
      rintro e w4 ⟨rfl, hb⟩
      have hr4 := HR.out.of_block (hb.block g HR.out.lt)
      have HR4 := Lib.hid hr4
      have HW4 := Lib.hid (HW.out.trans (hb.mono HW.out.size))
      have hp := hr4.cell hlt
      have hf := hr4.frozen i
      have ho := hr4.lt
      clear hb hr4 sl1 sl2
      go_wp2_with fail
      go_roundw
      case rel => exact ⟨i + 1, by omega, by go_num, HST.out _ HR4.out, HW4.out.setCell (p := ⟨g, i, none⟩) hgw _⟩
      case measure => simp [intOf]; omega
    · obtain rfl : i = q := by omega
      have t3 : decide ((i : Int) < (i : Int)) = false := decide_eq_false (by omega)
      have HT := Lib.hid (HE.out wr g _ HR.out)
      go_wp2_with fail
      go_ret2
      exact ⟨_, rfl, HT.out, HW.out, fun a len c' h => by
        injection h with h
        injection h with h
        rw [← h]
        exact hgw⟩
theorem f_makeN (num : Nat) (s : ByteArray) (w : World) (hn : num < 4294967296) (_ : s.size ≤ 62000) : Calls Tryz.prog 65 #[.int .u32 (num : Nat), .string s] w (MadeN num s w) := by
  by_cases h0 : num = 0
  · subst h0
    exact own_zero s w
  · by_cases hs : 60000 < s.size
    · exact own_long num s w h0 hs
    · exact own_all num s w h0 hn (by omega)
theorem f_make (num : Nat) (s : ByteArray) (w : World) (hn : num < 4294967296) (hs : s.size ≤ 62000) : Calls Tryz.prog 65 #[.int .u32 (num : Nat), .string s] w (Made num s w) := (f_makeN num s w hn hs).mono fun _ _ h => h.made
end Go.Proofs.YtndanhacmfhlaaaGreat.Frame
namespace Go.Proofs.YtndanhacmfhlaaaGreat.Frame
open Go.ChangeShapes Go.WideShapes Go.ChangeAt Go.RowKit Pack Crc Els Str

theorem p_piece (b : ByteArray) (w : World) (h : b.size = 256) : Calls Tryz.prog 87 #[.string b] w fun e w' => e = .returned (.string (b.extract 8 252)) ∧ w = w' := by
  have sl := slice_two b 8 252 8 252 rfl rfl (by omega) (by omega)
  have s4 : (252 : Int) ≤ (b.size : Int) := by omega
  go_enter Tryz.func87, Tryz.ntmps87
  go_wp2_with fail
  go_ret
  exact ⟨rfl, rfl⟩
/-- A row of pieces of which the first n are cut out. -/
def pieRow (l : List ByteArray) (n j : Nat) : Value := if j < n then .string ((l.getD j e0).extract 8 252) else .string ⟨#[]⟩
theorem pieRow_step {w : World} {g T k n : Nat} {l : List ByteArray} (h : w.rowIs g T k (fun j => if j = n then .string ((l.getD n e0).extract 8 252) else pieRow l n j)) : w.rowIs g T k (pieRow l (n + 1)) :=
  h.congr fun j _ => by
    unfold pieRow
    by_cases h1 : j = n
    · rw [if_pos h1, if_pos (by omega), h1]
    · rw [if_neg h1]
      by_cases h2 : j < n
      · rw [if_pos h2, if_pos (by omega)]
      · rw [if_neg h2, if_neg (by omega)]
theorem pieRow_all {w : World} {g T k : Nat} {l : List ByteArray} (hk : k ≤ l.length) (hk2 : k ≤ 1000) (h : w.rowIs g T k (pieRow l k)) : Txts w w.heap.size (.slice (some ⟨g, 0, none⟩) k k) ((l.take k).map fun x => x.extract 8 252) := by
  have hl : ((l.take k).map fun x => x.extract 8 252).length = k := by rw [List.length_map, List.length_take]; omega
  refine ⟨some ⟨g, 0, none⟩, k, by rw [hl], by rw [hl]; omega, ⟨fun h => (by cases h), by rw [hl]; exact Nat.le_refl _⟩, fun _ => ⟨g, 0, rfl, h.lt, fun i x hx => ?_⟩⟩
  have hi : i < k := by have := (List.getElem?_eq_some_iff.1 hx).1; rwa [hl] at this
  rw [Nat.zero_add, h.cell hi]
  unfold pieRow
  rw [if_pos hi]
  rw [List.getElem?_map, List.getElem?_take_of_lt hi, getD_at (by omega)] at hx
  injection hx with hx
  rw [← hx]
theorem body_len {l : List ByteArray} {num k : Nat} (h0 : num ≠ 0) (hk : k ≤ l.length) (h : ∀ i, i < k → numV (l.getD i e0) = num) : (bodyL l k).size = k * 244 := by
  unfold bodyL
  rw [cat_size, List.length_map, List.length_take, show min k l.length = k by omega]
  intro y hy
  obtain ⟨x, hx, rfl⟩ := List.mem_map.1 hy
  obtain ⟨i, hi⟩ := List.mem_iff_getElem?.1 hx
  have hlt : i < k := by have := (List.getElem?_eq_some_iff.1 hi).1; rw [List.length_take] at this; omega
  rw [List.getElem?_take_of_lt hlt, getD_at (by omega)] at hi
  injection hi with hi
  have := num_size h0 (h i hlt)
  rw [← hi, size_ext' _ (by omega)]
def Claims (l : List ByteArray) (num : Nat) (w : World) (e : Ending) (w' : World) : Prop := e = .returned (.string (claimS l num)) ∧ Below w.heap.size w w'
theorem claim_none {l : List ByteArray} {num : Nat} (h : bothB l num = false) : claimS l num = e0 := by unfold claimS; rw [h]; rfl
theorem claim_empty (num : Nat) (w : World) (v : Value) (hv : Txts w w.heap.size v []) : Calls Tryz.prog 76 #[v, .int .u32 (num : Nat)] w (Claims [] num w) := by
  obtain ⟨A, c, rfl, -, -, -⟩ := hv
  have H : Hid (claimS [] num = e0) := claim_none (by unfold bothB; simp)
  unfold Claims
  rw [H.out]
  unfold e0
  go_enter Tryz.func76, Tryz.ntmps76
  go_wp2_with fail
  go_ret
  exact ⟨rfl, Below.refl _ _⟩
theorem claim_first (l : List ByteArray) (num : Nat) (w : World) (v : Value) (hv : Txts w w.heap.size v l) (h0 : l ≠ []) (h1 : num = 0 ∨ numV (l.getD 0 e0) ≠ num) (hl : (l.getD 0 e0).size ≤ 100000) : Calls Tryz.prog 76 #[v, .int .u32 (num : Nat)] w (Claims l num w) := by
  have H : Hid (claimS l num = e0) := claim_none (by
    unfold bothB
    rw [decide_eq_false (by rintro ⟨-, q1, q2⟩; rcases h1 with q | q <;> contradiction)]; rfl)
  unfold Claims
  rw [H.out]
  unfold e0
  obtain ⟨A, c, rfl, hn, -, hc⟩ := hv
  have hpos : 0 < l.length := List.length_pos_iff.2 h0
  obtain ⟨b, off, rfl, hb, hcell⟩ := hc hpos
  have a0 := hcell 0 _ (getD_at hpos)
  have t1 : ((l.length : Int) == 0) = false := by rw [beq_eq_false_iff_ne]; omega
  rw [Nat.add_zero] at a0
  by_cases hz : num = 0
  · have t2 : ((num : Int) == 0) = true := by rw [hz]; rfl
    go_enter Tryz.func76, Tryz.ntmps76
    go_wp2_with fail
    go_ret
    exact ⟨rfl, Below.refl _ _⟩
  · have t2 : ((num : Int) == 0) = false := by rw [beq_eq_false_iff_ne]; omega
    have t3 : ((numV (l.getD 0 e0) : Int) != (num : Int)) = true := by rw [bne_iff_ne]; omega
    have NM : Hid (∀ W, Calls Tryz.prog 61 #[.string (l.getD 0 e0)] W fun e w' => e = .returned (.int .u32 (numV (l.getD 0 e0) : Nat)) ∧ Below W.heap.size W w') := fun W => f_num _ W hl
    generalize l.getD 0 e0 = x at *
    go_enter Tryz.func76, Tryz.ntmps76
    go_wp2_with fail
    refine (NM.out w).mono ?_
    rintro e w1 ⟨rfl, hb⟩
    have HB := Lib.hid hb
    clear hb
    go_wp2_with fail
    go_ret
    exact ⟨rfl, HB.out⟩
set_option maxRecDepth 20000 in
set_option maxHeartbeats 2000000 in
theorem claim_rest (l : List ByteArray) (num : Nat) (w : World) (v : Value) (hv : Txts w w.heap.size v l) (h0 : l ≠ []) (h1 : num ≠ 0) (h2 : numV (l.getD 0 e0) = num) (hl : l.length ≤ 300 ∧ ∀ x ∈ l, x.size ≤ 2000) : Calls Tryz.prog 76 #[v, .int .u32 (num : Nat)] w (Claims l num w) := by
  obtain ⟨A, c, rfl, hn, hcap, hc⟩ := hv
  have hpos : 0 < l.length := List.length_pos_iff.2 h0
  obtain ⟨b, off, rfl, hb, hcell⟩ := hc hpos
  have a0 := hcell 0 _ (getD_at hpos)
  have hx := num_size h1 h2
  have t1 : ((l.length : Int) == 0) = false := by rw [beq_eq_false_iff_ne]; omega
  have t2 : ((num : Int) == 0) = false := by rw [beq_eq_false_iff_ne]; omega
  rw [Nat.add_zero] at a0
  have NM : Hid (∀ W, Calls Tryz.prog 61 #[.string (l.getD 0 e0)] W fun e w' => e = .returned (.int .u32 (num : Nat)) ∧ Below W.heap.size W w') := fun W => by
    have h := f_num (l.getD 0 e0) W (by omega)
    rwa [h2] at h
  have PC : Hid (∀ W, Calls Tryz.prog 87 #[.string (l.getD 0 e0)] W fun e w' => e = .returned (.string ((l.getD 0 e0).extract 8 252)) ∧ W = w') := fun W => p_piece _ W hx
  have hps : ((l.getD 0 e0).extract 8 252).size = 244 := size_ext' _ (by omega)
  have OP : Hid (∀ W, Calls Tryz.prog 70 #[.string ((l.getD 0 e0).extract 8 252)] W fun e w' => ∃ a, e = .returned (.pointer (some a)) ∧ Below W.heap.size W w' ∧
      Calls Tryz.prog 71 #[.pointer (some a), .int .i64 4] w' fun e2 w2 => e2 = .returned (.int .u64 (askS l : Nat)) ∧ Below W.heap.size W w2) := fun W => open_num _ 4 W rfl (Or.inr (by omega))
  have hzl : askS l < 4294967296 := valN_lt _ 4 0
  have SZ : Hid (∀ W, Calls Tryz.prog 51 #[.int .i64 (askS l : Nat)] W fun e w' => e = .returned (.int .i64 (sizeV (askS l : Nat))) ∧ Below W.heap.size W w') := fun W => f_size (askS l : Nat) W (by omega)
  have m1 : IntKind.i64.wrap ((askS l : Nat) : Int) = (askS l : Nat) := IntWalk.i64_in _ (by omega)
  have HCL : Hid ((askS l ≤ 60000 ∧ sizeN (askS l) ≤ l.length ∧ ∀ i, i < sizeN (askS l) → numV (l.getD i e0) = num) → claimS l num = (bodyL l (sizeN (askS l))).extract 4 (4 + askS l)) := fun ⟨q1, q2, q3⟩ => by
    unfold claimS bothB
    rw [if_pos]
    rw [decide_eq_true ⟨h0, h1, h2⟩, decide_eq_true ⟨q1, q2⟩, Bool.true_and, Bool.true_and, List.all_eq_true]
    exact fun i hi => decide_eq_true (q3 i (List.mem_range.1 hi))
  have HNO : Hid (¬ (askS l ≤ 60000 ∧ sizeN (askS l) ≤ l.length) → claimS l num = ⟨#[]⟩) := fun q => claim_none (by
    unfold bothB
    rw [decide_eq_false q, Bool.false_and, Bool.and_false])
  have HNI : Hid (∀ i, i < sizeN (askS l) → numV (l.getD i e0) ≠ num → claimS l num = ⟨#[]⟩) := fun i hi q => claim_none (by
    unfold bothB
    rw [show ((List.range (sizeN (askS l))).all fun i => decide (numV (l.getD i e0) = num)) = false from by
      rw [Bool.eq_false_iff]
      intro hh
      exact q (of_decide_eq_true (List.all_eq_true.1 hh i (List.mem_range.2 hi))), Bool.and_false, Bool.and_false])
  unfold Claims
  generalize hR : claimS l num = R at *
  generalize askS l = z at *
  generalize (l.getD 0 e0).extract 8 252 = p at *
  have HCELL := Lib.hid hcell
  have HB0 := Lib.hid hb
  have hlc := hcap.2
  clear hcell hc hcap hps
  generalize l.getD 0 e0 = x at *
  have hlim := hl.1
  by_cases hz6 : z ≤ 60000
  · have hK : sizeV (z : Int) = (sizeN z : Nat) := by unfold sizeV; rw [if_pos (by omega), Int.toNat_natCast]
    have hm := size_most hz6
    have hroom := size_room z
    rw [hK] at SZ
    have u1 : ((sizeN z : Int) == 0) = false := by rw [beq_eq_false_iff_ne]; omega
    by_cases hk : sizeN z ≤ l.length
    · have u2 : decide (l.length < sizeN z) = false := decide_eq_false (by omega)
      generalize sizeN z = k at *
      have hkc : k ≤ c := by omega
      have hmk := fun W : World => run_make_row' (P := Tryz.prog) 50 9 (.string ⟨#[]⟩) 16 Tryz.underlying50 txt_info rfl .i64 .i64 k (by omega) (by omega) W
      go_enter Tryz.func76, Tryz.ntmps76
      go_wp2_with (first
        | (with_reducible refine (NM.out _).mono ?_; rintro e w1 ⟨rfl, hb⟩; have HB := Lib.hid hb; have a1 := (hb.cell (p := ⟨b, off, none⟩) HB0.out).trans a0; clear hb)
        | (with_reducible refine (PC.out _).mono ?_; rintro e w2 ⟨rfl, rfl⟩)
        | (with_reducible refine (OP.out _).mono ?_; rintro e w3 ⟨a, rfl, hb, N2⟩; have HB3 := Lib.hid (below_on HB.out hb); clear hb)
        | (with_reducible refine N2.mono ?_; rintro e w4 ⟨rfl, hb⟩; have HB4 := Lib.hid (below_on HB.out hb); clear hb N2)
        | (with_reducible refine (SZ.out _).mono ?_; rintro e w5 ⟨rfl, hb⟩; have HB5 := Lib.hid (below_on HB4.out hb); clear hb))
      have GG : ∃ g, g = w5.heap.size ∧ w.heap.size ≤ g := ⟨_, rfl, HB5.out.size⟩
      have HR0 := Lib.hid (World.rowIs_made w5 (.string ⟨#[]⟩) k 9)
      have HB6 := Lib.hid (HB5.out.alloc HB5.out.size (.cells (madeCells #[.string ⟨#[]⟩] k) 9))
      generalize w5.alloc (.cells (madeCells #[.string ⟨#[]⟩] k) 9) = w6 at *
      obtain ⟨g, hg, hgw⟩ := GG
      rw [← hg] at HR0 ⊢
      clear hmk hg HB HB3 HB4 HB5 NM PC OP SZ a0 a1
      go_loopw [48] (fun t wr => ∃ i : Nat, i ≤ k ∧ t = .int .i64 i ∧ Hid (wr.rowIs g 9 k (pieRow l i)) ∧ Hid (Below w.heap.size w wr) ∧ Hid (∀ j, j < i → numV (l.getD j e0) = num)) (fun t _ => k - (intOf t).toNat)
      case atStart => exact ⟨0, Nat.zero_le _, rfl, (HR0.out.congr fun i _ => rfl : World.rowIs _ _ _ _ _), HB6, fun j hj => absurd hj (Nat.not_lt_zero _)⟩
      case round =>
        obtain ⟨i, hi, rfl, HR, HW, HA⟩ := hrel
        by_cases hlt : i < k
        · have t3 : decide ((i : Int) < (k : Int)) = true := decide_eq_true (by omega)
          have g4 : (0 : Int) ≤ (i : Int) := by omega
          have ai := (HW.out.cell (p := ⟨b, off + i, none⟩) HB0.out).trans (HCELL.out i _ (getD_at (by omega)))
          have hsz : (l.getD i e0).size ≤ 2000 := hl.2 _ (by rw [List.getD_eq_getElem?_getD, List.getElem?_eq_getElem (by omega)]; exact List.getElem_mem _)
          have NI : Hid (∀ W, Calls Tryz.prog 61 #[.string (l.getD i e0)] W fun e w' => e = .returned (.int .u32 (numV (l.getD i e0) : Nat)) ∧ Below W.heap.size W w') := fun W => f_num (l.getD i e0) W (by omega)
          by_cases hne : numV (l.getD i e0) = num
          · have t4 : ((num : Int) != (num : Int)) = false := by simp
            have h256 := num_size h1 hne
            have PI : Hid (∀ W, Calls Tryz.prog 87 #[.string (l.getD i e0)] W fun e w' => e = .returned (.string ((l.getD i e0).extract 8 252)) ∧ W = w') := fun W => p_piece _ W h256
            have HST : Hid (∀ W : World, W.rowIs g 9 k (pieRow l i) → (W.setCell ⟨g, i, none⟩ (.string ((l.getD i e0).extract 8 252))).rowIs g 9 k (pieRow l (i + 1))) := fun W h => pieRow_step (h.set i _)
            have HA2 : Hid (∀ j, j < i + 1 → numV (l.getD j e0) = num) := fun j hj => by
              by_cases hj2 : j = i
              · rw [hj2]; exact hne
              · exact HA.out j (by omega)
            rw [hne] at NI
            clear hne h256 hsz
            generalize (l.getD i e0).extract 8 252 = q at *
            generalize l.getD i e0 = y at *
            go_wp2_with fail
            refine (NI.out wr).mono ?_
            rintro e w7 ⟨rfl, hb⟩
            have hr4 := HR.out.of_block (hb.block g HR.out.lt)
            have HR4 := Lib.hid hr4
            have HW4 := Lib.hid (HW.out.trans (hb.mono HW.out.size))
            have hp := hr4.cell hlt
            have hf := hr4.frozen i
            have ho := hr4.lt
            clear hb hr4
            go_wp2_with fail
            refine (PI.out w7).mono ?_
            rintro e w8 ⟨rfl, rfl⟩
            go_wp2_with fail
            go_roundw
            case rel =>
              exact ⟨i + 1, by omega, by go_num, HST.out _ HR4.out, HW4.out.setCell (p := ⟨g, i, none⟩) hgw _, HA2⟩
            case measure => simp [intOf]; omega
          · have t4 : ((numV (l.getD i e0) : Int) != (num : Int)) = true := by rw [bne_iff_ne]; omega
            obtain rfl := HNI.out i hlt hne
            clear hne hsz
            generalize l.getD i e0 = y at *
            go_wp2_with fail
            refine (NI.out wr).mono ?_
            rintro e w7 ⟨rfl, hb⟩
            have HW4 := Lib.hid (HW.out.trans (hb.mono HW.out.size))
            clear hb
            go_wp2_with fail
            go_ret
            exact ⟨rfl, HW4.out⟩
        · obtain rfl : i = k := by omega
          have t3 : decide ((i : Int) < (i : Int)) = false := decide_eq_false (by omega)
          have hBz := body_len h1 hk HA.out
          have hE := HCL.out ⟨hz6, hk, HA.out⟩
          have TG : Hid (Calls Tryz.prog 85 #[.slice (some ⟨g, 0, none⟩) i i] wr fun e w' => e = .returned (.string (bodyL l i)) ∧ Below wr.heap.size wr w') := t_gether _ _ wr (pieRow_all hk (by omega) HR.out) (by rw [← catL_len]; show (bodyL l i).size ≤ _; omega)
          generalize bodyL l i = B at *
          have sl1 := slice_from B 4 4 rfl (by omega)
          have hz2 : (B.extract 4 (i * 244)).size = i * 244 - 4 := size_ext' _ (by omega)
          have sl2 := slice_to (B.extract 4 (i * 244)) z z rfl (by omega)
          have hpe : Hid ((B.extract 4 (i * 244)).extract 0 z = B.extract 4 (4 + z)) := show _ = _ by
            rw [← hBz, ext_ext B 4 0 z (by omega) (by omega)]
          rw [← hpe.out] at hE
          clear HCL HNO HNI HA
          obtain rfl := hE
          clear hR
          go_wp2_with fail
          refine TG.out.mono ?_
          rintro e w7 ⟨rfl, hb⟩
          have HW4 := Lib.hid (HW.out.trans (hb.mono HW.out.size))
          clear hb
          go_wp2_with fail
          go_ret
          exact ⟨rfl, HW4.out⟩
    · have u2 : decide (l.length < sizeN z) = true := decide_eq_true (by omega)
      rw [HNO.out (by omega)]
      generalize sizeN z = k at *
      go_enter Tryz.func76, Tryz.ntmps76
      go_wp2_with (first
        | (with_reducible refine (NM.out _).mono ?_; rintro e w1 ⟨rfl, hb⟩; have HB := Lib.hid hb; have a1 := (hb.cell (p := ⟨b, off, none⟩) HB0.out).trans a0; clear hb)
        | (with_reducible refine (PC.out _).mono ?_; rintro e w2 ⟨rfl, rfl⟩)
        | (with_reducible refine (OP.out _).mono ?_; rintro e w3 ⟨a, rfl, hb, N2⟩; have HB3 := Lib.hid (below_on HB.out hb); clear hb)
        | (with_reducible refine N2.mono ?_; rintro e w4 ⟨rfl, hb⟩; have HB4 := Lib.hid (below_on HB.out hb); clear hb N2)
        | (with_reducible refine (SZ.out _).mono ?_; rintro e w5 ⟨rfl, hb⟩; have HB5 := Lib.hid (below_on HB4.out hb); clear hb))
      go_ret
      exact ⟨rfl, HB5.out⟩
  · have hK : sizeV (z : Int) = 0 := by unfold sizeV; rw [if_neg (by omega)]
    rw [hK] at SZ
    rw [HNO.out (by omega)]
    go_enter Tryz.func76, Tryz.ntmps76
    go_wp2_with (first
      | (with_reducible refine (NM.out _).mono ?_; rintro e w1 ⟨rfl, hb⟩; have HB := Lib.hid hb; have a1 := (hb.cell (p := ⟨b, off, none⟩) HB0.out).trans a0; clear hb)
      | (with_reducible refine (PC.out _).mono ?_; rintro e w2 ⟨rfl, rfl⟩)
      | (with_reducible refine (OP.out _).mono ?_; rintro e w3 ⟨a, rfl, hb, N2⟩; have HB3 := Lib.hid (below_on HB.out hb); clear hb)
      | (with_reducible refine N2.mono ?_; rintro e w4 ⟨rfl, hb⟩; have HB4 := Lib.hid (below_on HB.out hb); clear hb N2)
      | (with_reducible refine (SZ.out _).mono ?_; rintro e w5 ⟨rfl, hb⟩; have HB5 := Lib.hid (below_on HB4.out hb); clear hb))
    go_ret
    exact ⟨rfl, HB5.out⟩
theorem f_claimed (l : List ByteArray) (num : Nat) (w : World) (v : Value) (hv : Txts w w.heap.size v l) (hl : l.length ≤ 300 ∧ ∀ x ∈ l, x.size ≤ 2000) : Calls Tryz.prog 76 #[v, .int .u32 (num : Nat)] w (Claims l num w) := by
  by_cases h0 : l = []
  · subst h0
    exact claim_empty num w v hv
  · have hpos : 0 < l.length := List.length_pos_iff.2 h0
    have hx : (l.getD 0 e0).size ≤ 2000 := hl.2 _ (by rw [List.getD_eq_getElem?_getD, List.getElem?_eq_getElem hpos]; exact List.getElem_mem _)
    by_cases h1 : num = 0 ∨ numV (l.getD 0 e0) ≠ num
    · exact claim_first l num w v hv h0 h1 (by omega)
    · exact claim_rest l num w v hv h0 (fun e => h1 (Or.inl e)) (Classical.byContradiction fun e => h1 (Or.inr e)) hl
end Go.Proofs.YtndanhacmfhlaaaGreat.Frame
namespace Go.Proofs.YtndanhacmfhlaaaGreat.Frame
open Go.ChangeShapes Go.WideShapes Go.ChangeAt Go.RowKit Pack Crc Els Str

theorem claim_size {l : List ByteArray} {num : Nat} : (claimS l num).size ≤ 60000 := by
  unfold claimS
  split
  · rename_i h
    unfold bothB at h
    simp only [Bool.and_eq_true, decide_eq_true_iff] at h
    rw [ByteArray.size_extract]
    omega
  · decide
theorem els_head {α : Type} {f : α → Value} {w : World} {B : Nat} {A : Option Addr} {c : Nat} {l : List α} (h : Els f w B (.slice A l.length c) l) {k : Nat} (hk : k ≤ l.length) : Els f w B (.slice A k c) (l.take k) := by
  obtain ⟨A', c', e, hl, hn, hc⟩ := h
  injection e with e1 e2 e3
  subst e1 e3
  refine ⟨A, c, by rw [List.length_take, show min k l.length = k by omega], by rw [List.length_take]; omega, ⟨hn.1, by rw [List.length_take]; omega⟩, fun h0 => ?_⟩
  rw [List.length_take] at h0
  obtain ⟨b, off, e, hb, hx⟩ := hc (by omega)
  refine ⟨b, off, e, hb, fun i x hi => hx i x ?_⟩
  have hlt : i < k := by have := (List.getElem?_eq_some_iff.1 hi).1; rw [List.length_take] at this; omega
  rwa [List.getElem?_take_of_lt hlt] at hi
theorem drew_left {B : Nat} {a w : World} (h : Below B a w) (n : Nat) : Below B a (w.drewN n) := ⟨h.os, h.tape, h.output, h.size, h.block⟩
def Reads (l : List ByteArray) (num : Nat) (w : World) (e : Ending) (w' : World) : Prop := e = .returned (.tuple #[.string (readS l num), .int .i64 (readN l num : Nat), .bool (okR l num)]) ∧ Below w.heap.size w w'
theorem reads_no {l : List ByteArray} {num : Nat} {w w' : World} (h : okR l num = false) (hb : Below w.heap.size w w') : Reads l num w (.returned (.tuple #[.string ⟨#[]⟩, .int .i64 0, .bool false])) w' := by
  unfold Reads readS readN
  rw [h]
  exact ⟨rfl, hb⟩
set_option maxRecDepth 20000 in
set_option maxHeartbeats 2000000 in
theorem read_zero (l : List ByteArray) (num : Nat) (v : Value) (w : World) (hv : Txts w w.heap.size v l) (hn : num < 4294967296) (h0 : num = 0) (hl : l.length ≤ 300 ∧ ∀ x ∈ l, x.size ≤ 2000) : Calls Tryz.prog 68 #[v, .int .u32 (num : Nat)] w (Reads l num w) := by
  have HF : Hid (okR l num = false) := show _ = _ by
    unfold okR
    rw [decide_eq_false (fun h => h.2.1 h0)]; rfl
  have CL : Hid (Calls Tryz.prog 76 #[v, .int .u32 (num : Nat)] w (Claims l num w)) := f_claimed l num w v hv hl
  have hcs : (claimS l num).size ≤ 60000 := claim_size
  have MK : Hid (∀ W, Calls Tryz.prog 65 #[.int .u32 (num : Nat), .string (claimS l num)] W (Made num (claimS l num) W)) := fun W => f_make num _ W hn (by omega)
  have hX : makX num (claimS l num) = 1 := by unfold makX; rw [if_pos h0]
  unfold Made at MK
  rw [hX] at MK
  generalize makL num (claimS l num) = M at *
  clear hX h0
  obtain ⟨Q, hQ⟩ : ∃ Q, Reads l num w = Q := ⟨_, rfl⟩
  have HQ : Hid (∀ w', Below w.heap.size w w' → Q (.returned (.tuple #[.string ⟨#[]⟩, .int .i64 0, .bool false])) w') := fun w' hb => by
    rw [← hQ]
    exact reads_no HF.out hb
  rw [hQ]
  clear hQ
  obtain ⟨A, c, rfl⟩ := hv.shape
  have hcap : l.length ≤ c := by
    obtain ⟨A', c', e, -, q, -⟩ := hv
    injection e with e1 e2 e3
    omega
  have HV := Lib.hid hv
  clear hv
  go_enter Tryz.func68, Tryz.ntmps68
  go_wp2_with fail
  refine CL.out.mono ?_
  rintro e w1 ⟨rfl, hb⟩
  have HB := Lib.hid hb
  clear hb
  go_wp2_with fail
  refine (MK.out w1).mono ?_
  rintro e w2 ⟨u, rfl, hu, hb⟩
  have HB2 := Lib.hid (below_on HB.out hb)
  have HU := Lib.hid hu
  obtain ⟨A2, c2, rfl⟩ := hu.shape
  clear hb hu
  go_wp2_with fail
  exact HQ.out _ HB2.out
set_option maxRecDepth 20000 in
set_option maxHeartbeats 2000000 in
theorem read_few (l : List ByteArray) (num : Nat) (v : Value) (w : World) (hv : Txts w w.heap.size v l) (hn : num < 4294967296) (h0 : num ≠ 0) (h1 : l.length < sizeN (claimS l num).size) (hl : l.length ≤ 300 ∧ ∀ x ∈ l, x.size ≤ 2000) : Calls Tryz.prog 68 #[v, .int .u32 (num : Nat)] w (Reads l num w) := by
  have HF : Hid (okR l num = false) := show _ = _ by
    rw [Bool.eq_false_iff]
    intro h
    obtain ⟨-, q1, q2, q3, q4, -⟩ := read_only h
    rw [← q1] at q3
    omega
  have CL : Hid (Calls Tryz.prog 76 #[v, .int .u32 (num : Nat)] w (Claims l num w)) := f_claimed l num w v hv hl
  have hcs : (claimS l num).size ≤ 60000 := claim_size
  have MK : Hid (∀ W, Calls Tryz.prog 65 #[.int .u32 (num : Nat), .string (claimS l num)] W (Made num (claimS l num) W)) := fun W => f_make num _ W hn (by omega)
  have hX : makX num (claimS l num) = 0 ∧ makL num (claimS l num) = secL num (claimS l num) := ⟨by unfold makX; rw [if_neg h0, if_neg (by omega)], by unfold makL; rw [if_neg (by omega)]⟩
  have hM := secL_length num (claimS l num)
  unfold Made at MK
  rw [hX.1, hX.2] at MK
  generalize secL num (claimS l num) = M at *
  clear hX
  have t1 : decide (l.length < M.length) = true := decide_eq_true (by omega)
  obtain ⟨Q, hQ⟩ : ∃ Q, Reads l num w = Q := ⟨_, rfl⟩
  have HQ : Hid (∀ w', Below w.heap.size w w' → Q (.returned (.tuple #[.string ⟨#[]⟩, .int .i64 0, .bool false])) w') := fun w' hb => by
    rw [← hQ]
    exact reads_no HF.out hb
  rw [hQ]
  clear hQ
  obtain ⟨A, c, rfl⟩ := hv.shape
  have hcap : l.length ≤ c := by
    obtain ⟨A', c', e, -, q, -⟩ := hv
    injection e with e1 e2 e3
    omega
  have HV := Lib.hid hv
  clear hv
  go_enter Tryz.func68, Tryz.ntmps68
  go_wp2_with fail
  refine CL.out.mono ?_
  rintro e w1 ⟨rfl, hb⟩
  have HB := Lib.hid hb
  clear hb
  go_wp2_with fail
  refine (MK.out w1).mono ?_
  rintro e w2 ⟨u, rfl, hu, hb⟩
  have HB2 := Lib.hid (below_on HB.out hb)
  have HU := Lib.hid hu
  obtain ⟨A2, c2, rfl⟩ := hu.shape
  clear hb hu
  go_wp2_with fail
  exact HQ.out _ HB2.out
set_option maxRecDepth 20000 in
set_option maxHeartbeats 2000000 in
theorem read_same (l : List ByteArray) (num : Nat) (v : Value) (w : World) (hv : Txts w w.heap.size v l) (hn : num < 4294967296) (h0 : num ≠ 0) (h1 : sizeN (claimS l num).size ≤ l.length) (hl : l.length ≤ 300 ∧ ∀ x ∈ l, x.size ≤ 2000) : Calls Tryz.prog 68 #[v, .int .u32 (num : Nat)] w (Reads l num w) := by
  have CL : Hid (Calls Tryz.prog 76 #[v, .int .u32 (num : Nat)] w (Claims l num w)) := f_claimed l num w v hv hl
  have hcs : (claimS l num).size ≤ 60000 := claim_size
  have MK : Hid (∀ W, Calls Tryz.prog 65 #[.int .u32 (num : Nat), .string (claimS l num)] W (Made num (claimS l num) W)) := fun W => f_make num _ W hn (by omega)
  have HT : Hid (l.take (sizeN (claimS l num).size) = secL num (claimS l num) → okR l num = true ∧ readS l num = claimS l num ∧ readN l num = sizeN (claimS l num).size) := fun h => read_is h0 hn hcs h
  have HN : Hid (l.take (sizeN (claimS l num).size) ≠ secL num (claimS l num) → okR l num = false) := fun h => by
    rw [Bool.eq_false_iff]
    intro hh
    obtain ⟨-, q1, q2, q3, q4, q5⟩ := read_only hh
    rw [← q1] at q3 q5
    rw [← q3] at q5
    exact h q5
  have hX : makX num (claimS l num) = 0 ∧ makL num (claimS l num) = secL num (claimS l num) := ⟨by unfold makX; rw [if_neg h0, if_neg (by omega)], by unfold makL; rw [if_neg (by omega)]⟩
  have hM := secL_length num (claimS l num)
  unfold Made at MK
  rw [hX.1, hX.2] at MK
  generalize secL num (claimS l num) = M at *
  clear hX
  unfold Claims at CL
  generalize claimS l num = s at *
  have t1 : decide (l.length < M.length) = false := decide_eq_false (by omega)
  have hMl : M.length ≤ l.length := by omega
  have HM := Lib.hid hM
  clear hM h1
  obtain ⟨Q, hQ⟩ : ∃ Q, Reads l num w = Q := ⟨_, rfl⟩
  have HQ1 : Hid (l.take M.length = M → ∀ w', Below w.heap.size w w' → Q (.returned (.tuple #[.string s, .int .i64 (M.length : Nat), .bool true])) w') := fun hq w' hb => by
    obtain ⟨q1, q2, q3⟩ := HT.out (by rw [← HM.out]; exact hq)
    rw [← hQ]
    unfold Reads
    rw [q1, q2, q3, HM.out]
    exact ⟨rfl, hb⟩
  have HQ : Hid (l.take M.length ≠ M → ∀ w', Below w.heap.size w w' → Q (.returned (.tuple #[.string ⟨#[]⟩, .int .i64 0, .bool false])) w') := fun hq w' hb => by
    rw [← hQ]
    exact reads_no (HN.out (by rw [← HM.out]; exact hq)) hb
  rw [hQ]
  clear hQ
  obtain ⟨A, c, rfl⟩ := hv.shape
  have hcap : l.length ≤ c := by
    obtain ⟨A', c', e, -, q, -⟩ := hv
    injection e with e1 e2 e3
    omega
  have HV := Lib.hid hv
  clear hv
  go_enter Tryz.func68, Tryz.ntmps68
  go_wp2_with fail
  refine CL.out.mono ?_
  rintro e w1 ⟨rfl, hb⟩
  have HB := Lib.hid hb
  clear hb
  go_wp2_with fail
  refine (MK.out w1).mono ?_
  rintro e w2 ⟨u, rfl, hu, hb⟩
  have HB2 := Lib.hid (below_on HB.out hb)
  have HU := Lib.hid hu
  obtain ⟨A2, c2, rfl⟩ := hu.shape
  clear hb hu
  have hMc : M.length ≤ c := Nat.le_trans hMl hcap
  have EQ : Hid (Calls Tryz.prog 77 #[.slice A M.length c, .slice A2 M.length c2] w2 fun e w' => e = .returned (.bool (decide (l.take M.length = M))) ∧ ∃ q, w' = w2.drewN q) :=
    t_equal w2 w.heap.size w2.heap.size _ _ _ _ (els_head (HV.out.below HB2.out) hMl) HU.out
  go_wp2_with fail
  refine EQ.out.mono ?_
  rintro e w3 ⟨rfl, q, rfl⟩
  by_cases hq : l.take M.length = M
  · have HQT := Lib.hid (HQ1.out hq)
    rw [decide_eq_true hq]
    clear hq
    go_wp2_with fail
    exact HQT.out _ (drew_left HB2.out q)
  · have HQF := Lib.hid (HQ.out hq)
    rw [decide_eq_false hq]
    clear hq
    go_wp2_with fail
    exact HQF.out _ (drew_left HB2.out q)
theorem f_read (l : List ByteArray) (num : Nat) (v : Value) (w : World) (hv : Txts w w.heap.size v l) (hn : num < 4294967296) (hl : l.length ≤ 300 ∧ ∀ x ∈ l, x.size ≤ 2000) : Calls Tryz.prog 68 #[v, .int .u32 (num : Nat)] w fun e w' => e = .returned (.tuple #[.string (readS l num), .int .i64 (readN l num : Nat), .bool (okR l num)]) ∧ Below w.heap.size w w' := by
  by_cases h0 : num = 0
  · exact read_zero l num v w hv hn h0 hl
  · by_cases h1 : sizeN (claimS l num).size ≤ l.length
    · exact read_same l num v w hv hn h0 h1 hl
    · exact read_few l num v w hv hn h0 (by omega) hl
end Go.Proofs.YtndanhacmfhlaaaGreat.Frame
