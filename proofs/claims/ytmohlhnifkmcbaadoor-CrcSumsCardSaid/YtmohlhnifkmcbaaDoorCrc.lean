/- The program's own package crc: Sum, Again, Join, at any text, any sums and any length. -/
import Derived.Test.YtmohlhnifkmcbaaDoorRefCrc
import Derived.Test.YtmohlhnifkmcbaaDoorDoor
import Derived.Deep.OwnRows
import Derived.Deep.WholeRow
import Derived.Lib.TrailingZeros
import Derived.Laws.CopyOwn
import Derived.Deep.QuietTactic
import Derived.Laws.BitsLemmas
namespace Go.Proofs.YtmohlhnifkmcbaaDoor.Crc
open Go.ChangeShapes Go.WideShapes Go.ChangeAt Go.RowKit

theorem ln_odd {k n y : Nat} (h : y = Ln k n) (h1 : y % 2 = 1) : (y / 2) ^^^ 3988292384 = Ln (k + 1) n := by
  rw [Ln_last, ← h]; unfold L; rw [if_pos h1]
theorem ln_even {k n y : Nat} (h : y = Ln k n) (h1 : ¬ y % 2 = 1) : y / 2 = Ln (k + 1) n := by
  rw [Ln_last, ← h]; unfold L; rw [if_neg h1, Nat.xor_zero]
theorem and_odd {y : Nat} (h : y < 4294967296) (h1 : y % 2 = 1) : bits .and .u32 (y : Int) 1 = 1 := by rw [and_one h, h1]; rfl
theorem and_even {y : Nat} (h : y < 4294967296) (h1 : ¬ y % 2 = 1) : bits .and .u32 (y : Int) 1 = 0 := by rw [and_one h, show y % 2 = 0 by omega]; rfl
theorem xor_odd_poly {y : Nat} (h : y < 4294967296) : bits .xor .u32 ((y : Int) / 2) (bits .and .u32 3988292384 4294967295) = (((y / 2) ^^^ 3988292384 : Nat) : Int) := by
  rw [show bits .and .u32 3988292384 4294967295 = 3988292384 by decide]
  exact xor_poly h
theorem xor_even_poly {y : Nat} (h : y < 4294967296) : bits .xor .u32 ((y : Int) / 2) (bits .and .u32 3988292384 0) = ((y / 2 : Nat) : Int) := by
  rw [show bits .and .u32 3988292384 0 = 0 by decide]
  have := u32_xor_nat (y / 2) 0 (by omega) (by decide)
  rw [Nat.xor_zero] at this
  exact this
theorem p_eight (n : Nat) (w : World) (hn : n < 4294967296) :
    Calls Tryd.prog 15 #[.int .u32 n] w fun e w' => e = .returned (.int .u32 (Ln 8 n : Nat)) ∧ w = w' := by
  have HN := Lib.hid hn
  clear hn
  go_enter Tryd.func15, Tryd.ntmps15
  go_wp2_with fail
  go_loop [0, 4] (fun u t => ∃ (k y : Nat), k ≤ 8 ∧ t = .int .i64 k ∧ u = .int .u32 y ∧ Hid (y = Ln k n) ∧ Hid (y < 4294967296)) (fun _ t => 8 - (intOf t).toNat)
  case atStart => exact ⟨0, n, Nat.zero_le _, rfl, rfl, rfl, HN⟩
  case round =>
    obtain ⟨k, y, hk, rfl, rfl, hy, hyl⟩ := hrel
    by_cases hk8 : k < 8
    · have k0 : (0 : Int) ≤ k := by omega
      by_cases hbit : y % 2 = 1
      · have t1 := and_odd hyl.out hbit
        have t2 := xor_odd_poly hyl.out
        have S1 := Lib.hid (ln_odd hy.out hbit)
        clear hbit
        go_wp2_with fail
        go_round
        case rel => exact ⟨k + 1, _, by omega, by go_num, by first | rfl | rw [t2], S1, half_lt hyl.out⟩
        case measure => simp [intOf]; omega
      · have t1 := and_even hyl.out hbit
        have t2 := xor_even_poly hyl.out
        have S1 := Lib.hid (ln_even hy.out hbit)
        clear hbit
        go_wp2_with fail
        go_round
        case rel => exact ⟨k + 1, y / 2, by omega, by go_num, by first | rfl | rw [t2], S1, show y / 2 < 4294967296 by have := hyl.out; omega⟩
        case measure => simp [intOf]; omega
    · obtain rfl : k = 8 := by omega
      have E := hy.out
      clear hy
      subst E
      go_wp2_with fail
      go_ret
      exact ⟨rfl, rfl⟩
/-- The library's list of places lies as its text lays it. -/
def places : List Int := [0, 1, 28, 2, 29, 14, 24, 3, 30, 22, 20, 15, 25, 17, 4, 8, 31, 27, 13, 23, 21, 19, 16, 7, 26, 12, 18, 6, 11, 5, 10, 9]
def Laid (w : World) : Prop := 0 < w.heap.size ∧ ∀ i, i < 32 → w.cell? ⟨0, i, none⟩ = some (.int .u8 (places.getD i 0))
theorem Laid.of {w w' : World} (h : Laid w) (hb : Below w.heap.size w w') : Laid w' := by
  refine ⟨Nat.lt_of_lt_of_le h.1 hb.size, fun i hi => ?_⟩
  rw [hb.cell (p := ⟨0, i, none⟩) h.1]
  exact h.2 i hi
theorem laid_of {laid : List (String × DataW Unit)} {w : World} (h : laidMet Tryd.prog laid w) (hm : ("math/bits.deBruijn32tab", Lib.tabData .u8 places) ∈ laid) : Laid w := by
  have hT := Door.tab_of_mem (g := 0) (t := 41) (e := 5) (n := 32) (by kernel_rfl) (by kernel_rfl) Tryd.underlying41 Tryd.underlying5 (by kernel_rfl) (by kernel_rfl) h hm
  have hc := hT.cell (g := 0) (by kernel_rfl)
  refine ⟨?_, fun i hi => hc i hi⟩
  have h0 := hc 0 (by decide)
  exact World.block_lt_of_cell? _ _ h0
theorem places_at : ∀ k : Nat, k < 32 → 2 ^ k * 125613361 % 4294967296 / 134217728 < 32 ∧ places.getD (2 ^ k * 125613361 % 4294967296 / 134217728) 0 = (k : Int) := by decide +kernel
theorem p_trail (n : Nat) (w : World) (L : Laid w) (hn : n < 4294967296) (h0 : n ≠ 0) :
    Calls Tryd.prog 20 #[.int .u32 n] w fun e w' => e = .returned (.int .i64 (Lib.ctz 32 n : Nat)) ∧ w = w' := by
  have z0 : ¬ (n : Int) = 0 := by omega
  obtain ⟨hl, hk⟩ := Lib.lowest_bit 32 n h0 hn
  have t1 : IntKind.u32.wrap (-(n : Int)) = ((4294967296 - n : Nat) : Int) := by
    unfold IntKind.wrap; simp [IntKind.bits, IntKind.signed]; omega
  have t2 := u32_and_nat n (4294967296 - n) hn (by omega)
  rw [show n &&& (4294967296 - n) = 2 ^ Lib.ctz 32 n from hl] at t2
  clear hl
  generalize Lib.ctz 32 n = k at *
  have hp := places_at k hk
  have hq : ∃ q, 2 ^ k = q := ⟨_, rfl⟩
  obtain ⟨q, hq⟩ := hq
  rw [hq] at hp t2
  have c0 := L.2 _ hp.1
  rw [hp.2] at c0
  have k1 := Lib.hid (show wrap64 (k : Int) = k by unfold wrap64; omega)
  clear hq hp L hk h0
  have HN := Lib.hid hn
  clear hn
  go_enter Tryd.func20, Tryd.ntmps20
  go_wp2_with fail
  go_ret
  exact ⟨by show Ending.returned (Value.int .i64 (wrap64 (k : Int))) = _; rw [k1.out], rfl⟩
theorem c_again (c : Nat) (s : ByteArray) (w : World) (hc : c < 4294967296) (hl : s.size ≤ 100000) :
    Calls Tryd.prog 10 #[.int .u32 c, .string s] w fun e w' => e = .returned (.int .u32 (again c (bs s) : Nat)) ∧ Below w.heap.size w w' := by
  have HF := Lib.hid (Nat.xor_lt_two_pow (n := 32) F_lt hc)
  have t1 := max_xor hc
  have HL := Lib.hid hl
  clear hl hc
  have HE : again c (bs s) = F ^^^ G (F ^^^ c) (bs s) := rfl
  generalize hx0 : F ^^^ c = x0 at *
  clear hx0
  have HG := Lib.hid (fun k => G_lt (s := (bs s).take k) HF.out fun b hb => bs_lt s b (List.mem_of_mem_take hb))
  rw [HE]
  clear HE
  go_enter Tryd.func10, Tryd.ntmps10
  go_wp2_with fail
  go_loop [5, 11] (fun u t => ∃ (j x : Nat), j ≤ s.size ∧ t = .int .i64 j ∧ u = .int .u32 x ∧ Hid (x = G x0 ((bs s).take j)) ∧ Hid (x < 4294967296)) (fun _ t => s.size - (intOf t).toNat)
  case atStart => exact ⟨0, x0, Nat.zero_le _, rfl, rfl, rfl, HF⟩
  case round =>
    obtain ⟨j, x, hj, rfl, rfl, hx, hxl⟩ := hrel
    by_cases hlt : j < s.size
    · have h0 : (0 : Int) ≤ j := by omega
      have h9 := HL.out
      obtain ⟨b, hb⟩ : ∃ b, s[j].toNat = b := ⟨_, rfl⟩
      have hb8 : b < 256 := by rw [← hb]; exact s[j].toNat_lt
      have HN := Lib.hid ((go_next x0 (bs s) (j := j) (by rw [bs_length]; exact hlt)).trans (by rw [bs_at s hlt, hb, ← hx.out]))
      have t2 := u32_xor_nat x b hxl.out (by omega)
      have HX := Lib.hid (Nat.xor_lt_two_pow (n := 32) (x := x) (y := b) hxl.out (by omega))
      have m1 : (b : Int) % 4294967296 = b := by omega
      clear hb8
      have P1 := p_eight (x ^^^ b) w HX.out
      rw [← HN.out] at P1
      go_wp2_with fail
      refine P1.mono ?_
      rintro e w1 ⟨rfl, rfl⟩
      go_wp2_with fail
      go_round
      case rel => exact ⟨j + 1, _, by omega, by go_num, rfl, rfl, HG.out (j + 1)⟩
      case measure => simp [intOf]; omega
    · obtain rfl : j = s.size := by omega
      have E : Hid (x = G x0 (bs s)) := show _ = _ by have := hx.out; rwa [← bs_length, List.take_length] at this
      have E := E.out
      clear hx
      subst E
      have t2 := max_xor hxl.out
      go_wp2_with fail
      go_ret
      exact ⟨rfl, Below.refl _ _⟩
/-- An array of numbers, as a value. -/
def arr (m : Nat → Nat) : Array Value := ((List.range 32).map fun i => Value.int .u32 (m i : Nat)).toArray
theorem arr_at (m : Nat → Nat) {i : Nat} (h : i < 32) : (arr m)[i]? = some (.int .u32 (m i : Nat)) := by
  unfold arr
  rw [List.getElem?_toArray, List.getElem?_map, List.getElem?_range h]; rfl
theorem arr_size (m : Nat → Nat) : (arr m).size = 32 := by unfold arr; simp
theorem arr_one (m : Nat → Nat) : (arr m).all (·.oneCell') = true := by
  unfold arr
  rw [List.all_toArray, List.all_eq_true]
  intro v hv
  obtain ⟨i, -, rfl⟩ := List.mem_map.1 hv
  rfl
/-- Block g is such an array. -/
def Arr (w : World) (g : Nat) (m : Nat → Nat) : Prop := w.heap[g]? = some (.cells (arr m) 37 (0, 0))
theorem arr_of_row {w : World} {g : Nat} {m : Nat → Nat} (h : w.rowIs g 37 32 (fun i => .int .u32 (m i : Nat))) : Arr w g m := by
  obtain ⟨c, hb, hs, hc⟩ := h
  have : c = arr m := by
    apply Array.ext_getElem?
    intro i
    by_cases hi : i < 32
    · rw [hc i hi, arr_at m hi]
    · rw [Array.getElem?_eq_none (by omega), Array.getElem?_eq_none (by rw [arr_size]; omega)]
  rw [this] at hb
  exact hb
theorem row_of_arr {w : World} {g : Nat} {m : Nat → Nat} (h : Arr w g m) : w.rowIs g 37 32 (fun i => .int .u32 (m i : Nat)) := ⟨_, h, arr_size m, fun _ hi => arr_at m hi⟩
/-- Two such arrays of a call's own: the result's, and one that is filled up to place j. -/
def Fills (w : World) (m : Nat → Nat) (j : Nat) (wr : World) : Prop :=
  wr.rowIs (w.heap.size + 1) 37 32 (fun i => .int .u32 ((if i < j then m i else 0 : Nat) : Nat)) ∧ Arr wr w.heap.size (fun _ => 0) ∧ Below w.heap.size w wr
theorem fills_none (w : World) (m : Nat → Nat) (c : Array Value) (hc : c = arr fun _ => 0) : Fills w m 0 ((w.alloc (.cells c 37)).alloc (.cells c 37)) := by
  subst hc
  refine ⟨?_, ?_, ((Below.refl _ w).alloc (Nat.le_refl _) _).alloc (by rw [Deep.nblk_alloc]; omega) _⟩
  · have := World.rowIs_alloc (w.alloc (.cells (arr fun _ => 0) 37)) (arr fun _ => 0) 37 (fun i => .int .u32 ((if i < 0 then m i else 0 : Nat) : Nat)) (fun i hi => by rw [arr_at _ (by rw [arr_size] at hi; exact hi)]; rfl)
    rw [arr_size, Deep.nblk_alloc] at this
    exact this
  · unfold Arr
    rw [Deep.blk_alloc_lt _ _ _ (by rw [Deep.nblk_alloc]; omega), heap_alloc_last]
theorem fills_set {w wr : World} {m : Nat → Nat} {j : Nat} (h : Fills w m j wr) : Fills w m (j + 1) (wr.setCell ⟨w.heap.size + 1, j, none⟩ (.int .u32 (m j : Nat))) := by
  obtain ⟨h1, h2, h3⟩ := h
  refine ⟨(h1.set j _).congr fun i _ => ?_, ?_, ?_⟩
  · by_cases e : i = j
    · subst e; rw [if_pos rfl, if_pos (by omega)]
    · rw [if_neg e]
      by_cases hi : i < j
      · rw [if_pos hi, if_pos (by omega)]
      · rw [if_neg hi, if_neg (by omega)]
  · unfold Arr
    rw [← h2]
    exact Deep.blk_setCell_other _ _ _ _ (by show w.heap.size ≠ w.heap.size + 1; omega)
  · exact h3.setCell (by show w.heap.size ≤ w.heap.size + 1; omega) _
theorem mod_small {q : Nat} (h : q < 4294967296) : (q : Int) % 4294967296 = q := by omega
theorem pow_small {j : Nat} (h : j < 32) : ((2 : Int) ^ j % 4294967296) = ((2 ^ j : Nat) : Int) := by
  have h1 : 2 ^ j < 4294967296 := Nat.pow_lt_pow_right (m := j) (n := 32) (a := 2) (by decide) h
  have e : ((2 : Int) ^ j) = ((2 ^ j : Nat) : Int) := by norm_cast
  rw [e]
  exact mod_small h1
theorem arr_info (m : Nat → Nat) : (Tryd.prog.info? 37).map (·.size) = some (arr m).size := by
  rw [arr_size]; kernel_rfl
theorem fills_all {w wr : World} {m : Nat → Nat} (h : Fills w m 32 wr) : Arr wr (w.heap.size + 1) m :=
  arr_of_row (h.1.congr fun i hi => by rw [if_pos hi])
set_option maxRecDepth 10000 in
theorem p_one (w : World) :
    Calls Tryd.prog 17 #[] w fun e w' => e = .returned (.agg (arr fun i => Ln 8 (2 ^ i))) ∧ Below w.heap.size w w' := by
  have hF := fun c hc => fills_none w (fun i => Ln 8 (2 ^ i)) c hc
  go_enter Tryd.func17, Tryd.ntmps17
  go_wp2_with fail
  generalize hwa : (World.alloc (World.alloc w (.cells _ _)) (.cells _ _)) = wa
  have F0 : Hid (Fills w (fun i => Ln 8 (2 ^ i)) 0 wa) := show Fills _ _ _ _ by
    rw [← hwa]
    exact hF _ (by kernel_rfl)
  clear hF hwa
  go_loopw [2, 3] (fun s t wr => ∃ j : Nat, j ≤ 32 ∧ t = .int .i64 j ∧ Hid (Fills w (fun i => Ln 8 (2 ^ i)) j wr)) (fun _ t _ => 32 - (intOf t).toNat)
  case atStart => exact ⟨0, by omega, rfl, F0⟩
  case round =>
    obtain ⟨j, hj, rfl, FW⟩ := hrel
    by_cases hlt : j < 32
    · have h0 : (0 : Int) ≤ j := by omega
      have hi : (j : Int) < 32 := by omega
      have hfz := FW.out.1.frozen j
      have hc0 := FW.out.1.cell hlt
      have hp := p_eight (2 ^ j) wr (Nat.pow_lt_pow_right (by decide) hlt)
      have hm : ((2 : Int) ^ j % 4294967296) = ((2 ^ j : Nat) : Int) := pow_small hlt
      obtain ⟨y, hy⟩ : ∃ y, Ln 8 (2 ^ j) = y := ⟨_, rfl⟩
      have HS : Hid (Fills w (fun i => Ln 8 (2 ^ i)) (j + 1) (wr.setCell ⟨w.heap.size + 1, j, none⟩ (.int .u32 (y : Nat)))) := show Fills _ _ _ _ by
        rw [← hy]; exact fills_set FW.out
      rw [hy] at hp
      obtain ⟨q, hq⟩ : ∃ q, 2 ^ j = q := ⟨_, rfl⟩
      rw [hq] at hp hm
      clear hq hy hc0
      have hc0 : ∃ v, wr.cell? ⟨w.heap.size + 1, j, none⟩ = some v := ⟨_, FW.out.1.cell hlt⟩
      obtain ⟨v0, hc0⟩ := hc0
      go_wp2_with fail
      refine hp.mono ?_
      rintro e w1 ⟨rfl, rfl⟩
      go_wp2_with fail
      go_round
      case rel => exact ⟨j + 1, by omega, by go_num, HS⟩
      case measure => simp [intOf]; omega
    · obtain rfl : j = 32 := by omega
      have HT : Hid (Arr wr (w.heap.size + 1) (fun i => Ln 8 (2 ^ i))) := fills_all FW.out
      have HR := Lib.hid FW.out.2.1
      have HB := Lib.hid FW.out.2.2
      have hs := Lib.hid (arr_info fun i => Ln 8 (2 ^ i))
      clear hj hlt FW
      go_wp2_with (first
        | (refine wpList_load_row rfl 37 _ rfl _ rfl _ _ _ _ HT.out Tryd.underlying37 rfl hs.out ?_)
        | (refine wpList_store_row rfl 37 _ _ rfl _ _ rfl rfl _ _ HR.out hs.out (by rw [arr_size, arr_size]) (arr_one _) ?_))
      refine bodyPost_ret (results_cell_row rfl _ _ _ _ _ _ _ rfl (setRow_heap _ _ _ _ _ _ HR.out) Tryd.underlying37 rfl hs.out) rfl ?_
      exact ⟨rfl, below_setRow HB.out (Nat.le_refl _) _⟩
/-- A number without its lowest bit. -/
theorem low_off {y : Nat} (h0 : y ≠ 0) (h : y < 4294967296) : y &&& (y - 1) = y ^^^ 2 ^ Lib.ctz 32 y ∧ Lib.ctz 32 y < 32 := by
  obtain ⟨m, hm, hk⟩ := Lib.ctzFrom_spec 32 y (by omega) h
  have e : Lib.ctz 32 y = Lib.ctzFrom 32 y := by simp [Lib.ctz, h0]
  rw [e]
  refine ⟨?_, hk⟩
  generalize Lib.ctzFrom 32 y = t at *
  have hp : 0 < 2 ^ t := Nat.pow_pos (by decide)
  have e1 : y = 2 ^ (t + 1) * m + 2 ^ t := by rw [hm, Nat.mul_add, Nat.mul_one, Nat.pow_succ, Nat.mul_assoc]
  have e2 : y - 1 = 2 ^ (t + 1) * m + (2 ^ t - 1) := by omega
  have l1 : 2 ^ t < 2 ^ (t + 1) := Nat.pow_lt_pow_right (by decide) (by omega)
  rw [e2]
  rw [e1]
  apply Nat.eq_of_testBit_eq
  intro j
  rw [Nat.testBit_and, Nat.testBit_xor, Nat.testBit_two_pow_mul_add m l1, Nat.testBit_two_pow_mul_add m (show 2 ^ t - 1 < 2 ^ (t + 1) by omega), Nat.testBit_two_pow, Nat.testBit_two_pow_sub_one]
  by_cases hj : j < t + 1
  · by_cases ht : t = j
    · subst ht; simp
    · simp [hj, ht]
  · simp [hj, show ¬ t = j by omega]
theorem of_next {k n x y z : Nat} (hx : x ^^^ Ln k y = Ln k n) (h0 : y ≠ 0) (h : y < 4294967296) (hz : Ln k (2 ^ Lib.ctz 32 y) = z) : (x ^^^ z) ^^^ Ln k (y &&& (y - 1)) = Ln k n := by
  rw [(low_off h0 h).1, Ln_xor, hz, ← hx, Nat.xor_assoc, Nat.xor_comm (Ln k y) z, ← Nat.xor_assoc z, Nat.xor_self, Nat.zero_xor]
theorem below_drewN {B : Nat} {a w : World} (h : Below B a w) (n : Nat) : Below B a (w.drewN n) := ⟨h.os, h.tape, h.output, h.size, h.block⟩
theorem quiet_left {P : Program} {f : FuncId} {args : Array Value} {w : World} {n : Nat} {v : Value} (h : Calls P f args (w.drewN n) fun e w' => e = .returned v ∧ w.drewN n = w') :
    Calls P f args (w.drewN n) fun e w'' => e = .returned v ∧ ∃ m, w'' = w.drewN m := h.mono fun _ _ ⟨he, hm⟩ => ⟨he, n, hm.symm⟩
/-- What many bits 0 make of a number, by an array of what they make of each bit. -/
theorem p_of (g k n : Nat) (w : World) (L : Laid w) (HA : Arr w g (fun i => Ln k (2 ^ i))) (hn : n < 4294967296) :
    Calls Tryd.prog 18 #[.pointer (some ⟨g, 0, none⟩), .int .u32 n] w fun e w' => e = .returned (.int .u32 (Ln k n : Nat)) ∧ ∃ d, w' = w.drewN d := by
  have HN := Lib.hid hn
  have LD := Lib.hid L
  have HR := Lib.hid HA
  have H0 := Lib.hid (show 0 ^^^ Ln k n = Ln k n by rw [Nat.zero_xor])
  clear hn L HA
  go_enter Tryd.func18, Tryd.ntmps18
  go_wp2_with fail
  go_loopw [5, 1] (fun s t wr => ∃ x y : Nat, s = .int .u32 x ∧ t = .int .u32 y ∧ Hid (x < 4294967296) ∧ Hid (y < 4294967296) ∧ Hid (x ^^^ Ln k y = Ln k n) ∧ Hid (∃ d, wr = w.drewN d)) (fun _ t _ => (intOf t).toNat)
  case atStart => exact ⟨0, n, rfl, rfl, (by decide : (0 : Nat) < 4294967296), HN, H0, 0, rfl⟩
  case round =>
    obtain ⟨x, y, rfl, rfl, HX, HY, HE, HW⟩ := hrel
    by_cases h0 : y = 0
    · subst h0
      have hE := HE.out
      rw [Ln_zero, Nat.xor_zero] at hE
      subst hE
      go_wp2_with fail
      go_ret
      exact ⟨rfl, HW.out⟩
    · have n0 : ¬ (y : Int) = 0 := by omega
      have ht := (low_off h0 HY.out).2
      have hc := (row_of_arr (w := wr) (g := g) (m := fun i => Ln k (2 ^ i)) (by obtain ⟨d, hd⟩ := HW.out; rw [hd]; exact HR.out)).cell ht
      have LW : Laid wr := by obtain ⟨d, hd⟩ := HW.out; rw [hd]; exact LD.out
      have HP : Hid (∀ m, Calls Tryd.prog 20 #[.int .u32 y] (wr.drewN m) fun e w' => e = .returned (.int .i64 (Lib.ctz 32 y : Nat)) ∧ wr.drewN m = w') := fun m => p_trail y (wr.drewN m) LW HY.out h0
      have hz : Ln k (2 ^ Lib.ctz 32 y) < 4294967296 := Ln_lt (Nat.pow_lt_pow_right (n := 32) (by decide) ht)
      obtain ⟨z, hzz⟩ : ∃ z, Ln k (2 ^ Lib.ctz 32 y) = z := ⟨_, rfl⟩
      have HE' := Lib.hid (of_next HE.out h0 HY.out hzz)
      simp only [hzz] at hc
      rw [hzz] at hz
      have t1 := u32_xor_nat x z HX.out hz
      have HX' := Lib.hid (Nat.xor_lt_two_pow (n := 32) (x := x) (y := z) HX.out hz)
      have hy1 : 0 < y := by omega
      have hYY := HY.out
      have t2 : bits .and .u32 (y : Int) ((y : Int) - 1) = ((y &&& (y - 1) : Nat) : Int) := by
        rw [← u32_and_nat y (y - 1) HY.out (by omega)]
        congr 1
        omega
      have hy2 : y &&& (y - 1) < y := by have := Nat.and_le_right (n := y) (m := y - 1); omega
      have HYY := Lib.hid (Nat.lt_trans hy2 hYY)
      clear hz hzz LW
      generalize y &&& (y - 1) = y' at *
      generalize Lib.ctz 32 y = t at *
      have t0 : (0 : Int) ≤ t := by omega
      have t3 : (t : Int) < 32 := by omega
      go_wp2_with fail
      go_quiet ((exact quiet_left (HP.out _)))
      go_wp2_with fail
      go_roundw
      case rel => exact ⟨x ^^^ z, y', by first | rfl | rw [t1], by first | rfl | rw [t2], HX', HYY, HE', by obtain ⟨d, hd⟩ := HW.out; rw [hd]; exact ⟨_, World.drewN_drewN ..⟩⟩
      case measure => simp [intOf]; omega
theorem ln_twice (k i : Nat) : Ln k (Ln k (2 ^ i)) = Ln (k + k) (2 ^ i) := (Ln_add k k _).symm
/-- What twice as many bits 0 make of each bit. -/
theorem p_twice (g k : Nat) (w : World) (L : Laid w) (HA : Arr w g (fun i => Ln k (2 ^ i))) :
    Calls Tryd.prog 19 #[.pointer (some ⟨g, 0, none⟩)] w fun e w' => e = .returned (.agg (arr fun i => Ln (k + k) (2 ^ i))) ∧ Below w.heap.size w w' := by
  have hF := fun c hc => fills_none w (fun i => Ln (k + k) (2 ^ i)) c hc
  have LD := Lib.hid L
  have HR := Lib.hid HA
  have hg := (row_of_arr HA).lt
  have hgA : g ≠ w.heap.size + 1 := by omega
  have HG := Lib.hid hg
  clear L HA hg
  go_enter Tryd.func19, Tryd.ntmps19
  go_wp2_with fail
  generalize hwa : (World.alloc (World.alloc w (.cells _ _)) (.cells _ _)) = wa
  have F0 : Hid (Fills w (fun i => Ln (k + k) (2 ^ i)) 0 wa) := show Fills _ _ _ _ by
    rw [← hwa]
    exact hF _ (by kernel_rfl)
  clear hF hwa
  go_loopw [4, 5] (fun s t wr => ∃ j : Nat, j ≤ 32 ∧ t = .int .i64 j ∧ Hid (Fills w (fun i => Ln (k + k) (2 ^ i)) j wr)) (fun _ t _ => 32 - (intOf t).toNat)
  case atStart => exact ⟨0, by omega, rfl, F0⟩
  case round =>
    obtain ⟨j, hj, rfl, FW⟩ := hrel
    by_cases hlt : j < 32
    · have h0 : (0 : Int) ≤ j := by omega
      have hi : (j : Int) < 32 := by omega
      have hfz := FW.out.1.frozen j
      have hA2 : Arr wr g (fun i => Ln k (2 ^ i)) := (FW.out.2.2.block g HG.out).trans HR.out
      have hc0 := (row_of_arr hA2).cell hlt
      have hl : Ln k (2 ^ j) < 4294967296 := Ln_lt (Nat.pow_lt_pow_right (n := 32) (by decide) hlt)
      have hp := p_of g k (Ln k (2 ^ j)) wr (LD.out.of FW.out.2.2) hA2 hl
      rw [ln_twice] at hp
      obtain ⟨y, hy⟩ : ∃ y, Ln (k + k) (2 ^ j) = y := ⟨_, rfl⟩
      have HS : Hid (∀ d, Fills w (fun i => Ln (k + k) (2 ^ i)) (j + 1) ((wr.drewN d).setCell ⟨w.heap.size + 1, j, none⟩ (.int .u32 (y : Nat)))) := fun d => by
        rw [← hy]; exact fills_set (wr := wr.drewN d) ⟨FW.out.1, FW.out.2.1, below_drewN FW.out.2.2 d⟩
      rw [hy] at hp
      obtain ⟨q, hq⟩ : ∃ q, Ln k (2 ^ j) = q := ⟨_, rfl⟩
      simp only [hq] at hp hc0
      clear hq hy hA2 hl
      have hc1 : ∃ v, wr.cell? ⟨w.heap.size + 1, j, none⟩ = some v := ⟨_, FW.out.1.cell hlt⟩
      obtain ⟨v0, hc1⟩ := hc1
      go_wp2_with fail
      refine hp.mono ?_
      rintro e w1 ⟨rfl, d, rfl⟩
      go_wp2_with fail
      go_roundw
      case rel => exact ⟨j + 1, by omega, by go_num, HS.out d⟩
      case measure => simp [intOf]; omega
    · obtain rfl : j = 32 := by omega
      have HT : Hid (Arr wr (w.heap.size + 1) (fun i => Ln (k + k) (2 ^ i))) := fills_all FW.out
      have HR := Lib.hid FW.out.2.1
      have HB := Lib.hid FW.out.2.2
      have hs := Lib.hid (arr_info fun i => Ln (k + k) (2 ^ i))
      clear hj hlt FW
      go_wp2_with (first
        | (refine wpList_load_row rfl 37 _ rfl _ rfl _ _ _ _ HT.out Tryd.underlying37 rfl hs.out ?_)
        | (refine wpList_store_row rfl 37 _ _ rfl _ _ rfl rfl _ _ HR.out hs.out (by rw [arr_size, arr_size]) (arr_one _) ?_))
      refine bodyPost_ret (results_cell_row rfl _ _ _ _ _ _ _ rfl (setRow_heap _ _ _ _ _ _ HR.out) Tryd.underlying37 rfl hs.out) rfl ?_
      exact ⟨rfl, below_setRow HB.out (Nat.le_refl _) _⟩
theorem i64_and_one (n : Int) : bits .and .i64 n 1 = n % 2 := by
  have h1 : (BitVec.ofInt 64 1).toNat = 2 ^ 1 - 1 := by decide
  have key : (BitVec.ofInt 64 n &&& BitVec.ofInt 64 1).toNat = (n % ((2 ^ 64 : Nat) : Int)).toNat % 2 ^ 1 := by
    rw [BitVec.toNat_and, BitVec.toNat_ofInt, h1, Nat.and_two_pow_sub_one_eq_mod]
  show IntKind.i64.wrap ((BitVec.ofInt 64 n &&& BitVec.ofInt 64 1).toNat : Nat) = n % 2
  rw [key, IntKind.wrap_i64]
  omega
theorem odd_true {m : Nat} (h : m % 2 = 1) : (bits .and .i64 (m : Int) 1 == 1) = true := by
  rw [i64_and_one, beq_iff_eq]; omega
theorem odd_false {m : Nat} (h : ¬ m % 2 = 1) : (bits .and .i64 (m : Int) 1 == 1) = false := by
  rw [i64_and_one, beq_eq_false_iff_ne]; omega
theorem behind_odd {k m x : Nat} (h : m % 2 = 1) : Ln ((k + k) * (m / 2)) (Ln k x) = Ln (k * m) x := by
  rw [← Ln_add]
  congr 1
  have e : m = 1 + 2 * (m / 2) := by omega
  conv => rhs; rw [e]
  rw [Nat.mul_add, Nat.mul_one, ← Nat.two_mul, Nat.mul_comm 2 k, Nat.mul_assoc]
theorem behind_even {k m x : Nat} (h : ¬ m % 2 = 1) : Ln ((k + k) * (m / 2)) x = Ln (k * m) x := by
  congr 1
  have e : m = 2 * (m / 2) := by omega
  conv => rhs; rw [e]
  rw [← Nat.two_mul, Nat.mul_comm 2 k, Nat.mul_assoc]
/-- The world at the head of a round: an array of the call's own. -/
def Zs (w : World) (k g : Nat) (wr : World) : Prop := w.heap.size ≤ g ∧ Arr wr g (fun i => Ln k (2 ^ i)) ∧ Below w.heap.size w wr
theorem zs_first {w w1 : World} {k : Nat} {c : Array Value} (hb : Below w.heap.size w w1) : Zs w k w1.heap.size ((w1.alloc (.cells c 37)).setRow w1.heap.size (arr fun i => Ln k (2 ^ i))) := by
  rw [World.setRow_alloc_new]
  exact ⟨hb.size, heap_alloc_last _ _, hb.alloc hb.size _⟩
theorem zs_drew {w wr : World} {k g : Nat} (h : Zs w k g wr) (d : Nat) : Zs w k g (wr.drewN d) := ⟨h.1, h.2.1, below_drewN h.2.2 d⟩
theorem zs_call {w wr w1 : World} {k g : Nat} (h : Zs w k g wr) (hb : Below wr.heap.size wr w1) : Zs w k g w1 := by
  have hg := (row_of_arr h.2.1).lt
  exact ⟨h.1, (hb.block g hg).trans h.2.1, h.2.2.trans (hb.mono h.2.2.size)⟩
theorem zs_set {w wr : World} {k k' g : Nat} (h : Zs w k g wr) : Zs w k' g (wr.setRow g (arr fun i => Ln k' (2 ^ i))) :=
  ⟨h.1, setRow_heap _ _ _ _ _ _ h.2.1, below_setRow h.2.2 h.1 _⟩
theorem store_row {P : Program} {ops : Array Oper} {rest : List Oper} {o : Oper} {a : Act} {w : World} {Q : Exit → Act → World → Prop} (hgd : o.guard = none) (ty : TypeId) (x y : Operand) (ho : o.op = .store ty x y) (hd : o.dst = none)
    (g : Nat) (cells : Array Value) (hx : a.eval x = .pointer (some ⟨g, 0, none⟩)) (hy : a.eval y = .agg cells)
    (t : TypeId) (old : Array Value) (hg : w.heap[g]? = some (.cells old t (0, 0))) (hi : (P.info? ty).map (·.size) = some cells.size)
    (hold : old.size = cells.size) (h1 : cells.all (·.oneCell') = true)
    (h : wpList P ops Q rest a (w.setRow g cells)) : wpList P ops Q (o :: rest) a w :=
  wpList_store_row hgd ty x y ho g cells hx hy t old hg hi hold h1 (by rw [hd]; exact h)
theorem zs_next {w wr : World} {k g : Nat} (h : Zs w k g wr) : Zs w k wr.heap.size (wr.alloc (.cells (arr fun i => Ln k (2 ^ i)) 37)) :=
  ⟨h.2.2.size, heap_alloc_last _ _, h.2.2.alloc h.2.2.size _⟩
theorem p_behind (a n : Nat) (w : World) (L : Laid w) (ha : a < 4294967296) (hn : n ≤ 9223372036854775807) :
    Calls Tryd.prog 16 #[.int .u32 a, .int .i64 n] w fun e w' => e = .returned (.int .u32 (Ln (8 * n) a : Nat)) ∧ Below w.heap.size w w' := by
  have HA := Lib.hid ha
  have HN := Lib.hid hn
  have LD := Lib.hid L
  have hs := fun k => Lib.hid (arr_info fun i => Ln k (2 ^ i))
  clear ha hn L
  go_enter Tryd.func16, Tryd.ntmps16
  go_wp2_with fail
  refine (p_one w).mono ?_
  rintro e w1 ⟨rfl, hb⟩
  have Z0 := Lib.hid (zs_first (k := 8) (c := #[]) hb)
  rw [World.setRow_alloc_new] at Z0
  clear hb
  go_wp2_with (first
    | (refine store_row rfl 37 _ _ rfl rfl _ _ rfl rfl _ _ (heap_alloc_last _ _) (hs _).out (by rw [arr_size]; rfl) (arr_one _) ?_; rw [World.setRow_alloc_new]))
  generalize hwa : (World.alloc w1 (.cells _ _)) = wa at *
  clear hwa
  obtain ⟨g0, hg0⟩ : ∃ g0, w1.heap.size = g0 := ⟨_, rfl⟩
  rw [hg0] at Z0 ⊢
  clear hg0 w1
  go_loopw [0, 1, 5] (fun s t u wr => ∃ x m k g : Nat, s = .int .u32 x ∧ t = .int .i64 m ∧ u = .pointer (some ⟨g, 0, none⟩) ∧ Hid (x < 4294967296) ∧ Hid (m ≤ 9223372036854775807) ∧ Hid (Ln (k * m) x = Ln (8 * n) a) ∧ Hid (Zs w k g wr)) (fun _ t _ _ => (intOf t).toNat)
  case atStart => exact ⟨a, n, 8, g0, rfl, rfl, rfl, HA, HN, Lib.hid rfl, Z0⟩
  case round =>
    obtain ⟨x, m, k, g, rfl, rfl, rfl, HX, HM, HE, HZ⟩ := hrel
    by_cases h0 : 0 < m
    · have m0 : (0 : Int) < m := by omega
      have hm := HM.out
      by_cases hodd : m % 2 = 1
      · have t1 := odd_true hodd
        have HX' : Hid (Ln k x < 4294967296) := show _ < _ from Ln_lt HX.out
        have HE' := Lib.hid ((behind_odd (k := k) (x := x) hodd).trans HE.out)
        have hp := p_of g k x wr (LD.out.of HZ.out.2.2) HZ.out.2.1 HX.out
        clear hodd
        go_wp2_with fail
        refine hp.mono ?_
        rintro e w2 ⟨rfl, d, rfl⟩
        have HZ2 := Lib.hid (zs_drew HZ.out d)
        generalize wr.drewN d = w3 at *
        go_wp2_with fail
        refine (p_twice g k w3 (LD.out.of HZ2.out.2.2) HZ2.out.2.1).mono ?_
        rintro e w4 ⟨rfl, hb⟩
        have HZ3 := Lib.hid (zs_call HZ2.out hb)
        have HZ4 := Lib.hid (zs_set (k' := k + k) HZ3.out)
        have HZ5 := Lib.hid (zs_next HZ4.out)
        clear hb
        go_wp2_with (first
          | (refine store_row rfl 37 _ _ rfl rfl _ _ rfl rfl _ _ HZ3.out.2.1 (hs _).out (by rw [arr_size, arr_size]) (arr_one _) ?_; generalize w4.setRow g (arr fun i => Ln (k + k) (2 ^ i)) = w5 at *)
          | (refine wpList_load_row rfl 37 _ rfl _ rfl _ _ _ _ HZ4.out.2.1 Tryd.underlying37 rfl (hs _).out ?_)
          | (refine store_row rfl 37 _ _ rfl rfl _ _ rfl rfl _ _ (heap_alloc_last _ _) (hs _).out (by rw [arr_size]; rfl) (arr_one _) ?_; rw [World.setRow_alloc_new]))
        go_roundw
        case rel => exact ⟨Ln k x, m / 2, k + k, _, rfl, by go_num, rfl, HX', by show m / 2 ≤ 9223372036854775807; omega, HE', HZ5⟩
        case measure => simp [intOf]; omega
      · have t1 := odd_false hodd
        have HE' := Lib.hid ((behind_even (k := k) (x := x) hodd).trans HE.out)
        clear hodd
        obtain ⟨w3, hw3⟩ : ∃ w3, w3 = wr := ⟨_, rfl⟩
        have HZ2 : Hid (Zs w k g w3) := show Zs _ _ _ _ by rw [hw3]; exact HZ.out
        rw [← hw3]
        clear hw3 HZ
        go_wp2_with fail
        refine (p_twice g k w3 (LD.out.of HZ2.out.2.2) HZ2.out.2.1).mono ?_
        rintro e w4 ⟨rfl, hb⟩
        have HZ3 := Lib.hid (zs_call HZ2.out hb)
        have HZ4 := Lib.hid (zs_set (k' := k + k) HZ3.out)
        have HZ5 := Lib.hid (zs_next HZ4.out)
        clear hb
        go_wp2_with (first
          | (refine store_row rfl 37 _ _ rfl rfl _ _ rfl rfl _ _ HZ3.out.2.1 (hs _).out (by rw [arr_size, arr_size]) (arr_one _) ?_; generalize w4.setRow g (arr fun i => Ln (k + k) (2 ^ i)) = w5 at *)
          | (refine wpList_load_row rfl 37 _ rfl _ rfl _ _ _ _ HZ4.out.2.1 Tryd.underlying37 rfl (hs _).out ?_)
          | (refine store_row rfl 37 _ _ rfl rfl _ _ rfl rfl _ _ (heap_alloc_last _ _) (hs _).out (by rw [arr_size]; rfl) (arr_one _) ?_; rw [World.setRow_alloc_new]))
        go_roundw
        case rel => exact ⟨x, m / 2, k + k, _, rfl, by go_num, rfl, HX, by show m / 2 ≤ 9223372036854775807; omega, HE', HZ5⟩
        case measure => simp [intOf]; omega
    · obtain rfl : m = 0 := by omega
      have hE := HE.out
      rw [Nat.mul_zero] at hE
      have hE : x = Ln (8 * n) a := hE
      clear HE
      subst hE
      go_wp2_with fail
      go_ret
      exact ⟨rfl, HZ.out.2.2⟩
theorem c_sum (s : ByteArray) (w : World) (hl : s.size ≤ 100000) :
    Calls Tryd.prog 8 #[.string s] w fun e w' => e = .returned (.int .u32 (sum (bs s) : Nat)) ∧ Below w.heap.size w w' := by
  have hc := c_again 0 s w (by decide) hl
  have HE : again 0 (bs s) = sum (bs s) := rfl
  rw [HE] at hc
  generalize sum (bs s) = x at *
  have HL := Lib.hid hl
  clear hl HE
  go_enter Tryd.func8, Tryd.ntmps8
  go_wp2_with fail
  refine hc.mono ?_
  rintro e w1 ⟨rfl, hb⟩
  go_wp2_with fail
  go_ret
  exact ⟨rfl, hb⟩
/-- What Join tells. -/
def joinV (a b : Nat) (n : Int) : Nat := if n < 0 then 0 else join a b n.toNat
theorem c_join (a b : Nat) (n : Int) (w : World) (ha : a < 4294967296) (hb : b < 4294967296) (hn : -9223372036854775808 ≤ n ∧ n ≤ 9223372036854775807) (L : Laid w) :
    Calls Tryd.prog 12 #[.int .u32 a, .int .u32 b, .int .i64 n] w fun e w' => e = .returned (.int .u32 (joinV a b n : Nat)) ∧ Below w.heap.size w w' := by
  by_cases h0 : n < 0
  · have H : joinV a b n = 0 := if_pos h0
    rw [H]
    clear H ha hb hn L
    go_enter Tryd.func12, Tryd.ntmps12
    go_wp2_with fail
    go_ret
    exact ⟨rfl, Below.refl _ _⟩
  · obtain ⟨m, rfl⟩ : ∃ m : Nat, n = m := ⟨n.toNat, by omega⟩
    have H : joinV a b m = Ln (8 * m) a ^^^ b := by
      unfold joinV join
      rw [if_neg h0, Int.toNat_natCast]
    rw [H]
    have hp := p_behind a m w L ha (by omega)
    have t1 := u32_xor_nat (Ln (8 * m) a) b (Ln_lt ha) hb
    clear H ha hb hn L
    generalize Ln (8 * m) a = x at *
    go_enter Tryd.func12, Tryd.ntmps12
    go_wp2_with fail
    refine hp.mono ?_
    rintro e w1 ⟨rfl, hb⟩
    go_wp2_with fail
    go_ret
    exact ⟨by first | rfl | rw [t1], hb⟩
end Go.Proofs.YtmohlhnifkmcbaaDoor.Crc
