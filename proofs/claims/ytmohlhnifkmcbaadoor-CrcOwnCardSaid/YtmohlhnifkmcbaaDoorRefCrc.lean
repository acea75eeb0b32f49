/- The document's own Go, Sum, Again, at any text. -/
import Derived.Test.YtmohlhnifkmcbaaDoorChecked
import Derived.Test.YtmohlhnifkmcbaaDoorCrcMath
import Derived.WalkKit
import Derived.ProofKit
import Derived.OpenShut
import Derived.Handy
import Derived.Lib.Hide
import Derived.Laws.BitsAllLaws
namespace Go.Proofs.YtmohlhnifkmcbaaDoor.Crc
open Go.ChangeShapes Go.WideShapes Go.ChangeAt Go.RowKit

/-- The bytes of a text. -/
def bs (s : ByteArray) : List Nat := s.data.toList.map UInt8.toNat
theorem bs_length (s : ByteArray) : (bs s).length = s.size := by
  unfold bs
  rw [List.length_map, Array.length_toList]; rfl
theorem bs_lt (s : ByteArray) : ∀ b ∈ bs s, b < 256 := by
  intro b hb
  obtain ⟨x, -, rfl⟩ := List.mem_map.1 hb
  exact x.toNat_lt
theorem bs_at (s : ByteArray) {j : Nat} (h : j < s.size) : (bs s).getD j 0 = s[j].toNat := by
  unfold bs
  rw [List.getD_eq_getElem?_getD, List.getElem?_map]
  have : s.data.toList[j]? = some s[j] := by
    rw [Array.getElem?_toList]
    exact Array.getElem?_eq_getElem h
  rw [this]; rfl
theorem and_one {y : Nat} (h : y < 4294967296) : bits .and .u32 (y : Int) 1 = ((y % 2 : Nat) : Int) := by
  have := u32_and_nat y 1 h (by decide)
  rw [Nat.and_one_is_mod] at this
  exact this
theorem bit_of (b k : Nat) (h : b < 256) : bits .and .u32 ((b : Int) / 2 ^ k) 1 = ((b / 2 ^ k % 2 : Nat) : Int) := by
  have e : ((b : Int) / 2 ^ k) = ((b / 2 ^ k : Nat) : Int) := by
    norm_cast
  rw [e]
  exact and_one (Nat.lt_of_le_of_lt (Nat.div_le_self _ _) (by omega))
theorem xor_poly {y : Nat} (h : y < 4294967296) : bits .xor .u32 ((y : Int) / 2) 3988292384 = (((y / 2) ^^^ 3988292384 : Nat) : Int) :=
  u32_xor_nat (y / 2) 3988292384 (by omega) (by decide)
theorem bit_at {f i : Nat} (hf : f < 4294967296) : bits .and .u32 ((f : Int) / 2 ^ i) 1 = ((f / 2 ^ i % 2 : Nat) : Int) := by
  have e : ((f : Int) / 2 ^ i) = ((f / 2 ^ i : Nat) : Int) := by norm_cast
  rw [e]
  exact and_one (Nat.lt_of_le_of_lt (Nat.div_le_self _ _) hf)
theorem bit_set {f i : Nat} (hf : f < 4294967296) (h : f / 2 ^ i % 2 = 1) : (bits .and .u32 ((f : Int) / 2 ^ i) 1 == 1) = true := by rw [bit_at hf, h]; rfl
theorem bit_not {f i : Nat} (hf : f < 4294967296) (h : ¬ f / 2 ^ i % 2 = 1) : (bits .and .u32 ((f : Int) / 2 ^ i) 1 == 1) = false := by
  rw [bit_at hf, beq_eq_false_iff_ne]
  omega
theorem bit_true {y b k : Nat} (hy : y < 4294967296) (hb : b < 256) (h : y % 2 ≠ b / 2 ^ k % 2) : (bits .and .u32 (y : Int) 1 != bits .and .u32 ((b : Int) / 2 ^ k) 1) = true := by
  rw [and_one hy, bit_of b k hb, bne_iff_ne]
  omega
theorem bit_false {y b k : Nat} (hy : y < 4294967296) (hb : b < 256) (h : ¬ y % 2 ≠ b / 2 ^ k % 2) : (bits .and .u32 (y : Int) 1 != bits .and .u32 ((b : Int) / 2 ^ k) 1) = false := by
  rw [and_one hy, bit_of b k hb, bne_eq_false_iff_eq]
  omega
theorem st_true {x b k y : Nat} (hy : y = Bits k x b) (h : y % 2 ≠ b / 2 ^ k % 2) : (y / 2) ^^^ 3988292384 = Bits (k + 1) x b := by
  rw [Bits_last, ← hy]; unfold St; rw [if_pos h]
theorem st_false {x b k y : Nat} (hy : y = Bits k x b) (h : ¬ y % 2 ≠ b / 2 ^ k % 2) : y / 2 = Bits (k + 1) x b := by
  rw [Bits_last, ← hy]; unfold St; rw [if_neg h]
theorem half_lt {y : Nat} (h : y < 4294967296) : (y / 2) ^^^ 3988292384 < 4294967296 := Nat.xor_lt_two_pow (n := 32) (by omega) (by decide)
theorem go_next (c : Nat) (l : List Nat) {j : Nat} (h : j < l.length) : G c (l.take (j + 1)) = Ln 8 (G c (l.take j) ^^^ l.getD j 0) := by
  rw [List.take_add_one, List.getElem?_eq_getElem h, List.getD_eq_getElem?_getD, List.getElem?_eq_getElem h]
  show G c (l.take j ++ [l[j]]) = _
  rw [G_append]; rfl
theorem r_go (c : Nat) (s : ByteArray) (w : World) (hc : c < 4294967296) (hl : s.size ≤ 9223372036854775807) :
    Calls Tryd.prog 14 #[.int .u32 c, .string s] w fun e w' => e = .returned (.int .u32 (G c (bs s) : Nat)) ∧ w = w' := by
  have HC := Lib.hid hc
  clear hc
  go_enter Tryd.func14, Tryd.ntmps14
  go_wp2_with fail
  go_loop [0, 5] (fun u t => ∃ (j x : Nat), j ≤ s.size ∧ t = .int .i64 j ∧ u = .int .u32 x ∧ Hid (x = G c ((bs s).take j)) ∧ Hid (x < 4294967296)) (fun _ t => s.size - (intOf t).toNat)
  case atStart => exact ⟨0, c, Nat.zero_le _, rfl, rfl, rfl, HC⟩
  case round =>
    obtain ⟨j, x, hj, rfl, rfl, hx, hxl⟩ := hrel
    by_cases hlt : j < s.size
    · have h0 : (0 : Int) ≤ j := by omega
      obtain ⟨b, hb⟩ : ∃ b, s[j].toNat = b := ⟨_, rfl⟩
      have hb8 : b < 256 := by rw [← hb]; exact s[j].toNat_lt
      have HN := Lib.hid ((go_next c (bs s) (j := j) (by rw [bs_length]; exact hlt)).trans (by rw [bs_at s hlt, hb, ← hx.out]))
      have HB8 := Lib.hid hb8
      go_wp2_with fail
      go_loop [0, 6] (fun u t => ∃ (k y : Nat), k ≤ 8 ∧ t = .int .i64 k ∧ u = .int .u32 y ∧ Hid (y = Bits k x b) ∧ Hid (y < 4294967296)) (fun _ t => 8 - (intOf t).toNat)
      case atStart => exact ⟨0, x, Nat.zero_le _, rfl, rfl, rfl, hxl⟩
      case round =>
        obtain ⟨k, y, hk, rfl, rfl, hy, hyl⟩ := hrel
        by_cases hk8 : k < 8
        · have k0 : (0 : Int) ≤ k := by omega
          by_cases hbit : y % 2 ≠ b / 2 ^ k % 2
          · have t1 := bit_true hyl.out HB8.out hbit
            have t2 := xor_poly hyl.out
            have S1 := Lib.hid (st_true hy.out hbit)
            clear hbit
            go_wp2_with fail
            go_round
            case rel => exact ⟨k + 1, _, by omega, by go_num, by first | rfl | rw [t2], S1, half_lt hyl.out⟩
            case measure => simp [intOf]; omega
          · have t1 := bit_false hyl.out HB8.out hbit
            have S1 := Lib.hid (st_false hy.out hbit)
            clear hbit
            go_wp2_with fail
            go_round
            case rel => exact ⟨k + 1, y / 2, by omega, by go_num, rfl, S1, show y / 2 < 4294967296 by have := hyl.out; omega⟩
            case measure => simp [intOf]; omega
        · obtain rfl : k = 8 := by omega
          have E := Lib.hid (hy.out.trans (Bits_eq 8 x b HB8.out))
          go_wp2_with fail
          go_round
          case rel => exact ⟨j + 1, y, by omega, by go_num, rfl, E.out.trans HN.out.symm, hyl⟩
          case measure => simp [intOf]; omega
    · obtain rfl : j = s.size := by omega
      have E : Hid (x = G c (bs s)) := show _ = _ by have := hx.out; rwa [← bs_length, List.take_length] at this
      have E := E.out
      clear hx
      subst E
      go_wp2_with fail
      go_ret
      exact ⟨rfl, rfl⟩
/-- The document's own Sum, Again. -/
theorem max_xor {x : Nat} (h : x < 4294967296) : bits .xor .u32 IntKind.u32.max (x : Int) = ((F ^^^ x : Nat) : Int) := u32_xor_nat 4294967295 x (by decide) h
theorem r_again (c : Nat) (s : ByteArray) (w : World) (hc : c < 4294967296) (hl : s.size ≤ 9223372036854775807) :
    Calls Tryd.prog 11 #[.int .u32 c, .string s] w fun e w' => e = .returned (.int .u32 (again c (bs s) : Nat)) ∧ w = w' := by
  have hF := Nat.xor_lt_two_pow (n := 32) F_lt hc
  have R := r_go (F ^^^ c) s w hF hl
  have t1 := max_xor hc
  have t2 := max_xor (G_lt hF (bs_lt s))
  go_enter Tryd.func11, Tryd.ntmps11
  go_wp2_with fail
  refine R.mono ?_
  rintro e w1 ⟨rfl, rfl⟩
  go_wp2_with fail
  go_ret
  exact ⟨rfl, rfl⟩
theorem r_sum (s : ByteArray) (w : World) (hl : s.size ≤ 9223372036854775807) :
    Calls Tryd.prog 9 #[.string s] w fun e w' => e = .returned (.int .u32 (sum (bs s) : Nat)) ∧ w = w' := by
  have R := r_go F s w F_lt hl
  have t2 := max_xor (G_lt F_lt (bs_lt s))
  have E := Lib.hid (sum_eq (bs s))
  rw [E.out]
  go_enter Tryd.func9, Tryd.ntmps9
  go_wp2_with fail
  refine R.mono ?_
  rintro e w1 ⟨rfl, rfl⟩
  go_wp2_with fail
  go_ret
  exact ⟨rfl, rfl⟩
end Go.Proofs.YtmohlhnifkmcbaaDoor.Crc
