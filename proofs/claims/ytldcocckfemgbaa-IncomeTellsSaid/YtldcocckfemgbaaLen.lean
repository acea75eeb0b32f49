/- What bits.Len64 and bits.LeadingZeros64 answer, at every uint64: the number of bits of x, and 64 less that. -/
import Derived.Test.YtldcocckfemgbaaChecked
import Derived.WalkKit
import Derived.ProofKit
import Derived.IntWalk
import Derived.Lib.BitFns
import Derived.Outline
namespace Go.Proofs.Ytldcocckfemgbaa.Bits
open Go.ChangeShapes Go.WideShapes Go.ChangeAt Go.RowKit

theorem ret_int {k : IntKind} {a b : Int} (h : a = b) : Ending.returned (.int k a) = .returned (.int k b) := by rw [h]
theorem tab_fin : ∀ n : Fin 256, (Lib.len8tab[n.val]'(by rw [Lib.len8tab_size]; exact n.isLt)).toNat = Lib.bitLen n.val := by decide +kernel
theorem tab_eq (i : Nat) (h : i < Lib.len8tab.size) : (Lib.len8tab[i]'h).toNat = Lib.bitLen i := tab_fin ⟨i, by rw [← Lib.len8tab_size]; exact h⟩
theorem len_at (x : Int) (k i : Nat) (h : 2 ^ k ≤ x.toNat) (hx : x.toNat < 2 ^ 64) (hi : i = x.toNat / 2 ^ k) (h8 : i < 256) (hk : k ≤ 56) :
    wrap64 ((k : Int) + wrap64 (Lib.bitLen i : Nat)) = (Lib.bitLen x.toNat : Nat) := by
  have l := Lib.bitLen_le8 ⟨i, h8⟩
  rw [Lib.bitLen_shift k x.toNat h hx, ← hi]
  simp only at l
  unfold wrap64; omega
theorem len_low (x : Int) (h0 : 0 ≤ x) (h : x < 256) : wrap64 (wrap64 (Lib.bitLen x.toNat : Nat)) = (Lib.bitLen x.toNat : Nat) := by
  have l := Lib.bitLen_le8 ⟨x.toNat, by omega⟩
  simp only at l
  unfold wrap64; omega

set_option maxRecDepth 100000 in
set_option maxHeartbeats 1000000 in
theorem len64_any (x : Int) (w : World) (h0 : 0 ≤ x) (h1 : x ≤ 18446744073709551615) :
    Calls Try.prog 29 #[.int .u64 x] w fun e w' => e = .returned (.int .i64 (Lib.bitLen x.toNat)) ∧ w = w' := by
  have hs := Lib.len8tab_size
  go_enter Try.func29, Try.ntmps29
  go_wp2
  all_goals first
    | (exfalso; omega)
    | (go_ret
       refine ⟨ret_int ?_, rfl⟩
       simp only [tab_eq]
       first
         | exact len_low x (by omega) (by omega)
         | exact len_at x 56 _ (by omega) (by omega) (by omega) (by omega) (by omega)
         | exact len_at x 48 _ (by omega) (by omega) (by omega) (by omega) (by omega)
         | exact len_at x 40 _ (by omega) (by omega) (by omega) (by omega) (by omega)
         | exact len_at x 32 _ (by omega) (by omega) (by omega) (by omega) (by omega)
         | exact len_at x 24 _ (by omega) (by omega) (by omega) (by omega) (by omega)
         | exact len_at x 16 _ (by omega) (by omega) (by omega) (by omega) (by omega)
         | exact len_at x 8 _ (by omega) (by omega) (by omega) (by omega) (by omega))

theorem lead64_any (x : Int) (w : World) (h0 : 0 ≤ x) (h1 : x ≤ 18446744073709551615) :
    Calls Try.prog 28 #[.int .u64 x] w fun e w' => e = .returned (.int .i64 (64 - (Lib.bitLen x.toNat : Nat))) ∧ w = w' := by
  have hb := Lib.bitLen_le x.toNat 64 (by omega) (by omega)
  go_enter Try.func28, Try.ntmps28
  go_wp2_with (go_at_call 29; refine (len64_any _ _ (by omega) (by omega)).mono ?_; rintro e w' ⟨rfl, rfl⟩)
  go_ret
  exact ⟨rfl, rfl⟩
end Go.Proofs.Ytldcocckfemgbaa.Bits
