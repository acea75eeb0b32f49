/- What bits.Len64 and bits.LeadingZeros64 answer, at every uint64: the number of bits of x, and 64 less that. -/
import Derived.Test.YtiaiahdejihlbaaChecked
import Derived.WalkKit
import Derived.ProofKit
import Derived.IntWalk
import Derived.Lib.BitFns
import Derived.Outline
namespace Go.Proofs.Ytiaiahdejihlbaa.Bits
open Go.ChangeShapes Go.WideShapes Go.ChangeAt Go.RowKit

theorem ret_int {k : IntKind} {a b : Int} (h : a = b) : Ending.returned (.int k a) = .returned (.int k b) := by rw [h]
theorem tab_fin : ∀ n : Fin 256, (Lib.len8tab[n.val]'(by rw [Lib.len8tab_size]; exact n.isLt)).toNat = Lib.bitLen n.val := by decide +kernel
theorem tab_eq (i : Nat) (h : i < Lib.len8tab.size) : (Lib.len8tab[i]'h).toNat = Lib.bitLen i := tab_fin ⟨i, by rw [← Lib.len8tab_size]; exact h⟩
theorem len_at (x : Int) (k i : Nat) (h : 2 ^ k ≤ x.toNat) (hx : x.toNat < 2 ^ 64) (hi : i = x.toNat / 2 ^ k) (h8 : i < 256) (hk : k ≤ 56) :
    wrap64 ((k : Int) + wrap64 (Lib.bitLen i : Nat)) = (Lib.bitLen x.toNat : Nat) := by
  have l := Lib.bitLen_le8 ⟨i, h8⟩
  rw [Lib.bitLen_shift k x.toNat h hx, ← hi]
  simp only at l
  unfold wrap64; omega
theorem len_low (x : Int) (h0 : 0 ≤ x) (h : x < 256) : wrap64 (wrap64 (Lib.bitLen x.toNat : Nat)) = (Lib.bitLen x.toNat : Nat) := by
  have l := Lib.bitLen_le8 ⟨x.toNat, by omega⟩
  simp only at l
  unfold wrap64; omega

end Go.Proofs.Ytiaiahdejihlbaa.Bits
