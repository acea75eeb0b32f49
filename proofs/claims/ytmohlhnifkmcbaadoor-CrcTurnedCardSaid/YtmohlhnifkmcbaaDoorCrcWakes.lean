/- Layer 7's examples. -/
import Derived.Test.YtmohlhnifkmcbaaDoorCrc
namespace Go.Proofs.YtmohlhnifkmcbaaDoor.Crc
open Go.ChangeShapes Go.WideShapes Go.ChangeAt Go.RowKit

theorem below_via {a b c : World} (h : Below a.heap.size a b) (k : Below b.heap.size b c) : Below a.heap.size a c := h.trans (k.mono h.size)
theorem below_new {a b : World} (h : Below a.heap.size a b) (o : Obj) : Below a.heap.size a (b.alloc o) := h.alloc h.size o
theorem bs_append (s t : ByteArray) : bs (s ++ t) = bs s ++ bs t := by
  unfold bs
  rw [ByteArray.data_append, Array.toList_append, List.map_append]
theorem joinV_sum (s t : ByteArray) : joinV (sum (bs s)) (sum (bs t)) t.size = sum (bs (s ++ t)) := by
  unfold joinV
  rw [if_neg (by omega), Int.toNat_natCast, ← bs_length, join_sum, bs_append]
theorem again_both (s t : ByteArray) : again (sum (bs s)) (bs t) = sum (bs (s ++ t)) := by rw [again_sum, bs_append]
theorem joinV_none (a b : Nat) {n : Int} (h : n < 0) : joinV a b n = 0 := by unfold joinV; rw [if_pos h]
theorem u32_nat {z : Int} (h : (Lit.int .u32 z).wf = true) : ∃ n : Nat, z = n ∧ n < 4294967296 := by
  have h1 : 0 ≤ z ∧ z ≤ 4294967295 := by simpa [Lit.wf, IntKind.min, IntKind.max, IntKind.bits, IntKind.signed] using h
  exact ⟨z.toNat, by omega, by omega⟩
theorem i64_range {z : Int} (h : (Lit.int .i64 z).wf = true) : -9223372036854775808 ≤ z ∧ z ≤ 9223372036854775807 := by
  simpa [Lit.wf, IntKind.min, IntKind.max, IntKind.bits, IntKind.signed] using h
theorem ex_nine : sum (bs ⟨#[49, 50, 51, 52, 53, 54, 55, 56, 57]⟩) = 3421780262 := by kernel_rfl
theorem ex_five : sum (bs ⟨#[49, 50, 51, 52, 53]⟩) = 3421846044 := by kernel_rfl
theorem ex_four : sum (bs ⟨#[54, 55, 56, 57]⟩) = 2646261639 := by kernel_rfl
theorem ex_again : again 3421846044 (bs ⟨#[54, 55, 56, 57]⟩) = 3421780262 := by kernel_rfl
theorem ex_join : joinV 3421846044 2646261639 4 = 3421780262 := by kernel_rfl
theorem wakes_crc (w : World) (L : Laid w) : Calls Tryd.prog 7 #[] w fun e w' => e = .returned (.bool true) ∧ Below w.heap.size w w' := by
  have LD := Lib.hid L
  clear L
  go_enter Tryd.func7, Tryd.ntmps7
  go_wp2_with fail
  refine (c_sum _ w (by decide)).mono ?_
  rw [ex_nine]
  rintro e w1 ⟨rfl, hb⟩
  have BB := Lib.hid (hb)
  clear hb
  go_wp2_with fail
  refine (c_sum _ w1 (by decide)).mono ?_
  rw [ex_five]
  rintro e w2 ⟨rfl, hb⟩
  have BB := Lib.hid (below_via BB.out hb)
  clear hb
  go_wp2_with fail
  refine (c_again 3421846044 _ w2 (by decide) (by decide)).mono ?_
  rw [ex_again]
  rintro e w3 ⟨rfl, hb⟩
  have BB := Lib.hid (below_via BB.out hb)
  clear hb
  go_wp2_with fail
  refine (c_sum _ w3 (by decide)).mono ?_
  rw [ex_five]
  rintro e w4 ⟨rfl, hb⟩
  have BB := Lib.hid (below_via BB.out hb)
  clear hb
  go_wp2_with fail
  refine (c_sum _ w4 (by decide)).mono ?_
  rw [ex_four]
  rintro e w5 ⟨rfl, hb⟩
  have BB := Lib.hid (below_via BB.out hb)
  clear hb
  go_wp2_with fail
  refine (c_join 3421846044 2646261639 4 w5 (by decide) (by decide) (by decide) (LD.out.of BB.out)).mono ?_
  rw [ex_join]
  rintro e w6 ⟨rfl, hb⟩
  have BB := Lib.hid (below_via BB.out hb)
  clear hb
  go_wp2_with fail
  go_ret
  exact ⟨rfl, BB.out⟩
end Go.Proofs.YtmohlhnifkmcbaaDoor.Crc
