/- The program's own Share and Of, at every input, where its array of shares lies as listed. -/
import Derived.Test.YtppogilkhgppdaaDoorStepMath
import Derived.Test.YtppogilkhgppdaaDoorDoor
import Derived.Test.YtppogilkhgppdaaDoorWakes
import Derived.Deep.QuietTactic
namespace Go.Proofs.YtppogilkhgppdaaDoor.Step
open Go.ChangeShapes Go.WideShapes Go.ChangeAt Go.RowKit Bits Money Law

/-- The program's array of shares lies as its text lays it. -/
def Laid (w : World) : Prop := 0 < w.heap.size ∧ ∀ i, i < 5 → w.cell? ⟨0, i, none⟩ = some (.int .i64 (shs.getD i 0))
theorem Laid.of {w w' : World} (h : Laid w) (hb : Below w.heap.size w w') : Laid w' := by
  refine ⟨Nat.lt_of_lt_of_le h.1 hb.size, fun i hi => ?_⟩
  rw [hb.cell (p := ⟨0, i, none⟩) h.1]
  exact h.2 i hi
theorem Laid.drewN {w : World} (h : Laid w) (n : Nat) : Laid (w.drewN n) := h.of (below_drewN (Below.refl _ _) n)
theorem Laid.alloc {w : World} (h : Laid w) (o : Obj) : Laid (w.alloc o) := h.of (below_new (Below.refl _ _) o)
theorem laid_of {laid : List (String × DataW Unit)} {w : World} (h : laidMet Tryd.prog laid w) (hm : ("annuity/step.shares", Lib.tabData .i64 shs) ∈ laid) : Laid w := by
  have hT := Door.tab_of_mem (g := 0) (t := 36) (e := 3) (n := 5) (by kernel_rfl) (by kernel_rfl) Tryd.underlying36 Tryd.underlying3 (by kernel_rfl) (by kernel_rfl) h hm
  have hc := hT.cell (g := 0) (by kernel_rfl)
  refine ⟨?_, fun i hi => hc i hi⟩
  have h0 := hc 0 (by decide)
  exact World.block_lt_of_cell? _ _ h0
theorem ret_i {a b : Int} (h : a = b) : Ending.returned (.int .i64 a) = .returned (.int .i64 b) := by rw [h]
theorem p_share (k : Int) (w : World) (L : Laid w) : Calls Tryd.prog 7 #[.int .i64 k] w fun e w' => e = .returned (.int .i64 (shI k)) ∧ w = w' := by
  by_cases h1 : k < 0
  · have H := Lib.hid (sh_neg h1)
    clear L
    go_enter Tryd.func7, Tryd.ntmps7
    go_wp2_with fail
    go_ret
    exact ⟨ret_i H.out.symm, rfl⟩
  by_cases h2 : 4 ≤ k
  · have H := Lib.hid (sh_late h2)
    have C : w.cell? ⟨0, 4, none⟩ = some (.int .i64 150) := L.2 4 (by decide)
    have e1 : (if k < 4 then k else 4) = 4 := if_neg (by omega)
    have e2 : (if 4 < k then 4 else k) = 4 := by split <;> omega
    have e3 : min k 4 = 4 := by omega
    clear L
    go_enter Tryd.func7, Tryd.ntmps7
    go_wp2_with fail
    go_ret
    exact ⟨ret_i H.out.symm, rfl⟩
  obtain ⟨j, rfl⟩ := Int.eq_ofNat_of_zero_le (show 0 ≤ k by omega)
  have hj : j < 5 := by omega
  have H := Lib.hid (sh_shs j hj)
  have C := L.2 j hj
  have e1 : (if (j : Int) < 4 then (j : Int) else 4) = j := if_pos (by omega)
  have e2 : (if (4 : Int) < j then 4 else (j : Int)) = j := if_neg (by omega)
  have e3 : min (j : Int) 4 = j := by omega
  clear L
  go_enter Tryd.func7, Tryd.ntmps7
  go_wp2_with fail
  go_ret
  exact ⟨ret_i H.out.symm, rfl⟩
end Go.Proofs.YtppogilkhgppdaaDoor.Step
