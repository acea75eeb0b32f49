/- The examples that every law of layer 1 asks beside its own sentence. -/
import Derived.Test.YtldcocckfemgbaaRefMulDiv
namespace Go.Proofs.Ytldcocckfemgbaa.Law
open Go.ChangeShapes Go.WideShapes Go.ChangeAt Go.RowKit Bits Money

theorem below_drewN {B : Nat} {a w : World} (h : Below B a w) (n : Nat) : Below B a (w.drewN n) := ⟨h.os, h.tape, h.output, h.size, h.block⟩
theorem below_via {a b c : World} (h : Below a.heap.size a b) (k : Below b.heap.size b c) : Below a.heap.size a c := h.trans (k.mono h.size)
theorem below_new {a b : World} (h : Below a.heap.size a b) (o : Obj) : Below a.heap.size a (b.alloc o) := h.alloc h.size o
/-- A cell of old memory, and one of the block that was laid just ahead, behind a call that makes memory of its own. -/
theorem carry {a b : World} {n g i : Nat} {v : Value} {C : Array Value} {T : TypeId} (hb : Below ((a.alloc (.cells C T)).drewN n).heap.size ((a.alloc (.cells C T)).drewN n) b) (hg : g < a.heap.size) (h : a.cell? ⟨g, i, none⟩ = some v) : b.cell? ⟨g, i, none⟩ = some v := by
  have hz : g < ((a.alloc (.cells C T)).drewN n).heap.size := by simp; omega
  rw [hb.cell (p := ⟨g, i, none⟩) hz]
  have e : (a.alloc (.cells C T)).cell? ⟨g, i, none⟩ = a.cell? ⟨g, i, none⟩ := World.cell?_of_block (Below.heap_alloc _ _ _ hg)
  exact e.trans h
theorem fresh {a b : World} {n : Nat} {C : Array Value} {T : TypeId} (hb : Below ((a.alloc (.cells C T)).drewN n).heap.size ((a.alloc (.cells C T)).drewN n) b) (i : Nat) : b.cell? ⟨a.heap.size, i, none⟩ = C[i]? := by
  have hz : a.heap.size < ((a.alloc (.cells C T)).drewN n).heap.size := by simp
  rw [hb.cell (p := ⟨a.heap.size, i, none⟩) hz]
  exact World.cell?_alloc_new _ _ _ _
theorem w1 (w : World) : Calls Try.prog 15 #[.int .i64 7, .int .i64 1, .int .i64 2, .int .i64 2] w fun e w' => e = .returned (.tuple #[.int .i64 4, .int .i64 0]) ∧ ∃ n, w' = w.drewN n :=
  (muldiv_any 7 1 2 2 w (by omega) (by omega) (by omega)).mono fun _ _ h => ⟨h.1.trans (by rw [show mdV 7 1 2 2 = 4 from by decide, show mdE 7 1 2 2 = 0 from by decide]), h.2⟩
theorem w2 (w : World) : Calls Try.prog 15 #[.int .i64 5, .int .i64 1, .int .i64 2, .int .i64 2] w fun e w' => e = .returned (.tuple #[.int .i64 2, .int .i64 0]) ∧ ∃ n, w' = w.drewN n :=
  (muldiv_any 5 1 2 2 w (by omega) (by omega) (by omega)).mono fun _ _ h => ⟨h.1.trans (by rw [show mdV 5 1 2 2 = 2 from by decide, show mdE 5 1 2 2 = 0 from by decide]), h.2⟩
theorem w3 (w : World) : Calls Try.prog 19 #[.int .u64 9223372036854775808, .int .u64 6] w fun e w' => e = .returned (.tuple #[.int .u64 3, .int .u64 0]) ∧ w = w' :=
  (mul_any 9223372036854775808 6 w (by omega) (by omega) (by omega) (by omega)).mono fun _ _ h => ⟨h.1, h.2⟩
end Go.Proofs.Ytldcocckfemgbaa.Law
