/- Two packers, two openers side by side: what the walks of layer 8's laws want. -/
import Derived.Test.YtndmimmkjccgmaaPack
import Derived.Test.YtndmimmkjccgmaaPackFair
namespace Go.Proofs.Ytndmimmkjccgmaa.Pack
open Go.ChangeShapes Go.WideShapes Go.ChangeAt Go.RowKit
/-- Two packers side by side, the program's own at block g, the document's own behind it. -/
structure Two (w wr : World) (g : Nat) (F : Nat → Prop) (p q : PSt) : Prop where
  pk : PkAt wr F g p
  rf : RP wr (g + 1) q
  apart : ¬ F (g + 1)
  high : ∀ i, F i → g ≤ i
  below : Below g w wr
section
variable {w wr w1 : World} {g : Nat} {F F1 : Nat → Prop} {p p' q q' : PSt}
theorem Two.first (h : Two w wr g F p q) (hg : g ≤ wr.heap.size) (ho : Only F wr w1) (hp : PkAt w1 F1 g p') (hF : ∀ i, F1 i → F i ∨ wr.heap.size ≤ i) : Two w w1 g F1 p' q :=
  ⟨hp, ⟨h.rf.1.of_block (ho.block _ h.rf.1.lt h.apart), h.rf.2⟩, fun hn => by
      rcases hF _ hn with h1 | h1
      · exact h.apart h1
      · have := h.rf.1.lt; omega, fun i hi => by
      rcases hF _ hi with h1 | h1
      · exact h.high i h1
      · omega,
    h.below.trans ⟨ho.os, ho.tape, ho.output, ho.size, fun i hi => ho.block i (by omega) (fun hf => by have := h.high i hf; omega)⟩⟩
theorem Two.second (h : Two w wr g F p q) (hg : g ≤ wr.heap.size) (ho : wr.grownBy w1 (some (g + 1))) (hr : RP w1 (g + 1) q') : Two w w1 g F p q' :=
  ⟨h.pk.keep ho.size (fun i hi => ho.block i (h.pk.lt i hi) (fun e => h.apart (by injection e with e; rw [← e]; exact hi))), hr, h.apart, h.high,
    h.below.trans ⟨ho.os, ho.tape, ho.output, ho.size, fun i hi => ho.block i (by omega) (fun e => by injection e with e; omega)⟩⟩
theorem Two.drew (h : Two w wr g F p q) : Two w wr.drew g F p q :=
  ⟨h.pk.keep (Nat.le_refl _) (fun _ _ => rfl), h.rf, h.apart, h.high, ⟨h.below.os, h.below.tape, h.below.output, h.below.size, h.below.block⟩⟩
theorem two_start (w W0 : World) (hs : W0.heap.size = w.heap.size) (hb : Below w.heap.size w W0) : Two w ((W0.alloc pkObj).alloc (.cells #[.string ⟨#[]⟩, .int .i64 0] 32)) w.heap.size (fun i => i = w.heap.size) pst0 pst0 := by
  have r := World.rowIs_alloc (W0.alloc pkObj) #[.string ⟨#[]⟩, .int .i64 0] 32 (pcell pst0) (fun i hi => by
    match i, hi with
    | 0, _ => rfl
    | 1, _ => rfl)
  have e : (W0.alloc pkObj).heap.size = w.heap.size + 1 := by simp [hs]
  rw [e] at r
  have k := pk_zero W0
  rw [hs] at k
  refine ⟨k.keep (by simp) (fun i hi => ?_), ⟨r, Nat.zero_le _⟩, by omega, fun i hi => by have hi : i = w.heap.size := hi; omega, (hb.alloc (by omega) _).alloc (by rw [e]; omega) _⟩
  have hi : i = w.heap.size := hi
  exact Below.heap_alloc _ _ i (by rw [e]; omega)
end
/-- Two openers side by side: the program's own, the document's own at block g. -/
structure TwoO (w wr : World) (F : Nat → Prop) (a : Addr) (g : Nat) (p q : OSt) : Prop where
  op : OpAt wr F (.pointer (some a)) p
  rf : RO wr g q
  apart : ¬ F g
  high : ∀ i, F i → w.heap.size ≤ i
  new : w.heap.size ≤ g
  below : Below w.heap.size w wr
section
variable {w wr w1 : World} {g : Nat} {a : Addr} {F F1 : Nat → Prop} {p p' q q' : OSt}
theorem TwoO.first (h : TwoO w wr F a g p q) (ho : Only F wr w1) (hp : OpAt w1 F1 (.pointer (some a)) p') (hF : ∀ i, F1 i → F i ∨ wr.heap.size ≤ i) : TwoO w w1 F1 a g p' q :=
  ⟨hp, ⟨h.rf.1.of_block (ho.block _ h.rf.1.lt h.apart), h.rf.2⟩, fun hn => by
      rcases hF _ hn with h1 | h1
      · exact h.apart h1
      · have := h.rf.1.lt; omega, fun i hi => by
      rcases hF _ hi with h1 | h1
      · exact h.high i h1
      · have := h.below.size; omega, h.new,
    h.below.trans ⟨ho.os, ho.tape, ho.output, ho.size, fun i hi => ho.block i (by have := h.below.size; omega) (fun hf => by have := h.high i hf; omega)⟩⟩
theorem TwoO.second (h : TwoO w wr F a g p q) (ho : wr.grownBy w1 (some g)) (hr : RO w1 g q') : TwoO w w1 F a g p q' :=
  ⟨h.op.keep ho.size (fun i hi => ho.block i (h.op.lt i hi) (fun e => h.apart (by injection e with e; rw [← e]; exact hi))), hr, h.apart, h.high, h.new,
    h.below.trans ⟨ho.os, ho.tape, ho.output, ho.size, fun i hi => ho.block i (by have := h.below.size; omega) (fun e => by injection e with e; have := h.new; omega)⟩⟩
theorem TwoO.drewN (h : TwoO w wr F a g p q) (n : Nat) : TwoO w (wr.drewN n) F a g p q :=
  ⟨h.op.keep (Nat.le_refl _) (fun _ _ => rfl), h.rf, h.apart, h.high, h.new, ⟨h.below.os, h.below.tape, h.below.output, h.below.size, h.below.block⟩⟩
theorem TwoO.drew (h : TwoO w wr F a g p q) : TwoO w wr.drew F a g p q :=
  ⟨h.op.keep (Nat.le_refl _) (fun _ _ => rfl), h.rf, h.apart, h.high, h.new, ⟨h.below.os, h.below.tape, h.below.output, h.below.size, h.below.block⟩⟩
theorem twoO_start {s : ByteArray} (hs : s.size ≤ 200000) (hp : OpAt w1 F (.pointer (some a)) ⟨s, 0, false⟩) (hb : Below w.heap.size w w1) (hF : ∀ i, F i → w.heap.size ≤ i) :
    TwoO w (w1.alloc (.cells #[.string s, .int .i64 0, .bool false] 46)) F a w1.heap.size ⟨s, 0, false⟩ ⟨s, 0, false⟩ :=
  ⟨hp.keep (by simp) (fun i hi => Below.heap_alloc _ _ i (hp.lt i hi)),
    ⟨World.rowIs_alloc w1 #[.string s, .int .i64 0, .bool false] 46 (ocell ⟨s, 0, false⟩) (fun i hi => by
      match i, hi with
      | 0, _ => rfl
      | 1, _ => rfl
      | 2, _ => rfl), Nat.zero_le _, hs⟩,
    fun hn => by have := hp.lt _ hn; omega, hF, hb.size, hb.alloc hb.size _⟩
end
end Go.Proofs.Ytndmimmkjccgmaa.Pack
