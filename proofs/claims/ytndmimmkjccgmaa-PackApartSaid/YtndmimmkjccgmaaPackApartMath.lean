/- Two rows of items that differ in one: packed alike just if they are alike; two of the program's packers side by side. -/
import Derived.Test.YtndmimmkjccgmaaPackWakes
import Derived.Test.YtndmimmkjccgmaaPackMath2
namespace Go.Proofs.Ytndmimmkjccgmaa.Pack
open Go.ChangeShapes Go.WideShapes Go.ChangeAt Go.RowKit Items

/-- The item in another's place: a text with a byte more, another number. -/
def turnI (z : It) (u : Nat) : It := if z.size = 0 then ⟨z.size, z.v, z.s ++ ⟨#[122]⟩⟩ else ⟨z.size, u, z.s⟩
def sameI (z : It) (u : Nat) : Bool := if z.size = 0 then false else decide (z.v = u)
def turnL (l : List It) (k u : Nat) : List It := l.set k (turnI (l.getD k it0) u)
theorem turn_get {l : List It} {k u j : Nat} (hk : k < l.length) (hj : j < l.length) : (turnL l k u).getD j it0 = if j = k then turnI (l.getD j it0) u else l.getD j it0 := by
  unfold turnL
  rw [List.getD_eq_getElem?_getD, List.getElem?_set]
  by_cases e : k = j
  · subst e
    rw [if_pos rfl, if_pos rfl, if_pos hk]; rfl
  · rw [if_neg e, if_neg (fun h => e h.symm), List.getD_eq_getElem?_getD]
theorem turn_len (l : List It) (k u : Nat) : (turnL l k u).length = l.length := by unfold turnL; rw [List.length_set]
theorem turn_run {l : List It} {k u j : Nat} (hk : k < l.length) (hj : j < l.length) : runP pst0 ((turnL l k u).take (j + 1)) = (runP pst0 ((turnL l k u).take j)).step (if j = k then turnI (l.getD j it0) u else l.getD j it0) := by
  rw [run_next (turnL l k u) (by rw [turn_len]; exact hj), turn_get hk hj]
theorem app_left {a b c : ByteArray} (h : a ++ b = a ++ c) : b = c := by
  have h1 := congrArg ByteArray.data h
  rw [ba_append, ba_append] at h1
  apply ByteArray.ext
  exact Array.append_right_inj a.data |>.1 h1
theorem app_right {a b c : ByteArray} (h : a ++ c = b ++ c) : a = b := by
  have h1 := congrArg ByteArray.data h
  rw [ba_append, ba_append] at h1
  apply ByteArray.ext
  exact Array.append_left_inj c.data |>.1 h1
theorem low_inj {v u n : Nat} (hv : v < 256 ^ n) (hu : u < 256 ^ n) (h : lowS v n = lowS u n) : v = u := by
  have e : ∀ x, valN (lowS x n) 0 n = x % 256 ^ n := fun x => val_of n 0 x fun i hi => by rw [Nat.zero_add, byteN_low hi]
  have h1 := e v
  rw [h, e u, Nat.mod_eq_of_lt hu, Nat.mod_eq_of_lt hv] at h1
  exact h1.symm
theorem turn_enc {z : It} {u : Nat} (h1 : FitsB z) (h2 : FitsB (turnI z u)) : encS z = encS (turnI z u) ↔ sameI z u = true := by
  unfold turnI sameI at *
  by_cases hz : z.size = 0
  · rw [if_pos hz, if_pos hz]
    refine ⟨fun h => ?_, fun h => by cases h⟩
    have := congrArg ByteArray.size h
    unfold encS at this
    rw [if_pos hz, if_pos hz] at this
    rw [ByteArray.size_append, ByteArray.size_append, low_size, low_size] at this
    have e : (z.s ++ ⟨#[122]⟩).size = z.s.size + 1 := by rw [ByteArray.size_append]; rfl
    have this : 2 + z.s.size = 2 + (z.s ++ ⟨#[122]⟩).size := this
    omega
  · rw [if_neg hz] at *
    unfold FitsB at *
    rw [if_neg hz] at *
    unfold goesB at *
    rw [Bool.and_eq_true, decide_eq_true_eq] at h1 h2
    rw [decide_eq_true_eq]
    have a1 : encS z = lowS z.v z.size.toNat := by unfold encS; rw [if_neg hz]
    have a2 : encS ⟨z.size, u, z.s⟩ = lowS u z.size.toNat := by unfold encS; exact if_neg hz
    rw [a1, a2]
    exact ⟨fun h => low_inj h1.2 h2.2 h, fun h => by rw [h]⟩
theorem turn_all {l : List It} {k u : Nat} (hk : k < l.length) (h1 : (runP pst0 l).e = 0) (h2 : (runP pst0 (turnL l k u)).e = 0) : (runP pst0 l).s = (runP pst0 (turnL l k u)).s ↔ sameI (l.getD k it0) u = true := by
  obtain ⟨-, a1, f1⟩ := run_ok l pst0 h1
  obtain ⟨-, a2, f2⟩ := run_ok (turnL l k u) pst0 h2
  have g1 := f1 _ (item_in hk)
  have hk2 : k < (turnL l k u).length := by rw [turn_len]; exact hk
  have g2 := f2 _ (item_in hk2)
  have e1 := enc_at hk
  have e2 := enc_at hk2
  have t2 : (turnL l k u).getD k it0 = turnI (l.getD k it0) u := by rw [turn_get hk hk, if_pos rfl]
  rw [t2] at g2 e2
  have t3 : (turnL l k u).take k = l.take k := by unfold turnL; rw [List.take_set_of_le (Nat.le_refl _)]
  have t4 : (turnL l k u).drop (k + 1) = l.drop (k + 1) := by unfold turnL; rw [List.drop_set_of_lt (by omega)]
  rw [t3, t4] at e2
  rw [a1, a2, e1, e2, ← turn_enc g1 g2]
  exact ⟨fun h => app_right (app_left (app_left h)), fun h => by rw [h]⟩
/-- Two of the program's packers, at blocks g and g + 1. -/
structure TwoP (w wr : World) (g g' : Nat) (F F' : Nat → Prop) (p q : PSt) : Prop where
  pk : PkAt wr F g p
  qk : PkAt wr F' g' q
  apart : ∀ i, F i → ¬ F' i
  high : ∀ i, F i → w.heap.size ≤ i
  high' : ∀ i, F' i → w.heap.size ≤ i
  below : Below w.heap.size w wr
section
variable {w wr w1 : World} {g g' : Nat} {F F' F1 : Nat → Prop} {p p' q q' : PSt}
theorem TwoP.swap (h : TwoP w wr g g' F F' p q) : TwoP w wr g' g F' F q p := ⟨h.qk, h.pk, fun i hi hj => h.apart i hj hi, h.high', h.high, h.below⟩
theorem TwoP.first (h : TwoP w wr g g' F F' p q) (ho : Only F wr w1) (hp : PkAt w1 F1 g p') (hF : ∀ i, F1 i → F i ∨ wr.heap.size ≤ i) : TwoP w w1 g g' F1 F' p' q :=
  ⟨hp, h.qk.keep ho.size (fun i hi => ho.block i (h.qk.lt i hi) (fun hf => h.apart i hf hi)), fun i hi hj => by
      rcases hF i hi with h1 | h1
      · exact h.apart i h1 hj
      · have := h.qk.lt i hj; omega, high_next h.high h.below.size hF, h.high', only_below h.below h.high ho⟩
theorem TwoP.turn (h : TwoP w wr g g' F F' p q) {r : Nat} (hg : wr.grownBy w1 (some r)) (h1 : ¬ F r) (h2 : ¬ F' r) (h3 : w.heap.size ≤ r) : TwoP w w1 g g' F F' p q :=
  ⟨h.pk.keep hg.size (fun i hi => hg.block i (h.pk.lt i hi) (fun e => h1 (by injection e with e; rw [← e]; exact hi))),
    h.qk.keep hg.size (fun i hi => hg.block i (h.qk.lt i hi) (fun e => h2 (by injection e with e; rw [← e]; exact hi))), h.apart, h.high, h.high',
    h.below.grown hg h.below.size (fun i hi => by injection hi with hi; omega)⟩
theorem TwoP.alloc (h : TwoP w wr g g' F F' p q) (o : Obj) : TwoP w (wr.alloc o) g g' F F' p q :=
  ⟨h.pk.keep (by simp) (fun i hi => Below.heap_alloc _ _ i (h.pk.lt i hi)), h.qk.keep (by simp) (fun i hi => Below.heap_alloc _ _ i (h.qk.lt i hi)), h.apart, h.high, h.high', h.below.alloc h.below.size _⟩
theorem twoP_start (w W0 : World) (hs : W0.heap.size = w.heap.size) (hb : Below w.heap.size w W0) : TwoP w ((W0.alloc pkObj).alloc pkObj) w.heap.size (w.heap.size + 1) (fun i => i = w.heap.size) (fun i => i = w.heap.size + 1) pst0 pst0 := by
  have e : (W0.alloc pkObj).heap.size = w.heap.size + 1 := by simp [hs]
  have k := pk_zero W0
  have k2 := pk_zero (W0.alloc pkObj)
  rw [hs] at k
  rw [e] at k2
  refine ⟨k.keep (by simp) (fun i hi => ?_), k2, fun i hi hj => ?_, fun i hi => ?_, fun i hi => ?_, (hb.alloc (by omega) _).alloc (by rw [e]; omega) _⟩
  · have hi : i = w.heap.size := hi
    exact Below.heap_alloc _ _ i (by rw [e]; omega)
  · have hi : i = w.heap.size := hi
    have hj : i = w.heap.size + 1 := hj
    omega
  · have hi : i = w.heap.size := hi
    omega
  · have hi : i = w.heap.size + 1 := hi
    omega
end
end Go.Proofs.Ytndmimmkjccgmaa.Pack
