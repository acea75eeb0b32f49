/- The program's own Packer: what lies in memory, a piece more, the panic that is kept within. -/
import Derived.Test.YtndmimmkjccgmaaPackOwn1
import Derived.Deep.RegionHeld3
import Derived.Deep.DeepCutAuto
namespace Go.Proofs.Ytndmimmkjccgmaa.Pack
open Go.ChangeShapes Go.WideShapes Go.ChangeAt Go.RowKit

/-- Only blocks of F, and new ones, have turned. -/
structure Only (F : Nat → Prop) (w w' : World) : Prop where
  os : w'.os = w.os
  tape : w'.tape = w.tape
  output : w'.output = w.output
  size : w.heap.size ≤ w'.heap.size
  block : ∀ i, i < w.heap.size → ¬ F i → w'.heap[i]? = w.heap[i]?
/-- Pieces, the last one first, together. -/
def catR : List ByteArray → ByteArray
  | [] => ⟨#[]⟩
  | b :: ps => catR ps ++ b
def piece (b : ByteArray) (nxt : Value) (i : Nat) : Value := if i = 0 then .string b else nxt
/-- From v on lie these pieces, each in a block of F. -/
def Chain (w : World) (F : Nat → Prop) : Option Addr → List ByteArray → Prop
  | v, [] => v = none
  | v, b :: ps => ∃ (k : Nat) (nxt : Option Addr), v = some ⟨k, 0, none⟩ ∧ F k ∧ w.rowIs k 61 2 (piece b (.pointer nxt)) ∧ Chain w F nxt ps
theorem Chain.keep {w w' : World} {F F' : Nat → Prop} (hF : ∀ i, F i → F' i) (hk : ∀ i, F i → w'.heap[i]? = w.heap[i]?) : ∀ {v : Option Addr} (ps : List ByteArray), Chain w F v ps → Chain w' F' v ps
  | _, [], h => h
  | _, _ :: ps, ⟨k, nxt, hv, hf, hr, hc⟩ => ⟨k, nxt, hv, hF k hf, hr.of_block (hk k hf), Chain.keep hF hk ps hc⟩
def pkcell (L : Option Addr) (n e : Int) (i : Nat) : Value := if i = 0 then .pointer L else if i = 1 then .int .i64 n else .int .i64 e
/-- At block g stands a packer of these blocks that holds p. -/
def PkAt (w : World) (F : Nat → Prop) (g : Nat) (p : PSt) : Prop :=
  F g ∧ (∀ i, F i → i < w.heap.size) ∧ ∃ (L : Option Addr) (n : Int), w.rowIs g 29 3 (pkcell L n p.e) ∧
    (p.e = 0 → n = p.s.size ∧ p.s.size ≤ 60000 ∧ ∃ ps, (p.s = catR ps ∧ ∀ b ∈ ps, 0 < b.size) ∧ Chain w (fun k => F k ∧ k ≠ g) L ps)
theorem PkAt.lt {w : World} {F : Nat → Prop} {g : Nat} {p : PSt} (h : PkAt w F g p) : ∀ i, F i → i < w.heap.size := h.2.1
theorem PkAt.keep {w w' : World} {F : Nat → Prop} {g : Nat} {p : PSt} (h : PkAt w F g p) (hs : w.heap.size ≤ w'.heap.size) (hk : ∀ i, F i → w'.heap[i]? = w.heap[i]?) : PkAt w' F g p := by
  obtain ⟨h1, h2, L, n, h3, h4⟩ := h
  refine ⟨h1, fun i hi => Nat.lt_of_lt_of_le (h2 i hi) hs, L, n, h3.of_block (hk g h1), fun he => ?_⟩
  obtain ⟨a, b, ps, c, d⟩ := h4 he
  exact ⟨a, b, ps, c, d.keep (fun _ h => h) (fun i hi => hk i hi.1)⟩
/-- A packer that is zero. -/
def pkObj : Obj := .cells #[.pointer none, .int .i64 0, .int .i64 0] 29
theorem pk_zero (w : World) : PkAt (w.alloc pkObj) (fun i => i = w.heap.size) w.heap.size pst0 := by
  refine ⟨rfl, fun i hi => by simp [hi], none, 0, World.rowIs_alloc w _ _ _ (fun i hi => by
      match i, hi with
      | 0, _ | 1, _ | 2, _ => rfl), fun _ => ⟨rfl, Nat.zero_le _, [], ⟨rfl, fun _ h => absurd h (by simp)⟩, rfl⟩⟩
theorem p_add_bad (b : ByteArray) (p : PSt) (g : Nat) (F : Nat → Prop) (w : World) (hp : PkAt w F g p) (he : p.e = 0) (hb : b.size ≤ 200000) (hl : 60000 < p.s.size + b.size) :
    Calls Try.prog 39 #[.pointer (some ⟨g, 0, none⟩), .string b] w fun e w' => e = .panicked (errP 2) ∧ w = w' := by
  obtain ⟨h1, h2, L, n, h3, h4⟩ := hp
  obtain ⟨rfl, hs, -⟩ := h4 he
  have t1 : decide ((60000 : Int) < (p.s.size : Int) + b.size) = true := decide_eq_true (by omega)
  have e1 : IntKind.i64.wrap ((p.s.size : Int) + b.size) = (p.s.size : Int) + b.size := IntWalk.i64_in _ (by omega)
  have c1 : w.cell? ⟨g, 1, none⟩ = some (.int .i64 (p.s.size : Int)) := h3.cell (i := 1) (by omega)
  clear h1 h2 h3 h4 he
  go_enter Try.func39, Try.ntmps39
  go_wp2_with fail
  exact ⟨rfl, rfl, rfl⟩
theorem added {b s : ByteArray} {g : Nat} {F : Nat → Prop} {w : World} {L : Option Addr} {ps : List ByteArray} (h3 : w.rowIs g 29 3 (pkcell L (s.size : Int) 0)) (h1 : F g) (h2 : ∀ i, F i → i < w.heap.size) (hps : s = catR ps ∧ ∀ b ∈ ps, 0 < b.size) (hb0 : 0 < b.size) (hc : Chain w (fun k => F k ∧ k ≠ g) L ps) (hl : s.size + b.size ≤ 60000) :
    PkAt (((w.setCell ⟨g, 0, none⟩ (.pointer (some ⟨w.heap.size, 0, none⟩))).setCell ⟨g, 1, none⟩ (.int .i64 ((s.size : Int) + b.size))).alloc (.cells #[.string b, .pointer L] 61)) (fun i => F i ∨ i = w.heap.size) g ⟨s ++ b, 0⟩ ∧
    Only F w (((w.setCell ⟨g, 0, none⟩ (.pointer (some ⟨w.heap.size, 0, none⟩))).setCell ⟨g, 1, none⟩ (.int .i64 ((s.size : Int) + b.size))).alloc (.cells #[.string b, .pointer L] 61)) ∧ (∀ i, (F i ∨ i = w.heap.size) → F i ∨ w.heap.size ≤ i) := by
  have hg := h2 g h1
  have R : ((w.setCell ⟨g, 0, none⟩ (.pointer (some ⟨w.heap.size, 0, none⟩))).setCell ⟨g, 1, none⟩ (.int .i64 ((s.size : Int) + b.size))).rowIs g 29 3 (pkcell (some ⟨w.heap.size, 0, none⟩) ((s.size : Int) + b.size) 0) :=
    ((h3.set 0 _).set 1 _).congr fun i hi => by
      match i, hi with
      | 0, _ | 1, _ | 2, _ => rfl
  have hsz : ((w.setCell ⟨g, 0, none⟩ (.pointer (some ⟨w.heap.size, 0, none⟩))).setCell ⟨g, 1, none⟩ (.int .i64 ((s.size : Int) + b.size))).heap.size = w.heap.size := by simp [World.setCell]
  have hB : ∀ i, i ≠ g → ((w.setCell ⟨g, 0, none⟩ (.pointer (some ⟨w.heap.size, 0, none⟩))).setCell ⟨g, 1, none⟩ (.int .i64 ((s.size : Int) + b.size))).heap[i]? = w.heap[i]? := fun i hi =>
    (Below.heap_setCell _ ⟨g, 1, none⟩ _ i hi).trans (Below.heap_setCell w ⟨g, 0, none⟩ _ i hi)
  have hos : ((w.setCell ⟨g, 0, none⟩ (.pointer (some ⟨w.heap.size, 0, none⟩))).setCell ⟨g, 1, none⟩ (.int .i64 ((s.size : Int) + b.size))).os = w.os ∧ ((w.setCell ⟨g, 0, none⟩ (.pointer (some ⟨w.heap.size, 0, none⟩))).setCell ⟨g, 1, none⟩ (.int .i64 ((s.size : Int) + b.size))).tape = w.tape ∧ ((w.setCell ⟨g, 0, none⟩ (.pointer (some ⟨w.heap.size, 0, none⟩))).setCell ⟨g, 1, none⟩ (.int .i64 ((s.size : Int) + b.size))).output = w.output := ⟨rfl, rfl, rfl⟩
  generalize (w.setCell ⟨g, 0, none⟩ (.pointer (some ⟨w.heap.size, 0, none⟩))).setCell ⟨g, 1, none⟩ (.int .i64 ((s.size : Int) + b.size)) = W at *
  have hA : ∀ i, i < W.heap.size → (W.alloc (.cells #[.string b, .pointer L] 61)).heap[i]? = W.heap[i]? := fun i hi => Below.heap_alloc _ _ i hi
  refine ⟨⟨Or.inl h1, fun i hi => ?_, some ⟨w.heap.size, 0, none⟩, (s.size : Int) + b.size, R.of_block (hA g (by omega)), fun _ => ⟨by rw [ByteArray.size_append]; omega, by rw [ByteArray.size_append]; omega, b :: ps, ⟨by rw [hps.1]; rfl, fun x hx => by
      rcases List.mem_cons.1 hx with rfl | hx
      · exact hb0
      · exact hps.2 x hx⟩, w.heap.size, L, rfl, ⟨Or.inr rfl, by omega⟩, ?_, ?_⟩⟩, ⟨hos.1, hos.2.1, hos.2.2, by simp [hsz], fun i hi hf => ?_⟩, fun i hi => ?_⟩
  · have : (W.alloc (.cells #[.string b, .pointer L] 61)).heap.size = W.heap.size + 1 := by simp
    rcases hi with hi | hi
    · have := h2 i hi; omega
    · omega
  · rw [← hsz]
    exact World.rowIs_alloc W _ _ _ (fun i hi => by
      match i, hi with
      | 0, _ | 1, _ => rfl)
  · exact hc.keep (fun i hi => ⟨Or.inl hi.1, hi.2⟩) (fun i hi => by
      have := h2 i hi.1
      rw [hA i (by omega), hB i hi.2])
  · rw [hA i (by omega), hB i (fun e => hf (e ▸ h1))]
  · rcases hi with hi | hi
    · exact Or.inl hi
    · right; omega
theorem p_add (b : ByteArray) (p : PSt) (g : Nat) (F : Nat → Prop) (w : World) (hp : PkAt w F g p) (he : p.e = 0) (hb0 : 0 < b.size) (hl : p.s.size + b.size ≤ 60000) :
    Calls Try.prog 39 #[.pointer (some ⟨g, 0, none⟩), .string b] w fun e w' => e = .returned (.tuple #[]) ∧ ∃ F', PkAt w' F' g ⟨p.s ++ b, 0⟩ ∧ Only F w w' ∧ (∀ i, F' i → F i ∨ w.heap.size ≤ i) := by
  obtain ⟨h1, h2, L, n, h3, h4⟩ := hp
  obtain ⟨rfl, hs, ps, hps, hch⟩ := h4 he
  have c0 : w.cell? ⟨g, 0, none⟩ = some (.pointer L) := h3.cell (i := 0) (by omega)
  have c1 : w.cell? ⟨g, 1, none⟩ = some (.int .i64 (p.s.size : Int)) := h3.cell (i := 1) (by omega)
  have f0 := h3.frozen 0
  have f1 := h3.frozen 1
  have hg := h2 g h1
  have t1 : decide ((60000 : Int) < (p.s.size : Int) + b.size) = false := decide_eq_false (by omega)
  have e1 : IntKind.i64.wrap ((p.s.size : Int) + b.size) = (p.s.size : Int) + b.size := IntWalk.i64_in _ (by omega)
  have HCH := Lib.hid hch
  have H2 := Lib.hid h2
  have HPS := Lib.hid hps
  rw [he] at h3
  have H3 := Lib.hid h3
  clear h4 he hch hps h3 h2
  go_enter Try.func39, Try.ntmps39
  go_wp2_with fail
  go_returns
  exact ⟨rfl, _, added H3.out h1 H2.out HPS.out hb0 HCH.out hl⟩
end Go.Proofs.Ytndmimmkjccgmaa.Pack
