/- Of no one law: a map of the call's own from numbers to texts, told by a function: looked up, written, made. Of no one law: a map of the call's own from numbers to sectors (arrays of 256 bytes), told by a function: looked up, written, made. The program's own disk: sectors in a map; every function. -/
import Derived.Test.YtndanhacmfhlaaaGreatGA
import Derived.Maps.Own
import Derived.Maps.OwnOps
import Derived.Maps.OwnSet
import Derived.Maps.Views
import Derived.Maps.StringElems
import Derived.Test.YtndanhacmfhlaaaGreatGDk
import Derived.Test.YtndanhacmfhlaaaGreatGPack
import Derived.Lib.BufferWrite
import Derived.Deep.WholeRow
import Derived.Laws.CopyOwn
namespace Go.Proofs.YtndanhacmfhlaaaGreat.MapT
open Go.ChangeShapes Go.WideShapes Go.ChangeAt Go.RowKit Go.Maps

def noText : ByteArray := ⟨#[]⟩
def In64 (n : Int) : Prop := -9223372036854775808 ≤ n ∧ n ≤ 9223372036854775807
theorem key_law : Keyed Tryz.prog 3 := int_keyed Tryz.underlying3
theorem key_of {i : Int} (h : In64 i) : keyOf Tryz.prog 3 (.int .i64 i) = some (.int .i64 i) := keyOf_int_mk Tryz.underlying3 (by
  unfold In64 at h
  simpa [Lit.wf, IntKind.min, IntKind.max, IntKind.bits, IntKind.signed] using h)
theorem zero_text (w : World) : (zeroValue 9).run Tryz.prog w = .ok (.string noText) w := by kernel_rfl
/-- What the map says of a number. -/
def Says (D : DataW Unit) (i : Int) (x : Option ByteArray) : Prop :=
  match x with
  | some s => Maps.has D (.int .i64 i) = true ∧ D.atKey (.int .i64 i) (.lit (.string [])) = .lit (.string s.data.toList)
  | none => Maps.has D (.int .i64 i) = false ∧ D.atKey (.int .i64 i) (.lit (.string [])) = .lit (.string [])
/-- Block b is a map of at most n entries: of each number what f says. -/
def MapIs (w : World) (b n : Nat) (f : Int → Option ByteArray) : Prop :=
  ∃ D : DataW Unit, w.ownsMap Tryz.prog 3 (plainElem Tryz.prog 9) b n D ∧ ∀ i, In64 i → Says D i (f i)
theorem text_lit {a b : List UInt8} (h : (DataW.lit (.string a) : DataW Unit) = .lit (.string b)) : a = b := by
  simp only [DataW.lit.injEq, Lit.string.injEq] at h
  exact h
theorem text_inj {s t : ByteArray} (h : s.data.toList = t.data.toList) : s = t := ByteArray.ext (Array.ext' h)
theorem own_tight {w : World} {b n : Nat} {D : DataW Unit} (h : w.ownsMap Tryz.prog 3 (plainElem Tryz.prog 9) b n D) : w.ownsMap Tryz.prog 3 (plainElem Tryz.prog 9) b (Maps.size D) D := by
  obtain ⟨es, clock, hb, F, hs, rfl⟩ := h
  exact ⟨es, clock, hb, F, by simp [Maps.size, length_sorted], rfl⟩
theorem key_ne {i j : Int} (h : i ≠ j) : (Lit.int .i64 i) ≠ .int .i64 j := fun e => by injection e; contradiction
theorem says_put {D : DataW Unit} (hD : Maps.IsMap D) (i j : Int) (s : ByteArray) {x : Option ByteArray} (h : Says D j x) (hk : WideAt.IsKeyLit (.int .i64 i)) : Says (D.put (.int .i64 i) (.lit (.string s.data.toList))) j (if j = i then some s else x) := by
  by_cases e : j = i
  · rw [if_pos e, e]
    exact ⟨Maps.has_put_same hD hk _, Maps.atKey_put_same hD hk _ _⟩
  · rw [if_neg e]
    cases x with
    | none => exact ⟨(Maps.has_put_other (key_ne e) _).trans h.1, (Maps.atKey_put_other (key_ne e) _ _).trans h.2⟩
    | some t => exact ⟨(Maps.has_put_other (key_ne e) _).trans h.1, (Maps.atKey_put_other (key_ne e) _ _).trans h.2⟩
/-- Nothing but block b has turned, and no block is new. -/
structure Turned (b : Nat) (w w' : World) : Prop where
  os : w'.os = w.os
  tape : w'.tape = w.tape
  output : w'.output = w.output
  size : w'.heap.size = w.heap.size
  block : ∀ i, i ≠ b → w'.heap[i]? = w.heap[i]?
theorem turned_of {w w' : World} {b : Nat} (h : w.mapTurned w' b) : Turned b w w' := by
  obtain ⟨es, clock, es', clock', hb, rfl⟩ := h
  exact ⟨rfl, rfl, rfl, by simp [ChangeMaps.setBlock], fun i hi => ChangeMaps.heap_setBlock_other hb _ hi⟩
theorem map_made (w : World) : MapIs (w.alloc (.map #[] 0)) w.heap.size 0 (fun _ => none) :=
  ⟨.map [], World.ownsMap_made _ _ _ _, fun _ _ => ⟨rfl, rfl⟩⟩
theorem MapIs.keep {w w' : World} {b n : Nat} {f : Int → Option ByteArray} (h : MapIs w b n f) (hb : w'.heap[b]? = w.heap[b]?) : MapIs w' b n f := by
  obtain ⟨D, ⟨es, clock, h1, h2, h3, h4⟩, hS⟩ := h
  exact ⟨D, ⟨es, clock, hb.trans h1, h2, h3, h4⟩, hS⟩
theorem MapIs.lt {w : World} {b n : Nat} {f : Int → Option ByteArray} (h : MapIs w b n f) : b < w.heap.size := by
  obtain ⟨D, hD, -⟩ := h
  exact hD.lt
theorem MapIs.congr {w : World} {b n : Nat} {f g : Int → Option ByteArray} (h : MapIs w b n f) (e : ∀ i, In64 i → f i = g i) : MapIs w b n g := by
  obtain ⟨D, hD, hS⟩ := h
  exact ⟨D, hD, fun i hi => e i hi ▸ hS i hi⟩
end Go.Proofs.YtndanhacmfhlaaaGreat.MapT
namespace Go.Proofs.YtndanhacmfhlaaaGreat.MapA
open Go.ChangeShapes Go.WideShapes Go.ChangeAt Go.RowKit Go.Maps MapT

/-- An array of bytes, as a value's cells. -/
def secC (s : ByteArray) : Array Value := (s.data.toList.map fun x => Value.int .u8 (x.toNat : Int)).toArray
theorem secC_size (s : ByteArray) : (secC s).size = s.size := by unfold secC; rw [List.size_toArray, List.length_map, Array.length_toList]; rfl
theorem secC_one (s : ByteArray) : (secC s).all (·.oneCell') = true := by
  unfold secC
  rw [List.all_toArray, List.all_eq_true]
  intro v hv
  obtain ⟨i, -, rfl⟩ := List.mem_map.1 hv
  rfl
theorem byte_nat {a b : UInt8} (h : (Value.int .u8 (a.toNat : Int)) = .int .u8 (b.toNat : Int)) : a = b := by
  injection h with h1 h2
  exact UInt8.toNat_inj.1 (by omega)
theorem map_inj {α β : Type} {f : α → β} (hf : ∀ a b, f a = f b → a = b) : ∀ {l k : List α}, l.map f = k.map f → l = k
  | [], [], _ => rfl
  | [], _ :: _, h => by cases h
  | _ :: _, [], h => by cases h
  | a :: l, b :: k, h => by
    rw [List.map_cons, List.map_cons, List.cons.injEq] at h
    rw [hf _ _ h.1, map_inj hf h.2]
theorem secC_inj {s t : ByteArray} (h : secC s = secC t) : s = t := by
  unfold secC at h
  exact text_inj (map_inj (fun _ _ h => byte_nat h) (by injection h))
/-- The byte at a place of a text. -/
def byteB (s : ByteArray) (i : Nat) : Nat := (s.data.getD i 0).toNat
theorem byteB_at {s : ByteArray} {i : Nat} (h : i < s.size) : (s[i]).toNat = byteB s i := by
  unfold byteB
  rw [Array.getD_eq_getD_getElem?, Array.getElem?_eq_getElem h]; rfl
theorem secC_at {s : ByteArray} {i : Nat} (h : i < s.size) : (secC s)[i]? = some (.int .u8 (byteB s i : Nat)) := by
  unfold secC
  rw [List.getElem?_toArray, List.getElem?_map, List.getElem?_eq_getElem (by rw [Array.length_toList]; exact h), ← byteB_at h]
  rfl
/-- How a sector in the map reads. -/
noncomputable def secElem (v : Value) : Option (DataW Unit × List MemPlace) :=
  @dite _ (∃ s : ByteArray, s.size = 256 ∧ v = .agg (secC s)) (Classical.propDecidable _) (fun h => some (.lit (.string (Classical.choose h).data.toList), [])) (fun _ => none)
theorem secElem_mk {s : ByteArray} (h : s.size = 256) : secElem (.agg (secC s)) = some (.lit (.string s.data.toList), []) := by
  unfold secElem
  have hx : ∃ t : ByteArray, t.size = 256 ∧ Value.agg (secC s) = .agg (secC t) := ⟨s, h, rfl⟩
  rw [dif_pos hx]
  have := (Classical.choose_spec hx).2
  injection this with this
  rw [← secC_inj this]
theorem secElem_inv {v : Value} {z : DataW Unit × List MemPlace} (h : secElem v = some z) : ∃ s : ByteArray, s.size = 256 ∧ v = .agg (secC s) ∧ z = (.lit (.string s.data.toList), []) := by
  unfold secElem at h
  by_cases hx : ∃ t : ByteArray, t.size = 256 ∧ v = .agg (secC t)
  · rw [dif_pos hx] at h
    have hs := Classical.choose_spec hx
    exact ⟨_, hs.1, hs.2, by injection h with h; exact h.symm⟩
  · rw [dif_neg hx] at h
    cases h
theorem zero_sec (w : World) : (zeroValue 106).run Tryz.prog w = .ok (.agg (secC Disk.zero256)) w := by kernel_rfl
/-- What the map says of a number. -/
def Says2 (D : DataW Unit) (i : Int) (x : Option ByteArray) : Prop :=
  match x with
  | some s => Maps.has D (.int .i64 i) = true ∧ ∀ z, D.atKey (.int .i64 i) z = .lit (.string s.data.toList)
  | none => Maps.has D (.int .i64 i) = false
/-- Block b is a map of at most n sectors: of each number what f says. -/
def SecIs (w : World) (b n : Nat) (f : Int → Option ByteArray) : Prop :=
  ∃ D : DataW Unit, w.ownsMap Tryz.prog 3 secElem b n D ∧ ∀ i, In64 i → Says2 D i (f i)
theorem SecIs.look {w : World} {b n : Nat} {f : Int → Option ByteArray} (h : SecIs w b n f) {i : Int} (hi : In64 i) :
    (Instr.lookup 61 (.map (some b)) (.int .i64 i) false).run Tryz.prog w = .ok (.agg (secC ((f i).getD Disk.zero256))) w ∧ ((f i).getD Disk.zero256).size = 256 := by
  obtain ⟨D, hD, hS⟩ := h
  obtain ⟨v, ps, hrun, hv⟩ := hD.lookup key_law Tryz.underlying61 (zero_sec w) (secElem_mk Disk.zero_size) (key_of hi)
  obtain ⟨s, h256, rfl, hs⟩ := secElem_inv hv
  have hs := congrArg Prod.fst hs
  have hh := hS i hi
  rw [hrun]
  cases hf : f i with
  | none =>
    rw [hf] at hh
    have e : s = Disk.zero256 := text_inj (text_lit (hs.symm.trans (Maps.atKey_of_not_has hh _)))
    rw [e]; exact ⟨rfl, Disk.zero_size⟩
  | some t =>
    rw [hf] at hh
    have e : s = t := text_inj (text_lit (hs.symm.trans (hh.2 _)))
    rw [← e]; exact ⟨rfl, h256⟩
theorem sec_tight {w : World} {b n : Nat} {D : DataW Unit} (h : w.ownsMap Tryz.prog 3 secElem b n D) : w.ownsMap Tryz.prog 3 secElem b (Maps.size D) D := by
  obtain ⟨es, clock, hb, F, hs, rfl⟩ := h
  exact ⟨es, clock, hb, F, by simp [Maps.size, length_sorted], rfl⟩
theorem says2_put {D : DataW Unit} (hD : Maps.IsMap D) (i j : Int) (s : ByteArray) {x : Option ByteArray} (h : Says2 D j x) (hk : WideAt.IsKeyLit (.int .i64 i)) : Says2 (D.put (.int .i64 i) (.lit (.string s.data.toList))) j (if j = i then some s else x) := by
  by_cases e : j = i
  · rw [if_pos e, e]
    exact ⟨Maps.has_put_same hD hk _, fun z => Maps.atKey_put_same hD hk _ z⟩
  · rw [if_neg e]
    cases x with
    | none => exact (Maps.has_put_other (key_ne e) _).trans h
    | some t => exact ⟨(Maps.has_put_other (key_ne e) _).trans h.1, fun z => (Maps.atKey_put_other (key_ne e) _ z).trans (h.2 z)⟩
theorem SecIs.store {w : World} {b n : Nat} {f : Int → Option ByteArray} (h : SecIs w b n f) (hn : n < 1000000000) {i : Int} (hi : In64 i) {s : ByteArray} (hs : s.size = 256) :
    ∃ w', (Instr.mapUpdate 61 (.map (some b)) (.int .i64 i) (.agg (secC s))).run Tryz.prog w = .ok () w' ∧ SecIs w' b (if (f i).isSome = true then n else n + 1) (fun j => if j = i then some s else f j) ∧ Turned b w w' := by
  obtain ⟨D, hD, hS⟩ := h
  obtain ⟨w', hrun, h1, h2⟩ := hD.store key_law Tryz.underlying61 (by unfold maxLen; omega) (key_of hi) (secElem_mk hs)
  have hk : WideAt.IsKeyLit (.int .i64 i) := trivial
  have hT := hD.tidy key_law
  refine ⟨w', hrun, ⟨_, ?_, fun j hj => says2_put hT.isMap i j s (hS j hj) hk⟩, turned_of h2⟩
  have h3 := sec_tight h1
  have h4 := Maps.size_put hT (k := .int .i64 i) (.lit (.string s.data.toList))
  have h5 := hD.size_le
  have hh := hS i hi
  cases hf : f i with
  | none =>
    rw [hf] at hh
    rw [if_neg (by simp)]
    exact h1
  | some t =>
    rw [hf] at hh
    rw [hh.1, if_pos rfl] at h4
    rw [if_pos (show (some t).isSome = true from rfl)]
    exact h3.mono (by omega)
theorem sec_made (w : World) : SecIs (w.alloc (.map #[] 0)) w.heap.size 0 (fun _ => none) :=
  ⟨.map [], World.ownsMap_made _ _ _ _, fun _ _ => rfl⟩
theorem SecIs.keep {w w' : World} {b n : Nat} {f : Int → Option ByteArray} (h : SecIs w b n f) (hb : w'.heap[b]? = w.heap[b]?) : SecIs w' b n f := by
  obtain ⟨D, ⟨es, clock, h1, h2, h3, h4⟩, hS⟩ := h
  exact ⟨D, ⟨es, clock, hb.trans h1, h2, h3, h4⟩, hS⟩
theorem SecIs.lt {w : World} {b n : Nat} {f : Int → Option ByteArray} (h : SecIs w b n f) : b < w.heap.size := by
  obtain ⟨D, hD, -⟩ := h
  exact hD.lt
/-- How many of the first k numbers it says something of. -/
def cntF (f : Int → Option ByteArray) : Nat → Nat
  | 0 => 0
  | k + 1 => cntF f k + (if (f (k : Nat)).isSome = true then 1 else 0)
theorem cntF_le (f : Int → Option ByteArray) : ∀ k, cntF f k ≤ k
  | 0 => Nat.le_refl _
  | k + 1 => by
    have := cntF_le f k
    show cntF f k + _ ≤ k + 1
    split <;> omega
theorem cntF_put (f : Int → Option ByteArray) (i : Nat) (s : ByteArray) : ∀ k, cntF (fun j => if j = (i : Int) then some s else f j) k = cntF f k + (if i < k ∧ (f (i : Nat)).isSome = false then 1 else 0)
  | 0 => rfl
  | k + 1 => by
    have ih := cntF_put f i s k
    show cntF _ k + (if (if ((k : Nat) : Int) = (i : Int) then some s else f (k : Nat)).isSome = true then 1 else 0) = cntF f k + (if (f (k : Nat)).isSome = true then 1 else 0) + _
    rw [ih]
    by_cases e : k = i
    · subst e
      rw [if_pos rfl, if_pos (show (some s).isSome = true from rfl), if_neg (fun h => Nat.lt_irrefl _ h.1)]
      cases hf : (f (k : Nat)).isSome with
      | true => rw [if_pos rfl, if_neg (fun h => by cases h.2)]
      | false => rw [if_neg (by decide), if_pos ⟨by omega, rfl⟩]
    · rw [if_neg (show ¬ ((k : Nat) : Int) = (i : Int) from fun h => e (by omega))]
      by_cases h2 : i < k ∧ (f (i : Nat)).isSome = false
      · rw [if_pos h2, if_pos (show i < k + 1 ∧ (f (i : Nat)).isSome = false from ⟨by omega, h2.2⟩)]; omega
      · rw [if_neg h2, if_neg (show ¬ (i < k + 1 ∧ (f (i : Nat)).isSome = false) from fun h => h2 ⟨by omega, h.2⟩)]; omega
/-- Old bytes, over whose beginning others were laid. -/
def overS (old s : ByteArray) : ByteArray := s ++ old.extract s.size 256
theorem over_size {old s : ByteArray} (ho : old.size = 256) (hs : s.size ≤ 256) : (overS old s).size = 256 := by
  unfold overS
  rw [ByteArray.size_append, ByteArray.size_extract]
  omega
theorem over_all {old s : ByteArray} (hs : s.size = 256) : overS old s = s := by
  unfold overS
  rw [hs]
  ext1
  simp
theorem over_torn {old s : ByteArray} {p : Nat} (hs : s.size = 256) (hp : p ≤ 256) : overS old (s.extract 0 p) = Disk.torn old s p := by
  unfold overS Disk.torn
  rw [show (s.extract 0 p).size = p by rw [ByteArray.size_extract]; omega]
theorem byteB_over {old s : ByteArray} (ho : old.size = 256) (i : Nat) (hi : i < 256) : byteB (overS old s) i = if i < s.size then byteB s i else byteB old i := by
  unfold overS byteB
  rw [ByteArray.data_append, ByteArray.data_extract]
  have hsz : s.data.size = s.size := rfl
  have hoz : old.data.size = old.size := rfl
  rw [Array.getD_eq_getD_getElem?, Array.getD_eq_getD_getElem?, Array.getD_eq_getD_getElem?]
  by_cases h : i < s.size
  · rw [if_pos h, Array.getElem?_append_left (by omega)]
  · rw [if_neg h, Array.getElem?_append_right (by omega), Array.getElem?_extract, if_pos (by omega)]
    rw [show s.size + (i - s.data.size) = i by omega]
/-- A row that holds a text's bytes. -/
theorem row_secC {w : World} {g : Nat} {T : TypeId} {s : ByteArray} {f : Nat → Value} (h : w.rowIs g T s.size f) (hf : ∀ i, i < s.size → f i = .int .u8 (byteB s i : Nat)) : w.heap[g]? = some (.cells (secC s) T (0, 0)) := by
  obtain ⟨c, hb, hs, hc⟩ := h
  have : c = secC s := by
    apply Array.ext_getElem?
    intro i
    by_cases hi : i < s.size
    · rw [hc i hi, secC_at hi, hf i hi]
    · rw [Array.getElem?_eq_none (by omega), Array.getElem?_eq_none (by rw [secC_size]; omega)]
  rw [this] at hb
  exact hb
theorem secC_row {w : World} {g : Nat} {T : TypeId} {s : ByteArray} (h : w.heap[g]? = some (.cells (secC s) T (0, 0))) : w.rowIs g T s.size (fun i => .int .u8 (byteB s i : Nat)) := ⟨_, h, secC_size s, fun _ hi => secC_at hi⟩
theorem sec_info {s : ByteArray} (h : s.size = 256) : (Tryz.prog.info? 106).map (·.size) = some (secC s).size := by
  rw [secC_size, h]; kernel_rfl
end Go.Proofs.YtndanhacmfhlaaaGreat.MapA
namespace Go.Proofs.YtndanhacmfhlaaaGreat.Disk
open Go.ChangeShapes Go.WideShapes Go.ChangeAt Go.RowKit Go.Deep MapA

def kcell (b : Nat) (q : DSt) (i : Nat) : Value := if i = 0 then .int .i64 q.S.length else if i = 1 then .map (some b) else if i = 2 then .int .i64 q.writes else if i = 3 then .bool q.dead else if i = 4 then .bool q.armed else if i = 5 then .int .i64 (if q.armed = true then q.n else 0) else .int .i64 (if q.armed = true then q.part else 0)
/-- Blocks g and b are a disk of the program's that holds q. -/
structure Dk (w : World) (g b : Nat) (q : DSt) : Prop where
  row : w.rowIs g 65 7 (kcell b q)
  secs : ∃ n f, SecIs w b n f ∧ n ≤ cntF f q.S.length ∧ ∀ i : Nat, i < q.S.length → (f i).getD zero256 = q.S.getD i none_
  apart : g ≠ b
/-- At v stands a disk of the program's, of these blocks, that holds q. -/
def DkAt (w : World) (F : Nat → Prop) (v : Value) (q : DSt) : Prop := ∃ g b, v = .pointer (some ⟨g, 0, none⟩) ∧ (∀ i, F i ↔ i = g ∨ i = b) ∧ Dk w g b q
theorem Dk.keep {w w' : World} {g b : Nat} {q : DSt} (h : Dk w g b q) (hg : w'.heap[g]? = w.heap[g]?) (hb : w'.heap[b]? = w.heap[b]?) : Dk w' g b q := by
  obtain ⟨n, f, h1, h2, h3⟩ := h.secs
  exact ⟨h.row.of_block hg, ⟨n, f, h1.keep hb, h2, h3⟩, h.apart⟩
theorem Dk.lt {w : World} {g b : Nat} {q : DSt} (h : Dk w g b q) : g < w.heap.size ∧ b < w.heap.size := by
  obtain ⟨n, f, h1, h2, h3⟩ := h.secs
  exact ⟨h.row.lt, h1.lt⟩
theorem DkAt.lt {w : World} {F : Nat → Prop} {v : Value} {q : DSt} (h : DkAt w F v q) : ∀ i, F i → i < w.heap.size := by
  obtain ⟨g, b, rfl, hF, hd⟩ := h
  intro i hi
  rcases (hF i).1 hi with rfl | rfl
  · exact hd.lt.1
  · exact hd.lt.2
theorem DkAt.keep {w w' : World} {F : Nat → Prop} {v : Value} {q : DSt} (h : DkAt w F v q) (_hs : w.heap.size ≤ w'.heap.size) (hk : ∀ i, F i → w'.heap[i]? = w.heap[i]?) : DkAt w' F v q := by
  obtain ⟨g, b, rfl, hF, hd⟩ := h
  exact ⟨g, b, rfl, hF, hd.keep (hk g ((hF g).2 (Or.inl rfl))) (hk b ((hF b).2 (Or.inr rfl)))⟩
/-- What a call has told and done. -/
def Did (F : Nat → Prop) (v : Value) (q : DSt) (x : Value) (w : World) (e : Ending) (w' : World) : Prop := e = .returned x ∧ ∃ F', DkAt w' F' v q ∧ OnlyF F w w' ∧ ∀ i, F' i → F i ∨ w.heap.size ≤ i
theorem dk_cells {w : World} {g b : Nat} {q : DSt} (h : Dk w g b q) : w.cell? ⟨g, 0, none⟩ = some (.int .i64 q.S.length) ∧ w.cell? ⟨g, 1, none⟩ = some (.map (some b)) ∧ w.cell? ⟨g, 2, none⟩ = some (.int .i64 q.writes) ∧ w.cell? ⟨g, 3, none⟩ = some (.bool q.dead) ∧
    w.cell? ⟨g, 4, none⟩ = some (.bool q.armed) ∧ w.cell? ⟨g, 5, none⟩ = some (.int .i64 (if q.armed = true then q.n else 0)) ∧ w.cell? ⟨g, 6, none⟩ = some (.int .i64 (if q.armed = true then q.part else 0)) ∧ (∀ i, w.frozen? ⟨g, i, none⟩ = false) :=
  ⟨h.row.cell (by decide), h.row.cell (by decide), h.row.cell (by decide), h.row.cell (by decide), h.row.cell (by decide), h.row.cell (by decide), h.row.cell (by decide), h.row.frozen⟩
/-- A cell of the disk's own is written. -/
theorem Dk.set {w : World} {g b : Nat} {q q' : DSt} (h : Dk w g b q) (i : Nat) (v : Value) (hS : q'.S = q.S) (hi : ∀ j, j < 7 → kcell b q' j = if j = i then v else kcell b q j) : Dk (w.setCell ⟨g, i, none⟩ v) g b q' := by
  obtain ⟨n, f, h1, h2, h3⟩ := h.secs
  refine ⟨(h.row.set i v).congr fun j hj => (hi j hj).symm, ⟨n, f, h1.keep (blk_setCell_other _ _ _ _ (fun e => h.apart e.symm)), by rw [hS]; exact h2, by rw [hS]; exact h3⟩, h.apart⟩
theorem p_wrong (q : DSt) (g b : Nat) (i : Int) (w : World) (h : Dk w g b q) :
    Calls Tryz.prog 56 #[.pointer (some ⟨g, 0, none⟩), .int .i64 i] w fun e w' => e = .returned (.int .i64 (q.readE i)) ∧ w = w' := by
  obtain ⟨a0, -, -, a3, -, -, -, -⟩ := dk_cells h
  clear h
  unfold DSt.readE DSt.has
  generalize q.S.length = k at *
  generalize q.dead = d at *
  cases d with
  | true =>
    rw [if_pos rfl]
    go_enter Tryz.func56, Tryz.ntmps56
    go_wp2_with fail
    go_ret
    exact ⟨rfl, rfl⟩
  | false =>
    rw [if_neg (by decide)]
    by_cases hlo : i < 0
    · have t1 : decide (i < 0) = true := decide_eq_true hlo
      rw [if_neg (by simp; omega)]
      go_enter Tryz.func56, Tryz.ntmps56
      go_wp2_with fail
      go_ret
      exact ⟨rfl, rfl⟩
    · have t1 : decide (i < 0) = false := decide_eq_false hlo
      by_cases hhi : (k : Int) ≤ i
      · have t2 : decide ((k : Int) ≤ i) = true := decide_eq_true hhi
        rw [if_neg (by simp; omega)]
        go_enter Tryz.func56, Tryz.ntmps56
        go_wp2_with fail
        go_ret
        exact ⟨rfl, rfl⟩
      · have t2 : decide ((k : Int) ≤ i) = false := decide_eq_false hhi
        rw [if_pos (by simp; omega)]
        go_enter Tryz.func56, Tryz.ntmps56
        go_wp2_with fail
        go_ret
        exact ⟨rfl, rfl⟩
theorem store_rowN {P : Program} {ops : Array Oper} {rest : List Oper} {o : Oper} {a : Act} {w : World} {Q : Exit → Act → World → Prop} (hgd : o.guard = none) (ty : TypeId) (x y : Operand) (ho : o.op = .store ty x y) (hd : o.dst = none)
    (g : Nat) (cells : Array Value) (hx : a.eval x = .pointer (some ⟨g, 0, none⟩)) (hy : a.eval y = .agg cells)
    (t : TypeId) (old : Array Value) (hg : w.heap[g]? = some (.cells old t (0, 0))) (hi : (P.info? ty).map (·.size) = some cells.size)
    (hold : old.size = cells.size) (h1 : cells.all (·.oneCell') = true)
    (h : wpList P ops Q rest a (w.setRow g cells)) : wpList P ops Q (o :: rest) a w :=
  wpList_store_row hgd ty x y ho g cells hx hy t old hg hi hold h1 (by rw [hd]; exact h)
theorem take_cells {P : Program} {ops : Array Oper} {Q : Exit → Act → World → Prop} {md : Region.Mode} {S : World → Prop} {oi : Oper} {fuel : Nat} {listed : Array Bool} {a : Act} {w : World}
    (i k : Nat) (hi : ops[i]? = some oi) (hd : oi.dst = some k) (hs : Region.noSelect ops = true) (hf : Region.free md ops listed i = true) (hr : (Region.ready md ops listed).contains i = true)
    (T : TypeId) (x : Operand) (ho : oi.op = .load T x) (g : Nat) (hx : a.eval x = .pointer (some ⟨g, 0, none⟩)) (C : Array Value) (d : TypeDesc) (hu : P.underlying T = some d) (ht : (match d with | .struct _ | .array _ _ => true | _ => false) = true) (hz : (P.info? T).map (·.size) = some C.size)
    (hB : ∀ w, S w → w.heap[g]? = some (.cells C T (0, 0)))
    (hQ : ∀ c a w, Q (.panic c) (a.put oi.dst (.agg C)) w → Q (.panic c) a w) (hw : Region.wanted oi (yielded ops a.tmps) = true) (hS : S w)
    (h : wpAnyH P md ops Q S fuel (listed.setIfInBounds i true) (a.put (some k) (.agg C)) w) : wpAnyH P md ops Q S (fuel + 1) listed a w :=
  ByHand.take_yes (v := .agg C) i k hi hd hs hf hr hQ hw (fun W hW => by
    unfold execOp
    simp only [ho, hx, Instr.loadAt, Instr.sureAddr, Sem.run_bind, Sem.run_pure, Result.andThen_ok, run_loadVar_row W g T T C (0, 0) d (hB W hW) hu ht hz]) hS h
theorem copy_cells {old s : ByteArray} (ho : old.size = 256) (hs : s.size ≤ 256) : ((secC old).toList.take 0 ++ Lib.byteCells s.data.toList ++ (secC old).toList.drop (0 + s.size)).toArray = secC (overS old s) := by
  unfold secC overS Lib.byteCells
  have hoz : old.data.size = old.size := rfl
  rw [List.take_zero, List.nil_append, ByteArray.data_append, ByteArray.data_extract, Array.toList_append, List.map_append, List.toList_toArray, Nat.zero_add, ← List.map_drop, Array.toList_extract, List.extract_eq_take_drop]
  rw [List.take_of_length_le (by rw [List.length_drop, Array.length_toList]; omega)]
theorem copy_sec (w : World) {old s : ByteArray} (ho : old.size = 256) (hs : s.size ≤ 256) :
    (Builtin.copy_ #[66, 9] 3 #[.slice (some ⟨w.heap.size, 0, none⟩) 256 256, .string s]).run Tryz.prog (w.alloc (.cells (secC old) 106)) = .ok (goInt s.size) (w.alloc (.cells (secC (overS old s)) 106)) := by
  have h := Lib.run_copy_row_string (P := Tryz.prog) (w.alloc (.cells (secC old) 106)) 66 9 3 5 w.heap.size 0 256 256 s (secC old) 106 Tryz.underlying66 (by kernel_rfl) (heap_alloc_last _ _) hs (by rw [secC_size]; omega)
  rw [copy_cells ho hs, World.setRow_alloc_new] at h
  exact h
theorem p_put (w : World) (g b n : Nat) (f : Int → Option ByteArray) (i : Int) (s : ByteArray) (h1 : w.cell? ⟨g, 1, none⟩ = some (.map (some b))) (hm : SecIs w b n f) (hn : n < 1000000000) (hi : MapT.In64 i) (hs : s.size ≤ 256) (hgb : g ≠ b) :
    Calls Tryz.prog 57 #[.pointer (some ⟨g, 0, none⟩), .int .i64 i, .string s] w fun e w' => e = .returned (.tuple #[]) ∧ SecIs w' b (if (f i).isSome = true then n else n + 1) (fun j => if j = i then some (overS ((f i).getD zero256) s) else f j) ∧ OnlyF (fun j => j = b) w w' := by
  obtain ⟨hlk, hx⟩ := hm.look hi
  have HX : Hid (((f i).getD zero256).size = 256) := hx
  obtain ⟨x, ex⟩ : ∃ x, (f i).getD zero256 = x := ⟨_, rfl⟩
  rw [ex] at hlk hx HX ⊢
  have HM := Lib.hid hm
  clear hm hx
  have hz := zero_sec
  have hcp := copy_sec w HX.out hs
  have HY : Hid ((overS x s).size = 256) := over_size HX.out hs
  obtain ⟨y, ey⟩ : ∃ y, overS x s = y := ⟨_, rfl⟩
  rw [ey] at hcp HY ⊢
  obtain ⟨w2, hst, hm2, ht2⟩ := (SecIs.keep (w' := (w.alloc (.cells (secC y) 106)).drew) HM.out (blk_alloc_lt _ _ _ HM.out.lt)).store hn hi HY.out
  obtain ⟨n', en⟩ : ∃ n', (if (f i).isSome = true then n else n + 1) = n' := ⟨_, rfl⟩
  rw [en] at hm2 ⊢
  have HM2 := Lib.hid hm2
  have HT2 := Lib.hid ht2
  clear hm2 ht2
  have j1 : (w.alloc (.cells (secC y) 106)).cell? ⟨g, 1, none⟩ = some (.map (some b)) := by rw [World.cell?_alloc_some _ _ _ (by rw [h1]; rfl)]; exact h1
  go_enter Tryz.func57, Tryz.ntmps57
  go_wp2_with (first
    | (refine store_rowN rfl 106 _ _ rfl rfl _ _ rfl rfl _ _ (heap_alloc_last _ _) (sec_info HX.out) (by rw [secC_size, secC_size, HX.out, zero_size]) (secC_one _) ?_; rw [World.setRow_alloc_new])
    | (refine wpList_load_row rfl 106 _ rfl _ rfl _ _ _ _ (heap_alloc_last _ _) Tryz.underlying106 rfl (sec_info HY.out) ?_))
  refine wp_region_held_drew (S := fun W => W.cell? ⟨g, 1, none⟩ = some (.map (some b)) ∧ W.heap[w.heap.size]? = some (.cells (secC y) 106 (0, 0))) (by kernel_rfl) ⟨j1, heap_alloc_last _ _⟩ (fun hHeld => ?_)
  have hHeld' := hHeld
  refine ByHand.take_yes (v := ?_) 0 16 rfl rfl (by kernel_rfl) (by kernel_rfl) (by kernel_rfl) (fun _ _ _ h => h) (by rfl) ?_ (by assumption) ?_
  rotate_left
  · intro w' hSw
    (try dsimp only at hSw)
    go_simp
    all_goals with_reducible rfl
  (try simp only [Act.put, List.setIfInBounds_toArray, List.set_cons_zero, List.set_cons_succ])
  refine ByHand.take_yes (v := ?_) 1 17 rfl rfl (by kernel_rfl) (by kernel_rfl) (by kernel_rfl) (fun _ _ _ h => h) (by rfl) ?_ (by assumption) ?_
  rotate_left
  · intro w' hSw
    (try dsimp only at hSw)
    go_simp
    all_goals with_reducible rfl
  (try simp only [Act.put, List.setIfInBounds_toArray, List.set_cons_zero, List.set_cons_succ])
  refine ByHand.take_yes (v := ?_) 2 18 rfl rfl (by kernel_rfl) (by kernel_rfl) (by kernel_rfl) (fun _ _ _ h => h) (by rfl) ?_ (by assumption) ?_
  rotate_left
  · intro w' hSw
    (try dsimp only at hSw)
    go_simp
    all_goals with_reducible rfl
  (try simp only [Act.put, List.setIfInBounds_toArray, List.set_cons_zero, List.set_cons_succ])
  refine ByHand.take_yes (v := .map (some b)) 3 19 rfl rfl (by kernel_rfl) (by kernel_rfl) (by kernel_rfl) (fun _ _ _ h => h) (by rfl) ?_ (by assumption) ?_
  · intro w' hSw
    obtain ⟨k1, -⟩ := hSw
    go_simp
  (try simp only [Act.put, List.setIfInBounds_toArray, List.set_cons_zero, List.set_cons_succ])
  refine ByHand.take_yes (v := ?_) 4 20 rfl rfl (by kernel_rfl) (by kernel_rfl) (by kernel_rfl) (fun _ _ _ h => h) (by rfl) ?_ (by assumption) ?_
  rotate_left
  · intro w' hSw
    (try dsimp only at hSw)
    go_simp
    all_goals with_reducible rfl
  (try simp only [Act.put, List.setIfInBounds_toArray, List.set_cons_zero, List.set_cons_succ])
  refine take_cells 5 21 rfl rfl (by kernel_rfl) (by kernel_rfl) (by kernel_rfl) 106 _ rfl w.heap.size rfl (secC y) _ Tryz.underlying106 rfl (sec_info HY.out) (fun _ h => h.2) (fun _ _ _ h => h) (by rfl) (by assumption) ?_
  (try simp only [Act.put, List.setIfInBounds_toArray, List.set_cons_zero, List.set_cons_succ])
  refine wpAnyH_ready (rs := [6]) (by kernel_rfl) (by simp) (AllReadyH.cons rfl (fun K hK => ?_) AllReadyH.nil)
  go_simp
  have k1 : w2.cell? ⟨g, 1, none⟩ = some (.map (some b)) := (World.cell?_of_block (a := ⟨g, 1, none⟩) (HT2.out.block g hgb)).trans j1
  have k2 : w2.heap[w.heap.size]? = some (.cells (secC y) 106 (0, 0)) := (HT2.out.block _ (fun e => by have := HM.out.lt; omega)).trans (heap_alloc_last _ _)
  refine hK.out _ _ ⟨k1, k2⟩ (fun hHeld => ?_)
  clear hK K
  refine wpAnyH_done (by kernel_rfl) ?_ _
  go_wp2_with fail
  go_end0
  refine ⟨rfl, HM2.out, ⟨HT2.out.os, HT2.out.tape, HT2.out.output, ?_, fun j hj hjb => ?_⟩⟩
  · rw [HT2.out.size]; show w.heap.size ≤ (w.alloc _).heap.size; rw [nblk_alloc]; omega
  · exact (HT2.out.block j hjb).trans (blk_alloc_lt _ _ _ hj)
theorem Dk.put {w w' : World} {g b n : Nat} {f : Int → Option ByteArray} {q : DSt} (h : Dk w g b q) (hm : n ≤ cntF f q.S.length) (hx : ∀ i : Nat, i < q.S.length → (f i).getD zero256 = q.S.getD i none_) (i : Nat) (s : ByteArray) (hi : i < q.S.length)
    (hs : SecIs w' b (if (f (i : Nat)).isSome = true then n else n + 1) (fun j => if j = (i : Int) then some (overS ((f (i : Nat)).getD zero256) s) else f j)) (ho : OnlyF (fun j => j = b) w w') :
    Dk w' g b ⟨q.S.set i (overS (q.S.getD i none_) s), q.dead, q.armed, q.n, q.part, q.writes⟩ := by
  refine ⟨(h.row.of_block (ho.block g h.lt.1 h.apart)).congr (fun j _ => by unfold kcell; rw [List.length_set]), ⟨_, _, hs, ?_, fun j hj => ?_⟩, h.apart⟩
  · show _ ≤ cntF _ (q.S.set i _).length
    rw [List.length_set, cntF_put]
    cases hf : (f (i : Nat)).isSome with
    | true => rw [if_pos rfl, if_neg (fun e => by cases e.2)]; exact hm
    | false => rw [if_neg (by decide), if_pos ⟨hi, rfl⟩]; omega
  · have hj' : j < q.S.length := by rwa [List.length_set] at hj
    show (if (j : Int) = (i : Int) then some (overS ((f (i : Nat)).getD zero256) s) else f (j : Nat)).getD zero256 = (q.S.set i _).getD j none_
    rw [getD_set]
    by_cases e : i = j
    · rw [if_pos (show (j : Int) = i by omega), if_pos ⟨e, hi⟩, hx i hi]; rfl
    · rw [if_neg (show ¬ (j : Int) = i by omega), if_neg (fun h => e h.1), hx j hj']
theorem d_put (q : DSt) (g b i : Nat) (s : ByteArray) (w : World) (h : Dk w g b q) (hl : q.S.length ≤ 4096) (hi : i < q.S.length) (hs : s.size ≤ 256) :
    Calls Tryz.prog 57 #[.pointer (some ⟨g, 0, none⟩), .int .i64 (i : Nat), .string s] w fun e w' => e = .returned (.tuple #[]) ∧ Dk w' g b ⟨q.S.set i (overS (q.S.getD i none_) s), q.dead, q.armed, q.n, q.part, q.writes⟩ ∧ OnlyF (fun j => j = b) w w' := by
  obtain ⟨n, f, h1, h2, h3⟩ := h.secs
  have hc := cntF_le f q.S.length
  exact (p_put w g b n f i s (dk_cells h).2.1 h1 (by omega) (by unfold MapT.In64; omega) hs h.apart).mono fun e w' hh => ⟨hh.1, h.put h2 h3 i s hi hh.2.1 hh.2.2, hh.2.2⟩
theorem conv_sec (w : World) {x : ByteArray} (hx : x.size = 256) :
    (convert 66 9 (.slice (some ⟨w.heap.size, 0, none⟩) 256 256)).run Tryz.prog (w.alloc (.cells (secC x) 106)) = .ok (.string x) (w.alloc (.cells (secC x) 106)) := by
  have hl : x.data.toList.length = 256 := by rw [Array.length_toList]; exact hx
  have := run_convert_bytes_back (P := Tryz.prog) (w.alloc (.cells (secC x) 106)) 66 9 5 ⟨w.heap.size, 0, none⟩ 256 x.data.toList Tryz.underlying66 Tryz.underlying5 Tryz.underlying9 (fun j hj => by
    rw [hl] at hj
    rw [Go.WideShapes.add_plain, Nat.zero_add, (secC_row (heap_alloc_last _ _)).cell (by omega), ← byteB_at (by omega)]
    rfl)
  rw [hl] at this
  exact this
/-- .. of these two blocks. -/
def DidX (F : Nat → Prop) (g b : Nat) (q : DSt) (x : Value) (w : World) (e : Ending) (w' : World) : Prop := e = .returned x ∧ Dk w' g b q ∧ OnlyF F w w'
theorem DidX.did {F : Nat → Prop} {g b : Nat} {q : DSt} {x : Value} {w w' : World} {e : Ending} (hF : ∀ i, F i ↔ i = g ∨ i = b) (h : DidX F g b q x w e w') : Did F (.pointer (some ⟨g, 0, none⟩)) q x w e w' := ⟨h.1, F, ⟨g, b, rfl, hF, h.2.1⟩, h.2.2, fun _ h => Or.inl h⟩
theorem did_of {F : Nat → Prop} {g b : Nat} {q' : DSt} {x : Value} {w w' : World} (_ : ∀ i, F i ↔ i = g ∨ i = b) (hd : Dk w' g b q') (ho : OnlyF F w w') : DidX F g b q' x w (.returned x) w' :=
  ⟨rfl, hd, ho⟩
theorem d_read (q : DSt) (F : Nat → Prop) (g b : Nat) (i : Int) (w : World) (hF : ∀ i, F i ↔ i = g ∨ i = b) (h : Dk w g b q) (hi : -9223372036854775808 ≤ i ∧ i ≤ 9223372036854775807) :
    Calls Tryz.prog 60 #[.pointer (some ⟨g, 0, none⟩), .int .i64 i] w (DidX F g b q (.tuple #[.string (q.readS i), .int .i64 (q.readE i)]) w) := by
  have H := Lib.hid h
  by_cases hy : q.dead = false ∧ q.has i = true
  · obtain ⟨j, rfl⟩ : ∃ j : Nat, i = j := ⟨i.toNat, by have := (has_iff.1 hy.2).1; omega⟩
    have hj : j < q.S.length := by have := (has_iff.1 hy.2).2; omega
    rw [show q.readS j = q.S.getD j none_ by unfold DSt.readS; rw [if_pos hy]; rfl, show q.readE j = 0 by unfold DSt.readE; rw [if_neg (by rw [hy.1]; decide), if_pos hy.2]]
    have hp := p_wrong q g b j w h
    rw [show q.readE j = 0 by unfold DSt.readE; rw [if_neg (by rw [hy.1]; decide), if_pos hy.2]] at hp
    obtain ⟨n, f, s1, -, s3⟩ := h.secs
    obtain ⟨hlk, h256⟩ := s1.look (i := j) hi
    rw [s3 j hj] at hlk h256
    have a1 := (dk_cells h).2.1
    have hz := zero_sec
    have hcv := conv_sec w h256
    have HX : Hid ((q.S.getD j none_).size = 256) := h256
    have HB : Hid (OnlyF F w (w.alloc (.cells (secC (q.S.getD j none_)) 106))) := OnlyF.of_below ((Below.refl w.heap.size w).alloc (Nat.le_refl _) _)
    have HD : Hid (Dk (w.alloc (.cells (secC (q.S.getD j none_)) 106)) g b q) := h.keep (blk_alloc_lt _ _ _ h.lt.1) (blk_alloc_lt _ _ _ h.lt.2)
    have hF := Lib.hid hF
    clear h s1 s3 hy hi h256
    generalize q.S.getD j none_ = x at *
    go_enter Tryz.func60, Tryz.ntmps60
    go_wp2_with fail
    refine hp.mono ?_
    rintro e w1 ⟨rfl, rfl⟩
    go_wp2_with (first
      | (refine store_rowN rfl 106 _ _ rfl rfl _ _ rfl rfl _ _ (heap_alloc_last _ _) (sec_info HX.out) (by rw [secC_size, secC_size, HX.out, zero_size]) (secC_one _) ?_; rw [World.setRow_alloc_new]))
    go_ret2
    exact did_of hF.out HD.out HB.out
  · have hp := p_wrong q g b i w h
    have hne : q.readE i ≠ 0 := by
      unfold DSt.readE
      by_cases hd : q.dead = true
      · rw [if_pos hd]; decide
      · rw [if_neg hd, if_neg (fun e => hy ⟨by simpa using hd, e⟩)]; decide
    rw [show q.readS i = none_ by unfold DSt.readS; rw [if_neg hy]]
    have t1 : (q.readE i != 0) = true := by rw [bne_iff_ne]; exact hne
    generalize q.readE i = e at *
    have hF := Lib.hid hF
    unfold none_
    clear h hy hi hne
    go_enter Tryz.func60, Tryz.ntmps60
    go_wp2_with fail
    refine hp.mono ?_
    rintro e w1 ⟨rfl, rfl⟩
    go_wp2_with fail
    go_ret2
    exact did_of hF.out H.out (OnlyF.refl _ _)
theorem d_dead (q : DSt) (F : Nat → Prop) (g b : Nat) (w : World) (hF : ∀ i, F i ↔ i = g ∨ i = b) (h : Dk w g b q) :
    Calls Tryz.prog 24 #[.pointer (some ⟨g, 0, none⟩)] w (DidX F g b q (.bool q.dead) w) := by
  have H := Lib.hid h
  obtain ⟨a0, a1, a2, a3, a4, a5, a6, fz⟩ := dk_cells h
  have hF := Lib.hid hF
  clear h a1 a4 a5 a6 fz
  go_enter Tryz.func24, Tryz.ntmps24
  go_wp2_with fail
  go_ret
  exact did_of hF.out H.out (OnlyF.refl _ _)
theorem d_size (q : DSt) (F : Nat → Prop) (g b : Nat) (w : World) (hF : ∀ i, F i ↔ i = g ∨ i = b) (h : Dk w g b q) :
    Calls Tryz.prog 59 #[.pointer (some ⟨g, 0, none⟩)] w (DidX F g b q (.int .i64 q.S.length) w) := by
  have H := Lib.hid h
  obtain ⟨a0, a1, a2, a3, a4, a5, a6, fz⟩ := dk_cells h
  have hF := Lib.hid hF
  clear h a1 a4 a5 a6 fz
  go_enter Tryz.func59, Tryz.ntmps59
  go_wp2_with fail
  go_ret
  exact did_of hF.out H.out (OnlyF.refl _ _)
theorem d_writes (q : DSt) (F : Nat → Prop) (g b : Nat) (w : World) (hF : ∀ i, F i ↔ i = g ∨ i = b) (h : Dk w g b q) :
    Calls Tryz.prog 25 #[.pointer (some ⟨g, 0, none⟩)] w (DidX F g b q (.int .i64 q.writes) w) := by
  have H := Lib.hid h
  obtain ⟨a0, a1, a2, a3, a4, a5, a6, fz⟩ := dk_cells h
  have hF := Lib.hid hF
  clear h a1 a4 a5 a6 fz
  go_enter Tryz.func25, Tryz.ntmps25
  go_wp2_with fail
  go_ret
  exact did_of hF.out H.out (OnlyF.refl _ _)
theorem Dk.of_row {w w' : World} {g b : Nat} {q q' : DSt} (h : Dk w g b q) (hS : q'.S = q.S) {F : Nat → Value} (hr : w'.rowIs g 65 7 F) (hF : ∀ j, j < 7 → F j = kcell b q' j) (hb : w'.heap[b]? = w.heap[b]?) : Dk w' g b q' := by
  obtain ⟨n, f, h1, h2, h3⟩ := h.secs
  exact ⟨hr.congr hF, ⟨n, f, h1.keep hb, by rw [hS]; exact h2, by rw [hS]; exact h3⟩, h.apart⟩
/-- The writes ahead of the crash are one fewer. -/
theorem Dk.fewer {w : World} {g b : Nat} {q : DSt} (h : Dk w g b q) (ha : q.armed = true) : Dk (w.setCell ⟨g, 5, none⟩ (.int .i64 (q.n - 1))) g b ⟨q.S, q.dead, q.armed, q.n - 1, q.part, q.writes⟩ :=
  h.of_row rfl (h.row.set 5 _) (fun j hj => by
    match j, hj with
    | 0, _ | 1, _ | 2, _ | 3, _ | 4, _ | 6, _ => rfl
    | 5, _ =>
      show Value.int .i64 (q.n - 1) = .int .i64 (if q.armed = true then q.n - 1 else 0)
      rw [if_pos ha]) (blk_setCell_other _ _ _ _ (fun e => h.apart e.symm))
/-- Four cells behind each other are written, the last ones. -/
theorem Dk.four {w : World} {g b : Nat} {q : DSt} (h : Dk w g b q) (d a : Bool) (n p : Int) (n' p' : Int) (hn : n' = if a = true then n else 0) (hp : p' = if a = true then p else 0) :
    Dk ((((w.setCell ⟨g, 3, none⟩ (.bool d)).setCell ⟨g, 4, none⟩ (.bool a)).setCell ⟨g, 5, none⟩ (.int .i64 n')).setCell ⟨g, 6, none⟩ (.int .i64 p')) g b ⟨q.S, d, a, n, p, q.writes⟩ := by
  have hne : b ≠ g := fun e => h.apart e.symm
  refine h.of_row rfl ((((h.row.set 3 _).set 4 _).set 5 _).set 6 _) (fun j hj => ?_) ?_
  · match j, hj with
    | 0, _ | 1, _ | 2, _ | 3, _ | 4, _ => rfl
    | 5, _ => exact congrArg (Value.int .i64) hn
    | 6, _ => exact congrArg (Value.int .i64) hp
  · rw [blk_setCell_other _ _ _ _ hne, blk_setCell_other _ _ _ _ hne, blk_setCell_other _ _ _ _ hne, blk_setCell_other _ _ _ _ hne]
/-- Three cells behind each other are written, the last ones. -/
theorem Dk.three {w : World} {g b : Nat} {q : DSt} (h : Dk w g b q) (a : Bool) (n p : Int) (n' p' : Int) (hn : n' = if a = true then n else 0) (hp : p' = if a = true then p else 0) :
    Dk (((w.setCell ⟨g, 4, none⟩ (.bool a)).setCell ⟨g, 5, none⟩ (.int .i64 n')).setCell ⟨g, 6, none⟩ (.int .i64 p')) g b ⟨q.S, q.dead, a, n, p, q.writes⟩ := by
  have hne : b ≠ g := fun e => h.apart e.symm
  refine h.of_row rfl (((h.row.set 4 _).set 5 _).set 6 _) (fun j hj => ?_) ?_
  · match j, hj with
    | 0, _ | 1, _ | 2, _ | 3, _ | 4, _ => rfl
    | 5, _ => exact congrArg (Value.int .i64) hn
    | 6, _ => exact congrArg (Value.int .i64) hp
  · rw [blk_setCell_other _ _ _ _ hne, blk_setCell_other _ _ _ _ hne, blk_setCell_other _ _ _ _ hne]
theorem d_start (q : DSt) (F : Nat → Prop) (g b : Nat) (w : World) (hF : ∀ i, F i ↔ i = g ∨ i = b) (h : Dk w g b q) :
    Calls Tryz.prog 17 #[.pointer (some ⟨g, 0, none⟩)] w (DidX F g b q.start (.tuple #[]) w) := by
  have H := Lib.hid h
  have hFg : F g := (hF g).2 (Or.inl rfl)
  obtain ⟨a0, a1, a2, a3, a4, a5, a6, fz⟩ := dk_cells h
  have f3 := fz 3
  have f4 := fz 4
  have f5 := fz 5
  have f6 := fz 6
  have hlt := h.lt.1
  have HF := Lib.hid hF
  have HFg := Lib.hid hFg
  clear h fz a0 a1 a2 hF hFg
  go_enter Tryz.func17, Tryz.ntmps17
  go_wp2_with fail
  go_end0
  exact did_of HF.out (H.out.four false false q.n q.part 0 0 rfl rfl) (((((OnlyF.refl F w).set HFg.out _).set HFg.out _).set HFg.out _).set HFg.out _)
theorem d_arm (q : DSt) (F : Nat → Prop) (g b : Nat) (n p : Int) (w : World) (hF : ∀ i, F i ↔ i = g ∨ i = b) (h : Dk w g b q) :
    Calls Tryz.prog 15 #[.pointer (some ⟨g, 0, none⟩), .int .i64 n, .int .i64 p] w (DidX F g b (q.arm n p) (.int .i64 (armE n p)) w) := by
  have H := Lib.hid h
  have hFg : F g := (hF g).2 (Or.inl rfl)
  obtain ⟨a0, a1, a2, a3, a4, a5, a6, fz⟩ := dk_cells h
  have f4 := fz 4
  have f5 := fz 5
  have f6 := fz 6
  have hlt := h.lt.1
  have HF := Lib.hid hF
  have HFg := Lib.hid hFg
  clear h fz a0 a1 a2 a3 hF hFg
  by_cases ha : armB n p = true
  · have hb := of_decide_eq_true ha
    rw [show armE n p = 0 by unfold armE; rw [if_pos ha], show q.arm n p = ⟨q.S, q.dead, true, n, p, q.writes⟩ by unfold DSt.arm; rw [if_pos ha]]
    have t1 : decide (n < 0) = false := decide_eq_false (by omega)
    have t2 : decide (100000 < n) = false := decide_eq_false (by omega)
    have t3 : decide (p < 0) = false := decide_eq_false (by omega)
    have t4 : decide (256 < p) = false := decide_eq_false (by omega)
    clear ha hb
    go_enter Tryz.func15, Tryz.ntmps15
    go_wp2_with fail
    go_ret
    exact did_of HF.out (H.out.three true n p n p rfl rfl) ((((OnlyF.refl F w).set HFg.out _).set HFg.out _).set HFg.out _)
  · have hb : n < 0 ∨ 100000 < n ∨ p < 0 ∨ 256 < p := by
      unfold armB at ha
      rw [decide_eq_true_iff] at ha
      omega
    rw [show armE n p = 1 by unfold armE; rw [if_neg ha], show q.arm n p = q by unfold DSt.arm; rw [if_neg ha]]
    clear ha
    by_cases c1 : n < 0
    · have t1 : decide (n < 0) = true := decide_eq_true c1
      go_enter Tryz.func15, Tryz.ntmps15
      go_wp2_with fail
      go_ret
      exact did_of HF.out H.out (OnlyF.refl _ _)
    · have t1 : decide (n < 0) = false := decide_eq_false c1
      by_cases c2 : 100000 < n
      · have t2 : decide (100000 < n) = true := decide_eq_true c2
        go_enter Tryz.func15, Tryz.ntmps15
        go_wp2_with fail
        go_ret
        exact did_of HF.out H.out (OnlyF.refl _ _)
      · have t2 : decide (100000 < n) = false := decide_eq_false c2
        by_cases c3 : p < 0
        · have t3 : decide (p < 0) = true := decide_eq_true c3
          go_enter Tryz.func15, Tryz.ntmps15
          go_wp2_with fail
          go_ret
          exact did_of HF.out H.out (OnlyF.refl _ _)
        · have t3 : decide (p < 0) = false := decide_eq_false c3
          have t4 : decide (256 < p) = true := decide_eq_true (by omega)
          go_enter Tryz.func15, Tryz.ntmps15
          go_wp2_with fail
          go_ret
          exact did_of HF.out H.out (OnlyF.refl _ _)
theorem dwrite_not (q : DSt) (F : Nat → Prop) (g b : Nat) (i : Int) (s : ByteArray) (w : World) (hF : ∀ i, F i ↔ i = g ∨ i = b) (h : Dk w g b q) (hg : ¬ q.goes i s = true) :
    Calls Tryz.prog 21 #[.pointer (some ⟨g, 0, none⟩), .int .i64 i, .string s] w (DidX F g b q (.int .i64 (if q.dead = true then 74 else 1)) w) := by
  have H := Lib.hid h
  have HF := Lib.hid hF
  have hp := p_wrong q g b i w h
  by_cases hne : q.readE i = 0
  · have hd : q.dead = false := by
      rw [Bool.eq_false_iff]; intro e
      unfold DSt.readE at hne
      rw [if_pos e] at hne
      cases hne
    have hh : q.has i = true := by
      rw [← Bool.not_eq_false]; intro e
      unfold DSt.readE at hne
      rw [hd, if_neg (by decide), e, if_neg (by decide)] at hne
      cases hne
    have hs : ¬ s.size = 256 := fun e => hg (goes_iff.2 ⟨hd, has_iff.1 hh, e⟩)
    have t1 : ((s.size : Int) != 256) = true := by rw [bne_iff_ne]; omega
    rw [if_neg (by rw [hd]; decide)]
    rw [hne] at hp
    clear h hF hg hne hd hh hs
    go_enter Tryz.func21, Tryz.ntmps21
    go_wp2_with fail
    refine hp.mono ?_
    rintro e w1 ⟨rfl, rfl⟩
    go_wp2_with fail
    go_ret
    exact did_of HF.out H.out (OnlyF.refl _ _)
  · have ee : (if q.dead = true then 74 else 1) = q.readE i := by
      unfold DSt.readE at hne ⊢
      by_cases hd : q.dead = true
      · rw [if_pos hd, if_pos hd]
      · rw [if_neg hd] at hne
        rw [if_neg hd, if_neg hd]
        by_cases hh : q.has i = true
        · rw [if_pos hh] at hne; exact absurd rfl hne
        · rw [if_neg hh]
    rw [ee]
    have t1 : (q.readE i != 0) = true := by rw [bne_iff_ne]; exact hne
    generalize q.readE i = e at *
    clear h hF hg hne ee
    go_enter Tryz.func21, Tryz.ntmps21
    go_wp2_with fail
    refine hp.mono ?_
    rintro e w1 ⟨rfl, rfl⟩
    go_wp2_with fail
    go_ret
    exact did_of HF.out H.out (OnlyF.refl _ _)
theorem OnlyF.weaken {F G : Nat → Prop} {w w' : World} (h : OnlyF F w w') (hk : ∀ i, F i → G i) : OnlyF G w w' := ⟨h.os, h.tape, h.output, h.size, fun i hi hg => h.block i hi (fun e => hg (hk i e))⟩
theorem Dk.wrote {w : World} {g b : Nat} {q : DSt} (h : Dk w g b q) (k : Nat) (v : Int) (hv : v = k) : Dk (w.setCell ⟨g, 2, none⟩ (.int .i64 v)) g b ⟨q.S, q.dead, q.armed, q.n, q.part, k⟩ := by
  subst hv
  exact h.of_row rfl (h.row.set 2 _) (fun j hj => by
    match j, hj with
    | 0, _ | 1, _ | 2, _ | 3, _ | 4, _ | 5, _ | 6, _ => rfl) (blk_setCell_other _ _ _ _ (fun e => h.apart e.symm))
set_option maxHeartbeats 1000000 in
theorem dwrite_put (q : DSt) (F : Nat → Prop) (g b j : Nat) (s : ByteArray) (w : World) (k m : Nat) (hF : ∀ i, F i ↔ i = g ∨ i = b) (h : Dk w g b q) (hf : q.Fit k m) (hm : m ≤ 1000000000) (hd : q.dead = false) (hj : j < q.S.length) (hs : s.size = 256) (hq : q.dies = false) :
    Calls Tryz.prog 21 #[.pointer (some ⟨g, 0, none⟩), .int .i64 (j : Nat), .string s] w (DidX F g b (q.put j s) (.int .i64 0) w) := by
  have hp := p_wrong q g b j w h
  rw [show q.readE j = 0 by unfold DSt.readE; rw [if_neg (by rw [hd]; decide), if_pos (has_iff.2 (by omega))]] at hp
  have t1 : ((s.size : Int) != 256) = false := by rw [hs]; rfl
  have hlen : q.S.length ≤ 4096 := by rw [hf.len]; exact hf.most
  have hfw := hf.writes
  have HF := Lib.hid hF
  have HFg : Hid (F g) := (hF g).2 (Or.inl rfl)
  have HFb : Hid (∀ i, i = b → F i) := fun i e => (hF i).2 (Or.inr e)
  have HJ := Lib.hid hj
  have HL := Lib.hid hlen
  have HS := Lib.hid hs
  have iw : IntKind.i64.wrap ((q.writes : Int) + 1) = (q.writes + 1 : Nat) := by
    rw [IntWalk.i64_in _ (by omega)]; omega
  obtain ⟨a0, a1, a2, a3, a4, a5, a6, fz⟩ := dk_cells h
  cases ha : q.armed with
  | false =>
    rw [ha] at a4
    rw [show q.put j s = ⟨q.S.set j s, q.dead, q.armed, q.n, q.part, q.writes + 1⟩ by unfold DSt.put; rw [if_neg (by rw [ha]; decide)]; rfl]
    have hc := d_put q g b j s w h hlen hj (Nat.le_of_eq hs)
    rw [over_all hs] at hc
    clear hf hq h hF fz hj hlen hs hfw hm hd a0 a1 a2 a3 a5 a6
    go_enter Tryz.func21, Tryz.ntmps21
    go_wp2_with fail
    refine hp.mono ?_
    rintro e w1 ⟨rfl, rfl⟩
    go_wp2_with fail
    refine hc.mono ?_
    rintro e w1 ⟨rfl, hd1, ho1⟩
    obtain ⟨-, -, c2, -, -, -, -, fz1⟩ := dk_cells hd1
    have f2 := fz1 2
    have hlt := hd1.lt.1
    have HD := Lib.hid (hd1.wrote (q.writes + 1) (q.writes + 1) (by omega))
    have HO := Lib.hid ho1
    clear hd1 ho1 fz1 hc hp a4
    go_wp2_with fail
    go_ret
    exact did_of HF.out HD.out ((HO.out.weaken HFb.out).set HFg.out _)
  | true =>
    have hq0 : ¬ q.n = 0 := fun e => by
      unfold DSt.dies at hq
      rw [ha, e] at hq
      cases hq
    have hn := hf.n
    have t4 : (q.n == 0) = false := by rw [beq_eq_false_iff_ne]; exact hq0
    have i3 : IntKind.i64.wrap (q.n - 1) = q.n - 1 := IntWalk.i64_in _ (by omega)
    rw [ha] at a4
    rw [if_pos ha] at a5
    rw [show q.put j s = ⟨q.S.set j s, q.dead, q.armed, q.n - 1, q.part, q.writes + 1⟩ by unfold DSt.put; rw [if_pos ha]; rfl]
    have H1 := h.fewer ha
    have hc := d_put _ g b j s _ H1 hlen hj (Nat.le_of_eq hs)
    rw [over_all hs] at hc
    have f5 := fz 5
    have hlt := h.lt.1
    clear hf hq h hF fz hj hlen hs hfw hm hd a0 a1 a2 a3 a6 hq0 hn H1
    go_enter Tryz.func21, Tryz.ntmps21
    go_wp2_with fail
    refine hp.mono ?_
    rintro e w1 ⟨rfl, rfl⟩
    go_wp2_with fail
    refine hc.mono ?_
    rintro e w1 ⟨rfl, hd1, ho1⟩
    obtain ⟨-, -, c2, -, -, -, -, fz1⟩ := dk_cells hd1
    have f2 := fz1 2
    have hlt := hd1.lt.1
    have HD := Lib.hid (hd1.wrote (q.writes + 1) (q.writes + 1) (by show (q.writes : Int) + 1 = _; omega))
    have HO := Lib.hid ((OnlyF.refl F w).set HFg.out (.int .i64 (q.n - 1)) |>.trans (ho1.weaken HFb.out))
    clear hd1 ho1 fz1 hc hp a4 a5 f5
    go_wp2_with fail
    go_ret
    exact did_of HF.out HD.out (HO.out.set HFg.out _)
set_option maxHeartbeats 1000000 in
theorem dwrite_cut (q : DSt) (F : Nat → Prop) (g b j : Nat) (s : ByteArray) (w : World) (k m : Nat) (hF : ∀ i, F i ↔ i = g ∨ i = b) (h : Dk w g b q) (hf : q.Fit k m) (hd : q.dead = false) (hj : j < q.S.length) (hs : s.size = 256) (hq : q.dies = true) :
    Calls Tryz.prog 21 #[.pointer (some ⟨g, 0, none⟩), .int .i64 (j : Nat), .string s] w (DidX F g b (q.cut j s) (.int .i64 74) w) := by
  have hp := p_wrong q g b j w h
  rw [show q.readE j = 0 by unfold DSt.readE; rw [if_neg (by rw [hd]; decide), if_pos (has_iff.2 (by omega))]] at hp
  have t1 : ((s.size : Int) != 256) = false := by rw [hs]; rfl
  have hlen : q.S.length ≤ 4096 := by rw [hf.len]; exact hf.most
  have HF := Lib.hid hF
  have HFg : Hid (F g) := (hF g).2 (Or.inl rfl)
  have HFb : Hid (∀ i, i = b → F i) := fun i e => (hF i).2 (Or.inr e)
  have hpt := hf.part
  unfold DSt.dies at hq
  simp only [Bool.and_eq_true, decide_eq_true_iff] at hq
  obtain ⟨ha, hn⟩ := hq
  obtain ⟨P, hP⟩ : ∃ P : Nat, q.part = P := ⟨q.part.toNat, by omega⟩
  have hP256 : P ≤ 256 := by omega
  obtain ⟨a0, a1, a2, a3, a4, a5, a6, fz⟩ := dk_cells h
  rw [ha] at a4
  rw [if_pos ha, hn] at a5
  rw [if_pos ha, hP] at a6
  have hc := d_put q g b j (s.extract 0 P) w h hlen hj (by rw [ByteArray.size_extract]; omega)
  rw [over_torn hs hP256] at hc
  rw [show q.cut j s = ⟨q.S.set j (torn (q.S.getD j none_) s P), true, false, q.n, q.part, q.writes⟩ by unfold DSt.cut DSt.text; rw [hP]; rfl]
  have P0 : (0 : Int) ≤ P := by omega
  have P1 : (P : Int) ≤ s.size := by omega
  clear hf h hF fz hj hlen hs hd a0 a1 a2 a3 hpt hn hP256
  go_enter Tryz.func21, Tryz.ntmps21
  go_wp2_with fail
  refine hp.mono ?_
  rintro e w1 ⟨rfl, rfl⟩
  go_wp2_with fail
  refine hc.mono ?_
  rintro e w1 ⟨rfl, hd1, ho1⟩
  obtain ⟨-, -, -, c3, c4, c5, c6, fz1⟩ := dk_cells hd1
  have f3 := fz1 3
  have f4 := fz1 4
  have f5 := fz1 5
  have f6 := fz1 6
  have hlt := hd1.lt.1
  have HD := Lib.hid (hd1.four true false q.n q.part 0 0 rfl rfl)
  have HO := Lib.hid ho1
  clear hd1 ho1 fz1 hc hp a4 a5 a6
  go_wp2_with fail
  go_ret
  exact did_of HF.out HD.out (((((HO.out.weaken HFb.out).set HFg.out _).set HFg.out _).set HFg.out _).set HFg.out _)
theorem d_write (q : DSt) (F : Nat → Prop) (g b : Nat) (i : Int) (s : ByteArray) (w : World) (k m : Nat) (hF : ∀ i, F i ↔ i = g ∨ i = b) (h : Dk w g b q) (hf : q.Fit k m) (hm : m ≤ 1000000000) :
    Calls Tryz.prog 21 #[.pointer (some ⟨g, 0, none⟩), .int .i64 i, .string s] w (DidX F g b (q.write i s) (.int .i64 (q.writeE i s)) w) := by
  by_cases hg : q.goes i s = true
  · obtain ⟨hd, hi, hs⟩ := goes_iff.1 hg
    have hd' : ¬ q.dead = true := by rw [hd]; decide
    obtain ⟨j, rfl⟩ : ∃ j : Nat, i = j := ⟨i.toNat, by omega⟩
    cases hq : q.dies with
    | true =>
      rw [show q.write j s = q.cut j s by unfold DSt.write; rw [if_pos hg, if_pos hq], show q.writeE j s = 74 by unfold DSt.writeE; rw [if_neg hd', if_pos hg, if_pos hq]]
      exact dwrite_cut q F g b j s w k m hF h hf hd (by omega) hs hq
    | false =>
      rw [show q.write j s = q.put j s by unfold DSt.write; rw [if_pos hg, if_neg (by rw [hq]; decide)], show q.writeE j s = 0 by unfold DSt.writeE; rw [if_neg hd', if_pos hg, if_neg (by rw [hq]; decide)]]
      exact dwrite_put q F g b j s w k m hF h hf hm hd (by omega) hs hq
  · rw [show q.write i s = q by unfold DSt.write; rw [if_neg hg], show q.writeE i s = (if q.dead = true then 74 else 1) by unfold DSt.writeE; rw [if_neg hg]]
    exact dwrite_not q F g b i s w hF h hg
/-- Of one that nobody made. -/
theorem nil_wrong (i : Int) (w : World) : Calls Tryz.prog 56 #[.pointer none, .int .i64 i] w fun e w' => e = .returned (.int .i64 1) ∧ w = w' := by
  go_enter Tryz.func56, Tryz.ntmps56
  go_wp2_with fail
  go_ret
  exact ⟨rfl, rfl⟩
theorem k_nil_read (i : Int) (w : World) : Calls Tryz.prog 60 #[.pointer none, .int .i64 i] w fun e w' => e = .returned (.tuple #[.string none_, .int .i64 1]) ∧ Below w.heap.size w w' := by
  go_enter Tryz.func60, Tryz.ntmps60
  unfold none_
  go_wp2_with fail
  refine (nil_wrong i w).mono ?_
  rintro e w1 ⟨rfl, rfl⟩
  go_wp2_with fail
  go_ret2
  exact ⟨rfl, Below.refl _ _⟩
theorem k_nil_write (i : Int) (s : ByteArray) (w : World) (_hs : s.size ≤ 1000000) : Calls Tryz.prog 21 #[.pointer none, .int .i64 i, .string s] w fun e w' => e = .returned (.int .i64 1) ∧ Below w.heap.size w w' := by
  go_enter Tryz.func21, Tryz.ntmps21
  go_wp2_with fail
  refine (nil_wrong i w).mono ?_
  rintro e w1 ⟨rfl, rfl⟩
  go_wp2_with fail
  go_ret
  exact ⟨rfl, Below.refl _ _⟩
theorem k_nil_arm (n p : Int) (w : World) : Calls Tryz.prog 15 #[.pointer none, .int .i64 n, .int .i64 p] w fun e w' => e = .returned (.int .i64 1) ∧ Below w.heap.size w w' := by
  go_enter Tryz.func15, Tryz.ntmps15
  go_wp2_with fail
  go_ret
  exact ⟨rfl, Below.refl _ _⟩
theorem k_nil_start (w : World) : Calls Tryz.prog 17 #[.pointer none] w fun e w' => e = .returned (.tuple #[]) ∧ Below w.heap.size w w' := by
  go_enter Tryz.func17, Tryz.ntmps17
  go_wp2_with fail
  go_end0
  exact ⟨rfl, Below.refl _ _⟩
theorem k_nil_dead (w : World) : Calls Tryz.prog 24 #[.pointer none] w fun e w' => e = .returned (.bool false) ∧ Below w.heap.size w w' := by
  go_enter Tryz.func24, Tryz.ntmps24
  go_wp2_with fail
  go_ret
  exact ⟨rfl, Below.refl _ _⟩
theorem k_nil_size (w : World) : Calls Tryz.prog 59 #[.pointer none] w fun e w' => e = .returned (.int .i64 0) ∧ Below w.heap.size w w' := by
  go_enter Tryz.func59, Tryz.ntmps59
  go_wp2_with fail
  go_ret
  exact ⟨rfl, Below.refl _ _⟩
theorem k_nil_writes (w : World) : Calls Tryz.prog 25 #[.pointer none] w fun e w' => e = .returned (.int .i64 0) ∧ Below w.heap.size w w' := by
  go_enter Tryz.func25, Tryz.ntmps25
  go_wp2_with fail
  go_ret
  exact ⟨rfl, Below.refl _ _⟩
theorem k_read (q : DSt) (F : Nat → Prop) (a : Addr) (i : Int) (w : World) (k m : Nat) (h : DkAt w F (.pointer (some a)) q) (_hf : q.Fit k m) (hi : -9223372036854775808 ≤ i ∧ i ≤ 9223372036854775807) : Calls Tryz.prog 60 #[.pointer (some a), .int .i64 i] w (Did F (.pointer (some a)) q (.tuple #[.string (q.readS i), .int .i64 (q.readE i)]) w) := by
  obtain ⟨g, b, e, hF, hd⟩ := h
  injection e with e
  injection e with e
  subst e
  exact (d_read q F g b i w hF hd hi).mono fun _ _ h => h.did hF
theorem k_write (q : DSt) (F : Nat → Prop) (a : Addr) (i : Int) (s : ByteArray) (w : World) (k m : Nat) (h : DkAt w F (.pointer (some a)) q) (hf : q.Fit k m) (hm : m ≤ 1000000000) (_hi : -9223372036854775808 ≤ i ∧ i ≤ 9223372036854775807) (_hs : s.size ≤ 1000000) : Calls Tryz.prog 21 #[.pointer (some a), .int .i64 i, .string s] w (Did F (.pointer (some a)) (q.write i s) (.int .i64 (q.writeE i s)) w) := by
  obtain ⟨g, b, e, hF, hd⟩ := h
  injection e with e
  injection e with e
  subst e
  exact (d_write q F g b i s w k m hF hd hf hm).mono fun _ _ h => h.did hF
theorem k_arm (q : DSt) (F : Nat → Prop) (a : Addr) (n p : Int) (w : World) (k m : Nat) (h : DkAt w F (.pointer (some a)) q) (_hf : q.Fit k m) (_hn : -9223372036854775808 ≤ n ∧ n ≤ 9223372036854775807) (_hp : -9223372036854775808 ≤ p ∧ p ≤ 9223372036854775807) : Calls Tryz.prog 15 #[.pointer (some a), .int .i64 n, .int .i64 p] w (Did F (.pointer (some a)) (q.arm n p) (.int .i64 (armE n p)) w) := by
  obtain ⟨g, b, e, hF, hd⟩ := h
  injection e with e
  injection e with e
  subst e
  exact (d_arm q F g b n p w hF hd).mono fun _ _ h => h.did hF
theorem k_start (q : DSt) (F : Nat → Prop) (a : Addr) (w : World) (k m : Nat) (h : DkAt w F (.pointer (some a)) q) (_hf : q.Fit k m) : Calls Tryz.prog 17 #[.pointer (some a)] w (Did F (.pointer (some a)) q.start (.tuple #[]) w) := by
  obtain ⟨g, b, e, hF, hd⟩ := h
  injection e with e
  injection e with e
  subst e
  exact (d_start q F g b w hF hd).mono fun _ _ h => h.did hF
theorem k_dead (q : DSt) (F : Nat → Prop) (a : Addr) (w : World) (k m : Nat) (h : DkAt w F (.pointer (some a)) q) (_hf : q.Fit k m) : Calls Tryz.prog 24 #[.pointer (some a)] w (Did F (.pointer (some a)) q (.bool q.dead) w) := by
  obtain ⟨g, b, e, hF, hd⟩ := h
  injection e with e
  injection e with e
  subst e
  exact (d_dead q F g b w hF hd).mono fun _ _ h => h.did hF
theorem k_size (q : DSt) (F : Nat → Prop) (a : Addr) (w : World) (k m : Nat) (h : DkAt w F (.pointer (some a)) q) (_hf : q.Fit k m) : Calls Tryz.prog 59 #[.pointer (some a)] w (Did F (.pointer (some a)) q (.int .i64 q.S.length) w) := by
  obtain ⟨g, b, e, hF, hd⟩ := h
  injection e with e
  injection e with e
  subst e
  exact (d_size q F g b w hF hd).mono fun _ _ h => h.did hF
theorem k_writes (q : DSt) (F : Nat → Prop) (a : Addr) (w : World) (k m : Nat) (h : DkAt w F (.pointer (some a)) q) (_hf : q.Fit k m) : Calls Tryz.prog 25 #[.pointer (some a)] w (Did F (.pointer (some a)) q (.int .i64 q.writes) w) := by
  obtain ⟨g, b, e, hF, hd⟩ := h
  injection e with e
  injection e with e
  subst e
  exact (d_writes q F g b w hF hd).mono fun _ _ h => h.did hF
theorem k_new_bad (n : Int) (w : World) (hn : ¬ (1 ≤ n ∧ n ≤ 4096)) (_hr : -9223372036854775808 ≤ n ∧ n ≤ 9223372036854775807) : Calls Tryz.prog 6 #[.int .i64 n] w fun e w' => e = .returned (.tuple #[.pointer none, .int .i64 1]) ∧ Below w.heap.size w w' := by
  by_cases c1 : n < 1
  · have t1 : decide (n < 1) = true := decide_eq_true c1
    go_enter Tryz.func6, Tryz.ntmps6
    go_wp2_with fail
    go_ret2
    exact ⟨rfl, Below.refl _ _⟩
  · have t1 : decide (n < 1) = false := decide_eq_false c1
    have t2 : decide (4096 < n) = true := decide_eq_true (by omega)
    go_enter Tryz.func6, Tryz.ntmps6
    go_wp2_with fail
    go_ret2
    exact ⟨rfl, Below.refl _ _⟩
theorem k_new (k : Nat) (w : World) (h1 : 1 ≤ k) (h2 : k ≤ 4096) : Calls Tryz.prog 6 #[.int .i64 (k : Nat)] w fun e w' => ∃ a F, e = .returned (.tuple #[.pointer (some a), .int .i64 0]) ∧ DkAt w' F (.pointer (some a)) (newD k) ∧ Below w.heap.size w w' ∧ ∀ i, F i → w.heap.size ≤ i := by
  have t1 : decide ((k : Int) < 1) = false := decide_eq_false (by omega)
  have t2 : decide ((4096 : Int) < k) = false := decide_eq_false (by omega)
  have hmm : (Instr.makeMap 61 none).run Tryz.prog w = .ok (.map (some w.heap.size)) (w.alloc (.map #[] 0)) := run_makeMap _ _
  go_enter Tryz.func6, Tryz.ntmps6
  go_wp2_with fail
  go_ret2
  refine ⟨⟨w.heap.size + 1, 0, none⟩, fun i => i = w.heap.size + 1 ∨ i = w.heap.size, rfl, ⟨_, w.heap.size, rfl, fun _ => Iff.rfl, ⟨?_, ⟨0, fun _ => none, ?_, Nat.zero_le _, fun i hi => ?_⟩, by omega⟩⟩, ?_, fun i hi => by rcases hi with rfl | rfl <;> omega⟩
  · have := World.rowIs_alloc (w.alloc (.map #[] 0)) #[.int .i64 (k : Nat), .map (some w.heap.size), .int .i64 0, .bool false, .bool false, .int .i64 0, .int .i64 0] 65 (kcell w.heap.size (newD k)) (fun i hi => by
      match i, hi with
      | 0, _ =>
        show some (Value.int .i64 (k : Nat)) = some (.int .i64 ((newD k).S.length : Nat))
        unfold newD
        rw [List.length_replicate]
      | 1, _ | 2, _ | 3, _ | 4, _ | 5, _ | 6, _ => rfl)
    rw [nblk_alloc] at this
    exact this
  · exact (sec_made w).keep (blk_alloc_lt _ _ _ (by rw [nblk_alloc]; omega))
  · unfold newD at hi ⊢
    show zero256 = (List.replicate k zero256).getD i none_
    rw [List.length_replicate] at hi
    rw [List.getD_eq_getElem?_getD, List.getElem?_replicate, if_pos hi]
    rfl
  · exact ((Below.refl w.heap.size w).alloc (Nat.le_refl _) _).alloc (by rw [nblk_alloc]; omega) _
end Go.Proofs.YtndanhacmfhlaaaGreat.Disk
