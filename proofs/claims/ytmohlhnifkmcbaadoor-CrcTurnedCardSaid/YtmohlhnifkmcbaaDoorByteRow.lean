/- Of no one law: the row that a conversion from a text makes; bytes stored into it; the text that is made of it again. -/
import Derived.Test.YtmohlhnifkmcbaaDoorRefCrc
import Derived.Lib.ConvBytes
import Derived.Laws.IdiomStrings
import Derived.Deep.OwnRows
namespace Go.Proofs.YtmohlhnifkmcbaaDoor.Crc
open Go.ChangeShapes Go.WideShapes Go.ChangeAt Go.RowKit

/-- Block g holds the bytes l, and may hold more behind them; none of l is frozen. -/
def BRow (w : World) (g : Nat) (T : TypeId) (l : List Nat) : Prop :=
  ∃ (c : Array Value) (k : Nat), w.heap[g]? = some (.cells c T (k, k + 1)) ∧ l.length ≤ k ∧ l.length ≤ c.size ∧ ∀ i, i < l.length → c[i]? = some (.int .u8 (l.getD i 0 : Nat))
section
variable {w w' : World} {g : Nat} {T : TypeId} {l : List Nat}
theorem BRow.cell (h : BRow w g T l) {i : Nat} (hi : i < l.length) : w.cell? ⟨g, i, none⟩ = some (.int .u8 (l.getD i 0 : Nat)) := by
  obtain ⟨c, k, hb, -, -, hc⟩ := h
  simp [World.cell?, hb, hc i hi]
theorem BRow.frozen (h : BRow w g T l) {i : Nat} (hi : i < l.length) : w.frozen? ⟨g, i, none⟩ = false := by
  obtain ⟨c, k, hb, hk, -, -⟩ := h
  simp [World.frozen?, hb]
  omega
theorem BRow.lt (h : BRow w g T l) : g < w.heap.size := by
  obtain ⟨c, k, hb, -⟩ := h
  rcases Nat.lt_or_ge g w.heap.size with hlt | hge
  · exact hlt
  · rw [Array.getElem?_eq_none hge] at hb; cases hb
theorem BRow.of_block (h : BRow w g T l) (e : w'.heap[g]? = w.heap[g]?) : BRow w' g T l := by
  obtain ⟨c, k, hb, hk, hs, hc⟩ := h
  exact ⟨c, k, e.trans hb, hk, hs, hc⟩
theorem BRow.set (h : BRow w g T l) {i x : Nat} (hi : i < l.length) : BRow (w.setCell ⟨g, i, none⟩ (.int .u8 (x : Nat))) g T (l.set i x) := by
  obtain ⟨c, k, hb, hk, hs, hc⟩ := h
  refine ⟨c.setIfInBounds i (.int .u8 (x : Nat)), k, ?_, by simpa using hk, by simpa using hs, fun j hj => ?_⟩
  · simp [World.setCell, Array.getElem?_modify, hb]
  · rw [List.length_set] at hj
    rw [Array.getElem?_setIfInBounds, List.getD_eq_getElem?_getD, List.getElem?_set]
    by_cases e : i = j
    · subst e
      rw [if_pos rfl, if_pos rfl, if_pos (by omega), if_pos hi]; rfl
    · rw [if_neg e, if_neg e, hc j hj, List.getD_eq_getElem?_getD]
theorem row_made (w : World) (e : TypeId) (s : ByteArray) : BRow (Lib.bytesWorld w e s) w.heap.size e (bs s) := by
  have hl : (bs s).length = s.data.size := by rw [bs_length]; rfl
  refine ⟨_, _, Lib.bytesWorld_at_new w e s, ?_, ?_, fun i hi => ?_⟩
  · rw [hl]; simp [Lib.bytesCells]
  · rw [hl]; simp [Lib.bytesCells]
  · rw [hl] at hi
    unfold Lib.bytesCells bs
    rw [Array.getElem?_append_left (by simpa using hi), List.getD_eq_getElem?_getD, List.getElem?_map, Array.getElem?_toList, Array.getElem?_map, Array.getElem?_eq_getElem hi]
    rfl
theorem below_row (w : World) (e : TypeId) (s : ByteArray) : Below w.heap.size w (Lib.bytesWorld w e s) :=
  ⟨rfl, rfl, rfl, by rw [Lib.bytesWorld_size]; omega, fun j hj => Lib.bytesWorld_at_old w e s j hj⟩
/-- The text of such a row. -/
def strN (l : List Nat) : ByteArray := ⟨(l.map UInt8.ofNat).toArray⟩
theorem bs_strN {l : List Nat} (h : ∀ b ∈ l, b < 256) : bs (strN l) = l := by
  unfold bs strN
  show (l.map UInt8.ofNat).map UInt8.toNat = l
  rw [List.map_map]
  refine (List.map_congr_left fun b hb => ?_).trans (List.map_id _)
  have := h b hb
  show (UInt8.ofNat b).toNat = b
  rw [UInt8.toNat_ofNat']
  omega
theorem strN_size (l : List Nat) : (strN l).size = l.length := by unfold strN; simp [ByteArray.size]
theorem row_text (h : BRow w g T l) (hl : ∀ b ∈ l, b < 256) {P : Program} (src dst : TypeId) (cap : Nat) (hs : P.underlying src = some (.slice T)) (he : P.underlying T = some (.int .u8)) (hd : P.underlying dst = some .string) :
    (convert src dst (.slice (some ⟨g, 0, none⟩) l.length cap)).run P w = .ok (.string (strN l)) w := by
  have := run_convert_bytes_back (P := P) w src dst T ⟨g, 0, none⟩ cap (l.map UInt8.ofNat) hs he hd (fun j hj => by
    rw [List.length_map] at hj
    rw [Go.WideShapes.add_plain, Nat.zero_add, h.cell hj, List.getElem_map, List.getD_eq_getElem?_getD, List.getElem?_eq_getElem hj]
    have := hl l[j] (List.getElem_mem _)
    rw [UInt8.toNat_ofNat']
    simp only [Option.getD_some]
    congr 2
    omega)
  rw [List.length_map] at this
  exact this
end
end Go.Proofs.YtmohlhnifkmcbaaDoor.Crc
