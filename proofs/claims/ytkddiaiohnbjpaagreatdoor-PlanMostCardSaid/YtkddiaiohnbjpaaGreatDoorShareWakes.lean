/- The examples that every law of layer 2 asks beside its own sentence. -/
import Derived.Test.YtkddiaiohnbjpaaGreatDoorGRSplit
import Derived.Test.YtkddiaiohnbjpaaGreatDoorMerge2
namespace Go.Proofs.YtkddiaiohnbjpaaGreatDoor.Law2
open Go.ChangeShapes Go.WideShapes Go.ChangeAt Go.RowKit Bits Money Slice Law Stable Share

theorem merge_law : MergeLaw := fun E lt c R F cap g n W o hc hn => merge_all E lt c R o F cap g n W hc hn

theorem ints_lit (w : World) (T : TypeId) (k : IntKind) (zs : List Int) (hl : zs.length ≤ 9223372036854775807) :
    Ints (w.alloc (.cells (zs.map (Value.int k)).toArray T)) (w.alloc (.cells (zs.map (Value.int k)).toArray T)).heap.size k (.slice (some ⟨w.heap.size, 0, none⟩) zs.length zs.length) zs := by
  refine ⟨some ⟨w.heap.size, 0, none⟩, zs.length, rfl, hl, fun h => (by cases h), fun h0 => ⟨w.heap.size, 0, rfl, by simp, fun i hi => ?_⟩⟩
  rw [World.cell?_alloc_new]
  simp [List.getD_eq_getElem?_getD, hi]

theorem wake_outL (Q : Nat → Nat) (h : Places 10 3 [1, 1, 1] Q) : outL 10 3 [1, 1, 1] Q = [4, 3, 3] := by
  have e : rsL 10 3 [1, 1, 1] = [1, 1, 1] := by decide
  have hs := h.srt
  rw [e] at hs
  have lt : ∀ i j, i < 3 → j < 3 → ordR [1, 1, 1] i j → i < j := by
    intro i j hi hj ho
    unfold ordR at ho
    have hg : ∀ i, i < 3 → ([1, 1, 1] : List Int).getD i 0 = 1 := by
      intro i hi
      match i, hi with
      | 0, _ => rfl
      | 1, _ => rfl
      | 2, _ => rfl
    rw [hg i hi, hg j hj] at ho
    omega
  have b0 : Q 0 < 3 := place_lt h.re (i := 0) (by decide)
  have b1 : Q 1 < 3 := place_lt h.re (i := 1) (by decide)
  have b2 : Q 2 < 3 := place_lt h.re (i := 2) (by decide)
  have l1 := lt _ _ b0 b1 (hs 0 1 (by omega) (by omega) (by decide))
  have l2 := lt _ _ b1 b2 (hs 1 2 (by omega) (by omega) (by decide))
  have q0 : Q 0 = 0 := by omega
  have hl : (lft 10 3 (wt [1, 1, 1]) ([1, 1, 1] : List Int).length).toNat = 1 := by decide
  have hb : ∀ i, bump Q 1 i = if i = 0 then 1 else 0 := by
    intro i
    by_cases hi : i = Q 0
    · rw [hi, bump_here, if_pos q0]
    · rw [bump_other hi, bump_zero, if_neg (by omega)]
  have o : ∀ i, outS 10 3 (wt [1, 1, 1]) ([1, 1, 1] : List Int).length Q i = quo 10 3 (wt [1, 1, 1]) i + if i = 0 then 1 else 0 := by
    intro i
    unfold outS
    rw [hl, hb]
  have hm : outL 10 3 [1, 1, 1] Q = (List.range 3).map (fun i => quo 10 3 (wt [1, 1, 1]) i + if i = 0 then 1 else 0) := List.map_congr_left fun i _ => o i
  rw [hm]
  decide

theorem wake_split (v : Value) (w : World) (hv : Ints w w.heap.size .i64 v [1, 1, 1]) :
    Calls Tryz.prog 81 #[.int .i64 10, v] w fun e w' => ∃ u, e = .returned (.tuple #[u, .int .i64 0]) ∧ Ints w' w'.heap.size .i64 u [4, 3, 3] ∧ Below w.heap.size w w' :=
  (split_yes merge_law 10 3 [1, 1, 1] v w hv (by decide) (by decide) (by decide)).mono fun e w' h => by
    obtain ⟨Q, u, he, hp, hi, hb⟩ := h
    rw [wake_outL Q hp] at hi
    exact ⟨u, he, hi, hb⟩
theorem last_two {w : World} {m T T' : Nat} {C C' : Array Value} {v : Value} {zs : List Int} (h : Ints w w.heap.size .i64 v zs) :
    Ints (((w.alloc (.cells C T)).drewN m).alloc (.cells C' T')) (((w.alloc (.cells C T)).drewN m).alloc (.cells C' T')).heap.size .i64 v zs :=
  (((h.alloc (Nat.le_refl _) (.cells C T)).drewN m).alloc (by simp) (.cells C' T')).more (by simp; omega)

end Go.Proofs.YtkddiaiohnbjpaaGreatDoor.Law2
