/- The examples that every law of layer 2 asks beside its own sentence. -/
import Derived.Test.YtbdcinecdigjgaaRefSplit2
import Derived.Test.YtbdcinecdigjgaaMerge2
namespace Go.Proofs.Ytbdcinecdigjgaa.Law2
open Go.ChangeShapes Go.WideShapes Go.ChangeAt Go.RowKit Bits Money Slice Law Stable Share

theorem merge_law : MergeLaw := fun E lt c R F cap g n W o hc hn => merge_all E lt c R o F cap g n W hc hn

theorem ints_lit (w : World) (T : TypeId) (k : IntKind) (zs : List Int) (hl : zs.length ≤ 9223372036854775807) :
    Ints (w.alloc (.cells (zs.map (Value.int k)).toArray T)) (w.alloc (.cells (zs.map (Value.int k)).toArray T)).heap.size k (.slice (some ⟨w.heap.size, 0, none⟩) zs.length zs.length) zs := by
  refine ⟨some ⟨w.heap.size, 0, none⟩, zs.length, rfl, hl, fun h => (by cases h), fun h0 => ⟨w.heap.size, 0, rfl, by simp, fun i hi => ?_⟩⟩
  rw [World.cell?_alloc_new]
  simp [List.getD_eq_getElem?_getD, hi]

theorem wake_outL (Q : Nat → Nat) (h : Places 10 3 [1, 1, 1] Q) : outL 10 3 [1, 1, 1] Q = [4, 3, 3] := by
  have e : rsL 10 3 [1, 1, 1] = [1, 1, 1] := by decide
  have hs := h.srt
  rw [e] at hs
  have lt : ∀ i j, i < 3 → j < 3 → ordR [1, 1, 1] i j → i < j := by
    intro i j hi hj ho
    unfold ordR at ho
    have hg : ∀ i, i < 3 → ([1, 1, 1] : List Int).getD i 0 = 1 := by
      intro i hi
      match i, hi with
      | 0, _ => rfl
      | 1, _ => rfl
      | 2, _ => rfl
    rw [hg i hi, hg j hj] at ho
    omega
  have b0 : Q 0 < 3 := place_lt h.re (i := 0) (by decide)
  have b1 : Q 1 < 3 := place_lt h.re (i := 1) (by decide)
  have b2 : Q 2 < 3 := place_lt h.re (i := 2) (by decide)
  have l1 := lt _ _ b0 b1 (hs 0 1 (by omega) (by omega) (by decide))
  have l2 := lt _ _ b1 b2 (hs 1 2 (by omega) (by omega) (by decide))
  have q0 : Q 0 = 0 := by omega
  have hl : (lft 10 3 (wt [1, 1, 1]) ([1, 1, 1] : List Int).length).toNat = 1 := by decide
  have hb : ∀ i, bump Q 1 i = if i = 0 then 1 else 0 := by
    intro i
    by_cases hi : i = Q 0
    · rw [hi, bump_here, if_pos q0]
    · rw [bump_other hi, bump_zero, if_neg (by omega)]
  have o : ∀ i, outS 10 3 (wt [1, 1, 1]) ([1, 1, 1] : List Int).length Q i = quo 10 3 (wt [1, 1, 1]) i + if i = 0 then 1 else 0 := by
    intro i
    unfold outS
    rw [hl, hb]
  have hm : outL 10 3 [1, 1, 1] Q = (List.range 3).map (fun i => quo 10 3 (wt [1, 1, 1]) i + if i = 0 then 1 else 0) := List.map_congr_left fun i _ => o i
  rw [hm]
  decide

theorem wake_split (v : Value) (w : World) (hv : Ints w w.heap.size .i64 v [1, 1, 1]) :
    Calls Try.prog 9 #[.int .i64 10, v] w fun e w' => ∃ u, e = .returned (.tuple #[u, .int .i64 0]) ∧ Ints w' w'.heap.size .i64 u [4, 3, 3] ∧ Below w.heap.size w w' :=
  (split_yes merge_law 10 3 [1, 1, 1] v w hv (by decide) (by decide) (by decide)).mono fun e w' h => by
    obtain ⟨Q, u, he, hp, hi, hb⟩ := h
    rw [wake_outL Q hp] at hi
    exact ⟨u, he, hi, hb⟩
theorem wake_fill (v : Value) (w : World) (hv : Ints w w.heap.size .i64 v [3, 9]) :
    Calls Try.prog 12 #[.int .i64 5, v] w fun e w' => ∃ u, e = .returned (.tuple #[u, .int .i64 0, .int .i64 0]) ∧ Ints w' w'.heap.size .i64 u [3, 2] ∧ Below w.heap.size w w' :=
  (fill_any 5 [3, 9] v _ w (Nat.le_refl _) hv).mono fun e w' h => by
    obtain ⟨u, he, hi, hb⟩ := h
    rw [show fillV 5 [3, 9] = 0 from by decide, show fillE 5 [3, 9] = 0 from by decide] at he
    rw [show fillL 5 [3, 9] = [3, 2] from by decide] at hi
    exact ⟨u, he, hi, hb⟩

theorem last_two {w : World} {m T T' : Nat} {C C' : Array Value} {v : Value} {zs : List Int} (h : Ints w w.heap.size .i64 v zs) :
    Ints (((w.alloc (.cells C T)).drewN m).alloc (.cells C' T')) (((w.alloc (.cells C T)).drewN m).alloc (.cells C' T')).heap.size .i64 v zs :=
  (((h.alloc (Nat.le_refl _) (.cells C T)).drewN m).alloc (by simp) (.cells C' T')).more (by simp; omega)

set_option maxHeartbeats 400000 in
theorem wakes_any (w : World) : Calls Try.prog 8 #[] w fun e w' => e = .returned (.bool true) ∧ Below w.heap.size w w' := by
  go_enter Try.func8, Try.ntmps8
  go_wp2_with fail
  refine (wake_split _ _ (ints_lit w 2 .i64 [1, 1, 1] (by decide))).mono ?_
  rintro e w1 ⟨u1, rfl, hi1, hb1⟩
  obtain ⟨A1, c1, rfl, -, -, -⟩ := id hi1
  have H1 := Lib.hid hi1
  have B1 := Lib.hid (below_new (Below.refl _ _) _ |>.trans (hb1.mono (by simp)) : Below w.heap.size w w1)
  clear hi1 hb1
  go_wp2_with fail
  refine (wake_fill _ _ (ints_lit w1 2 .i64 [3, 9] (by decide))).mono ?_
  rintro e w2 ⟨u2, rfl, hi2, hb2⟩
  obtain ⟨A2, c2, rfl, -, -, -⟩ := id hi2
  have H2 := Lib.hid hi2
  have G1 := Lib.hid (((H1.out.alloc (Nat.le_refl _) _).below (hb2.mono (by simp))).more (Nat.le_trans (by simp) hb2.size) : Ints w2 w2.heap.size .i64 (.slice A1 [4, 3, 3].length c1) [4, 3, 3])
  have B2 := Lib.hid (below_via (below_new B1.out _) hb2 : Below w.heap.size w w2)
  clear hi2 hb2
  go_wp2_with fail
  have k1 := longs_same [4, 3, 3] (.slice A1 3 c1) (.slice (some ⟨w2.heap.size, 0, none⟩) 3 3) _ (w2.alloc (.cells #[.int .i64 4, .int .i64 3, .int .i64 3] 2)) ((G1.out.alloc (Nat.le_refl _) (.cells #[.int .i64 4, .int .i64 3, .int .i64 3] 2)).more (by simp)) (ints_lit w2 2 .i64 [4, 3, 3] (by decide))
  refine k1.mono ?_
  clear k1
  rintro e w3 ⟨rfl, m, rfl⟩
  go_wp2_with fail
  have k2 := longs_same [3, 2] (.slice A2 2 c2) (.slice (some ⟨w2.heap.size + 1, 0, none⟩) 2 2) _ (((w2.alloc (.cells #[.int .i64 4, .int .i64 3, .int .i64 3] 2)).drewN m).alloc (.cells #[.int .i64 3, .int .i64 2] 2)) (last_two H2.out) (by
    have h := ints_lit ((w2.alloc (.cells #[.int .i64 4, .int .i64 3, .int .i64 3] 2)).drewN m) 2 .i64 [3, 2] (by decide)
    have e : ((w2.alloc (.cells #[.int .i64 4, .int .i64 3, .int .i64 3] 2)).drewN m).heap.size = w2.heap.size + 1 := by simp
    rw [e] at h
    exact h)
  refine k2.mono ?_
  clear k2
  rintro e w4 ⟨rfl, l, rfl⟩
  go_wp2_with fail
  go_ret
  exact ⟨rfl, below_drewN (below_new (below_drewN (below_new B2.out _) _) _) _⟩
end Go.Proofs.Ytbdcinecdigjgaa.Law2
