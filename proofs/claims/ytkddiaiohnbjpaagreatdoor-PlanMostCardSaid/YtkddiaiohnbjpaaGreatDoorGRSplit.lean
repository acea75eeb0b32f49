/- What the document's own Fill tells, at any total and any rooms. What the document's own Split tells, at any total and any weights. What the document's own Split tells where it can share out. -/
import Derived.Test.YtkddiaiohnbjpaaGreatDoorGSplit
import Derived.Handy
import Derived.Test.YtkddiaiohnbjpaaGreatDoorGA
import Derived.Test.YtkddiaiohnbjpaaGreatDoorGNum
import Derived.Deep.DeepCutAuto
namespace Go.Proofs.YtkddiaiohnbjpaaGreatDoor.Share
open Go.ChangeShapes Go.WideShapes Go.ChangeAt Go.RowKit Bits Money Slice Law

def RFills (t : Int) (zs : List Int) (w : World) (e : Ending) (w' : World) : Prop :=
  ∃ v, e = .returned (.tuple #[.agg #[v, .int .i64 (fillV t zs)], .int .i64 (fillE t zs)]) ∧ Ints w' w'.heap.size .i64 v (fillL t zs) ∧ Below w.heap.size w w'

theorem fillOff {t : Int} {zs : List Int} (h : fitB t zs = false) : fillV t zs = 0 ∧ fillE t zs = 1 ∧ fillL t zs = [] := by
  unfold fillV fillE fillL; rw [h]; exact ⟨rfl, rfl, rfl⟩
theorem fillOn {t : Int} {zs : List Int} (h : fitB t zs = true) : fillV t zs = fRest t zs zs.length ∧ fillE t zs = 0 ∧ fillL t zs = fParts t zs := by
  unfold fillV fillE fillL; rw [h]; exact ⟨rfl, rfl, rfl⟩

theorem fRest_to {t : Int} {zs : List Int} (ht : okB t = true) : ∀ j, OkTo zs j → 0 ≤ fRest t zs j ∧ fRest t zs j ≤ 10000000000000
  | 0, _ => (okB_iff t).1 ht
  | j + 1, hj => by
    have ih := fRest_to ht j (fun i hi => hj i (by omega))
    have hz := (okB_iff _).1 (hj j (by omega))
    rw [fRest_succ]
    unfold fPart
    omega
def two (u v : Value) (i : Nat) : Value := if i = 0 then u else v
theorem row_two (w : World) (t : TypeId) (u v : Value) : (w.alloc (.cells #[u, v] t)).rowIs w.heap.size t 2 (two u v) :=
  World.rowIs_alloc w #[u, v] t _ fun i hi => by
    match i, hi with
    | 0, _ => rfl
    | 1, _ => rfl
theorem own_shape {w : World} {base n : Nat} {e : TypeId} {v : Value} {xs : List Value} (h : w.ownsRow base e 1 v n xs) : ∃ A c, v = .slice A n c := by
  rcases h.2 with ⟨rfl, rfl⟩ | ⟨g, cap, cur, rfl, -⟩
  · exact ⟨none, 0, rfl⟩
  · exact ⟨_, _, rfl⟩
theorem one_cell (w : World) (u : Value) (T : TypeId) : ∀ k y, [u][k]? = some y → (w.alloc (.cells #[u] T)).cell? ((⟨w.heap.size, 0, none⟩ : Addr).add k) = some y := by
  intro k y h
  match k, h with
  | 0, h =>
    injection h with h
    subst h
    simp [Addr.add]
theorem one_one (k : IntKind) (x : Int) : ∀ u ∈ [Value.int k x], u.oneCell' = true := by
  intro u hu
  rw [List.mem_singleton] at hu
  subst hu
  rfl
section
variable {t : Int} {zs : List Int} {w wr w3 : World} {j m T : Nat} {u v3 q : Value}
end
end Go.Proofs.YtkddiaiohnbjpaaGreatDoor.Share
namespace Go.Proofs.YtkddiaiohnbjpaaGreatDoor.Share
open Go.ChangeShapes Go.WideShapes Go.ChangeAt Go.RowKit Bits Money Slice Law Stable

/-- By what sum is shared out, if it can be. -/
def splitS (t : Int) (zs : List Int) : Option Int := if fitB t zs = true ∧ psum zs ≠ some 0 then psum zs else none
theorem splitS_some {t s : Int} {zs : List Int} (h : splitS t zs = some s) : fitB t zs = true ∧ psum zs = some s ∧ s ≠ 0 := by
  unfold splitS at h
  by_cases hc : fitB t zs = true ∧ psum zs ≠ some 0
  · rw [if_pos hc] at h
    exact ⟨hc.1, h, fun e => hc.2 (by rw [h, e])⟩
  · rw [if_neg hc] at h; cases h
theorem splitS_none {t : Int} {zs : List Int} (h : splitS t zs = none) : fitB t zs = false ∨ (fitB t zs = true ∧ psum zs = none) ∨ (fitB t zs = true ∧ psum zs = some 0) := by
  unfold splitS at h
  cases hf : fitB t zs with
  | false => exact Or.inl rfl
  | true =>
    rw [hf] at h
    by_cases hp : psum zs = some 0
    · exact Or.inr (Or.inr ⟨rfl, hp⟩)
    · rw [if_pos ⟨rfl, hp⟩] at h
      exact Or.inr (Or.inl ⟨rfl, h⟩)
theorem split_not (t : Int) (zs : List Int) (v : Value) (w : World) (hv : Ints w w.heap.size .i64 v zs) (h : splitS t zs = none) :
    Calls Tryz.prog 81 #[.int .i64 t, v] w (SplitNot w) := by
  rcases splitS_none h with h | ⟨h, hp⟩ | ⟨h, hp⟩
  · exact split_unfit t zs v _ w hv h
  · exact split_none t zs v w hv h hp
  · exact split_zero t zs v w hv h hp

/-- The sum so far, while it can be. -/
def SumTo (zs : List Int) (j : Nat) (x : Int) : Prop := OkTo zs j ∧ psum (zs.take j) = some x ∧ 0 ≤ x ∧ x ≤ 10000000000000
theorem sumTo_zero (zs : List Int) : SumTo zs 0 0 := ⟨okTo_zero zs, rfl, by omega, by omega⟩
theorem sumTo_succ {zs : List Int} {j : Nat} {x z : Int} (hj : j < zs.length) (h : SumTo zs j x) (hz : zs.getD j 0 = z) (h1 : okB z = true) (h2 : okB (x + z) = true) : SumTo zs (j + 1) (x + z) := by
  subst hz
  obtain ⟨a, b, c, d⟩ := h
  obtain ⟨e, f⟩ := (okB_iff _).1 h1
  obtain ⟨g, i⟩ := (okB_iff _).1 h2
  exact ⟨okTo_succ a h1, by rw [psum_step hj b]; exact plusO_some ⟨(goodB_iff _).2 ⟨by omega, by omega⟩, (goodB_iff _).2 ⟨by omega, by omega⟩, (goodB_iff _).2 ⟨by omega, by omega⟩⟩, g, i⟩
theorem sumTo_bad {t : Int} {zs : List Int} {j : Nat} (hj : j < zs.length) (h : okB (zs.getD j 0) = false) : splitS t zs = none := by
  unfold splitS
  rw [if_neg]
  rintro ⟨h1, -⟩
  obtain ⟨-, -, h3⟩ := (fitB_iff _ _).1 h1
  rw [(allB_to zs).1 h3 j hj] at h; cases h
theorem sumTo_over {t : Int} {zs : List Int} {j : Nat} {x z : Int} (hj : j < zs.length) (hs : SumTo zs j x) (hz : zs.getD j 0 = z) (h1 : okB z = true) (h : okB (x + z) = false) : splitS t zs = none := by
  subst hz
  obtain ⟨a, b, c, d⟩ := hs
  obtain ⟨e, f⟩ := (okB_iff _).1 h1
  have hp : psum zs = none := by
    refine psum_none (j := j + 1) ?_
    rw [psum_step hj b]
    refine plusO_none fun hg => ?_
    have := (goodB_iff _).1 hg.2.2
    unfold okB at h
    have := of_decide_eq_false h
    omega
  unfold splitS
  by_cases hc : fitB t zs = true ∧ psum zs ≠ some 0
  · rw [if_pos hc, hp]
  · rw [if_neg hc]
theorem sumTo_end {t : Int} {zs : List Int} {x : Int} (ht : okB t = true) (hl : zs.length ≤ 1000) (hs : SumTo zs zs.length x) : fitB t zs = true ∧ psum zs = some x := by
  obtain ⟨a, b, -, -⟩ := hs
  rw [List.take_length] at b
  exact ⟨(fitB_iff _ _).2 ⟨hl, ht, (allB_to zs).2 a⟩, b⟩

def RSplitNot (w : World) (e : Ending) (w' : World) : Prop := e = .returned (.tuple #[.slice none 0 0, .int .i64 1]) ∧ w = w'

set_option maxRecDepth 100000 in
set_option maxHeartbeats 1000000 in
theorem rsplit_not (t : Int) (zs : List Int) (v : Value) (B : Nat) (w : World) (hv : Ints w B .i64 v zs) (h : splitS t zs = none) :
    Calls Tryz.prog 83 #[.int .i64 t, v] w (RSplitNot w) := by
  obtain ⟨A, c, rfl, hl, hn, hc⟩ := hv
  have HC := Lib.hid hc
  have HS := Lib.hid h
  clear hn hc h
  cases ht : okB t with
  | false =>
    have HT := Lib.hid ht
    clear ht
    go_enter Tryz.func83, Tryz.ntmps83
    go_wp2_with fail
    refine (rgood_any _ _).mono ?_
    rw [HT.out]
    rintro e w' ⟨rfl, rfl⟩
    go_wp2_with fail
    go_ret2
    exact ⟨rfl, rfl⟩
  | true =>
    have HT := Lib.hid ht
    clear ht
    by_cases h1 : zs.length < 1
    · go_enter Tryz.func83, Tryz.ntmps83
      go_wp2_with fail
      refine (rgood_any _ _).mono ?_
      rw [HT.out]
      rintro e w' ⟨rfl, rfl⟩
      have h2 : (zs.length : Int) < 1 := by omega
      go_wp2_with fail
      go_ret2
      exact ⟨rfl, rfl⟩
    · by_cases h3 : 1000 < zs.length
      · go_enter Tryz.func83, Tryz.ntmps83
        go_wp2_with fail
        refine (rgood_any _ _).mono ?_
        rw [HT.out]
        rintro e w' ⟨rfl, rfl⟩
        have h4 : ¬ (zs.length : Int) < 1 := by omega
        have h5 : (1000 : Int) < zs.length := by omega
        go_wp2_with fail
        go_ret2
        exact ⟨rfl, rfl⟩
      · go_enter Tryz.func83, Tryz.ntmps83
        go_wp2_with fail
        refine (rgood_any _ _).mono ?_
        rw [HT.out]
        rintro e w' ⟨rfl, rfl⟩
        have h4 : ¬ (zs.length : Int) < 1 := by omega
        have h5 : ¬ (1000 : Int) < zs.length := by omega
        go_wp2_with fail
        clear h4 h5
        go_loop [6, 7] (fun x y => ∃ (j : Nat) (a : Int), j ≤ zs.length ∧ y = .int .i64 j ∧ x = .int .i64 a ∧ Hid (SumTo zs j a) ∧ 0 ≤ a ∧ a ≤ 10000000000000) (fun _ y => zs.length - (intOf y).toNat)
        case atStart => exact ⟨0, 0, Nat.zero_le _, rfl, rfl, sumTo_zero zs, by omega, by omega⟩
        case round =>
          obtain ⟨j, a, hj, rfl, rfl, HA, a0, a1⟩ := hrel
          by_cases hlt : j < zs.length
          · obtain ⟨b, off, rfl, hb, hcell⟩ := HC.out (by omega)
            have hx := hcell j hlt
            have HB := fun h => Lib.hid (sumTo_succ hlt HA.out rfl h)
            clear hcell
            generalize hz : zs.getD j 0 = z at *
            have HZ := Lib.hid hz
            clear hz
            cases ho : okB z with
            | false =>
              have HO := Lib.hid ho
              clear HB ho
              go_wp2_with fail
              refine (rgood_any _ _).mono ?_
              rw [HO.out]
              rintro e w' ⟨rfl, rfl⟩
              go_wp2_with fail
              go_ret2
              exact ⟨rfl, rfl⟩
            | true =>
              have HB' := HB ho
              obtain ⟨z0, z1⟩ := (okB_iff z).1 ho
              have HO := Lib.hid ho
              clear HB ho
              cases hs : okB (a + z) with
              | false =>
                have HSum := Lib.hid hs
                clear HB' hs
                go_wp2_with fail
                refine (rgood_any _ _).mono ?_
                rw [HO.out]
                rintro e w' ⟨rfl, rfl⟩
                go_wp2_with fail
                refine (rgood_any _ _).mono ?_
                rw [HSum.out]
                rintro e w' ⟨rfl, rfl⟩
                go_wp2_with fail
                go_ret2
                exact ⟨rfl, rfl⟩
              | true =>
                have HA' := Lib.hid (HB'.out hs)
                obtain ⟨s0, s1⟩ := (okB_iff _).1 hs
                have HSum := Lib.hid hs
                clear HB' hs
                go_wp2_with fail
                refine (rgood_any _ _).mono ?_
                rw [HO.out]
                rintro e w' ⟨rfl, rfl⟩
                go_wp2_with fail
                refine (rgood_any _ _).mono ?_
                rw [HSum.out]
                rintro e w' ⟨rfl, rfl⟩
                go_wp2_with fail
                go_round
                case rel => exact ⟨j + 1, a + z, hlt, by go_num, rfl, HA'.out, s0, s1⟩
                case measure => simp [intOf]; omega
          · obtain rfl : j = zs.length := by omega
            obtain ⟨e1, e2⟩ := sumTo_end HT.out (by omega) HA.out
            have a2 : a = 0 := by
              have hn := HS.out
              unfold splitS at hn
              by_cases hc : fitB t zs = true ∧ psum zs ≠ some 0
              · rw [if_pos hc, e2] at hn; cases hn
              · by_cases z : a = 0
                · exact z
                · exact absurd ⟨e1, by rw [e2]; intro h; injection h with h; exact z h⟩ hc
            subst a2
            clear e1 e2
            go_wp2_with fail
            go_ret2
            exact ⟨rfl, rfl⟩
end Go.Proofs.YtkddiaiohnbjpaaGreatDoor.Share
namespace Go.Proofs.YtkddiaiohnbjpaaGreatDoor.Share
open Go.ChangeShapes Go.WideShapes Go.ChangeAt Go.RowKit Bits Money Slice Law Stable

theorem sum_ok {zs : List Int} {s a : Int} {j : Nat} (hall : allB zs = true) (hp : psum zs = some s) (s0 : 0 < s) (s1 : s ≤ 10000000000000) (hj : j < zs.length) (h : SumTo zs j a) : okB (a + zs.getD j 0) = true := by
  have hw : ∀ i, i < zs.length → 0 ≤ wt zs i := fun i hi => (ok_at hall hi).1
  have e1 : a = pre (wt zs) j := psum_pre zs j a (by omega) h.2.1
  have e2 : s = pre (wt zs) zs.length := psum_pre zs _ s (Nat.le_refl _) (by rw [List.take_length]; exact hp)
  have e3 := pre_mono (j := j + 1) hw hj
  have e4 : pre (wt zs) (j + 1) = pre (wt zs) j + zs.getD j 0 := pre_succ _ _
  have e5 : 0 ≤ zs.getD j 0 := hw j hj
  obtain ⟨-, -, c, d⟩ := h
  exact (okB_iff _).2 ⟨by omega, by omega⟩

/-- The quotients and the rests so far. -/
structure AState (t s : Int) (zs : List Int) (w : World) (j k : Nat) (u v : Value) (wr : World) : Prop where
  below : Below w.heap.size w wr
  out : wr.ownsRow w.heap.size 2 1 u j ((List.range j).map fun i => .int .i64 (quo t s (wt zs) i))
  rests : wr.ownsRow w.heap.size 116 1 v k ((List.range k).map fun i => .int .u64 (rst t s (wt zs) i))
section
variable {t s : Int} {zs : List Int} {w wr w' : World} {j k : Nat} {u v u' v' : Value}
theorem aState_start (t s : Int) (zs : List Int) (w : World) : AState t s zs w 0 0 (.slice none 0 0) (.slice none 0 0) w := ⟨Below.refl _ _, World.ownsRow_nil _ _ _ _, World.ownsRow_nil _ _ _ _⟩
theorem aState_below (h : AState t s zs w j k u v wr) (hb : Below wr.heap.size wr w') : AState t s zs w j k u v w' :=
  ⟨below_via h.below hb, h.out.kept (grown_below hb none) (by cases hu : u.ownBlock <;> simp), h.rests.kept (grown_below hb none) (by cases hu : v.ownBlock <;> simp)⟩
theorem own_next {f : Nat → Value} {j : Nat} : (List.range (j + 1)).map f = (List.range j).map f ++ [f j] := by rw [List.range_succ, List.map_append]; rfl
theorem aState_out {q : Int} (h : AState t s zs w j k u v wr) (hq : quo t s (wt zs) j = q) (ho : w'.ownsRow w.heap.size 2 1 u' (j + 1) (((List.range j).map fun i => .int .i64 (quo t s (wt zs) i)) ++ [.int .i64 q])) (hg : wr.grownBy w' u.ownBlock) :
    AState t s zs w (j + 1) k u' v w' := by
  subst hq
  exact ⟨h.below.grown hg h.below.size fun g hg => (h.out.lt g hg).1, by rw [own_next]; exact ho, h.rests.kept hg (own_apart h.rests h.out (by decide))⟩
theorem aState_rest {r : Int} (h : AState t s zs w j k u v wr) (hr : rst t s (wt zs) k = r) (ho : w'.ownsRow w.heap.size 116 1 v' (k + 1) (((List.range k).map fun i => .int .u64 (rst t s (wt zs) i)) ++ [.int .u64 r])) (hg : wr.grownBy w' v.ownBlock) :
    AState t s zs w j (k + 1) u v' w' := by
  subst hr
  exact ⟨h.below.grown hg h.below.size fun g hg => (h.rests.lt g hg).1, h.out.kept hg (own_apart h.out h.rests (by decide)), by rw [own_next]; exact ho⟩
/-- A block that was laid behind the rows reads as it did behind an append. -/
theorem laid_out {C : Array Value} {T : TypeId} {w2 : World} (h : AState t s zs w j k u v w2) (hg : (w2.alloc (.cells C T)).grownBy w' u.ownBlock) (i : Nat) : w'.cell? ⟨w2.heap.size, i, none⟩ = C[i]? :=
  (World.cell?_of_block (w := w2.alloc (.cells C T)) (hg.block w2.heap.size (by simp) (fun e => by have := (h.out.lt _ e.symm).2; omega))).trans (World.cell?_alloc_new _ _ _ _)
theorem laid_rest {C : Array Value} {w2 w3 : World} {u0 v0 : Value} (h : AState t s zs w j k u0 v0 w2) (hc : ∀ i : Nat, w3.cell? ⟨w2.heap.size, i, none⟩ = C[i]?) (hl : w2.heap.size < w3.heap.size) (hg : w3.grownBy w' v0.ownBlock) (i : Nat) : w'.cell? ⟨w2.heap.size, i, none⟩ = C[i]? :=
  (World.cell?_of_block (w := w3) (hg.block w2.heap.size hl (fun e => by have := (h.rests.lt _ e.symm).2; omega))).trans (hc i)
end

/-- Ahead of round k of the cents that are left over. -/
structure GState (t s : Int) (zs : List Int) (Q : Nat → Nat) (w : World) (g8 g9 gq k : Nat) (wr : World) : Prop where
  below : Below w.heap.size w wr
  out : Over wr g8 2 zs.length (bumpRow (quo t s (wt zs)) Q k)
  rests : Over wr g9 116 zs.length (fun i => .int .u64 (rst t s (wt zs) i))
  got : Over wr gq 144 zs.length (fun i => .bool (chosen Q k i))
  b8 : w.heap.size ≤ g8
  bq : w.heap.size ≤ gq
section
variable {t s : Int} {zs : List Int} {Q : Nat → Nat} {w wr : World} {g8 g9 gq k : Nat}
theorem GState.drewN (h : GState t s zs Q w g8 g9 gq k wr) (m : Nat) : GState t s zs Q w g8 g9 gq k (wr.drewN m) := ⟨below_drewN h.below m, h.out, h.rests, h.got, h.b8, h.bq⟩
theorem GState.step {p : Nat} {q : Int} (h : GState t s zs Q w g8 g9 gq k wr) (hp : Q k = p) (hq : quo t s (wt zs) p = q) :
    GState t s zs Q w g8 g9 gq (k + 1) ((wr.setCell ⟨gq, p, none⟩ (.bool true)).setCell ⟨g8, p, none⟩ (.int .i64 (q + 1))) := by
  subst hp hq
  have n1 : g8 ≠ gq := h.out.apart h.got (by decide)
  have n2 : g9 ≠ gq := h.rests.apart h.got (by decide)
  have n3 : g9 ≠ g8 := h.rests.apart h.out (by decide)
  refine ⟨(h.below.setCell h.bq _).setCell h.b8 _, (h.out.other (by exact n1) _).set _ _ fun i _ => ?_, (h.rests.other (by exact n2) _).other (by exact n3) _, (h.got.set _ _ fun i _ => ?_).other (by exact n1.symm) _, h.b8, h.bq⟩
  · unfold bumpRow
    by_cases e : i = Q k
    · subst e; rw [if_pos rfl, bump_here]
    · rw [if_neg e, bump_other e]
  · by_cases e : i = Q k
    · subst e
      rw [if_pos rfl, (chosen_iff _ _ _).2 ⟨k, by omega, rfl⟩]
    · rw [if_neg e]
      congr 1
      rw [Bool.eq_iff_iff, chosen_iff, chosen_iff]
      constructor
      · rintro ⟨j, hj, e1⟩
        refine ⟨j, ?_, e1⟩
        by_cases z : j = k
        · subst z; exact absurd e1.symm e
        · omega
      · rintro ⟨j, hj, e1⟩
        exact ⟨j, by omega, e1⟩
theorem gState_start {u v : Value} {C : Array Value} (h : AState t s zs w zs.length zs.length u v wr) (hn : 0 < zs.length) (hl : zs.length ≤ 1000) (h1 : C.size = 1000) (h2 : ∀ i, i < 1000 → C[i]? = some (.bool false)) :
    ∃ g8 g9 c8 c9, u = .slice (some ⟨g8, 0, none⟩) zs.length c8 ∧ v = .slice (some ⟨g9, 0, none⟩) zs.length c9 ∧ GState t s zs Q w g8 g9 wr.heap.size 0 (wr.alloc (.cells C 144)) := by
  obtain ⟨g8, c8, rfl, e1, e2⟩ := Over.of_own (X := fun i => .int .i64 (quo t s (wt zs) i)) h.out hn (fun i hi => by simp [hi])
  obtain ⟨g9, c9, rfl, e3, e4⟩ := Over.of_own (X := fun i => .int .u64 (rst t s (wt zs) i)) h.rests hn (fun i hi => by simp [hi])
  refine ⟨g8, g9, c8, c9, rfl, rfl, below_new h.below _, (e2.alloc _).congr fun i _ => ?_, e4.alloc _, ⟨1000, fun i => .bool false, hl, ?_, fun i _ => rfl⟩, e1, h.below.size⟩
  · unfold bumpRow; rw [bump_zero, Int.add_zero]
  · have := World.rowIs_alloc wr C 144 (fun i => .bool false) (fun i hi => h2 i (by omega))
    rw [h1] at this; exact this
theorem gState_end {L c : Nat} (h : GState t s zs Q w g8 g9 gq L wr) (hL : lft t s (wt zs) zs.length = L) (hm : zs.length ≤ 9223372036854775807) :
    Ints wr wr.heap.size .i64 (.slice (some ⟨g8, 0, none⟩) zs.length c) (outL t s zs Q) :=
  h.out.ints (by simp [outL]) hm (fun i hi => by
    have e : (outL t s zs Q).getD i 0 = outS t s (wt zs) zs.length Q i := by simp [outL, List.getD_eq_getElem?_getD, hi]
    rw [e]
    unfold bumpRow outS
    rw [hL]
    rfl) _
end
theorem ordR_asymm (rs : List Int) (i j : Nat) (h : ordR rs i j) (h' : ordR rs j i) : False := by unfold ordR at h h'; omega
/-- What the law says of both. -/
def RSplitYes (t s : Int) (zs : List Int) (Q : Nat → Nat) (w : World) (e : Ending) (w' : World) : Prop := ∃ v, e = .returned (.tuple #[v, .int .i64 0]) ∧ Ints w' w'.heap.size .i64 v (outL t s zs Q) ∧ Below w.heap.size w w'

set_option maxRecDepth 100000 in
set_option maxHeartbeats 1000000 in
theorem rsplit_yes (t s : Int) (zs : List Int) (Q : Nat → Nat) (hQ : Places t s zs Q) (v : Value) (w : World) (hv : Ints w w.heap.size .i64 v zs) (h : splitS t zs = some s) :
    Calls Tryz.prog 83 #[.int .i64 t, v] w (RSplitYes t s zs Q w) := by
  obtain ⟨hf, hp, hs⟩ := splitS_some h
  obtain ⟨hlen, ht, hall⟩ := (fitB_iff t zs).1 hf
  obtain ⟨hw, s1⟩ := weights_of hf hp hs
  have s0 := hw.s0
  obtain ⟨t0, t1⟩ := (okB_iff t).1 ht
  have hn1 : 0 < zs.length := by
    rcases Nat.eq_zero_or_pos zs.length with h0 | h0
    · have := hw.sum
      rw [h0, pre_zero] at this
      omega
    · exact h0
  obtain ⟨A, c, rfl, hl, hn, hc⟩ := hv
  obtain ⟨b, off, rfl, hbB, hcell⟩ := hc hn1
  have HC := Lib.hid hcell
  have HP := Lib.hid hp
  have HW := Lib.hid hw
  have HQ := Lib.hid hQ
  have HT := Lib.hid ht
  have HAll := Lib.hid hall
  have hsb : (s == 0) = false := by rw [beq_eq_false_iff_ne]; exact hs
  clear hn hc hcell h ht hall hp hw hs hf hQ
  go_enter Tryz.func83, Tryz.ntmps83
  go_wp2_with fail
  refine (rgood_any _ _).mono ?_
  rw [HT.out]
  rintro e w' ⟨rfl, rfl⟩
  have h4 : ¬ (zs.length : Int) < 1 := by omega
  have h5 : ¬ (1000 : Int) < zs.length := by omega
  go_wp2_with fail
  clear h4 h5
  go_loop [6, 7] (fun x y => ∃ (j : Nat) (a : Int), j ≤ zs.length ∧ y = .int .i64 j ∧ x = .int .i64 a ∧ Hid (SumTo zs j a) ∧ 0 ≤ a ∧ a ≤ 10000000000000) (fun _ y => zs.length - (intOf y).toNat)
  case atStart => exact ⟨0, 0, Nat.zero_le _, rfl, rfl, sumTo_zero zs, by omega, by omega⟩
  case round =>
    obtain ⟨j, a, hj, rfl, rfl, HA, a0, a1⟩ := hrel
    by_cases hlt : j < zs.length
    · have hx := HC.out j hlt
      have HB := fun h => Lib.hid (sumTo_succ hlt HA.out rfl h)
      have ho := (allB_to zs).1 HAll.out j hlt
      have hsm := sum_ok HAll.out HP.out s0 s1 hlt HA.out
      generalize hz : zs.getD j 0 = z at *
      have HZ := Lib.hid hz
      clear hz
      have HB' := HB ho
      obtain ⟨z0, z1⟩ := (okB_iff z).1 ho
      have HO := Lib.hid ho
      clear HB ho
      have HA' := Lib.hid (HB'.out hsm)
      obtain ⟨s2, s3⟩ := (okB_iff _).1 hsm
      have HSum := Lib.hid hsm
      clear HB' hsm
      go_wp2_with fail
      refine (rgood_any _ _).mono ?_
      rw [HO.out]
      rintro e w' ⟨rfl, rfl⟩
      go_wp2_with fail
      refine (rgood_any _ _).mono ?_
      rw [HSum.out]
      rintro e w' ⟨rfl, rfl⟩
      go_wp2_with fail
      go_round
      case rel => exact ⟨j + 1, a + z, hlt, by go_num, rfl, HA'.out, s2, s3⟩
      case measure => simp [intOf]; omega
    · obtain rfl : j = zs.length := by omega
      obtain ⟨e1, e2⟩ := sumTo_end HT.out (by omega) HA.out
      obtain rfl : s = a := by
        have := HP.out
        rw [e2] at this
        injection this with this
        exact this.symm
      clear e1 e2
      obtain ⟨i1, hi1, hz1, hz2, hz3⟩ := info_parts i64_info
      obtain ⟨i2, hi2, hy1, hy2, hy3⟩ := info_parts u64_info
      have HI1 := Lib.hid hi1
      have HZ1 := Lib.hid hz1
      have HZ2 := Lib.hid hz2
      have HZ3 := Lib.hid hz3
      have HI2 := Lib.hid hi2
      have HY1 := Lib.hid hy1
      have HY2 := Lib.hid hy2
      have HY3 := Lib.hid hy3
      clear hi1 hz1 hz2 hz3 hi2 hy1 hy2 hy3
      go_wp2_with fail
      go_loopw [8, 9, 10, 11] (fun x y z i wr => ∃ (j : Nat) (u v : Value), j ≤ zs.length ∧ i = .int .i64 j ∧ u = x ∧ v = y ∧ z = .int .i64 (t - pre (quo t s (wt zs)) j) ∧ Hid (AState t s zs w j j u v wr)) (fun _ _ _ i _ => zs.length - (intOf i).toNat)
      case atStart => exact ⟨0, _, _, Nat.zero_le _, rfl, rfl, rfl, congrArg (Value.int IntKind.i64) (by rw [pre_zero]; omega), aState_start t s zs w⟩
      case round =>
        obtain ⟨j, u, v, hj, rfl, rfl, rfl, rfl, HS⟩ := hrel
        obtain ⟨b0, b1⟩ := HW.out.pq hj
        by_cases hlt : j < zs.length
        · have hx := (HS.out.below.cell (p := ⟨b, off + j, none⟩) hbB).trans (HC.out j hlt)
          have x0 : 0 ≤ zs.getD j 0 := HW.out.w0 j hlt
          have x1 : zs.getD j 0 ≤ s := HW.out.le hlt
          have q0 := HW.out.q0 hlt
          have q1 := HW.out.q1 hlt
          have r0 := HW.out.r0 j
          have r1 := HW.out.r1 j
          have hps := pre_succ (quo t s (wt zs)) j
          have hqd : t * zs.getD j 0 / s = quo t s (wt zs) j := rfl
          have hrd : t * zs.getD j 0 % s = rst t s (wt zs) j := rfl
          have p0 : 0 ≤ t * zs.getD j 0 := Int.mul_nonneg t0 x0
          have p1 : t * zs.getD j 0 ≤ t * s := Int.mul_le_mul_of_nonneg_left x1 t0
          have p2 : t * s ≤ 10000000000000 * s := Int.mul_le_mul_of_nonneg_right t1 (by omega)
          have h0 : 0 ≤ t * zs.getD j 0 / 18446744073709551616 := Int.ediv_nonneg p0 (by omega)
          have h1 : t * zs.getD j 0 / 18446744073709551616 < s := by omega
          have l0 : 0 ≤ t * zs.getD j 0 % 18446744073709551616 := by omega
          have l1 : t * zs.getD j 0 % 18446744073709551616 ≤ 18446744073709551615 := by omega
          have HE : Hid (t * zs.getD j 0 / 18446744073709551616 * 18446744073709551616 + t * zs.getD j 0 % 18446744073709551616 = t * zs.getD j 0) := by show _ = _; omega
          have HQD := Lib.hid hqd
          have HRD := Lib.hid hrd
          clear hqd hrd p0 p1 p2
          generalize hq : quo t s (wt zs) j = q at *
          generalize hr : rst t s (wt zs) j = r at *
          have HQ' := Lib.hid hq
          have HR' := Lib.hid hr
          have HPS := Lib.hid hps
          clear hq hr hps
          generalize zs.getD j 0 = x at *
          generalize hhi : t * x / 18446744073709551616 = hi at *
          generalize hlo : t * x % 18446744073709551616 = lo at *
          have HHI := Lib.hid hhi
          have HLO := Lib.hid hlo
          clear hhi hlo
          generalize pre (quo t s (wt zs)) j = y at *
          obtain ⟨wo, rfl⟩ : ∃ wo : World, wo = wr := ⟨_, rfl⟩
          go_wp2_with fail
          refine (Ref.mul_any t x _ t0 (by omega) x0 (by omega)).mono ?_
          rw [HHI.out, HLO.out]
          rintro e w1 ⟨rfl, hb1⟩
          have HB1 := Lib.hid hb1
          clear hb1
          go_wp2_with fail
          refine (Ref.div_ok hi lo s _ h0 h1 (by omega) l0 l1).mono ?_
          rw [HE.out, HQD.out, HRD.out]
          rintro e w2 ⟨rfl, hb2⟩
          have HS2 := Lib.hid (aState_below HS.out (below_via (below_new HB1.out _) hb2))
          clear hb2
          go_wp2_with (first
            | (at_builtin
               refine Slice.wpList_append_one rfl (.tmp 82) (.tmp 86) _ rfl w.heap.size 2 i1 (.int .i64 0) 8 Tryz.underlying32 HI1.out HZ1.out HZ2.out HZ3.out rfl _ _ (.int .i64 q) rfl u j _ rfl (HS2.out.out.alloc _) _ rfl (by simp) (by unfold maxLen; omega) (by omega) (by have := HS2.out.below.size; simp; omega) ?_
               intro v3 w3 hown hgrow
               have HS3 := Lib.hid (aState_out (aState_below HS2.out (below_new (Below.refl _ _) (.cells #[.int .u64 q, .int .u64 r, .bool true] 121))) HQ'.out hown hgrow)
               have HC3 := Lib.hid (laid_out HS2.out hgrow)
               have d0 := HC3.out 0
               have d1 := HC3.out 1
               simp at d0 d1
               obtain ⟨A3, c3, rfl⟩ := own_slice hown
               have l3 : w2.heap.size < w3.heap.size := lt_of_cell d0
               clear hown hgrow)
            | (at_builtin
               refine Slice.wpList_append_one rfl (.tmp 88) (.tmp 91) _ rfl w.heap.size 116 i2 (.int .u64 0) 8 Tryz.underlying136 HI2.out HY1.out HY2.out HY3.out rfl _ _ (.int .u64 r) rfl v j _ rfl HS3.out.rests _ rfl rfl (by unfold maxLen; omega) (by omega) HS3.out.below.size ?_
               intro v4 w4 hown4 hgrow4
               have HS4 := Lib.hid (aState_rest HS3.out HR'.out hown4 hgrow4)
               have d0' := laid_rest HS2.out HC3.out l3 (v0 := v) hgrow4 0
               simp at d0'
               obtain ⟨A4, c4, rfl⟩ := own_slice hown4
               clear hown4 hgrow4 d0 d1))
          go_roundw
          case rel => exact ⟨j + 1, _, _, hlt, by go_num, rfl, rfl, congrArg (Value.int IntKind.i64) (by rw [HPS.out]; omega), HS4.out⟩
          case measure => simp [intOf]; omega
        · obtain rfl : j = zs.length := by omega
          obtain ⟨wq, rfl⟩ : ∃ wq : World, wq = wr := ⟨_, rfl⟩
          obtain ⟨l0, l1⟩ := HW.out.left_bd
          obtain ⟨L, hL⟩ : ∃ L : Nat, lft t s (wt zs) zs.length = L := ⟨(lft t s (wt zs) zs.length).toNat, by omega⟩
          have hL' : t - pre (quo t s (wt zs)) zs.length = L := hL
          have HL := Lib.hid hL
          have Ln : L ≤ zs.length := by omega
          clear l0 l1 hL b0 b1
          go_upto_region 23 with fail
          have hz : ∃ C : Array Value, C.size = 1000 ∧ (∀ i, i < 1000 → C[i]? = some (.bool false)) ∧ ∀ W : World, (zeroValue 144).run Tryz.prog W = .ok (.agg C) W := ⟨Array.replicate 1000 (.bool false), by simp, fun i hi => by simp [hi], fun W => by kernel_rfl⟩
          obtain ⟨C, hC1, hC2, hC3⟩ := hz
          have HC1 := Lib.hid hC1
          have HC2 := Lib.hid hC2
          clear hC1 hC2
          go_wp2_with fail
          clear hC3
          obtain ⟨g8, g9, c8, c9, rfl, rfl, hst⟩ := gState_start (Q := Q) HS.out hn1 hlen HC1.out HC2.out
          have HST := Lib.hid hst
          clear hst HS
          go_loopw [10] (fun x wr => ∃ k : Nat, k ≤ L ∧ x = .int .i64 ((L : Int) - k) ∧ Hid (GState t s zs Q w g8 g9 wq.heap.size k wr)) (fun x _ => (intOf x).toNat)
          case atStart => exact ⟨0, Nat.zero_le _, congrArg (Value.int IntKind.i64) (by rw [hL']; omega), HST.out⟩
          case round =>
            obtain ⟨k, hk, rfl, HG⟩ := hrel
            clear hL' HST
            by_cases hkl : k < L
            · have hpos : (0 : Int) < (L : Int) - k := by omega
              obtain ⟨wo, rfl⟩ : ∃ wo : World, wo = wr := ⟨_, rfl⟩
              go_wp2_with fail
              go_loopw [15, 16] (fun y z wr => ∃ (m : Nat) (x : Int), m ≤ zs.length ∧ z = .int .i64 m ∧ y = .int .i64 x ∧ Hid (Best (ordR (rsL t s zs)) Q k m x) ∧ Hid (GState t s zs Q w g8 g9 wq.heap.size k wr)) (fun _ z _ => zs.length - (intOf z).toNat)
              case atStart => exact ⟨0, -1, Nat.zero_le _, rfl, rfl, best_zero _ _ _, HG.out⟩
              case round =>
                obtain ⟨m, x, hm, rfl, rfl, HB, HG'⟩ := hrel
                clear HG
                by_cases hml : m < zs.length
                · have cg := HG'.out.got.cell hml
                  have cr := HG'.out.rests.cell hml
                  have m0 : (0 : Int) ≤ m := by omega
                  have m1 : (m : Int) < zs.length := by omega
                  have m2 : (m : Int) < 1000 := by omega
                  cases hch : chosen Q k m with
                  | true =>
                    have HB' := Lib.hid (best_pass HB.out hch)
                    rw [hch] at cg
                    clear hch
                    go_wp2_with fail
                    go_quiet (fail)
                    go_wp2_with fail
                    go_roundw
                    case rel => exact ⟨m + 1, x, hml, by go_num, rfl, HB'.out, HG'.out.drewN _⟩
                    case measure => simp [intOf]; omega
                  | false =>
                    rw [hch] at cg
                    rcases best_bd HB.out with rfl | ⟨c, rfl, hcm⟩
                    · have HB' := Lib.hid (best_first HB.out hch)
                      clear hch
                      go_wp2_with fail
                      go_quiet (fail)
                      go_wp2_with fail
                      go_roundw
                      case rel => exact ⟨m + 1, m, hml, by go_num, rfl, HB'.out, HG'.out.drewN _⟩
                      case measure => simp [intOf]; omega
                    · have cc := HG'.out.rests.cell (i := c) (by omega)
                      have e1 := rsL_at t s zs hml
                      have e2 := rsL_at t s zs (i := c) (by omega)
                      have c0 : (0 : Int) ≤ c := by omega
                      have c1 : (c : Int) < zs.length := by omega
                      have hneg : decide ((c : Int) < 0) = false := decide_eq_false (by omega)
                      have rm0 := HW.out.r0 m
                      have rc0 := HW.out.r0 c
                      by_cases hgt : rst t s (wt zs) c < rst t s (wt zs) m
                      · have HB' := Lib.hid (best_more (fun {i j k} => (ordR_ord (rsL t s zs)).trans (i := i) (j := j) (k := k)) HB.out hch (Or.inl (by rw [e1, e2]; exact hgt)))
                        clear hch e1 e2
                        generalize rst t s (wt zs) m = rm at *
                        generalize rst t s (wt zs) c = rc at *
                        go_wp2_with fail
                        go_quiet (fail)
                        go_wp2_with fail
                        go_roundw
                        case rel => exact ⟨m + 1, m, hml, by go_num, rfl, HB'.out, HG'.out.drewN _⟩
                        case measure => simp [intOf]; omega
                      · have HB' := Lib.hid (best_stay HB.out (R := ordR (rsL t s zs)) (i := m) (by unfold ordR; rw [e1, e2]; omega))
                        clear hch e1 e2
                        generalize rst t s (wt zs) m = rm at *
                        generalize rst t s (wt zs) c = rc at *
                        go_wp2_with fail
                        go_quiet (fail)
                        go_wp2_with fail
                        go_roundw
                        case rel => exact ⟨m + 1, c, hml, by go_num, rfl, HB'.out, HG'.out.drewN _⟩
                        case measure => simp [intOf]; omega
                · obtain rfl : m = zs.length := by omega
                  have hx := best_all HQ.out.re HQ.out.srt (ordR_asymm (rsL t s zs)) (by omega) HB.out
                  subst hx
                  obtain ⟨w5, rfl⟩ : ∃ w5 : World, w5 = wr := ⟨_, rfl⟩
                  have hpl : Q k < zs.length := place_lt HQ.out.re (by omega)
                  have cg := HG'.out.got.cell hpl
                  have fg := HG'.out.got.frozen (Q k)
                  have lg := HG'.out.got.lt
                  have co := HG'.out.out.cell hpl
                  have fo := HG'.out.out.frozen (Q k)
                  have lo := HG'.out.out.lt
                  have q0 := HW.out.q0 hpl
                  have q1 := HW.out.q1 hpl
                  have hne : g8 ≠ wq.heap.size := HG'.out.out.apart HG'.out.got (by decide)
                  have hbn := bump_new HQ.out.re k
                  unfold bumpRow at co
                  rw [hbn, Int.add_zero] at co
                  clear hbn HB
                  generalize hp : Q k = p at *
                  generalize hq : quo t s (wt zs) p = q at *
                  generalize chosen Q k p = bb at *
                  have HP' := Lib.hid hp
                  have HQ' := Lib.hid hq
                  clear hp hq
                  have p0 : (0 : Int) ≤ p := by omega
                  have p1 : (p : Int) < zs.length := by omega
                  have p2 : (p : Int) < 1000 := by omega
                  go_wp2_with fail
                  go_roundw
                  case rel => exact ⟨k + 1, hkl, congrArg (Value.int IntKind.i64) (by omega), HG'.out.step HP'.out HQ'.out⟩
                  case measure => simp [intOf]; omega
            · obtain rfl : k = L := by omega
              have hz : ¬ (0 : Int) < (k : Int) - k := by omega
              go_wp2_with fail
              go_ret2
              exact ⟨_, rfl, gState_end HG.out HL.out hl, HG.out.below⟩
end Go.Proofs.YtkddiaiohnbjpaaGreatDoor.Share
