/- The document's own cuts: all ends of two rows of stretches, rising. -/
import Derived.Test.YtjcgclfcompioaaSpanOwn
import Derived.Test.YtjcgclfcompioaaAppend
import Derived.BigRegion
import Derived.Deep.RegionLaw
namespace Go.Proofs.Ytjcgclfcompioaa.Span
open Go.ChangeShapes Go.WideShapes Go.ChangeAt Go.RowKit Pairs Slice

theorem int_info : (Try.prog.info? 3).map (fun i => (i.zero, i.size, i.bytes)) = some (some (.int .i64 0), 1, 8) := by kernel_rfl
/-- The ends of what has been gone through, and the first k of stretch p. -/
def EndsK (l : List (Int × Int)) (p : Int × Int) (k : Nat) (c : List Int) : Prop := ∀ x, x ∈ c ↔ (∃ q ∈ l, x = q.1 ∨ x = q.2) ∨ (0 < k ∧ x = p.1) ∨ (1 < k ∧ x = p.2)
theorem endsK_zero {l : List (Int × Int)} {c : List Int} (h : Ends l c) (p : Int × Int) : EndsK l p 0 c := fun x => by rw [h x]; simp
theorem endsK_two {l : List (Int × Int)} {c : List Int} {p : Int × Int} (h : EndsK l p 2 c) : Ends (l ++ [p]) c := fun x => by
  rw [h x]
  constructor
  · rintro (⟨q, hq, hx⟩ | ⟨-, hx⟩ | ⟨-, hx⟩)
    · exact ⟨q, List.mem_append_left _ hq, hx⟩
    · exact ⟨p, List.mem_append_right _ (List.mem_singleton.2 rfl), Or.inl hx⟩
    · exact ⟨p, List.mem_append_right _ (List.mem_singleton.2 rfl), Or.inr hx⟩
  · rintro ⟨q, hq, hx⟩
    rcases List.mem_append.1 hq with hq | hq
    · exact Or.inl ⟨q, hq, hx⟩
    · rw [List.mem_singleton] at hq
      subst hq
      rcases hx with hx | hx
      · exact Or.inr (Or.inl ⟨by omega, hx⟩)
      · exact Or.inr (Or.inr ⟨by omega, hx⟩)
def endAt (p : Int × Int) (k : Nat) : Int := if k = 0 then p.1 else p.2
theorem endsK_next {l : List (Int × Int)} {c c' : List Int} {p : Int × Int} {k : Nat} (h : EndsK l p k c) (hk : k < 2) (hc : ∀ x, x ∈ c' ↔ x ∈ c ∨ x = endAt p k) : EndsK l p (k + 1) c' := fun x => by
  rw [hc x, h x]
  unfold endAt
  have : k = 0 ∨ k = 1 := by omega
  rcases this with rfl | rfl
  · simp
  · simp [or_assoc]
theorem endsK_same {l : List (Int × Int)} {c : List Int} {p : Int × Int} {k : Nat} (h : EndsK l p k c) (hk : k < 2) (hc : endAt p k ∈ c) : EndsK l p (k + 1) c :=
  endsK_next h hk fun _ => ⟨Or.inl, fun hx => hx.elim id (fun e => e ▸ hc)⟩

structure KState (l : List (Int × Int)) (p : Int × Int) (W : World) (i k : Nat) (c : List Int) (u : Value) (wr : World) : Prop where
  below : Below W.heap.size W wr
  ints : Ints wr wr.heap.size .i64 u c
  cap : ∃ A q, u = .slice A c.length q ∧ c.length ≤ q
  rise : Rise c
  ends : EndsK (l.take i) p k c
  len : c.length ≤ 2 * i + k
structure CState (l : List (Int × Int)) (N : Nat) (W : World) (i : Nat) (c : List Int) (u : Value) (wr : World) : Prop where
  below : Below N W wr
  ints : Ints wr wr.heap.size .i64 u c
  cap : ∃ A q, u = .slice A c.length q ∧ c.length ≤ q
  rise : Rise c
  ends : Ends (l.take i) c
  len : c.length ≤ 2 * i
theorem own_empty (w : World) (e : TypeId) (size base : Nat) (hb : base ≤ w.heap.size) : (w.alloc (.cells #[] e)).ownsRow base e size (.slice (some ⟨w.heap.size, 0, none⟩) 0 0) 0 [] :=
  World.ownsRow_made w #[] 0 hb (by simp) (by simp)
theorem own_none {w : World} {g : Nat} {e : TypeId} {size base : Nat} (hg : g = w.heap.size) (hb : base ≤ w.heap.size) : (w.alloc (.cells #[] e)).ownsRow base e size (.slice (some ⟨g, 0, none⟩) 0 0) 0 [] := by
  subst hg; exact own_empty w e size base hb
theorem ends_cells (w : World) (x y : Value) (T : TypeId) : (w.alloc (.cells #[x, y] T)).cell? ⟨w.heap.size, 0, none⟩ = some x ∧ (w.alloc (.cells #[x, y] T)).cell? ⟨w.heap.size, 1, none⟩ = some y := by
  rw [World.cell?_alloc_new, World.cell?_alloc_new]; exact ⟨rfl, rfl⟩
theorem own_cap {w : World} {base n : Nat} {e : TypeId} {v : Value} {xs : List Value} (h : w.ownsRow base e 1 v n xs) : ∃ A q, v = .slice A n q ∧ n ≤ q := by
  rcases h.2 with ⟨rfl, rfl⟩ | ⟨g, cap, cur, rfl, -, -, hc, -⟩
  · exact ⟨none, 0, rfl, Nat.le_refl _⟩
  · exact ⟨_, _, rfl, hc⟩
/-- The end has been put in its place. -/
theorem kState_put {l : List (Int × Int)} {p : Int × Int} {W wk w7 : World} {i k q : Nat} {c : List Int} {u v7 : Value} {ev : Int} {T : TypeId} (h : KState l p W i k c u wk) (hk : k < 2) (he : ev = endAt p k) (hq : q ≤ c.length)
    (hbig : ∀ i, q ≤ i → i < c.length → ev < c.getD i 0) (hlow : q = 0 ∨ c.getD (q - 1) 0 < ev) (hb : Below wk.heap.size wk w7)
    (ho : w7.ownsRow wk.heap.size T 1 v7 (0 + (c.take q).length + [ev].length + (c.drop q).length) ([] ++ (c.take q).map (Value.int .i64) ++ [ev].map (Value.int .i64) ++ (c.drop q).map (Value.int .i64))) :
    KState l p W i (k + 1) (c.take q ++ [ev] ++ c.drop q) v7 w7 := by
  have hlen : 0 + (c.take q).length + [ev].length + (c.drop q).length = (c.take q ++ [ev] ++ c.drop q).length := by simp; omega
  have hlen2 : (c.take q ++ [ev] ++ c.drop q).length = c.length + 1 := by simp; omega
  have hm : [] ++ (c.take q).map (Value.int .i64) ++ [ev].map (Value.int .i64) ++ (c.drop q).map (Value.int .i64) = (c.take q ++ [ev] ++ c.drop q).map (Value.int .i64) := by simp
  rw [hlen, hm] at ho
  refine ⟨h.below.trans (hb.mono h.below.size), Ints.of_own rfl ho, own_cap ho, rise_put h.rise hq hbig hlow, endsK_next h.ends hk (fun x => ?_), by have := h.len; omega⟩
  rw [← he]
  exact mem_put
set_option maxHeartbeats 4000000 in
theorem r_cuts (a b : List (Int × Int)) (va vb : Value) (B : Nat) (w : World) (hB : B ≤ w.heap.size) (ha : Prs w B va a) (hb : Prs w B vb b) (la : a.length ≤ 1000) (lb : b.length ≤ 1000) :
    Calls Try.prog 35 #[va, vb] w fun e w' => ∃ u c, e = .returned u ∧ Ints w' w'.heap.size .i64 u c ∧ Rise c ∧ Ends (a ++ b) c ∧ c.length ≤ 4000 ∧ Below w.heap.size w w' := by
  obtain ⟨Aa, ca, rfl⟩ := ha.shape
  obtain ⟨Ab, cb, rfl⟩ := hb.shape
  have HA := Lib.hid ha
  have HB := Lib.hid hb
  have LA := Lib.hid la
  have LB := Lib.hid lb
  obtain ⟨i0, hi0, hz0, hz1, hz2⟩ := info_parts ref_info
  have HI := Lib.hid hi0
  have HZ0 := Lib.hid hz0
  have HZ1 := Lib.hid hz1
  have HZ2 := Lib.hid hz2
  obtain ⟨j0, hj0, hy0, hy1, hy2⟩ := info_parts int_info
  have HJ := Lib.hid hj0
  have HY0 := Lib.hid hy0
  have HY1 := Lib.hid hy1
  have HY2 := Lib.hid hy2
  clear ha hb la lb hi0 hz0 hz1 hz2 hj0 hy0 hy1 hy2
  go_enter Try.func35, Try.ntmps35
  go_wp2_with (first
    | (at_builtin
       refine wpList_append_pairs rfl (.tmp 11) (.tmp 12) _ rfl w.heap.size 53 i0 (.agg #[.int .i64 0, .int .i64 0]) Try.underlying24 HI.out HZ0.out HZ1.out HZ2.out rfl _ _ _ rfl (own_empty w _ _ _ (Nat.le_refl _)) B _ a rfl (HA.out.alloc hB _) (by have := LA.out; unfold maxLen; omega) (by have := LA.out; omega) (by simp) ?_
       intro v3 w3 hown hgrow
       rw [Nat.zero_add, List.nil_append] at hown
       have O3 := Lib.hid hown
       have B3 := Lib.hid (below_append (a := w) (below_new (Below.refl _ _) _) (Nat.le_refl _) (own_empty w 53 2 _ (Nat.le_refl _)) hgrow)
       obtain ⟨A3, c3, rfl⟩ := own_shape hown
       clear hown hgrow)
    | (at_builtin
       refine wpList_append_pairs rfl (.tmp 13) (.tmp 14) _ rfl w.heap.size 53 i0 (.agg #[.int .i64 0, .int .i64 0]) Try.underlying24 HI.out HZ0.out HZ1.out HZ2.out rfl _ _ _ rfl O3.out B _ b rfl (HB.out.keep fun x o hx => B3.out.cell (p := ⟨x, o, none⟩) (Nat.lt_of_lt_of_le hx hB)) (by have := LA.out; have := LB.out; unfold maxLen; omega) (by have := LA.out; have := LB.out; omega) B3.out.size ?_
       intro v4 w4 hown hgrow
       rw [← flat_append] at hown
       have P4 : Hid (Prs w4 w4.heap.size v4 (a ++ b)) := Prs.of_own (by rw [List.length_append]) hown
       have B4 := Lib.hid (below_append (a := w) B3.out (Nat.le_refl _) O3.out hgrow)
       obtain ⟨A4, c4, rfl⟩ := own_shape hown
       clear hown hgrow))
  have LL : Hid ((a ++ b).length ≤ 2000) := show _ ≤ _ by have := LA.out; have := LB.out; rw [List.length_append]; omega
  have P4 := P4.out
  rw [← List.length_append] at P4 ⊢
  clear O3 B3 HA HB LA LB
  obtain ⟨l, el⟩ : ∃ l, l = a ++ b := ⟨_, rfl⟩
  rw [← el] at P4 LL ⊢
  have EL := Lib.hid el
  clear el
  obtain ⟨A5, c5, e5, hl, -, hcell⟩ := P4
  injection e5 with e51 e52 e53
  subst e51
  subst e53
  clear e52
  have HC := Lib.hid hcell
  clear hcell
  go_loopw [5, 7] (fun o t wr => ∃ (i : Nat) (c : List Int) (u : Value), i ≤ l.length ∧ t = .int .i64 i ∧ o = u ∧ CState l w4.heap.size w4 i c u wr) (fun _ t _ => l.length - (intOf t).toNat)
  case atStart => exact ⟨0, [], _, Nat.zero_le _, rfl, rfl, Below.refl _ _, Ints.nil_ _ _ _, ⟨none, 0, rfl, Nat.le_refl _⟩, List.Pairwise.nil, fun x => by simp, by simp⟩
  case round =>
    obtain ⟨i, c, u, hi, rfl, rfl, hst⟩ := hrel
    obtain ⟨Au, cu, rfl, -, -, -⟩ := id hst.ints
    have HS := Lib.hid hst
    clear hst
    by_cases hlt : i < l.length
    · obtain ⟨b', off, rfl, hb', hcell⟩ := HC.out (by omega)
      obtain ⟨hx, hy⟩ := hcell i hlt
      have hx := (HS.out.below.cell (p := ⟨b', off + i * 2, none⟩) hb').trans hx
      have hy := (HS.out.below.cell (p := ⟨b', off + i * 2 + 1, none⟩) hb').trans hy
      have HT := Lib.hid (take_next l i hlt)
      clear hcell
      generalize l.getD i (0, 0) = p at *
      have h0 : (0 : Int) ≤ i := by omega
      go_wp2_with fail
      go_region
      obtain ⟨W1, hW1⟩ : ∃ W1, W1 = (wr.alloc (.cells #[.int .i64 p.1, .int .i64 p.2] 3)).drew := ⟨_, rfl⟩
      have HW : Hid (Below w4.heap.size w4 W1) := show Below w4.heap.size w4 W1 from hW1 ▸ (HS.out.below.trans ((show Below wr.heap.size wr (wr.alloc (.cells #[.int .i64 p.1, .int .i64 p.2] 3)).drew by go_grown).mono HS.out.below.size))
      have HK : Hid (KState l p W1 i 0 c (.slice Au c.length cu) W1) := show KState l p W1 i 0 c (.slice Au c.length cu) W1 from
        ⟨Below.refl _ _, hW1 ▸ ((HS.out.ints.alloc (Nat.le_refl _) (.cells #[.int .i64 p.1, .int .i64 p.2] 3)).more (by simp)), HS.out.cap, HS.out.rise, endsK_zero HS.out.ends p, by have := HS.out.len; omega⟩
      have e0 : W1.cell? ⟨wr.heap.size, 0, none⟩ = some (.int .i64 p.1) := hW1 ▸ (ends_cells wr (.int .i64 p.1) (.int .i64 p.2) 3).1
      have e1 : W1.cell? ⟨wr.heap.size, 1, none⟩ = some (.int .i64 p.2) := hW1 ▸ (ends_cells wr (.int .i64 p.1) (.int .i64 p.2) 3).2
      rw [← hW1]
      generalize wr.heap.size = ge at *
      have l1 := lt_of_cell e0
      have E0 := Lib.hid e0
      have E1 := Lib.hid e1
      clear hx hy hW1 e0 e1
      go_wp2_with fail
      go_loopw [5, 9] (fun o t wr2 => ∃ (k : Nat) (c2 : List Int) (u2 : Value), k ≤ 2 ∧ t = .int .i64 k ∧ o = u2 ∧ KState l p W1 i k c2 u2 wr2) (fun _ t _ => 2 - (intOf t).toNat)
      case atStart => exact ⟨0, c, _, by omega, rfl, rfl, HK.out⟩
      case round =>
        obtain ⟨k, c2, u2, hk, rfl, rfl, hst⟩ := hrel
        obtain ⟨wk, rfl⟩ : ∃ wk : World, wk = wr := ⟨_, rfl⟩
        obtain ⟨A2, q2, rfl, hcap⟩ := id hst.cap
        have HCAP := Lib.hid hcap
        obtain ⟨b2, off2, hcells⟩ : ∃ b2 off2, 0 < c2.length → A2 = some ⟨b2, off2, none⟩ ∧ b2 < wk.heap.size ∧ ∀ i, i < c2.length → wk.cell? ⟨b2, off2 + i, none⟩ = some (.int .i64 (c2.getD i 0)) := by
          obtain ⟨A', c', e', -, -, hc'⟩ := hst.ints
          injection e' with e1 e2 e3
          subst e1
          by_cases h : 0 < c2.length
          · obtain ⟨b2, off2, h1, h2, h3⟩ := hc' h
            exact ⟨b2, off2, fun _ => ⟨h1, h2, h3⟩⟩
          · exact ⟨0, 0, fun h' => absurd h' h⟩
        have HCC := Lib.hid hcells
        have HS2 := Lib.hid hst
        have HL2 : Hid (c2.length ≤ 4002) := show _ ≤ _ by have := hst.len; have := LL.out; omega
        clear hst hcells hcap
        by_cases hk2 : k < 2
        · have hE : ∃ ev, ev = endAt p k := ⟨_, rfl⟩
          obtain ⟨ev, hev⟩ := hE
          have ce : wk.cell? ⟨ge, k, none⟩ = some (.int .i64 ev) := by
            have : k = 0 ∨ k = 1 := by omega
            rcases this with rfl | rfl
            · rw [hev]; exact (HS2.out.below.cell (p := ⟨ge, 0, none⟩) l1).trans E0.out
            · rw [hev]; exact (HS2.out.below.cell (p := ⟨ge, 1, none⟩) l1).trans E1.out
          have HEV := Lib.hid hev
          have k2' : (k : Int) < 2 := by omega
          have hl2' : c2.length ≤ 9223372036854775807 := Nat.le_trans HL2.out (by decide)
          clear hev
          go_wp2_with fail
          go_loopw [10] (fun t wr => ∃ (q n : Nat), q ≤ c2.length ∧ t = .int .i64 q ∧ Hid (∀ i, q ≤ i → i < c2.length → ev < c2.getD i 0) ∧ wr = wk.drewN n) (fun t _ => (intOf t).toNat)
          case atStart => exact ⟨c2.length, 0, Nat.le_refl _, rfl, fun i h1 h2 => absurd h1 (by omega), rfl⟩
          case round =>
            obtain ⟨q, n, hq, rfl, hbig, rfl⟩ := hrel
            cases q with
            | zero =>
              have t0 : decide ((0 : Int) < ((0 : Nat) : Int)) = false := rfl
              have t1 : (((0 : Nat) : Int) == 0) = true := rfl
              go_wp2_with fail
              go_quiet (fail)
              go_wp2_with fail
              go_quiet (fail)
              go_wp2_with fail
              cases A2 with
              | none =>
                have e2 : c2 = [] := by
                  rcases Nat.eq_zero_or_pos c2.length with h | h
                  · exact List.eq_nil_of_length_eq_zero h
                  · have := (HCC.out h).1; cases this
                subst e2
                have e3 : q2 = 0 := by
                  obtain ⟨A', c', e', -, hn, -⟩ := HS2.out.ints
                  injection e' with e1 e2 e3
                  rw [e3]; exact hn e1.symm
                subst e3
                have IT : Hid (Ints wk wk.heap.size .i64 (.slice none 0 0) (([] : List Int).take 0)) := show Ints wk wk.heap.size .i64 (.slice none 0 0) [] from Ints.nil_ _ _ _
                have ID0 : Hid (Ints wk wk.heap.size .i64 (.slice none 0 0) (([] : List Int).drop 0)) := show Ints wk wk.heap.size .i64 (.slice none 0 0) [] from Ints.nil_ _ _ _
                have ID := ID0
                have lk := lt_of_cell ce
                have ca : ∀ (m : Nat) (o : Obj), ((wk.drewN m).alloc o).cell? ⟨ge, k, none⟩ = some (.int .i64 ev) := fun m o => (World.cell?_alloc_lt (w := wk.drewN m) (o := o) (a := ⟨ge, k, none⟩) lk).trans ce
                have TL : Hid ((([] : List Int).take 0).length ≤ ([] : List Int).length) := show _ ≤ _ by rw [List.length_take]; exact Nat.min_le_right _ _
                have DL : Hid ((([] : List Int).drop 0).length ≤ ([] : List Int).length) := show _ ≤ _ by rw [List.length_drop]; exact Nat.sub_le _ _
                have EV1 : [ev].length = 1 := rfl
                go_region_law (first
                  | (refine step_ints rfl (.tmp 69) (.tmp 72) _ rfl wk.heap.size 3 j0 (.int .i64 0) 8 Try.underlying44 HJ.out HY0.out HY1.out HY2.out rfl _ 0 [] (by rfl) (by first | exact own_none rfl (by simp) | exact World.ownsRow.alloc (own_none rfl (by simp)) _ | exact own_none (by simp) (by simp)) wk.heap.size .i64 _ (([] : List Int).take 0) (by rfl) (IT.out.below (by first | exact below_new (below_drewN (Below.refl _ _) _) _ | exact below_new (below_new (below_drewN (Below.refl _ _) _) _) _)) (by have := HL2.out; have := TL.out; have := DL.out; have := EV1; unfold maxLen; omega) (by have := HL2.out; have := TL.out; have := DL.out; have := EV1; omega) (by simp; try omega) ?_
                     intro v5 w5 ho5 hg5
                     have HO5 := Lib.hid ho5
                     have HG5 := Lib.hid (show World.grownBy _ w5 (some _) from hg5)
                     have HB5 : Hid (Below wk.heap.size wk w5) := show Below wk.heap.size wk w5 from Slice.below_of hg5 (by first | exact below_new (below_drewN (Below.refl _ _) _) _ | exact below_new (below_new (below_drewN (Below.refl _ _) _) _) _) (by intro g hg; obtain rfl := Option.some.inj hg; first | exact Nat.le_refl _ | exact Nat.le_succ _ | (simp; done) | (simp; omega))
                     have ce5 : w5.cell? ⟨ge, k, none⟩ = some (.int .i64 ev) := (HB5.out.cell (p := ⟨ge, k, none⟩) lk).trans ce
                     clear ho5 hg5)
                  | (refine step_ints rfl (.tmp 73) (.tmp 78) _ rfl wk.heap.size 3 j0 (.int .i64 0) 8 Try.underlying44 HJ.out HY0.out HY1.out HY2.out rfl _ _ _ (by rfl) (by first | exact HO5.out | exact World.ownsRow.alloc HO5.out _) _ .i64 _ [ev] (by rfl) (by first | exact one_lit rfl | exact one_first (by simp) HG5.out (by simp) | exact one_second (by simp) HG5.out (by simp)) (by have := HL2.out; have := TL.out; have := DL.out; have := EV1; unfold maxLen; omega) (by have := HL2.out; have := TL.out; have := DL.out; have := EV1; omega) (by first | exact HB5.out.size | (simp; have := HB5.out.size; omega)) ?_
                     intro v6 w6 ho6 hg6
                     have HO6 := Lib.hid ho6
                     have HB6 : Hid (Below wk.heap.size wk w6) := show Below wk.heap.size wk w6 from Slice.below_of hg6 (by first | exact HB5.out | exact below_new HB5.out _) (fun g hg => (HO5.out.lt g hg).1)
                     clear ho6 hg6)
                  | (refine step_ints rfl (.tmp 79) (.tmp 82) _ rfl wk.heap.size 3 j0 (.int .i64 0) 8 Try.underlying44 HJ.out HY0.out HY1.out HY2.out rfl _ _ _ (by rfl) HO6.out wk.heap.size .i64 _ (([] : List Int).drop 0) (by rfl) (by first | exact ID0.out.below HB6.out | exact ID.out.below HB6.out) (by have := HL2.out; have := TL.out; have := DL.out; have := EV1; unfold maxLen; omega) (by have := HL2.out; have := TL.out; have := DL.out; have := EV1; omega) HB6.out.size ?_
                     intro v7 w7 ho7 hg7
                     have HB7 : Hid (Below wk.heap.size wk w7) := Pairs.below_append HB6.out (Nat.le_refl _) HO6.out hg7
                     have HK7 := Lib.hid (kState_put HS2.out hk2 HEV.out hq hbig.out (Or.inl rfl) HB7.out (by simpa using ho7))
                     clear ho7 hg7))
                all_goals
                  go_wp2_with fail
                  go_roundw
                  case rel => exact ⟨k + 1, _, _, by omega, by go_num, rfl, HK7.out⟩
                  case measure => simp [intOf]; omega
              | some ad =>
                have hcap := HCAP.out
                have hcap2 : (c2.length : Int) ≤ q2 := by omega
                have IT := Lib.hid (ints_take HS2.out.ints (Nat.zero_le _))
                have ID := Lib.hid (ints_drop HS2.out.ints (Nat.zero_le _) hcap)
                have ID0 : Hid (Ints wk wk.heap.size .i64 (.slice (some ad) c2.length q2) (c2.drop 0)) := show Ints wk wk.heap.size .i64 (.slice (some ad) c2.length q2) (c2.drop 0) from HS2.out.ints
                have lk := lt_of_cell ce
                have ca : ∀ (m : Nat) (o : Obj), ((wk.drewN m).alloc o).cell? ⟨ge, k, none⟩ = some (.int .i64 ev) := fun m o => (World.cell?_alloc_lt (w := wk.drewN m) (o := o) (a := ⟨ge, k, none⟩) lk).trans ce
                have TL : Hid ((c2.take 0).length ≤ c2.length) := show _ ≤ _ by rw [List.length_take]; exact Nat.min_le_right _ _
                have DL : Hid ((c2.drop 0).length ≤ c2.length) := show _ ≤ _ by rw [List.length_drop]; exact Nat.sub_le _ _
                have EV1 : [ev].length = 1 := rfl
                go_region_law (first
                  | (refine step_ints rfl (.tmp 69) (.tmp 72) _ rfl wk.heap.size 3 j0 (.int .i64 0) 8 Try.underlying44 HJ.out HY0.out HY1.out HY2.out rfl _ 0 [] (by rfl) (by first | exact own_none rfl (by simp) | exact World.ownsRow.alloc (own_none rfl (by simp)) _ | exact own_none (by simp) (by simp)) wk.heap.size .i64 _ (c2.take 0) (by rfl) (IT.out.below (by first | exact below_new (below_drewN (Below.refl _ _) _) _ | exact below_new (below_new (below_drewN (Below.refl _ _) _) _) _)) (by have := HL2.out; have := TL.out; have := DL.out; have := EV1; unfold maxLen; omega) (by have := HL2.out; have := TL.out; have := DL.out; have := EV1; omega) (by simp; try omega) ?_
                     intro v5 w5 ho5 hg5
                     have HO5 := Lib.hid ho5
                     have HG5 := Lib.hid (show World.grownBy _ w5 (some _) from hg5)
                     have HB5 : Hid (Below wk.heap.size wk w5) := show Below wk.heap.size wk w5 from Slice.below_of hg5 (by first | exact below_new (below_drewN (Below.refl _ _) _) _ | exact below_new (below_new (below_drewN (Below.refl _ _) _) _) _) (by intro g hg; obtain rfl := Option.some.inj hg; first | exact Nat.le_refl _ | exact Nat.le_succ _ | (simp; done) | (simp; omega))
                     have ce5 : w5.cell? ⟨ge, k, none⟩ = some (.int .i64 ev) := (HB5.out.cell (p := ⟨ge, k, none⟩) lk).trans ce
                     clear ho5 hg5)
                  | (refine step_ints rfl (.tmp 73) (.tmp 78) _ rfl wk.heap.size 3 j0 (.int .i64 0) 8 Try.underlying44 HJ.out HY0.out HY1.out HY2.out rfl _ _ _ (by rfl) (by first | exact HO5.out | exact World.ownsRow.alloc HO5.out _) _ .i64 _ [ev] (by rfl) (by first | exact one_lit rfl | exact one_first (by simp) HG5.out (by simp) | exact one_second (by simp) HG5.out (by simp)) (by have := HL2.out; have := TL.out; have := DL.out; have := EV1; unfold maxLen; omega) (by have := HL2.out; have := TL.out; have := DL.out; have := EV1; omega) (by first | exact HB5.out.size | (simp; have := HB5.out.size; omega)) ?_
                     intro v6 w6 ho6 hg6
                     have HO6 := Lib.hid ho6
                     have HB6 : Hid (Below wk.heap.size wk w6) := show Below wk.heap.size wk w6 from Slice.below_of hg6 (by first | exact HB5.out | exact below_new HB5.out _) (fun g hg => (HO5.out.lt g hg).1)
                     clear ho6 hg6)
                  | (refine step_ints rfl (.tmp 79) (.tmp 82) _ rfl wk.heap.size 3 j0 (.int .i64 0) 8 Try.underlying44 HJ.out HY0.out HY1.out HY2.out rfl _ _ _ (by rfl) HO6.out wk.heap.size .i64 _ (c2.drop 0) (by rfl) (by first | exact ID0.out.below HB6.out | exact ID.out.below HB6.out) (by have := HL2.out; have := TL.out; have := DL.out; have := EV1; unfold maxLen; omega) (by have := HL2.out; have := TL.out; have := DL.out; have := EV1; omega) HB6.out.size ?_
                     intro v7 w7 ho7 hg7
                     have HB7 : Hid (Below wk.heap.size wk w7) := Pairs.below_append HB6.out (Nat.le_refl _) HO6.out hg7
                     have HK7 := Lib.hid (kState_put HS2.out hk2 HEV.out hq hbig.out (Or.inl rfl) HB7.out (by simpa using ho7))
                     clear ho7 hg7))
                all_goals
                  go_wp2_with fail
                  go_roundw
                  case rel => exact ⟨k + 1, _, _, by omega, by go_num, rfl, HK7.out⟩
                  case measure => simp [intOf]; omega
            | succ m =>
              obtain ⟨rfl, hb2, hcells⟩ := HCC.out (by omega)
              have cx := hcells m (by omega)
              have HMem := Lib.hid (getD_mem (c := c2) (i := m) (by omega))
              clear hcells
              have k0 : wrap64 (((m + 1 : Nat) : Int) - 1) = (m : Int) := by unfold wrap64; omega
              have k1 : decide ((0 : Int) < ((m + 1 : Nat) : Int)) = true := decide_eq_true (by omega)
              have k2 : ((m : Int) + 1 == 0) = false := by rw [beq_eq_false_iff_ne]; omega
              obtain ⟨x, hx⟩ : ∃ x, x = c2.getD m 0 := ⟨_, rfl⟩
              rw [← hx] at cx HMem
              have HX := Lib.hid hx
              clear hx
              by_cases h1 : ev < x
              · have t1 := decide_eq_true h1
                have HB2 : Hid (∀ i, m ≤ i → i < c2.length → ev < c2.getD i 0) := show ∀ i, m ≤ i → i < c2.length → ev < c2.getD i 0 from fun i h2 h3 => by
                  by_cases he : i = m
                  · subst he; rw [← HX.out]; exact h1
                  · exact hbig.out i (by omega) h3
                go_wp2_with fail
                go_quiet (fail)
                go_wp2_with fail
                go_roundw
                case rel => exact ⟨m, _, by omega, by go_num, HB2, rfl⟩
                case measure => simp [intOf]; try omega
              · have t1 := decide_eq_false h1
                by_cases h2 : x = ev
                · have t2 : (x == ev) = true := by rw [beq_iff_eq]; exact h2
                  have HE := Lib.hid (endsK_same HS2.out.ends hk2 (by rw [← HEV.out, ← h2]; exact HMem.out))
                  clear h2
                  go_wp2_with fail
                  go_quiet (fail)
                  go_wp2_with fail
                  go_quiet (fail)
                  go_wp2_with fail
                  go_roundw
                  case rel => exact ⟨k + 1, c2, _, by omega, by go_num, rfl, below_drewN HS2.out.below _, HS2.out.ints, HS2.out.cap, HS2.out.rise, HE.out, by have := HS2.out.len; omega⟩
                  case measure => simp [intOf]; omega
                · have t2 : (x == ev) = false := by rw [beq_eq_false_iff_ne]; exact h2
                  have HLow : Hid (c2.getD (m + 1 - 1) 0 < ev) := show c2.getD m 0 < ev by rw [← HX.out]; omega
                  clear h2
                  go_wp2_with fail
                  go_quiet (fail)
                  go_wp2_with fail
                  go_quiet (fail)
                  go_wp2_with fail
                  have hcap := HCAP.out
                  have hcap2 : (c2.length : Int) ≤ q2 := by omega
                  have hs0 : (0 : Int) ≤ (m : Int) + 1 := by omega
                  have hs1 : (m : Int) + 1 ≤ q2 := by omega
                  have hs2 : (m : Int) + 1 ≤ c2.length := by omega
                  have IT := Lib.hid (ints_take HS2.out.ints hq)
                  have ID := Lib.hid (ints_drop HS2.out.ints hq hcap)
                  by_cases he : q2 = m + 1
                  · subst he
                    have ID0 : Hid (Ints wk wk.heap.size .i64 (.slice (some ⟨b2, off2, none⟩) 0 0) (c2.drop (m + 1))) := show Ints _ _ _ _ _ by
                      have := ID.out
                      rw [if_pos rfl, Nat.sub_self, show c2.length - (m + 1) = 0 by omega] at this
                      exact this
                    have lk := lt_of_cell ce
                    have ca : ∀ (m : Nat) (o : Obj), ((wk.drewN m).alloc o).cell? ⟨ge, k, none⟩ = some (.int .i64 ev) := fun m o => (World.cell?_alloc_lt (w := wk.drewN m) (o := o) (a := ⟨ge, k, none⟩) lk).trans ce
                    have TL : Hid ((c2.take (m + 1)).length ≤ c2.length) := show _ ≤ _ by rw [List.length_take]; exact Nat.min_le_right _ _
                    have DL : Hid ((c2.drop (m + 1)).length ≤ c2.length) := show _ ≤ _ by rw [List.length_drop]; exact Nat.sub_le _ _
                    have EV1 : [ev].length = 1 := rfl
                    go_region_law (first
                      | (refine step_ints rfl (.tmp 69) (.tmp 72) _ rfl wk.heap.size 3 j0 (.int .i64 0) 8 Try.underlying44 HJ.out HY0.out HY1.out HY2.out rfl _ 0 [] (by rfl) (by first | exact own_none rfl (by simp) | exact World.ownsRow.alloc (own_none rfl (by simp)) _ | exact own_none (by simp) (by simp)) wk.heap.size .i64 _ (c2.take (m + 1)) (by rfl) (IT.out.below (by first | exact below_new (below_drewN (Below.refl _ _) _) _ | exact below_new (below_new (below_drewN (Below.refl _ _) _) _) _)) (by have := HL2.out; have := TL.out; have := DL.out; have := EV1; unfold maxLen; omega) (by have := HL2.out; have := TL.out; have := DL.out; have := EV1; omega) (by simp; try omega) ?_
                         intro v5 w5 ho5 hg5
                         have HO5 := Lib.hid ho5
                         have HG5 := Lib.hid (show World.grownBy _ w5 (some _) from hg5)
                         have HB5 : Hid (Below wk.heap.size wk w5) := show Below wk.heap.size wk w5 from Slice.below_of hg5 (by first | exact below_new (below_drewN (Below.refl _ _) _) _ | exact below_new (below_new (below_drewN (Below.refl _ _) _) _) _) (by intro g hg; obtain rfl := Option.some.inj hg; first | exact Nat.le_refl _ | exact Nat.le_succ _ | (simp; done) | (simp; omega))
                         have ce5 : w5.cell? ⟨ge, k, none⟩ = some (.int .i64 ev) := (HB5.out.cell (p := ⟨ge, k, none⟩) lk).trans ce
                         clear ho5 hg5)
                      | (refine step_ints rfl (.tmp 73) (.tmp 78) _ rfl wk.heap.size 3 j0 (.int .i64 0) 8 Try.underlying44 HJ.out HY0.out HY1.out HY2.out rfl _ _ _ (by rfl) (by first | exact HO5.out | exact World.ownsRow.alloc HO5.out _) _ .i64 _ [ev] (by rfl) (by first | exact one_lit rfl | exact one_first (by simp) HG5.out (by simp) | exact one_second (by simp) HG5.out (by simp)) (by have := HL2.out; have := TL.out; have := DL.out; have := EV1; unfold maxLen; omega) (by have := HL2.out; have := TL.out; have := DL.out; have := EV1; omega) (by first | exact HB5.out.size | (simp; have := HB5.out.size; omega)) ?_
                         intro v6 w6 ho6 hg6
                         have HO6 := Lib.hid ho6
                         have HB6 : Hid (Below wk.heap.size wk w6) := show Below wk.heap.size wk w6 from Slice.below_of hg6 (by first | exact HB5.out | exact below_new HB5.out _) (fun g hg => (HO5.out.lt g hg).1)
                         clear ho6 hg6)
                      | (refine step_ints rfl (.tmp 79) (.tmp 82) _ rfl wk.heap.size 3 j0 (.int .i64 0) 8 Try.underlying44 HJ.out HY0.out HY1.out HY2.out rfl _ _ _ (by rfl) HO6.out wk.heap.size .i64 _ (c2.drop (m + 1)) (by rfl) (by first | exact ID0.out.below HB6.out | exact ID.out.below HB6.out) (by have := HL2.out; have := TL.out; have := DL.out; have := EV1; unfold maxLen; omega) (by have := HL2.out; have := TL.out; have := DL.out; have := EV1; omega) HB6.out.size ?_
                         intro v7 w7 ho7 hg7
                         have HB7 : Hid (Below wk.heap.size wk w7) := Pairs.below_append HB6.out (Nat.le_refl _) HO6.out hg7
                         have HK7 := Lib.hid (kState_put HS2.out hk2 HEV.out hq hbig.out (Or.inr HLow.out) HB7.out (by simpa using ho7))
                         clear ho7 hg7))
                    all_goals
                      go_wp2_with fail
                      go_roundw
                      case rel => exact ⟨k + 1, _, _, by omega, by go_num, rfl, HK7.out⟩
                      case measure => simp [intOf]; omega
                  · have ID0 : Hid (Ints wk wk.heap.size .i64 (.slice (some ⟨b2, off2 + (m + 1), none⟩) (c2.length - (m + 1)) (q2 - (m + 1))) (c2.drop (m + 1))) := show Ints _ _ _ _ _ by
                      have := ID.out
                      rw [if_neg he, Nat.mul_one, Go.WideShapes.add_plain] at this
                      exact this
                    have lk := lt_of_cell ce
                    have ca : ∀ (m : Nat) (o : Obj), ((wk.drewN m).alloc o).cell? ⟨ge, k, none⟩ = some (.int .i64 ev) := fun m o => (World.cell?_alloc_lt (w := wk.drewN m) (o := o) (a := ⟨ge, k, none⟩) lk).trans ce
                    have TL : Hid ((c2.take (m + 1)).length ≤ c2.length) := show _ ≤ _ by rw [List.length_take]; exact Nat.min_le_right _ _
                    have DL : Hid ((c2.drop (m + 1)).length ≤ c2.length) := show _ ≤ _ by rw [List.length_drop]; exact Nat.sub_le _ _
                    have EV1 : [ev].length = 1 := rfl
                    go_region_law (first
                      | (refine step_ints rfl (.tmp 69) (.tmp 72) _ rfl wk.heap.size 3 j0 (.int .i64 0) 8 Try.underlying44 HJ.out HY0.out HY1.out HY2.out rfl _ 0 [] (by rfl) (by first | exact own_none rfl (by simp) | exact World.ownsRow.alloc (own_none rfl (by simp)) _ | exact own_none (by simp) (by simp)) wk.heap.size .i64 _ (c2.take (m + 1)) (by rfl) (IT.out.below (by first | exact below_new (below_drewN (Below.refl _ _) _) _ | exact below_new (below_new (below_drewN (Below.refl _ _) _) _) _)) (by have := HL2.out; have := TL.out; have := DL.out; have := EV1; unfold maxLen; omega) (by have := HL2.out; have := TL.out; have := DL.out; have := EV1; omega) (by simp; try omega) ?_
                         intro v5 w5 ho5 hg5
                         have HO5 := Lib.hid ho5
                         have HG5 := Lib.hid (show World.grownBy _ w5 (some _) from hg5)
                         have HB5 : Hid (Below wk.heap.size wk w5) := show Below wk.heap.size wk w5 from Slice.below_of hg5 (by first | exact below_new (below_drewN (Below.refl _ _) _) _ | exact below_new (below_new (below_drewN (Below.refl _ _) _) _) _) (by intro g hg; obtain rfl := Option.some.inj hg; first | exact Nat.le_refl _ | exact Nat.le_succ _ | (simp; done) | (simp; omega))
                         have ce5 : w5.cell? ⟨ge, k, none⟩ = some (.int .i64 ev) := (HB5.out.cell (p := ⟨ge, k, none⟩) lk).trans ce
                         clear ho5 hg5)
                      | (refine step_ints rfl (.tmp 73) (.tmp 78) _ rfl wk.heap.size 3 j0 (.int .i64 0) 8 Try.underlying44 HJ.out HY0.out HY1.out HY2.out rfl _ _ _ (by rfl) (by first | exact HO5.out | exact World.ownsRow.alloc HO5.out _) _ .i64 _ [ev] (by rfl) (by first | exact one_lit rfl | exact one_first (by simp) HG5.out (by simp) | exact one_second (by simp) HG5.out (by simp)) (by have := HL2.out; have := TL.out; have := DL.out; have := EV1; unfold maxLen; omega) (by have := HL2.out; have := TL.out; have := DL.out; have := EV1; omega) (by first | exact HB5.out.size | (simp; have := HB5.out.size; omega)) ?_
                         intro v6 w6 ho6 hg6
                         have HO6 := Lib.hid ho6
                         have HB6 : Hid (Below wk.heap.size wk w6) := show Below wk.heap.size wk w6 from Slice.below_of hg6 (by first | exact HB5.out | exact below_new HB5.out _) (fun g hg => (HO5.out.lt g hg).1)
                         clear ho6 hg6)
                      | (refine step_ints rfl (.tmp 79) (.tmp 82) _ rfl wk.heap.size 3 j0 (.int .i64 0) 8 Try.underlying44 HJ.out HY0.out HY1.out HY2.out rfl _ _ _ (by rfl) HO6.out wk.heap.size .i64 _ (c2.drop (m + 1)) (by rfl) (by first | exact ID0.out.below HB6.out | exact ID.out.below HB6.out) (by have := HL2.out; have := TL.out; have := DL.out; have := EV1; unfold maxLen; omega) (by have := HL2.out; have := TL.out; have := DL.out; have := EV1; omega) HB6.out.size ?_
                         intro v7 w7 ho7 hg7
                         have HB7 : Hid (Below wk.heap.size wk w7) := Pairs.below_append HB6.out (Nat.le_refl _) HO6.out hg7
                         have HK7 := Lib.hid (kState_put HS2.out hk2 HEV.out hq hbig.out (Or.inr HLow.out) HB7.out (by simpa using ho7))
                         clear ho7 hg7))
                    all_goals
                      go_wp2_with fail
                      go_roundw
                      case rel => exact ⟨k + 1, _, _, by omega, by go_num, rfl, HK7.out⟩
                      case measure => simp [intOf]; omega
        · obtain rfl : k = 2 := by omega
          go_wp2_with fail
          go_roundw
          case rel => exact ⟨i + 1, c2, _, by omega, by go_num, rfl, HW.out.trans (HS2.out.below.mono HW.out.size), HS2.out.ints, HS2.out.cap, HS2.out.rise, by rw [HT.out]; exact endsK_two HS2.out.ends, by have := HS2.out.len; omega⟩
          case measure => simp [intOf]; omega
    · obtain rfl : i = l.length := by omega
      go_wp2_with fail
      go_ret
      refine ⟨_, c, rfl, HS.out.ints, HS.out.rise, ?_, by have := HS.out.len; have := LL.out; omega, B4.out.trans (HS.out.below.mono B4.out.size)⟩
      have := HS.out.ends
      rw [List.take_length, EL.out] at this
      exact this
end Go.Proofs.Ytjcgclfcompioaa.Span
