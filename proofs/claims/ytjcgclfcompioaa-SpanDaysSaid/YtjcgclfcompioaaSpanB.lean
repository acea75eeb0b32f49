/- The program's own Has, at any stretches; what Add and Cut refuse; which stretches meet. -/
import Derived.Test.YtjcgclfcompioaaSpanA
import Derived.Test.YtjcgclfcompioaaRefSpan3
namespace Go.Proofs.Ytjcgclfcompioaa.Span
open Go.ChangeShapes Go.WideShapes Go.ChangeAt Go.RowKit Pairs

theorem u_inside (p0 p1 d : Int) (g : Nat) (w : World) (hd : w.cell? ⟨g, 0, none⟩ = some (.int .i64 d)) :
    Calls Try.prog 25 #[.agg #[.int .i64 p0, .int .i64 p1], .pointer (some ⟨g, 0, none⟩)] w fun e w' => e = .returned (.bool (decide (p0 ≤ d ∧ d < p1))) ∧ Below w.heap.size w w' := by
  have hg := block_lt hd
  by_cases h1 : p0 ≤ d
  · by_cases h2 : d < p1
    · have H := Lib.hid (decide_eq_true (p := p0 ≤ d ∧ d < p1) ⟨h1, h2⟩)
      have t1 := decide_eq_true h1
      have t2 := decide_eq_true h2
      go_enter Try.func25, Try.ntmps25
      go_wp2_with fail
      go_ret
      first | exact ⟨ret_bool H.out.symm, below_new (Below.refl _ _) _⟩ | exact ⟨rfl, below_new (Below.refl _ _) _⟩
    · have H := Lib.hid (decide_eq_false (p := p0 ≤ d ∧ d < p1) (fun h => h2 h.2))
      have t1 := decide_eq_true h1
      have t2 := decide_eq_false h2
      go_enter Try.func25, Try.ntmps25
      go_wp2_with fail
      go_ret
      first | exact ⟨ret_bool H.out.symm, below_new (Below.refl _ _) _⟩ | exact ⟨rfl, below_new (Below.refl _ _) _⟩
  · have H := Lib.hid (decide_eq_false (p := p0 ≤ d ∧ d < p1) (fun h => h1 h.1))
    have t1 := decide_eq_false h1
    go_enter Try.func25, Try.ntmps25
    go_wp2_with fail
    go_ret
    first | exact ⟨ret_bool H.out.symm, below_new (Below.refl _ _) _⟩ | exact ⟨rfl, below_new (Below.refl _ _) _⟩
theorem u_first (zs : List (Int × Int)) (d : Int) (g : Nat) (v : Value) (B : Nat) (w : World) (hB : B ≤ w.heap.size) (hv : Prs w B v zs) (hl : zs.length ≤ 2000) (hd : w.cell? ⟨g, 0, none⟩ = some (.int .i64 d)) :
    Calls Try.prog 33 #[v, .func (.func 25) #[] #[.pointer (some ⟨g, 0, none⟩)]] w fun e w' => ∃ i : Int, e = .returned (.int .i64 i) ∧ (decide (0 ≤ i) = hasB zs d) ∧ Below w.heap.size w w' := by
  have hg := block_lt hd
  obtain ⟨A, c, rfl, -, -, hcell⟩ := hv
  have HC := Lib.hid hcell
  have HD := Lib.hid hd
  clear hcell hd
  go_enter Try.func33, Try.ntmps33
  go_wp2_with fail
  go_loopw [8] (fun t wr => ∃ j : Nat, j ≤ zs.length ∧ t = .int .i64 j ∧ Hid (hasB (zs.take j) d = false) ∧ Hid (Below w.heap.size w wr)) (fun t _ => zs.length - (intOf t).toNat)
  case atStart => exact ⟨0, Nat.zero_le _, rfl, rfl, Below.refl _ _⟩
  case round =>
    obtain ⟨j, hj, rfl, hh, HW⟩ := hrel
    by_cases hlt : j < zs.length
    · obtain ⟨b, off, rfl, hb, hcell⟩ := HC.out (by omega)
      obtain ⟨hx, hy⟩ := hcell j hlt
      have hx := (HW.out.cell (p := ⟨b, off + j * 2, none⟩) (by show b < _; omega)).trans hx
      have hy := (HW.out.cell (p := ⟨b, off + j * 2 + 1, none⟩) (by show b < _; omega)).trans hy
      have hd := (HW.out.cell (p := ⟨g, 0, none⟩) hg).trans HD.out
      have HF := fun h => has_found zs j hlt d h
      have HN := has_next zs j hlt d
      rw [hh.out, Bool.false_or] at HN
      clear hcell
      generalize zs.getD j (0, 0) = p at *
      obtain ⟨p0, p1⟩ := p
      have h0 : (0 : Int) ≤ j := by omega
      have C := u_inside p0 p1 d g wr hd
      by_cases c1 : p0 ≤ d ∧ d < p1
      · have H := Lib.hid (HF c1)
        have t1 := decide_eq_true c1
        rw [t1] at C
        clear HN HF hh t1
        go_wp2_with fail
        refine C.mono ?_
        rintro e w1 ⟨rfl, hw⟩
        have HW1 := Lib.hid hw
        clear hw
        go_wp2_with fail
        go_ret
        exact ⟨(j : Int), rfl, by rw [H.out]; exact decide_eq_true (by omega), below_via HW.out HW1.out⟩
      · have t1 := decide_eq_false c1
        rw [t1] at C
        have HN := Lib.hid (HN.trans t1)
        clear HF hh t1
        go_wp2_with fail
        refine C.mono ?_
        rintro e w1 ⟨rfl, hw⟩
        have HW1 := Lib.hid hw
        clear hw
        go_wp2_with fail
        go_roundw
        case rel => exact ⟨j + 1, by omega, by go_num, HN, below_via HW.out HW1.out⟩
        case measure => simp [intOf]; omega
    · obtain rfl : j = zs.length := by omega
      have H : Hid (hasB zs d = false) := show _ = _ by have := hh.out; rwa [List.take_length] at this
      clear hh
      go_wp2_with fail
      go_ret
      exact ⟨-1, rfl, by rw [H.out]; rfl, HW.out⟩
theorem u_contains (zs : List (Int × Int)) (d : Int) (g : Nat) (v : Value) (B : Nat) (w : World) (hB : B ≤ w.heap.size) (hv : Prs w B v zs) (hl : zs.length ≤ 2000) (hd : w.cell? ⟨g, 0, none⟩ = some (.int .i64 d)) :
    Calls Try.prog 24 #[v, .func (.func 25) #[] #[.pointer (some ⟨g, 0, none⟩)]] w fun e w' => e = .returned (.bool (hasB zs d)) ∧ Below w.heap.size w w' := by
  have C := u_first zs d g v B w hB hv hl hd
  obtain ⟨A, c, rfl⟩ := hv.shape
  clear hv hd
  go_enter Try.func24, Try.ntmps24
  go_wp2_with fail
  refine C.mono ?_
  rintro e w1 ⟨i, rfl, hi, hw⟩
  have HI := Lib.hid hi
  have HW1 := Lib.hid hw
  clear hi hw
  go_wp2_with fail
  go_ret
  exact ⟨ret_bool HI.out, HW1.out⟩
theorem u_has (zs : List (Int × Int)) (d : Int) (v : Value) (B : Nat) (w : World) (hB : B ≤ w.heap.size) (hv : Prs w B v zs) (hl : zs.length ≤ 2000) :
    Calls Try.prog 12 #[v, .int .i64 d] w fun e w' => e = .returned (.bool (hasV zs d)) ∧ Below w.heap.size w w' := by
  have G := u_good zs v B (w.alloc (.cells #[.int .i64 d] 3)) (by simp; omega) (hv.alloc hB _) hl
  obtain ⟨A, c, rfl⟩ := hv.shape
  cases hg : goodB zs with
  | false =>
    have H : Hid (hasV zs d = false) := show _ = _ by unfold hasV; rw [hg]; rfl
    rw [hg] at G
    clear hg
    go_enter Try.func12, Try.ntmps12
    go_wp2_with fail
    refine G.mono ?_
    rintro e w1 ⟨rfl, hw⟩
    have HW1 := Lib.hid hw
    clear hw
    go_wp2_with fail
    go_ret
    exact ⟨ret_bool H.out.symm, below_via (below_new (Below.refl _ _) _) HW1.out⟩
  | true =>
    rw [hg] at G
    go_enter Try.func12, Try.ntmps12
    go_wp2_with fail
    refine G.mono ?_
    rintro e w1 ⟨rfl, hw⟩
    have HW1 := Lib.hid hw
    clear hw
    have H : Hid (hasV zs d = hasB zs d) := show _ = _ by unfold hasV; rw [hg]; rfl
    have C := u_contains zs d w.heap.size (.slice A zs.length c) (w.alloc (.cells #[.int .i64 d] 3)).heap.size w1 HW1.out.size (((hv.alloc hB _).more (by simp; omega)).below HW1.out) hl
      ((HW1.out.cell (p := ⟨w.heap.size, 0, none⟩) (by simp)).trans (by rw [World.cell?_alloc_new]; rfl))
    clear hg
    go_wp2_with fail
    refine C.mono ?_
    rintro e w2 ⟨rfl, hw⟩
    have HW2 := Lib.hid hw
    clear hw
    go_wp2_with fail
    go_ret
    exact ⟨ret_bool H.out.symm, below_via (below_via (below_new (Below.refl _ _) _) HW1.out) HW2.out⟩
/-- What Add and Cut refuse. -/
def wrongE (zs : List (Int × Int)) (x y : Int) : Int := if goodB zs = true then (if argB x y = true then 0 else 1) else 11
theorem u_wrong (zs : List (Int × Int)) (x y : Int) (v : Value) (B : Nat) (w : World) (hB : B ≤ w.heap.size) (hv : Prs w B v zs) (hl : zs.length ≤ 2000) :
    Calls Try.prog 27 #[v, .int .i64 x, .int .i64 y] w fun e w' => e = .returned (.int .i64 (wrongE zs x y)) ∧ Below w.heap.size w w' := by
  have G := u_good zs v B w hB hv hl
  obtain ⟨A, c, rfl⟩ := hv.shape
  cases hg : goodB zs with
  | false =>
    have H : Hid (wrongE zs x y = 11) := show _ = _ by unfold wrongE; rw [hg]; rfl
    rw [hg] at G
    clear hg hv
    go_enter Try.func27, Try.ntmps27
    go_wp2_with fail
    refine G.mono ?_
    rintro e w1 ⟨rfl, hw⟩
    have HW1 := Lib.hid hw
    clear hw
    go_wp2_with fail
    go_ret
    exact ⟨ret_int H.out.symm, HW1.out⟩
  | true =>
    rw [hg] at G
    cases hk : argB x y with
    | false =>
      have H : Hid (wrongE zs x y = 1) := show _ = _ by unfold wrongE; rw [hg, hk]; rfl
      have hk := of_decide_eq_false hk
      clear hg hv
      by_cases h1 : x < 0
      · have t1 := decide_eq_true h1
        clear hk
        go_enter Try.func27, Try.ntmps27
        go_wp2_with fail
        refine G.mono ?_
        rintro e w1 ⟨rfl, hw⟩
        have HW1 := Lib.hid hw
        clear hw
        go_wp2_with fail
        go_ret
        exact ⟨ret_int H.out.symm, HW1.out⟩
      have t1 := decide_eq_false h1
      by_cases h2 : y ≤ x
      · have t2 := decide_eq_true h2
        clear hk
        go_enter Try.func27, Try.ntmps27
        go_wp2_with fail
        refine G.mono ?_
        rintro e w1 ⟨rfl, hw⟩
        have HW1 := Lib.hid hw
        clear hw
        go_wp2_with fail
        go_ret
        exact ⟨ret_int H.out.symm, HW1.out⟩
      have t2 := decide_eq_false h2
      have h3 : 87659 < y := by omega
      have t3 := decide_eq_true h3
      clear hk
      go_enter Try.func27, Try.ntmps27
      go_wp2_with fail
      refine G.mono ?_
      rintro e w1 ⟨rfl, hw⟩
      have HW1 := Lib.hid hw
      clear hw
      go_wp2_with fail
      go_ret
      exact ⟨ret_int H.out.symm, HW1.out⟩
    | true =>
      have H : Hid (wrongE zs x y = 0) := show _ = _ by unfold wrongE; rw [hg, hk]; rfl
      obtain ⟨t1, t2, t3, h1, h2, h3⟩ := arg_tests hk
      clear hg hv hk
      go_enter Try.func27, Try.ntmps27
      go_wp2_with fail
      refine G.mono ?_
      rintro e w1 ⟨rfl, hw⟩
      have HW1 := Lib.hid hw
      clear hw
      go_wp2_with fail
      go_ret
      exact ⟨ret_int H.out.symm, HW1.out⟩
theorem norm_at : ∀ {lo : Int} {zs : List (Int × Int)}, normB lo zs = true → ∀ {i j : Nat}, i < j → j < zs.length → (zs.getD i (0, 0)).2 < (zs.getD j (0, 0)).1
  | _, [], _, _, _, _, hj => absurd hj (by simp)
  | _, p :: r, h, 0, j + 1, _, hj => by
    rw [normB_cons] at h
    have hm : (p :: r).getD (j + 1) (0, 0) ∈ r := by
      rw [List.getD_cons_succ, List.getD_eq_getElem?_getD, List.getElem?_eq_getElem (by simpa using hj)]
      exact List.getElem_mem _
    exact (norm_mem h.2 _ hm).1
  | _, p :: r, h, i + 1, j + 1, hij, hj => by
    rw [normB_cons] at h
    rw [List.getD_cons_succ, List.getD_cons_succ]
    exact norm_at h.2 (by omega) (by simpa using hj)
theorem norm_in {lo : Int} {zs : List (Int × Int)} (h : normB lo zs = true) {j : Nat} (hj : j < zs.length) : lo < (zs.getD j (0, 0)).1 ∧ (zs.getD j (0, 0)).1 < (zs.getD j (0, 0)).2 ∧ (zs.getD j (0, 0)).2 ≤ 87659 := by
  refine norm_mem h _ ?_
  rw [List.getD_eq_getElem?_getD, List.getElem?_eq_getElem hj]
  exact List.getElem_mem _
/-- Gone through as far as place j: those ahead of i end ahead of x, those behind meet [x, y). -/
structure MetI (zs : List (Int × Int)) (x y : Int) (i j : Nat) : Prop where
  le : i ≤ j
  len : j ≤ zs.length
  left : ∀ k, k < i → (zs.getD k (0, 0)).2 < x
  mid : ∀ k, i ≤ k → k < j → x ≤ (zs.getD k (0, 0)).2 ∧ (zs.getD k (0, 0)).1 ≤ y
section
variable {zs : List (Int × Int)} {x y : Int} {i j : Nat}
theorem MetI.start : MetI zs x y 0 0 := ⟨Nat.le_refl _, Nat.zero_le _, fun _ h => absurd h (by omega), fun _ _ h => absurd h (by omega)⟩
theorem MetI.skip (h : MetI zs x y i j) (hn : normB (-1) zs = true) (hj : j < zs.length) (hx : (zs.getD j (0, 0)).2 < x) : MetI zs x y (i + 1) (j + 1) := by
  have he : i = j := by
    rcases Nat.lt_or_ge i j with hlt | hge
    · have h1 := norm_at hn hlt hj
      have h2 := norm_in hn hj
      have h3 := h.mid i (Nat.le_refl _) hlt
      omega
    · have := h.le; omega
  subst he
  refine ⟨Nat.le_refl _, hj, fun k hk => ?_, fun k h1 h2 => absurd h1 (by omega)⟩
  rcases Nat.lt_or_ge k i with hlt | hge
  · exact h.left k hlt
  · obtain rfl : k = i := by omega
    exact hx
theorem MetI.more (h : MetI zs x y i j) (hj : j < zs.length) (hx : ¬ (zs.getD j (0, 0)).2 < x) (hy : (zs.getD j (0, 0)).1 ≤ y) : MetI zs x y i (j + 1) := by
  have h1 := h.le
  refine ⟨by omega, hj, h.left, fun k hk hk2 => ?_⟩
  rcases Nat.lt_or_ge k j with hlt | hge
  · exact h.mid k hk hlt
  · obtain rfl : k = j := by omega
    exact ⟨by omega, hy⟩
theorem MetI.met (h : MetI zs x y i j) (hn : normB (-1) zs = true) (he : j < zs.length → y < (zs.getD j (0, 0)).1) : Met zs x y (zs.take i) ((zs.drop i).take (j - i)) (zs.drop j) := by
  have h1 := h.le
  have h2 := h.len
  have at_ : ∀ k (hk : k < zs.length), zs[k] = zs.getD k (0, 0) := fun k hk => by rw [List.getD_eq_getElem?_getD, List.getElem?_eq_getElem hk]; rfl
  refine ⟨?_, fun p hp => ?_, fun p hp => ?_, fun p hp => ?_⟩
  · rw [List.append_assoc]
    have : zs.drop j = (zs.drop i).drop (j - i) := by rw [List.drop_drop]; congr 1; omega
    rw [this, List.take_append_drop, List.take_append_drop]
  · obtain ⟨k, hk, rfl⟩ := List.getElem_of_mem hp
    rw [List.length_take] at hk
    rw [List.getElem_take, at_]
    exact h.left k (by omega)
  · obtain ⟨k, hk, rfl⟩ := List.getElem_of_mem hp
    rw [List.length_take, List.length_drop] at hk
    rw [List.getElem_take, List.getElem_drop, at_]
    exact h.mid (i + k) (by omega) (by omega)
  · obtain ⟨k, hk, rfl⟩ := List.getElem_of_mem hp
    rw [List.length_drop] at hk
    rw [List.getElem_drop, at_]
    have hj := he (by omega)
    rcases Nat.eq_zero_or_pos k with rfl | hpos
    · exact hj
    · have g1 := norm_at hn (i := j) (j := j + k) (by omega) (by omega)
      have g2 := norm_in hn (j := j) (by omega)
      omega
end
theorem u_met (zs : List (Int × Int)) (x y : Int) (v : Value) (B : Nat) (w : World) (hv : Prs w B v zs) (hn : normB (-1) zs = true) (hl : zs.length ≤ 2000) :
    Calls Try.prog 28 #[v, .int .i64 x, .int .i64 y] w fun e w' => ∃ i j : Nat, e = .returned (.tuple #[.int .i64 i, .int .i64 j]) ∧ i ≤ j ∧ j ≤ zs.length ∧ Met zs x y (zs.take i) ((zs.drop i).take (j - i)) (zs.drop j) ∧ w = w' := by
  obtain ⟨A, c, rfl, -, -, hcell⟩ := hv
  have HC := Lib.hid hcell
  clear hcell
  go_enter Try.func28, Try.ntmps28
  go_wp2_with fail
  go_loop [6, 7] (fun s t => ∃ i j : Nat, i ≤ j ∧ j ≤ zs.length ∧ s = .int .i64 i ∧ t = .int .i64 j ∧ Hid (MetI zs x y i j)) (fun _ t => zs.length - (intOf t).toNat)
  case atStart => exact ⟨0, 0, Nat.le_refl _, Nat.zero_le _, rfl, rfl, MetI.start⟩
  case round =>
    obtain ⟨i, j, hij, hj, rfl, rfl, hm⟩ := hrel
    by_cases hlt : j < zs.length
    · obtain ⟨b, off, rfl, hb, hcell⟩ := HC.out (by omega)
      obtain ⟨hx, hy⟩ := hcell j hlt
      have HSkip := fun h => hm.out.skip hn hlt h
      have HMore := fun h h' => hm.out.more hlt h h'
      have HEnd := fun h => hm.out.met hn fun _ => h
      clear hcell hm
      generalize zs.getD j (0, 0) = p at *
      obtain ⟨p0, p1⟩ := p
      have h0 : (0 : Int) ≤ j := by omega
      have h1 : (0 : Int) ≤ i := by omega
      have tl : decide ((j : Int) < zs.length) = true := decide_eq_true (by omega)
      by_cases c1 : p0 ≤ y
      · have t1 := decide_eq_true c1
        by_cases c2 : p1 < x
        · have t2 := decide_eq_true c2
          have H := Lib.hid (HSkip c2)
          clear HSkip HMore HEnd
          go_wp2_with fail
          go_round
          case rel => exact ⟨i + 1, j + 1, by omega, by omega, by go_num, by go_num, H⟩
          case measure => simp [intOf]; omega
        · have t2 := decide_eq_false c2
          have H := Lib.hid (HMore c2 c1)
          clear HSkip HMore HEnd
          go_wp2_with fail
          go_round
          case rel => exact ⟨i, j + 1, by omega, by omega, by go_num, by go_num, H⟩
          case measure => simp [intOf]; omega
      · have t1 := decide_eq_false c1
        have H := Lib.hid (HEnd (by show y < p0; omega))
        clear HSkip HMore HEnd
        go_wp2_with fail
        go_ret2
        exact ⟨i, j, rfl, hij, hj, H.out, rfl⟩
    · obtain rfl : j = zs.length := by omega
      have tl : decide ((zs.length : Int) < zs.length) = false := decide_eq_false (by omega)
      have H := Lib.hid (hm.out.met hn fun h => absurd h hlt)
      clear hm
      go_wp2_with fail
      go_ret2
      exact ⟨i, zs.length, rfl, hij, hj, H.out, rfl⟩
end Go.Proofs.Ytjcgclfcompioaa.Span
