/- The document's own Good, in, Has, Days, at any stretches. -/
import Derived.Test.YtjcgclfcompioaaChecked
import Derived.Test.YtjcgclfcompioaaSpanMath2
import Derived.Test.YtjcgclfcompioaaPairs
import Derived.Deep.QuietTactic
import Derived.BigQuiet
import Derived.Handy
import Derived.Lib.Hide
namespace Go.Proofs.Ytjcgclfcompioaa.Span
open Go.ChangeShapes Go.WideShapes Go.ChangeAt Go.RowKit Pairs

theorem ret_bool {a b : Bool} (h : a = b) : Ending.returned (.bool a) = .returned (.bool b) := by rw [h]
theorem ret_int {k : IntKind} {a b : Int} (h : a = b) : Ending.returned (.int k a) = .returned (.int k b) := by rw [h]
theorem below_drewN {B : Nat} {a w : World} (h : Below B a w) (n : Nat) : Below B a (w.drewN n) := ⟨h.os, h.tape, h.output, h.size, h.block⟩
theorem below_new {a b : World} (h : Below a.heap.size a b) (o : Obj) : Below a.heap.size a (b.alloc o) := h.alloc h.size o
theorem below_via {a b c : World} (h : Below a.heap.size a b) (k : Below b.heap.size b c) : Below a.heap.size a c := h.trans (k.mono h.size)
theorem take_next (zs : List (Int × Int)) (j : Nat) (h : j < zs.length) : zs.take (j + 1) = zs.take j ++ [zs.getD j (0, 0)] := by
  rw [List.take_add_one, List.getElem?_eq_getElem h, List.getD_eq_getElem?_getD, List.getElem?_eq_getElem h]; rfl
theorem has_next (zs : List (Int × Int)) (j : Nat) (h : j < zs.length) (d : Int) : hasB (zs.take (j + 1)) d = (hasB (zs.take j) d || decide ((zs.getD j (0, 0)).1 ≤ d ∧ d < (zs.getD j (0, 0)).2)) := by
  rw [take_next zs j h, has_append, has_one]
theorem has_found (zs : List (Int × Int)) (j : Nat) (h : j < zs.length) (d : Int) (hd : (zs.getD j (0, 0)).1 ≤ d ∧ d < (zs.getD j (0, 0)).2) : hasB zs d = true := by
  have e : hasB (zs.take (j + 1)) d = true := by rw [has_next zs j h, decide_eq_true hd, Bool.or_true]
  have := has_append (zs.take (j + 1)) (zs.drop (j + 1)) d
  rw [List.take_append_drop, e, Bool.true_or] at this
  exact this

theorem r_in (zs : List (Int × Int)) (d : Int) (v : Value) (B : Nat) (w : World) (hv : Prs w B v zs) :
    Calls Try.prog 26 #[v, .int .i64 d] w fun e w' => e = .returned (.bool (hasB zs d)) ∧ w = w' := by
  obtain ⟨A, c, rfl, hl, -, hcell⟩ := hv
  have HC := Lib.hid hcell
  clear hcell
  go_enter Try.func26, Try.ntmps26
  go_wp2_with fail
  go_loop [5] (fun t => ∃ j : Nat, j ≤ zs.length ∧ t = .int .i64 j ∧ Hid (hasB (zs.take j) d = false)) (fun t => zs.length - (intOf t).toNat)
  case atStart => exact ⟨0, Nat.zero_le _, rfl, rfl⟩
  case round =>
    obtain ⟨j, hj, rfl, hh⟩ := hrel
    by_cases hlt : j < zs.length
    · obtain ⟨b, off, rfl, hb, hcell⟩ := HC.out (by omega)
      obtain ⟨hx, hy⟩ := hcell j hlt
      have HF := fun h => has_found zs j hlt d h
      have HN := has_next zs j hlt d
      rw [hh.out, Bool.false_or] at HN
      clear hcell
      generalize zs.getD j (0, 0) = p at *
      obtain ⟨p0, p1⟩ := p
      have h0 : (0 : Int) ≤ j := by omega
      by_cases c1 : p0 ≤ d
      · by_cases c2 : d < p1
        · have H := Lib.hid (HF ⟨c1, c2⟩)
          have t1 := decide_eq_true c1
          have t2 := decide_eq_true c2
          clear HN HF hh
          go_wp2_with fail
          go_ret
          exact ⟨ret_bool H.out.symm, rfl⟩
        · have t1 := decide_eq_true c1
          have t2 := decide_eq_false c2
          have HN := Lib.hid (HN.trans (decide_eq_false (fun h => c2 h.2)))
          clear HF hh
          go_wp2_with fail
          go_round
          case rel => exact ⟨j + 1, by omega, by go_num, HN⟩
          case measure => simp [intOf]; omega
      · have t1 := decide_eq_false c1
        have HN := Lib.hid (HN.trans (decide_eq_false (fun h => c1 h.1)))
        clear HF hh
        go_wp2_with fail
        go_round
        case rel => exact ⟨j + 1, by omega, by go_num, HN⟩
        case measure => simp [intOf]; omega
    · obtain rfl : j = zs.length := by omega
      have H : Hid (hasB zs d = false) := show _ = _ by have := hh.out; rwa [List.take_length] at this
      clear hh
      go_wp2_with fail
      go_ret
      exact ⟨ret_bool H.out.symm, rfl⟩
theorem norm_left : ∀ (lo : Int) (a b : List (Int × Int)), normB lo (a ++ b) = true → normB lo a = true
  | _, [], _, _ => rfl
  | lo, p :: r, b, h => by
    rw [List.cons_append, normB_cons] at h
    rw [normB_cons]
    exact ⟨h.1, norm_left p.2 r b h.2⟩
theorem norm_take {zs : List (Int × Int)} (j : Nat) (h : normB (-1) zs = true) : normB (-1) (zs.take j) = true := norm_left _ _ (zs.drop j) (by rw [List.take_append_drop]; exact h)
theorem norm_bad {zs : List (Int × Int)} {j : Nat} (h : j < zs.length) (hc : ¬ (lastTo (-1) (zs.take j) < (zs.getD j (0, 0)).1 ∧ (zs.getD j (0, 0)).1 < (zs.getD j (0, 0)).2 ∧ (zs.getD j (0, 0)).2 ≤ 87659)) : goodB zs = false := by
  unfold goodB
  rw [Bool.and_eq_false_iff]
  left
  cases hn : normB (-1) zs with
  | false => rfl
  | true =>
    have := norm_take (j + 1) hn
    rw [take_next zs j h, normB_end] at this
    exact absurd this.2 hc
theorem norm_step {zs : List (Int × Int)} {j : Nat} (h : j < zs.length) (hn : normB (-1) (zs.take j) = true) (hc : lastTo (-1) (zs.take j) < (zs.getD j (0, 0)).1 ∧ (zs.getD j (0, 0)).1 < (zs.getD j (0, 0)).2 ∧ (zs.getD j (0, 0)).2 ≤ 87659) : normB (-1) (zs.take (j + 1)) = true := by
  rw [take_next zs j h, normB_end]
  exact ⟨hn, hc⟩
theorem last_next {zs : List (Int × Int)} {k : Nat} (h : k < zs.length) : lastTo (-1) (zs.take (k + 1)) = (zs.getD k (0, 0)).2 := by rw [take_next zs k h, lastTo_end]
theorem good_all {zs : List (Int × Int)} (h : normB (-1) (zs.take zs.length) = true) : goodB zs = decide (zs.length ≤ 1000) := by
  rw [List.take_length] at h
  unfold goodB
  rw [h, Bool.true_and]

set_option maxHeartbeats 1000000 in
theorem r_good (zs : List (Int × Int)) (v : Value) (B : Nat) (w : World) (hv : Prs w B v zs) :
    Calls Try.prog 11 #[v] w fun e w' => e = .returned (.bool (goodB zs)) ∧ ∃ n, w' = w.drewN n := by
  obtain ⟨A, c, rfl, hl, -, hcell⟩ := hv
  have HC := Lib.hid hcell
  clear hcell
  go_enter Try.func11, Try.ntmps11
  go_wp2_with fail
  go_loopw [3] (fun t wr => ∃ j : Nat, j ≤ zs.length ∧ t = .int .i64 j ∧ Hid (normB (-1) (zs.take j) = true) ∧ ∃ n, wr = w.drewN n) (fun t _ => zs.length - (intOf t).toNat)
  case atStart => exact ⟨0, Nat.zero_le _, rfl, rfl, 0, rfl⟩
  case round =>
    obtain ⟨j, hj, rfl, hn, n, rfl⟩ := hrel
    by_cases hlt : j < zs.length
    · obtain ⟨b, off, rfl, hb, hcell⟩ := HC.out (by omega)
      obtain ⟨hx, hy⟩ := hcell j hlt
      have HBad := fun h => norm_bad hlt h
      have HStep := fun h => norm_step hlt hn.out h
      have hge := last_ge hn.out
      cases j with
      | zero =>
        have e0 : lastTo (-1) (zs.take 0) = -1 := rfl
        rw [e0] at HBad HStep
        rw [Nat.zero_mul, Nat.add_zero] at hx hy
        clear hcell hn hge e0
        generalize zs.getD 0 (0, 0) = p at *
        obtain ⟨p0, p1⟩ := p
        by_cases c1 : p0 < 0
        · have H := Lib.hid (HBad (by show ¬ ((-1 : Int) < p0 ∧ p0 < p1 ∧ p1 ≤ 87659); omega))
          have t1 := decide_eq_true c1
          clear HBad HStep
          go_wp2_with fail
          go_quiet (fail)
          go_wp2_with fail
          go_ret
          exact ⟨ret_bool H.out.symm, _, World.drewN_drewN ..⟩
        by_cases c2 : p1 ≤ p0
        · have H := Lib.hid (HBad (by show ¬ ((-1 : Int) < p0 ∧ p0 < p1 ∧ p1 ≤ 87659); omega))
          have t1 := decide_eq_false c1
          have t2 := decide_eq_true c2
          clear HBad HStep
          go_wp2_with fail
          go_quiet (fail)
          go_wp2_with fail
          go_ret
          exact ⟨ret_bool H.out.symm, _, World.drewN_drewN ..⟩
        by_cases c3 : 87659 < p1
        · have H := Lib.hid (HBad (by show ¬ ((-1 : Int) < p0 ∧ p0 < p1 ∧ p1 ≤ 87659); omega))
          have t1 := decide_eq_false c1
          have t2 := decide_eq_false c2
          have t3 := decide_eq_true c3
          clear HBad HStep
          go_wp2_with fail
          go_quiet (fail)
          go_wp2_with fail
          go_ret
          exact ⟨ret_bool H.out.symm, _, World.drewN_drewN ..⟩
        have H := Lib.hid (HStep (by show (-1 : Int) < p0 ∧ p0 < p1 ∧ p1 ≤ 87659; omega))
        have t1 := decide_eq_false c1
        have t2 := decide_eq_false c2
        have t3 := decide_eq_false c3
        clear HBad HStep
        go_wp2_with fail
        go_quiet (fail)
        go_wp2_with fail
        go_roundw
        case rel => exact ⟨1, by omega, rfl, H, _, rfl⟩
        case measure => simp [intOf]; omega
      | succ k =>
        obtain ⟨-, hz⟩ := hcell k (by omega)
        rw [last_next (by omega)] at HBad HStep hge
        clear hcell hn
        generalize zs.getD (k + 1) (0, 0) = p at *
        generalize zs.getD k (0, 0) = q at *
        obtain ⟨p0, p1⟩ := p
        obtain ⟨q0, q1⟩ := q
        have k0 : wrap64 (((k + 1 : Nat) : Int) - 1) = (k : Int) := by unfold wrap64; omega
        have k1 : decide ((0 : Int) < ((k + 1 : Nat) : Int)) = true := decide_eq_true (by omega)
        by_cases c1 : p0 < 0
        · have H := Lib.hid (HBad (by show ¬ (q1 < p0 ∧ p0 < p1 ∧ p1 ≤ 87659); have : (-1 : Int) ≤ q1 := hge; omega))
          have t1 := decide_eq_true c1
          clear HBad HStep hge
          go_wp2_with fail
          go_quiet (fail)
          go_wp2_with fail
          go_ret
          exact ⟨ret_bool H.out.symm, _, World.drewN_drewN ..⟩
        by_cases c2 : p1 ≤ p0
        · have H := Lib.hid (HBad (by show ¬ (q1 < p0 ∧ p0 < p1 ∧ p1 ≤ 87659); omega))
          have t1 := decide_eq_false c1
          have t2 := decide_eq_true c2
          clear HBad HStep hge
          go_wp2_with fail
          go_quiet (fail)
          go_wp2_with fail
          go_ret
          exact ⟨ret_bool H.out.symm, _, World.drewN_drewN ..⟩
        by_cases c3 : 87659 < p1
        · have H := Lib.hid (HBad (by show ¬ (q1 < p0 ∧ p0 < p1 ∧ p1 ≤ 87659); omega))
          have t1 := decide_eq_false c1
          have t2 := decide_eq_false c2
          have t3 := decide_eq_true c3
          clear HBad HStep hge
          go_wp2_with fail
          go_quiet (fail)
          go_wp2_with fail
          go_ret
          exact ⟨ret_bool H.out.symm, _, World.drewN_drewN ..⟩
        by_cases c4 : p0 ≤ q1
        · have H := Lib.hid (HBad (by show ¬ (q1 < p0 ∧ p0 < p1 ∧ p1 ≤ 87659); omega))
          have t1 := decide_eq_false c1
          have t2 := decide_eq_false c2
          have t3 := decide_eq_false c3
          have t4 := decide_eq_true c4
          clear HBad HStep hge
          go_wp2_with fail
          go_quiet (fail)
          go_wp2_with fail
          go_ret
          exact ⟨ret_bool H.out.symm, _, World.drewN_drewN ..⟩
        have H := Lib.hid (HStep (by show q1 < p0 ∧ p0 < p1 ∧ p1 ≤ 87659; omega))
        have t1 := decide_eq_false c1
        have t2 := decide_eq_false c2
        have t3 := decide_eq_false c3
        have t4 := decide_eq_false c4
        clear HBad HStep hge
        go_wp2_with fail
        go_quiet (fail)
        go_wp2_with fail
        go_roundw
        case rel => exact ⟨k + 1 + 1, by omega, by go_num, H, _, rfl⟩
        case measure => simp [intOf]; omega
    · obtain rfl : j = zs.length := by omega
      have H := Lib.hid (good_all hn.out)
      clear hn
      go_wp2_with fail
      go_ret
      exact ⟨ret_bool (by rw [H.out]; exact decide_eq_decide.2 (by omega)), _, rfl⟩
end Go.Proofs.Ytjcgclfcompioaa.Span
