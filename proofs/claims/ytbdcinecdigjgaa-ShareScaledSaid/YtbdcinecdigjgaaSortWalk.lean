/- What slices' stable sort by a comparing function does to a slice of ints, at any length: swapRange, rotate. -/
import Derived.Test.YtbdcinecdigjgaaSortMath
import Derived.Test.YtbdcinecdigjgaaWakes
import Derived.Deep.OwnRows
import Derived.Lib.Hide
import Derived.RegionTactic
import Derived.BigRegion
import Derived.Deep.QuietTactic
import Derived.BigQuiet
import Derived.IntWalk
import Derived.Handy
namespace Go.Proofs.Ytbdcinecdigjgaa.Stable
open Go.ChangeShapes Go.WideShapes Go.ChangeAt Go.RowKit Law

def rowE (E : Nat → Int) (P : Nat → Nat) (i : Nat) : Value := .int .i64 (E (P i))

theorem only_refl (w : World) (r : Option Nat) : w.grownBy w r := ⟨rfl, rfl, rfl, Nat.le_refl _, fun _ _ _ => rfl⟩
theorem only_trans {a b c : World} {r : Option Nat} (h : a.grownBy b r) (k : b.grownBy c r) : a.grownBy c r :=
  ⟨k.os.trans h.os, k.tape.trans h.tape, k.output.trans h.output, Nat.le_trans h.size k.size, fun i hi hr => (k.block i (Nat.lt_of_lt_of_le hi h.size) hr).trans (h.block i hi hr)⟩
theorem only_drewN {a w : World} {r : Option Nat} (h : a.grownBy w r) (n : Nat) : a.grownBy (w.drewN n) r := ⟨h.os, h.tape, h.output, h.size, h.block⟩
theorem only_drew {a w : World} {r : Option Nat} (h : a.grownBy w r) : a.grownBy w.drew r := ⟨h.os, h.tape, h.output, h.size, h.block⟩
theorem only_set {a w : World} {g : Nat} (h : a.grownBy w (some g)) (o : Nat) (u : Value) : a.grownBy (w.setCell ⟨g, o, none⟩ u) (some g) :=
  ⟨h.os, h.tape, h.output, by simpa [World.setCell] using h.size, fun i hi hne => (Below.heap_setCell w ⟨g, o, none⟩ u i (by rintro rfl; exact hne rfl)).trans (h.block i hi hne)⟩
/-- Two places exchanged. -/
theorem row_swap {w : World} {g n i j : Nat} {T : TypeId} {E : Nat → Int} {P : Nat → Nat} (h : w.rowIs g T n (rowE E P)) (hne : i ≠ j) :
    ((w.setCell ⟨g, i, none⟩ (.int .i64 (E (P j)))).setCell ⟨g, j, none⟩ (.int .i64 (E (P i)))).rowIs g T n (rowE E (swp i j P)) :=
  ((h.set i _).set j _).congr fun k _ => by
    unfold rowE swp
    by_cases e1 : k = j
    · subst e1
      rw [if_pos rfl, if_neg (fun e => hne e.symm), if_pos rfl]
    · rw [if_neg e1]
      by_cases e2 : k = i
      · subst e2
        rw [if_pos rfl, if_pos rfl]
      · rw [if_neg e2, if_neg e2, if_neg e1]

/-- The row is there, and nothing else has turned. -/
def Rowed (E : Nat → Int) (g n : Nat) (P : Nat → Nat) (w : World) (e : Ending) (w' : World) : Prop :=
  e = .returned (.tuple #[]) ∧ w'.rowIs g 3 n (rowE E P) ∧ w.grownBy w' (some g)

set_option maxHeartbeats 400000 in
theorem swapRange_any (E : Nat → Int) (g n : Nat) (P : Nat → Nat) (a b k : Nat) (cf : Value) (w : World) (hrow : w.rowIs g 3 n (rowE E P)) (h1 : a + k ≤ b) (h2 : b + k ≤ n) (hn : n ≤ 1152921504606846976) :
    Calls Try.prog 46 #[.slice (some ⟨g, 0, none⟩) n n, .int .i64 a, .int .i64 b, .int .i64 k, cf] w (Rowed E g n (swapR a b k P) w) := by
  have HW := Lib.hid hrow
  clear hrow
  go_enter Try.func46, Try.ntmps46
  go_wp2_with fail
  go_loopw [10] (fun t wr => ∃ i : Nat, i ≤ k ∧ t = .int .i64 i ∧ wr.rowIs g 3 n (rowE E (swapR a b i P)) ∧ w.grownBy wr (some g)) (fun t _ => k - (intOf t).toNat)
  case atStart => exact ⟨0, Nat.zero_le _, rfl, by rw [swapR_zero]; exact HW.out, only_refl _ _⟩
  case round =>
    obtain ⟨i, hi, rfl, hr, hg⟩ := hrel
    by_cases hlt : i < k
    · have HR := Lib.hid hr
      have HG := Lib.hid hg
      have ca := hr.cell (i := a + i) (by omega)
      have cb := hr.cell (i := b + i) (by omega)
      have fa := hr.frozen (a + i)
      have fb := hr.frozen (b + i)
      have lg := hr.lt
      have hs := row_swap (i := a + i) (j := b + i) hr (by omega)
      have HS := Lib.hid hs
      have HE := Lib.hid (swapR_succ (n := i) P (by omega : a + (i + 1) ≤ b))
      clear hr hg hs
      unfold rowE at ca cb
      generalize hx : E (swapR a b i P (a + i)) = x at *
      generalize hy : E (swapR a b i P (b + i)) = y at *
      clear hx hy
      go_wp2_with fail
      go_region
      go_wp2_with fail
      go_roundw
      case rel => exact ⟨i + 1, by omega, by go_num, by rw [← HE.out]; exact HS.out, only_drew (only_set (only_set HG.out _ _) _ _)⟩
      case measure => simp [intOf]; omega
    · obtain rfl : i = k := by omega
      have HR := Lib.hid hr
      have HG := Lib.hid hg
      clear hr hg
      go_wp2_with fail
      go_returns
      exact ⟨rfl, HR.out, HG.out⟩

theorem swapRange_int (E : Nat → Int) (g n : Nat) (P : Nat → Nat) (a b k : Nat) (x y z : Int) (cf : Value) (w : World) (hrow : w.rowIs g 3 n (rowE E P)) (h1 : a + k ≤ b) (h2 : b + k ≤ n) (hn : n ≤ 1152921504606846976) (hx : x = a) (hy : y = b) (hz : z = k) :
    Calls Try.prog 46 #[.slice (some ⟨g, 0, none⟩) n n, .int .i64 x, .int .i64 y, .int .i64 z, cf] w (Rowed E g n (swapR a b k P) w) := by
  subst hx hy hz
  exact swapRange_any E g n P a b k cf w hrow h1 h2 hn

set_option maxHeartbeats 400000 in
theorem rotate_any (E : Nat → Int) (g n : Nat) (P : Nat → Nat) (a m b : Nat) (cf : Value) (w : World) (hrow : w.rowIs g 3 n (rowE E P)) (h1 : a < m) (h2 : m < b) (h3 : b ≤ n) (hn : n ≤ 1152921504606846976) :
    Calls Try.prog 45 #[.slice (some ⟨g, 0, none⟩) n n, .int .i64 a, .int .i64 m, .int .i64 b, cf] w (Rowed E g n (rot a m b P) w) := by
  have HW := Lib.hid hrow
  clear hrow
  have ei : (m : Int) - a = ((m - a : Nat) : Int) := by omega
  have ej : (b : Int) - m = ((b - m : Nat) : Int) := by omega
  have HEI := Lib.hid ei
  have HEJ := Lib.hid ej
  clear ei ej
  go_enter Try.func45, Try.ntmps45
  go_wp2_with fail
  go_loopw [10, 11] (fun s t wr => ∃ (lo j : Nat) (Q : Nat → Nat), lo < m ∧ 0 < j ∧ m + j ≤ b ∧ a ≤ lo ∧ s = .int .i64 ((m : Int) - lo) ∧ t = .int .i64 j ∧ Hid (rot lo m (m + j) Q = rot a m b P) ∧ wr.rowIs g 3 n (rowE E Q) ∧ w.grownBy wr (some g)) (fun s t _ => ((intOf s) + (intOf t)).toNat)
  case atStart => exact ⟨a, b - m, P, h1, by omega, by omega, Nat.le_refl _, rfl, by rw [← HEJ.out], by rw [show m + (b - m) = b from by omega]; rfl, HW.out, only_refl _ _⟩
  case round =>
    obtain ⟨lo, j, Q, l1, l2, l3, l4, rfl, rfl, HQ, hr, hg⟩ := hrel
    have HR := Lib.hid hr
    have HG := Lib.hid hg
    clear hr hg
    by_cases h : m - lo = j
    · have HE := Lib.hid (rot_eq (lo := lo) (m := m) Q (by omega))
      rw [h] at HE
      have hb : ((m : Int) - lo == j) = true := by rw [beq_iff_eq]; omega
      have hb' : ((m : Int) - lo != j) = false := by simp only [bne, hb]; rfl
      have i1 : m ≤ lo + j := by omega
      have i2 : lo + j ≤ m := by omega
      clear h
      go_wp2_with fail
      refine (swapRange_int E g n Q lo m j _ _ _ _ _ HR.out (by omega) (by omega) hn (by omega) (by omega) (by omega)).mono ?_
      rintro e w1 ⟨rfl, hr1, hg1⟩
      have HR1 := Lib.hid hr1
      have HG1 := Lib.hid hg1
      clear hr1 hg1
      go_wp2_with fail
      go_returns
      exact ⟨rfl, by rw [← HQ.out, ← HE.out]; exact HR1.out, only_trans HG.out HG1.out⟩
    · have hb : ((m : Int) - lo == j) = false := by rw [beq_eq_false_iff_ne]; omega
      have hb' : ((m : Int) - lo != j) = true := by simp only [bne, hb]; rfl
      by_cases h5 : j < m - lo
      · have HE := Lib.hid (rot_more (lo := lo) (m := m) (j := j) Q (by omega) l2)
        have h6 : (j : Int) < (m : Int) - lo := by omega
        clear h h5
        go_wp2_with fail
        refine (swapRange_int E g n Q lo m j _ _ _ _ _ HR.out (by omega) (by omega) hn (by omega) (by omega) (by omega)).mono ?_
        rintro e w1 ⟨rfl, hr1, hg1⟩
        have HR1 := Lib.hid hr1
        have HG1 := Lib.hid hg1
        clear hr1 hg1
        go_wp2_with fail
        go_roundw
        case rel => exact ⟨lo + j, j, _, by omega, l2, l3, by omega, congrArg (Value.int IntKind.i64) (by omega), rfl, HE.out.trans HQ.out, HR1.out, only_trans HG.out HG1.out⟩
        case measure => simp [intOf]; omega
      · have HE := Lib.hid (rot_less (lo := lo) (m := m) (j := j) Q l1 (by omega))
        have h6 : ¬ (j : Int) < (m : Int) - lo := by omega
        have h7 : m - lo < j := by omega
        clear h h5
        go_wp2_with fail
        refine (swapRange_int E g n Q lo (m + j - (m - lo)) (m - lo) _ _ _ _ _ HR.out (by omega) (by omega) hn (by omega) (by omega) (by omega)).mono ?_
        rintro e w1 ⟨rfl, hr1, hg1⟩
        have HR1 := Lib.hid hr1
        have HG1 := Lib.hid hg1
        clear hr1 hg1
        go_wp2_with fail
        go_roundw
        case rel => exact ⟨lo, j - (m - lo), _, l1, by omega, by omega, l4, rfl, congrArg (Value.int IntKind.i64) (by omega), by rw [show m + (j - (m - lo)) = m + j - (m - lo) from by omega]; exact HE.out.trans HQ.out, HR1.out, only_trans HG.out HG1.out⟩
        case measure => simp [intOf]; omega

/-- A function value that compares two ints, wherever only the row has turned: negative just if the first is less. -/
structure Cmp (E : Nat → Int) (lt : Nat → Nat → Bool) (c : Nat → Nat → Int) (F : FuncId) (cap : Array Value) (g n : Nat) (W : World) : Prop where
  enters : ∀ (args : Array Value) (w : World), (callFunc F args).run Try.prog w = .ok (.enter F args) w
  sign : ∀ i j, decide (c i j < 0) = lt i j
  tells : ∀ w, W.grownBy w (some g) → ∀ i j, i < n → j < n → Calls Try.prog F (#[.int .i64 (E i), .int .i64 (E j)] ++ cap) w fun e w' => e = .returned (.int .i64 (c i j)) ∧ ∃ k, w' = w.drewN k

theorem Re.bound {n : Nat} {Q : Nat → Nat} (h : Re 0 n (fun i => i) Q) {i : Nat} (hi : i < n) : Q i < n := by
  obtain ⟨k, -, k2, k3⟩ := h.inside (Nat.zero_le i) hi
  rw [k3]; exact k2

set_option maxHeartbeats 400000 in
theorem insertion_any (E : Nat → Int) (lt : Nat → Nat → Bool) (c : Nat → Nat → Int) (R : Nat → Nat → Prop) (o : Ord R lt) (F : FuncId) (cap : Array Value) (g n : Nat) (W : World) (hc : Cmp E lt c F cap g n W) (P : Nat → Nat) (a b : Nat) (w : World)
    (hW : W.grownBy w (some g)) (hrow : w.rowIs g 3 n (rowE E P)) (hP : Re 0 n (fun i => i) P) (he : ∀ u v, a ≤ u → u < v → v < b → P u < P v) (ha : a ≤ b) (hb : b ≤ n) (hn : n ≤ 1152921504606846976) :
    Calls Try.prog 42 #[.slice (some ⟨g, 0, none⟩) n n, .int .i64 a, .int .i64 b, .func (.func F) #[] cap] w
      fun e w' => ∃ Q, Rowed E g n Q w e w' ∧ Re a b P Q ∧ Srt R Q a b := by
  have HW := Lib.hid hrow
  have HC := Lib.hid hc
  have HWW := Lib.hid hW
  have HE := Lib.hid he
  have HP := Lib.hid hP
  clear hrow hc hW he hP
  go_enter Try.func42, Try.ntmps42
  go_wp2_with fail
  go_loopw [8] (fun t wr => ∃ (i : Nat) (Q : Nat → Nat), a < i ∧ (i ≤ b ∨ i = a + 1) ∧ t = .int .i64 i ∧ Hid (Re a i P Q) ∧ Hid (Srt R Q a i) ∧ Hid (wr.rowIs g 3 n (rowE E Q)) ∧ Hid (w.grownBy wr (some g))) (fun t _ => b + 1 - (intOf t).toNat)
  case atStart => exact ⟨a + 1, P, by omega, by omega, by go_num, Re.refl _ _ _, fun i j x y z => by omega, HW.out, only_refl _ _⟩
  case round =>
    obtain ⟨i, Q, i1, i2, rfl, HR, HS, HRow, HG⟩ := hrel
    by_cases hlt : i < b
    · obtain ⟨wo, rfl⟩ : ∃ wo : World, wo = wr := ⟨_, rfl⟩
      have HEi : Hid (∀ u, a ≤ u → u < i → Q u < Q i) := fun u h1 h2 => by
        obtain ⟨k, k1, k2, k3⟩ := HR.out.inside h1 h2
        rw [k3, HR.out.out (i := i) (by omega)]
        exact HE.out k i k1 k2 hlt
      go_wp2_with fail
      go_loopw [9] (fun t wr => ∃ (j : Nat) (S : Nat → Nat), a ≤ j ∧ j ≤ i ∧ t = .int .i64 j ∧ Hid (Ins R a i j S) ∧ Hid (Re a (i + 1) P S) ∧ Hid (wr.rowIs g 3 n (rowE E S)) ∧ Hid (w.grownBy wr (some g))) (fun t _ => (intOf t).toNat)
      case atStart => exact ⟨i, Q, by omega, Nat.le_refl _, rfl, ins_start HS.out HEi.out (by omega), HR.out.mono (Nat.le_refl _) (by omega), HRow.out, HG.out⟩
      case round =>
        obtain ⟨j, S, j1, j2, rfl, HI, HRS, HRow', HG'⟩ := hrel
        have fin : ∀ (T : Prop), (j = a ∨ a < j ∧ lt (S j) (S (j - 1)) = false) → (Srt R S a (i + 1) → T) → T := fun T h k => k (ins_done o HI.out h)
        have HF := Lib.hid fin
        clear fin
        by_cases hja : j = a
        · have HS' := HF.out (Hid (Srt R S a (i + 1))) (Or.inl hja) id
          have hd : decide (a < j) = false := decide_eq_false (by omega)
          clear hja HF
          go_wp2_with fail
          go_quiet (fail)
          go_wp2_with fail
          go_roundw
          case rel => exact ⟨i + 1, S, by omega, by omega, by go_num, HRS, HS', HRow', only_drewN HG'.out _⟩
          case measure => simp [intOf]; omega
        · obtain ⟨k, rfl⟩ : ∃ k, j = k + 1 := ⟨j - 1, by omega⟩
          have hd : decide ((a : Int) < k + 1) = true := decide_eq_true (by omega)
          have hPS : Re 0 n (fun i => i) S := HP.out.trans (HRS.out.mono (Nat.zero_le _) (by omega))
          have ca := HRow'.out.cell (i := k + 1) (by omega)
          have cb := HRow'.out.cell (i := k) (by omega)
          have fa := HRow'.out.frozen (k + 1)
          have fb := HRow'.out.frozen k
          have lg := HRow'.out.lt
          have HSW := Lib.hid (row_swap (i := k + 1) (j := k) HRow'.out (by omega))
          have HCall := fun m => HC.out.tells (wr.drewN m) (only_drewN (only_trans HWW.out HG'.out) m) (S (k + 1)) (S k) (hPS.bound (by omega)) (hPS.bound (by omega))
          have hsgn := HC.out.sign (S (k + 1)) (S k)
          have w1 : IntKind.i64.wrap ((k : Int) + 1 - 1) = k := by rw [IntWalk.i64_in _ (by omega)]; omega
          have w2 : IntKind.i64.wrap (k : Int) = k := IntWalk.i64_in _ (by omega)
          have p0 : (0 : Int) ≤ (k : Int) + 1 := by omega
          have p1 : ((k : Int) + 1).toNat = k + 1 := by omega
          have p2 : (k : Int) + 1 < n := by omega
          have p3 : (0 : Int) ≤ (k : Int) := by omega
          have p4 : (k : Int) < n := by omega
          unfold rowE at ca cb
          have HT := Lib.hid HCall
          have hF := HC.out.enters
          have hl : lt (S (k + 1)) (S k) = false ∨ lt (S (k + 1)) (S k) = true := by cases lt (S (k + 1)) (S k) <;> simp
          clear hPS HCall
          generalize E (S (k + 1)) = x at *
          generalize E (S k) = y at *
          generalize c (S (k + 1)) (S k) = z at *
          rcases hl with hl | hl
          · have HS' := HF.out (Hid (Srt R S a (i + 1))) (Or.inr ⟨by omega, hl⟩) id
            rw [hl] at hsgn
            clear HF hl
            go_wp2_with fail
            go_quiet ((exact Calls.quiet_of (HT.out _)))
            go_wp2_with fail
            go_roundw
            case rel => exact ⟨i + 1, S, by omega, by omega, by go_num, HRS, HS', HRow', only_drewN HG'.out _⟩
            case measure => simp [intOf]; omega
          · have HI' : Hid (Ins R a i k (swp (k + 1) k S)) := ins_step o HI.out (by omega) hl
            rw [hl] at hsgn
            clear HF hl
            go_wp2_with fail
            go_quiet ((exact Calls.quiet_of (HT.out _)))
            go_wp2_with fail
            go_region
            go_wp2_with fail
            go_roundw
            case rel => exact ⟨k, swp (k + 1) k S, by omega, by omega, by go_num, HI', HRS.out.trans (Re.swap S (by omega) (by omega) (by omega) (by omega)), HSW.out, only_set (only_set (only_drewN HG'.out _) _ _) _ _⟩
            case measure => simp [intOf]
    · have HS' : Hid (Srt R Q a b) := by
        rcases Nat.lt_or_ge b i with h | h
        · exact fun u v h1 h2 h3 => HS.out u v h1 h2 (by omega)
        · obtain rfl : i = b := by omega
          exact HS.out
      have HR' : Hid (Re a b P Q) := by
        rcases Nat.lt_or_ge b i with h | h
        · obtain ⟨p, p1, p2, p3⟩ := HR.out
          refine ⟨p, p1, fun x hx => ?_, p3⟩
          by_cases z : x < a ∨ i ≤ x
          · exact p2 x z
          · obtain rfl : x = a := by omega
            have e : p x = x := by
              rcases Nat.lt_trichotomy (p x) x with z1 | z1 | z1
              · have := p1 _ _ (p2 (p x) (Or.inl z1)); omega
              · exact z1
              · have := p1 _ _ (p2 (p x) (Or.inr (by omega))); omega
            exact e
        · obtain rfl : i = b := by omega
          exact HR.out
      go_wp2_with fail
      go_returns
      exact ⟨Q, ⟨rfl, HRow.out, HG.out⟩, HR'.out, HS'.out⟩
end Go.Proofs.Ytbdcinecdigjgaa.Stable
