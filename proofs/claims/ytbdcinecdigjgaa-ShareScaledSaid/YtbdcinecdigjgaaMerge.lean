/- What slices' merge in place does to a slice of ints whose two parts are sorted: the three ways of symMerge. -/
import Derived.Test.YtbdcinecdigjgaaSortWalk
namespace Go.Proofs.Ytbdcinecdigjgaa.Stable
open Go.ChangeShapes Go.WideShapes Go.ChangeAt Go.RowKit Law

/-- Merged: a row anew, sorted from a to b, nothing else turned. -/
def Merged (E : Nat → Int) (R : Nat → Nat → Prop) (g n : Nat) (P : Nat → Nat) (a b : Nat) (w : World) (e : Ending) (w' : World) : Prop := ∃ Q, Rowed E g n Q w e w' ∧ Re a b P Q ∧ Srt R Q a b

/-- What symMerge does, wherever its range is below d. -/
def MergeTo (E : Nat → Int) (R : Nat → Nat → Prop) (F : FuncId) (cap : Array Value) (g n : Nat) (W : World) (d : Nat) : Prop :=
  ∀ (a m b : Nat) (P : Nat → Nat) (w : World) (x y z : Int), b - a < d → W.grownBy w (some g) → w.rowIs g 3 n (rowE E P) → Re 0 n (fun i => i) P → Pre R P a m b → a < m → m < b → b ≤ n → x = a → y = m → z = b →
    Calls Try.prog 43 #[.slice (some ⟨g, 0, none⟩) n n, .int .i64 x, .int .i64 y, .int .i64 z, .func (.func F) #[] cap] w (Merged E R g n P a b w)

section
variable (E : Nat → Int) (lt : Nat → Nat → Bool) (c : Nat → Nat → Int) (R : Nat → Nat → Prop) (o : Ord R lt) (F : FuncId) (cap : Array Value) (g n : Nat) (W : World) (hc : Cmp E lt c F cap g n W) (P : Nat → Nat) (a m b : Nat) (w : World)
    (hW : W.grownBy w (some g)) (hrow : w.rowIs g 3 n (rowE E P)) (hP : Re 0 n (fun i => i) P) (hpre : Pre R P a m b) (ha : a < m) (hm : m < b) (hb : b ≤ n) (hn : n ≤ 1152921504606846976)
include o hc hW hrow hP hpre ha hm hb hn

set_option maxRecDepth 100000 in
set_option maxHeartbeats 1000000 in
theorem merge_first (h1 : m = a + 1) :
    Calls Try.prog 43 #[.slice (some ⟨g, 0, none⟩) n n, .int .i64 a, .int .i64 m, .int .i64 b, .func (.func F) #[] cap] w (Merged E R g n P a b w) := by
  have HW := Lib.hid hrow
  have HC := Lib.hid hc
  have HWW := Lib.hid hW
  have HP := Lib.hid hP
  have HPre := Lib.hid hpre
  clear hrow hc hW hP hpre
  subst h1
  have t1 : (((a : Int) + 1) - a == 1) = true := by rw [beq_iff_eq]; omega
  go_enter Try.func43, Try.ntmps43
  go_wp2_with fail
  clear t1
  go_loopw [10, 11] (fun s t wr => ∃ (i j : Nat), a + 1 ≤ i ∧ i ≤ j ∧ j ≤ b ∧ s = .int .i64 i ∧ t = .int .i64 j ∧ Hid (∀ x, a + 1 ≤ x → x < i → R (P x) (P a)) ∧ Hid (∀ x, j ≤ x → x < b → R (P a) (P x)) ∧ Hid (wr.rowIs g 3 n (rowE E P)) ∧ Hid (w.grownBy wr (some g))) (fun s t _ => (intOf t - intOf s).toNat)
  case atStart => exact ⟨a + 1, b, Nat.le_refl _, by omega, Nat.le_refl _, by go_num, rfl, fun x h1 h2 => by omega, fun x h1 h2 => by omega, HW.out, only_refl _ _⟩
  case round =>
    obtain ⟨i, j, i1, i2, i3, rfl, rfl, HL, HG, HRow, HO⟩ := hrel
    by_cases hlt : i < j
    · obtain ⟨h, hh⟩ : ∃ h : Nat, ((i : Int) + j) / 2 = h := ⟨(i + j) / 2, by omega⟩
      have h1 : i ≤ h := by omega
      have h2 : h < j := by omega
      have ca := HRow.out.cell (i := h) (by omega)
      have cb := HRow.out.cell (i := a) (by omega)
      have HCall := fun m => HC.out.tells (wr.drewN m) (only_drewN (only_trans HWW.out HO.out) m) (P h) (P a) (HP.out.bound (by omega)) (HP.out.bound (by omega))
      have hsgn := HC.out.sign (P h) (P a)
      have p3 : (0 : Int) ≤ (h : Int) := by omega
      have p4 : (h : Int) < n := by omega
      have p5 : (0 : Int) ≤ (a : Int) := by omega
      have p6 : (a : Int) < n := by omega
      unfold rowE at ca cb
      have HT := Lib.hid HCall
      have hF := HC.out.enters
      have hl : lt (P h) (P a) = false ∨ lt (P h) (P a) = true := by cases lt (P h) (P a) <;> simp
      clear HCall
      generalize E (P h) = x at *
      generalize E (P a) = y at *
      generalize c (P h) (P a) = z at *
      rcases hl with hl | hl
      · have HG' : Hid (∀ x, h ≤ x → x < b → R (P a) (P x)) := fun x h3 h4 => by
          have hr := o.no (HPre.out.early a h (by omega) (by omega) (by omega) (by omega)) hl
          by_cases e : x = h
          · rw [e]; exact hr
          · exact o.trans hr (HPre.out.right h x (by omega) (by omega) h4)
        rw [hl] at hsgn
        clear hl
        go_wp2_with fail
        go_quiet ((exact Calls.quiet_of (HT.out _)))
        go_wp2_with fail
        go_roundw
        case rel => exact ⟨i, h, i1, h1, by omega, rfl, rfl, HL, HG', HRow.out, only_drewN HO.out _⟩
        case measure => simp [intOf]; omega
      · have HL' : Hid (∀ x, a + 1 ≤ x → x < h + 1 → R (P x) (P a)) := fun x h3 h4 => by
          have hr := o.yes (HPre.out.early a h (by omega) (by omega) (by omega) (by omega)) hl
          by_cases e : x = h
          · rw [e]; exact hr
          · exact o.trans (HPre.out.right x h (by omega) (by omega) (by omega)) hr
        rw [hl] at hsgn
        clear hl
        go_wp2_with fail
        go_quiet ((exact Calls.quiet_of (HT.out _)))
        go_wp2_with fail
        go_roundw
        case rel => exact ⟨h + 1, j, by omega, by omega, i3, by go_num, rfl, HL', HG, HRow.out, only_drewN HO.out _⟩
        case measure => simp [intOf]; omega
    · obtain rfl : i = j := by omega
      obtain ⟨wo, rfl⟩ : ∃ wo : World, wo = wr := ⟨_, rfl⟩
      have HS := Lib.hid (one_first (i := i) HPre.out.right i1 i3 HL.out HG.out)
      go_wp2_with fail
      go_loopw [13] (fun t wr => ∃ k : Nat, a ≤ k ∧ k + 1 ≤ i ∧ t = .int .i64 k ∧ Hid (wr.rowIs g 3 n (rowE E (rot a (a + 1) (k + 1) P))) ∧ Hid (w.grownBy wr (some g))) (fun t _ => i - (intOf t).toNat)
      case atStart => exact ⟨a, Nat.le_refl _, i1, rfl, by show World.rowIs _ _ _ _ _; rw [rot_first]; exact HRow.out, HO.out⟩
      case round =>
        obtain ⟨k, k1, k2, rfl, HRow', HO'⟩ := hrel
        by_cases hk : k + 1 < i
        · have ca := HRow'.out.cell (i := k) (by omega)
          have cb := HRow'.out.cell (i := k + 1) (by omega)
          have fa := HRow'.out.frozen k
          have fb := HRow'.out.frozen (k + 1)
          have lg := HRow'.out.lt
          have HSW := Lib.hid (row_swap (i := k) (j := k + 1) HRow'.out (by omega))
          have HE := Lib.hid (rot_on P k1)
          have hd : (k : Int) < (i : Int) - 1 := by omega
          unfold rowE at ca cb
          generalize E (rot a (a + 1) (k + 1) P k) = x at *
          generalize E (rot a (a + 1) (k + 1) P (k + 1)) = y at *
          go_wp2_with fail
          go_region
          go_wp2_with fail
          go_roundw
          case rel => exact ⟨k + 1, by omega, by omega, by go_num, by show World.rowIs _ _ _ _ _; rw [← HE.out]; exact HSW.out, only_drew (only_set (only_set HO'.out _ _) _ _)⟩
          case measure => simp [intOf]; omega
        · obtain rfl : i = k + 1 := by omega
          have hd : ¬ (k : Int) < ((k + 1 : Nat) : Int) - 1 := by omega
          go_wp2_with fail
          refine bodyPost_ret (results_none rfl _ _ _) rfl ?_
          exact ⟨_, ⟨rfl, HRow'.out, HO'.out⟩, Re.mono (Re.rot P (by omega) (by omega)) (Nat.le_refl _) i3, HS.out⟩

set_option maxRecDepth 100000 in
set_option maxHeartbeats 1000000 in
theorem merge_last (h1 : m ≠ a + 1) (h2 : b = m + 1) :
    Calls Try.prog 43 #[.slice (some ⟨g, 0, none⟩) n n, .int .i64 a, .int .i64 m, .int .i64 b, .func (.func F) #[] cap] w (Merged E R g n P a b w) := by
  have HW := Lib.hid hrow
  have HC := Lib.hid hc
  have HWW := Lib.hid hW
  have HP := Lib.hid hP
  have HPre := Lib.hid hpre
  clear hrow hc hW hP hpre
  subst h2
  have t1 : ((m : Int) - a == 1) = false := by rw [beq_eq_false_iff_ne]; omega
  have t2 : (((m : Int) + 1) - m == 1) = true := by rw [beq_iff_eq]; omega
  go_enter Try.func43, Try.ntmps43
  go_wp2_with fail
  clear t1 t2
  go_loopw [14, 15] (fun s t wr => ∃ (i j : Nat), a ≤ i ∧ i ≤ j ∧ j ≤ m ∧ s = .int .i64 i ∧ t = .int .i64 j ∧ Hid (∀ x, a ≤ x → x < i → R (P x) (P m)) ∧ Hid (∀ x, j ≤ x → x < m → R (P m) (P x)) ∧ Hid (wr.rowIs g 3 n (rowE E P)) ∧ Hid (w.grownBy wr (some g))) (fun s t _ => (intOf t - intOf s).toNat)
  case atStart => exact ⟨a, m, Nat.le_refl _, by omega, Nat.le_refl _, rfl, rfl, fun x h1 h2 => by omega, fun x h1 h2 => by omega, HW.out, only_refl _ _⟩
  case round =>
    obtain ⟨i, j, i1, i2, i3, rfl, rfl, HL, HG, HRow, HO⟩ := hrel
    by_cases hlt : i < j
    · obtain ⟨h, hh⟩ : ∃ h : Nat, ((i : Int) + j) / 2 = h := ⟨(i + j) / 2, by omega⟩
      have h3 : i ≤ h := by omega
      have h4 : h < j := by omega
      have ca := HRow.out.cell (i := m) (by omega)
      have cb := HRow.out.cell (i := h) (by omega)
      have HCall := fun k => HC.out.tells (wr.drewN k) (only_drewN (only_trans HWW.out HO.out) k) (P m) (P h) (HP.out.bound (by omega)) (HP.out.bound (by omega))
      have hsgn := HC.out.sign (P m) (P h)
      have p3 : (0 : Int) ≤ (h : Int) := by omega
      have p4 : (h : Int) < n := by omega
      have p5 : (0 : Int) ≤ (m : Int) := by omega
      have p6 : (m : Int) < n := by omega
      unfold rowE at ca cb
      have HT := Lib.hid HCall
      have hF := HC.out.enters
      have hl : lt (P m) (P h) = false ∨ lt (P m) (P h) = true := by cases lt (P m) (P h) <;> simp
      clear HCall
      generalize E (P h) = x at *
      generalize E (P m) = y at *
      generalize c (P m) (P h) = z at *
      rcases hl with hl | hl
      · have HL' : Hid (∀ x, a ≤ x → x < h + 1 → R (P x) (P m)) := fun x h5 h6 => by
          have hr := o.no (HPre.out.early h m (by omega) (by omega) (by omega) (by omega)) hl
          by_cases e : x = h
          · rw [e]; exact hr
          · exact o.trans (HPre.out.left x h (by omega) (by omega) (by omega)) hr
        rw [hl] at hsgn
        clear hl
        go_wp2_with fail
        go_quiet ((exact Calls.quiet_of (HT.out _)))
        go_wp2_with fail
        go_roundw
        case rel => exact ⟨h + 1, j, by omega, by omega, i3, by go_num, rfl, HL', HG, HRow.out, only_drewN HO.out _⟩
        case measure => simp [intOf]; omega
      · have HG' : Hid (∀ x, h ≤ x → x < m → R (P m) (P x)) := fun x h5 h6 => by
          have hr := o.yes (HPre.out.early h m (by omega) (by omega) (by omega) (by omega)) hl
          by_cases e : x = h
          · rw [e]; exact hr
          · exact o.trans hr (HPre.out.left h x (by omega) (by omega) h6)
        rw [hl] at hsgn
        clear hl
        go_wp2_with fail
        go_quiet ((exact Calls.quiet_of (HT.out _)))
        go_wp2_with fail
        go_roundw
        case rel => exact ⟨i, h, i1, h3, by omega, rfl, rfl, HL, HG', HRow.out, only_drewN HO.out _⟩
        case measure => simp [intOf]; omega
    · obtain rfl : i = j := by omega
      obtain ⟨wo, rfl⟩ : ∃ wo : World, wo = wr := ⟨_, rfl⟩
      have HS := Lib.hid (one_last (i := i) HPre.out.left i1 i3 HL.out HG.out)
      go_wp2_with fail
      go_loopw [17] (fun t wr => ∃ k : Nat, i ≤ k ∧ k ≤ m ∧ t = .int .i64 k ∧ Hid (wr.rowIs g 3 n (rowE E (rot k m (m + 1) P))) ∧ Hid (w.grownBy wr (some g))) (fun t _ => (intOf t).toNat)
      case atStart => exact ⟨m, i3, Nat.le_refl _, rfl, by show World.rowIs _ _ _ _ _; rw [rot_last]; exact HRow.out, HO.out⟩
      case round =>
        obtain ⟨k, k1, k2, rfl, HRow', HO'⟩ := hrel
        by_cases hk : i < k
        · obtain ⟨k, rfl⟩ : ∃ l, k = l + 1 := ⟨k - 1, by omega⟩
          have ca := HRow'.out.cell (i := k + 1) (by omega)
          have cb := HRow'.out.cell (i := k) (by omega)
          have fa := HRow'.out.frozen (k + 1)
          have fb := HRow'.out.frozen k
          have lg := HRow'.out.lt
          have HSW := Lib.hid (row_swap (i := k + 1) (j := k) HRow'.out (by omega))
          have HE : Hid (swp (k + 1) k (rot (k + 1) m (m + 1) P) = rot k m (m + 1) P) := rot_back P k2 (by omega)
          have w1 : IntKind.i64.wrap ((k : Int) + 1 - 1) = k := by rw [IntWalk.i64_in _ (by omega)]; omega
          have w2 : IntKind.i64.wrap (k : Int) = k := IntWalk.i64_in _ (by omega)
          have p0 : (0 : Int) ≤ (k : Int) + 1 := by omega
          have p1 : ((k : Int) + 1).toNat = k + 1 := by omega
          have p2 : (k : Int) + 1 < n := by omega
          have p3 : (0 : Int) ≤ (k : Int) := by omega
          have p4 : (k : Int) < n := by omega
          have hd : (i : Int) < (k : Int) + 1 := by omega
          unfold rowE at ca cb
          generalize E (rot (k + 1) m (m + 1) P k) = x at *
          generalize E (rot (k + 1) m (m + 1) P (k + 1)) = y at *
          go_wp2_with fail
          go_region
          go_wp2_with fail
          go_roundw
          case rel => exact ⟨k, by omega, by omega, by go_num, by show World.rowIs _ _ _ _ _; rw [← HE.out]; exact HSW.out, only_drew (only_set (only_set HO'.out _ _) _ _)⟩
          case measure => simp [intOf]
        · obtain rfl : i = k := by omega
          go_wp2_with fail
          refine bodyPost_ret (results_none rfl _ _ _) rfl ?_
          exact ⟨_, ⟨rfl, HRow'.out, HO'.out⟩, Re.mono (Re.rot P (by omega) (by omega)) i1 (Nat.le_refl _), HS.out⟩
end
end Go.Proofs.Ytbdcinecdigjgaa.Stable
