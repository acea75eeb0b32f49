/- What slices.SortStableFunc does to a slice of ints, at any length, by any comparing function that tells an order. -/
import Derived.Test.YtbdcinecdigjgaaMerge
namespace Go.Proofs.Ytbdcinecdigjgaa.Stable
open Go.ChangeShapes Go.WideShapes Go.ChangeAt Go.RowKit Law

theorem insertion_int (E : Nat → Int) (lt : Nat → Nat → Bool) (c : Nat → Nat → Int) (R : Nat → Nat → Prop) (o : Ord R lt) (F : FuncId) (cap : Array Value) (g n : Nat) (W : World) (hc : Cmp E lt c F cap g n W) (P : Nat → Nat) (a b : Nat) (w : World) (x y : Int)
    (hW : W.grownBy w (some g)) (hrow : w.rowIs g 3 n (rowE E P)) (hP : Re 0 n (fun i => i) P) (he : ∀ u v, a ≤ u → u < v → v < b → P u < P v) (ha : a ≤ b) (hb : b ≤ n) (hn : n ≤ 1152921504606846976) (hx : x = a) (hy : y = b) :
    Calls Try.prog 42 #[.slice (some ⟨g, 0, none⟩) n n, .int .i64 x, .int .i64 y, .func (.func F) #[] cap] w (Merged E R g n P a b w) := by
  subst hx hy
  exact insertion_any E lt c R o F cap g n W hc P a b w hW hrow hP he ha hb hn

set_option maxRecDepth 100000 in
set_option maxHeartbeats 1600000 in
theorem stable_any (E : Nat → Int) (lt : Nat → Nat → Bool) (c : Nat → Nat → Int) (R : Nat → Nat → Prop) (o : Ord R lt) (F : FuncId) (cap : Array Value) (g n : Nat) (w : World) (hc : Cmp E lt c F cap g n w) (hm : ∀ d, MergeTo E R F cap g n w d) (hn : n ≤ 1152921504606846976)
    (hrow : w.rowIs g 3 n (rowE E fun i => i)) :
    Calls Try.prog 39 #[.slice (some ⟨g, 0, none⟩) n n, .int .i64 n, .func (.func F) #[] cap] w (Merged E R g n (fun i => i) 0 n w) := by
  have HC := Lib.hid hc
  have HM := Lib.hid hm
  have HW := Lib.hid hrow
  clear hc hm hrow
  go_enter Try.func39, Try.ntmps39
  go_wp2_with fail
  go_loopw [7, 8] (fun s t wr => ∃ (a : Nat) (Q : Nat → Nat), a ≤ n ∧ Hid (20 ∣ a) ∧ s = .int .i64 a ∧ t = .int .i64 ((a : Int) + 20) ∧ Hid (Inv R n (B20 a) Q) ∧ Hid (Re 0 n (fun i => i) Q) ∧ Hid (wr.rowIs g 3 n (rowE E Q)) ∧ Hid (w.grownBy wr (some g))) (fun s _ _ => n - (intOf s).toNat)
  case atStart => exact ⟨0, fun i => i, Nat.zero_le _, Nat.dvd_zero 20, rfl, rfl, (Inv.start (R := R) n).same fun β _ _ => by unfold B20; simp, Re.refl _ _ _, HW.out, only_refl _ _⟩
  case round =>
    obtain ⟨a, Q, a1, HD, rfl, rfl, HI, HQ, HRow, HO⟩ := hrel
    by_cases hlt : a + 20 ≤ n
    · have hd : (a : Int) + 20 ≤ n := by omega
      have he : ∀ u v, a ≤ u → u < v → v < a + 20 → Q u < Q v := fun u v x1 x2 x3 => b20_early HI.out x1 x2 (by omega)
      have HE := Lib.hid he
      clear he
      go_wp2_with fail
      refine (insertion_int E lt c R o F cap g n w HC.out Q a (a + 20) _ _ _ HO.out HRow.out HQ.out HE.out (by omega) hlt hn (by omega) (by omega)).mono ?_
      rintro e w1 ⟨Q1, ⟨rfl, hr1, hg1⟩, hq1, hs1⟩
      have HR1 := Lib.hid hr1
      have HG1 := Lib.hid (only_trans HO.out hg1)
      have HQ1 := Lib.hid (HQ.out.trans (hq1.mono (Nat.zero_le _) hlt))
      have HI1 := Lib.hid (HI.out.merge (B' := B20 (a + 20)) hq1 hs1 (Or.inr (Or.inl HD.out)) (Or.inr (Or.inr (by omega))) hlt fun β _ _ => b20_step HD.out)
      clear hr1 hg1 hq1 hs1
      go_wp2_with fail
      go_roundw
      case rel => exact ⟨a + 20, Q1, hlt, by have := HD.out; show 20 ∣ a + 20; omega, congrArg (Value.int IntKind.i64) (by omega), congrArg (Value.int IntKind.i64) (by omega), HI1, HQ1, HR1, HG1⟩
      case measure => simp [intOf]; omega
    · have hd : ¬ (a : Int) + 20 ≤ n := by omega
      have he : ∀ u v, a ≤ u → u < v → v < n → Q u < Q v := fun u v x1 x2 x3 => b20_early HI.out x1 x2 (by omega)
      have HE := Lib.hid he
      clear he
      obtain ⟨wo, rfl⟩ : ∃ wo : World, wo = wr := ⟨_, rfl⟩
      go_wp2_with fail
      refine (insertion_int E lt c R o F cap g n w HC.out Q a n _ _ _ HO.out HRow.out HQ.out HE.out a1 (Nat.le_refl _) hn rfl rfl).mono ?_
      rintro e w1 ⟨Q1, ⟨rfl, hr1, hg1⟩, hq1, hs1⟩
      have HR1 := Lib.hid hr1
      have HG1 := Lib.hid (only_trans HO.out hg1)
      have HQ1 := Lib.hid (HQ.out.trans (hq1.mono (Nat.zero_le _) (Nat.le_refl _)))
      have HI1 := Lib.hid (HI.out.merge (B' := fun β => 20 ∣ β) hq1 hs1 (Or.inr (Or.inl HD.out)) (Or.inl rfl) (Nat.le_refl _) fun β _ y => b20_last HD.out (by omega) y)
      clear hr1 hg1 hq1 hs1 HRow HO HI HQ HE
      go_wp2_with fail
      go_loopw [6] (fun t wr => ∃ (s : Nat) (Q : Nat → Nat), 20 ≤ s ∧ (s ≤ 20 ∨ s < 2 * n) ∧ t = .int .i64 s ∧ Hid (Inv R n (fun β => s ∣ β) Q) ∧ Hid (Re 0 n (fun i => i) Q) ∧ Hid (wr.rowIs g 3 n (rowE E Q)) ∧ Hid (w.grownBy wr (some g))) (fun t _ => n - (intOf t).toNat)
      case atStart => exact ⟨20, Q1, Nat.le_refl _, Or.inl (Nat.le_refl _), rfl, HI1.out, HQ1.out, HR1.out, HG1.out⟩
      case round =>
        obtain ⟨s, Q2, s1, s2, rfl, HI2, HQ2, HR2, HG2⟩ := hrel
        clear HR1 HG1 HQ1 HI1
        by_cases hs : s < n
        · obtain ⟨w2, rfl⟩ : ∃ w2 : World, w2 = wr := ⟨_, rfl⟩
          go_wp2_with fail
          go_loopw [7, 8] (fun x y wr => ∃ (a : Nat) (Q : Nat → Nat), a ≤ n ∧ Hid (2 * s ∣ a) ∧ x = .int .i64 a ∧ y = .int .i64 ((a : Int) + 2 * s) ∧ Hid (Inv R n (BM s a) Q) ∧ Hid (Re 0 n (fun i => i) Q) ∧ Hid (wr.rowIs g 3 n (rowE E Q)) ∧ Hid (w.grownBy wr (some g))) (fun x _ _ => n - (intOf x).toNat)
          case atStart => exact ⟨0, Q2, Nat.zero_le _, Nat.dvd_zero _, rfl, congrArg (Value.int IntKind.i64) (by omega), HI2.out.same fun β _ _ => bm_start, HQ2.out, HR2.out, HG2.out⟩
          case round =>
            obtain ⟨a, Q, a1, HD, rfl, rfl, HI, HQ, HRow, HO⟩ := hrel
            clear HR2 HG2 HQ2 HI2
            by_cases hlt : a + 2 * s ≤ n
            · have hd : (a : Int) + 2 * s ≤ n := by omega
              have HPre := Lib.hid (HI.out.pre (a := a) (m := a + s) (b := a + 2 * s) (by omega) hlt (bm_mid HD.out) (fun β x1 x2 => bm_none1 HD.out x1 x2) (fun β x1 x2 => bm_none2 HD.out x1 x2))
              have HC1 := Lib.hid (fun x y z hx hy hz => HM.out (2 * s + 1) a (a + s) (a + 2 * s) Q wr x y z (by omega) HO.out HRow.out HQ.out HPre.out (by omega) (by omega) hlt hx hy hz)
              go_wp2_with fail
              have hcc := HC1.out _ ((a : Int) + s) ((a : Int) + 2 * s) rfl (by omega) (by omega)
              refine hcc.mono ?_
              clear hcc
              rintro e w1 ⟨Q1, ⟨rfl, hr1, hg1⟩, hq1, hs1⟩
              have HR1 := Lib.hid hr1
              have HG1 := Lib.hid (only_trans HO.out hg1)
              have HQ1 := Lib.hid (HQ.out.trans (hq1.mono (Nat.zero_le _) hlt))
              have HI1 := Lib.hid (HI.out.merge (B' := BM s (a + 2 * s)) hq1 hs1 (Or.inr (bm_at HD.out)) (Or.inr (bm_end HD.out)) hlt fun β _ _ => bm_step HD.out)
              have HD1 : Hid (2 * s ∣ a + 2 * s) := (Nat.dvd_add_right HD.out).2 (Nat.dvd_refl _)
              clear hr1 hg1 hq1 hs1
              go_wp2_with fail
              go_roundw
              case rel => exact ⟨a + 2 * s, Q1, hlt, HD1, congrArg (Value.int IntKind.i64) (by omega), congrArg (Value.int IntKind.i64) (by omega), HI1, HQ1, HR1, HG1⟩
              case measure => simp [intOf]; omega
            · have hd : ¬ (a : Int) + 2 * s ≤ n := by omega
              obtain ⟨w3, rfl⟩ : ∃ w3 : World, w3 = wr := ⟨_, rfl⟩
              by_cases ht : a + s < n
              · have hd2 : (a : Int) + s < n := by omega
                have HPre := Lib.hid (HI.out.pre (a := a) (m := a + s) (b := n) (by omega) (Nat.le_refl _) (bm_mid HD.out) (fun β x1 x2 => bm_none1 HD.out x1 x2) (fun β x1 x2 => bm_none2 HD.out x1 (by omega)))
                have HC1 := Lib.hid (fun x y z hx hy hz => HM.out (2 * s + 1) a (a + s) n Q w3 x y z (by omega) HO.out HRow.out HQ.out HPre.out (by omega) ht (Nat.le_refl _) hx hy hz)
                go_wp2_with fail
                have hcc := HC1.out _ ((a : Int) + s) _ rfl (by omega) rfl
                refine hcc.mono ?_
                clear hcc
                rintro e w1 ⟨Q1, ⟨rfl, hr1, hg1⟩, hq1, hs1⟩
                have HR1 := Lib.hid hr1
                have HG1 := Lib.hid (only_trans HO.out hg1)
                have HQ1 := Lib.hid (HQ.out.trans (hq1.mono (Nat.zero_le _) (Nat.le_refl _)))
                have HI1 := Lib.hid (HI.out.merge (B' := fun β => 2 * s ∣ β) hq1 hs1 (Or.inr (bm_at HD.out)) (Or.inl rfl) (Nat.le_refl _) fun β _ y => bm_tail HD.out (by omega) y)
                clear hr1 hg1 hq1 hs1
                go_wp2_with fail
                go_roundw
                case rel => exact ⟨2 * s, Q1, by omega, by omega, congrArg (Value.int IntKind.i64) (by omega), HI1, HQ1, HR1, HG1⟩
                case measure => simp [intOf]; omega
              · have hd2 : ¬ (a : Int) + s < n := by omega
                have HI1 := Lib.hid (HI.out.same (B' := fun β => 2 * s ∣ β) fun β _ y => bm_none HD.out (by omega) y)
                go_wp2_with fail
                go_roundw
                case rel => exact ⟨2 * s, Q, by omega, by omega, congrArg (Value.int IntKind.i64) (by omega), HI1, HQ, HRow, HO⟩
                case measure => simp [intOf]; omega
        · have HS := Lib.hid (HI2.out.all fun β x1 x2 x3 => by have := Nat.le_of_dvd x1 x3; omega)
          go_wp2_with fail
          refine bodyPost_end (results_none rfl _ _ _) rfl ?_
          exact ⟨Q2, ⟨rfl, HR2.out, HG2.out⟩, HQ2.out, HS.out⟩

/-- The stable sort: the row sorted, nothing else turned. -/
theorem sort_any (E : Nat → Int) (lt : Nat → Nat → Bool) (c : Nat → Nat → Int) (R : Nat → Nat → Prop) (o : Ord R lt) (F : FuncId) (cap : Array Value) (g n : Nat) (w : World) (hc : Cmp E lt c F cap g n w) (hm : ∀ d, MergeTo E R F cap g n w d) (hn : n ≤ 1152921504606846976)
    (hrow : w.rowIs g 3 n (rowE E fun i => i)) :
    Calls Try.prog 29 #[.slice (some ⟨g, 0, none⟩) n n, .func (.func F) #[] cap] w (Merged E R g n (fun i => i) 0 n w) := by
  have H := Lib.hid (stable_any E lt c R o F cap g n w hc hm hn hrow)
  clear hc hm hrow
  go_enter Try.func29, Try.ntmps29
  go_wp2_with fail
  have hcc := H.out
  refine hcc.mono ?_
  clear hcc H
  rintro e w1 ⟨Q1, ⟨rfl, hr1, hg1⟩, hq1, hs1⟩
  have HR1 := Lib.hid hr1
  have HG1 := Lib.hid hg1
  have HQ1 := Lib.hid hq1
  have HS1 := Lib.hid hs1
  clear hr1 hg1 hq1 hs1
  go_wp2_with fail
  refine bodyPost_end (results_none rfl _ _ _) rfl ?_
  exact ⟨Q1, ⟨rfl, HR1.out, HG1.out⟩, HQ1.out, HS1.out⟩
end Go.Proofs.Ytbdcinecdigjgaa.Stable
