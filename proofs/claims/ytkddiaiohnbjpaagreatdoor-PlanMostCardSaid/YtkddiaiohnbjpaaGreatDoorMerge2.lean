/- What slices' merge in place does to a slice of ints whose two parts are sorted: symMerge at any length; the stable sort. -/
import Derived.Test.YtkddiaiohnbjpaaGreatDoorGSort
import Derived.Deep.DeepCutAuto
namespace Go.Proofs.YtkddiaiohnbjpaaGreatDoor.Stable
open Go.ChangeShapes Go.WideShapes Go.ChangeAt Go.RowKit Law

theorem rot_none {s m e : Nat} (P : Nat → Nat) (h : s = m ∨ e = m) : rot s m e P = P := by
  funext k
  unfold rot
  repeat' split
  all_goals first | omega | (congr 1; omega) | rfl
theorem rotate_int (E : Nat → Int) (g n : Nat) (P : Nat → Nat) (a m b : Nat) (x y z : Int) (cf : Value) (w : World) (hrow : w.rowIs g 3 n (rowE E P)) (h1 : a < m) (h2 : m < b) (h3 : b ≤ n) (hn : n ≤ 1152921504606846976) (hx : x = a) (hy : y = m) (hz : z = b) :
    Calls Tryz.prog 160 #[.slice (some ⟨g, 0, none⟩) n n, .int .i64 x, .int .i64 y, .int .i64 z, cf] w (Rowed E g n (rot a m b P) w) := by
  subst hx hy hz
  exact rotate_any E g n P a m b cf w hrow h1 h2 h3 hn

/-- The search's two ends as they stand at first. -/
structure Ends (a m b mid lo hi : Nat) : Prop where
  e : (mid < m ∧ lo + b = mid + m ∧ hi = mid) ∨ (m ≤ mid ∧ lo = a ∧ hi = m)
  m1 : a + b ≤ 2 * mid + 1
  m2 : 2 * mid ≤ a + b

theorem Ends.bounds {a m b mid lo hi : Nat} (h : Ends a m b mid lo hi) (ha : a < m) (hm : m < b) : lo ≤ hi ∧ a ≤ lo ∧ mid + m ≤ lo + b ∧ hi ≤ m ∧ hi ≤ mid ∧ mid < b := by
  obtain ⟨e, m1, m2⟩ := h
  omega
theorem Ends.cut {R : Nat → Nat → Prop} {P : Nat → Nat} {a m b mid lo hi s : Nat} (h : Ends a m b mid lo hi) (s1 : lo ≤ s) (s2 : s ≤ hi) (l2 : a ≤ lo) (l3 : mid + m ≤ lo + b) (l4 : hi ≤ m) (l5 : hi ≤ mid)
    (HL : lo < s → R (P (s - 1)) (P (m + mid - s))) (HG : s < hi → R (P (m + mid - s - 1)) (P s)) : Cut R P a m b mid s := by
  obtain ⟨e, m1, m2⟩ := h
  exact ⟨by omega, by omega, by omega, by omega, fun x1 x2 => HL (by omega), fun x1 x2 => HG (by omega)⟩

section
variable (E : Nat → Int) (lt : Nat → Nat → Bool) (c : Nat → Nat → Int) (R : Nat → Nat → Prop) (o : Ord R lt) (F : FuncId) (cap : Array Value) (g n : Nat) (W : World) (hc : Cmp E lt c F cap g n W) (P : Nat → Nat) (a m b : Nat) (w : World)
    (hW : W.grownBy w (some g)) (hrow : w.rowIs g 3 n (rowE E P)) (hP : Re 0 n (fun i => i) P) (hpre : Pre R P a m b) (ha : a < m) (hm : m < b) (hb : b ≤ n) (hn : n ≤ 1152921504606846976)
include o hc hW hrow hP hpre ha hm hb hn

set_option maxRecDepth 100000 in
set_option maxHeartbeats 1600000 in
theorem merge_mid (h1 : m ≠ a + 1) (h2 : b ≠ m + 1) (ih : MergeTo E R F cap g n W (b - a)) :
    Calls Tryz.prog 158 #[.slice (some ⟨g, 0, none⟩) n n, .int .i64 a, .int .i64 m, .int .i64 b, .func (.func F) #[] cap] w (Merged E R g n P a b w) := by
  have HW := Lib.hid hrow
  have HC := Lib.hid hc
  have HWW := Lib.hid hW
  have HP := Lib.hid hP
  have HPre := Lib.hid hpre
  have IH := Lib.hid ih
  clear hrow hc hW hP hpre ih
  have t1 : ((m : Int) - a == 1) = false := by rw [beq_eq_false_iff_ne]; omega
  have t2 : ((b : Int) - m == 1) = false := by rw [beq_eq_false_iff_ne]; omega
  obtain ⟨mid, hmid⟩ : ∃ h : Nat, ((a : Int) + b) / 2 = h := ⟨(a + b) / 2, by omega⟩
  have md1 : a + b ≤ 2 * mid + 1 := by omega
  have md2 : 2 * mid ≤ a + b := by omega
  obtain ⟨lo, hi, hends⟩ : ∃ lo hi, Ends a m b mid lo hi := by
    by_cases h : mid < m
    · exact ⟨mid + m - b, mid, ⟨Or.inl ⟨h, by omega, rfl⟩, md1, md2⟩⟩
    · exact ⟨a, m, ⟨Or.inr ⟨by omega, rfl, rfl⟩, md1, md2⟩⟩
  have HEnds := Lib.hid hends
  have HMid := Lib.hid hmid
  clear hends
  go_enter Tryz.func158, Tryz.ntmps158
  go_upto_if 140 with (fail)
  clear t1 t2 hmid
  go_cut [20, 21] (fun s t wx => s = .int .i64 lo ∧ t = .int .i64 hi ∧ w = wx)
  case first =>
    as_aux_lemma =>
      rcases HEnds.out.e with ⟨e1, e2, e3⟩ | ⟨e1, e2, e3⟩
      all_goals go_wp2_with fail
      all_goals (go_meet; exact ⟨congrArg (Value.int IntKind.i64) (by omega), congrArg (Value.int IntKind.i64) (by omega), rfl⟩)
  case rest =>
    obtain ⟨rfl, rfl, rfl⟩ := hcut
    obtain ⟨pn, hpn⟩ : ∃ p : Nat, (mid : Int) + m - 1 = p := ⟨mid + m - 1, by omega⟩
    have hpn' : pn + 1 = mid + m := by omega
    obtain ⟨l1, l2, l3, l4, l5, l6⟩ := HEnds.out.bounds ha hm
    go_wp2_with fail
    clear hpn
    have HPN := Lib.hid hpn'
    clear hpn'
    go_loopw [20, 21] (fun s t wr => ∃ (i j : Nat), lo ≤ i ∧ i ≤ j ∧ j ≤ hi ∧ s = .int .i64 i ∧ t = .int .i64 j ∧ Hid (lo < i → R (P (i - 1)) (P (m + mid - i))) ∧ Hid (j < hi → R (P (m + mid - j - 1)) (P j)) ∧ Hid (wr.rowIs g 3 n (rowE E P)) ∧ Hid (w.grownBy wr (some g))) (fun s t _ => (intOf t - intOf s).toNat)
    case atStart => exact ⟨lo, hi, Nat.le_refl _, l1, Nat.le_refl _, rfl, rfl, fun h => absurd h (by omega), fun h => absurd h (by omega), HW.out, only_refl _ _⟩
    case round =>
      obtain ⟨i, j, i1, i2, i3, rfl, rfl, HL, HG, HRow, HO⟩ := hrel
      by_cases hlt : i < j
      · obtain ⟨h, hh⟩ : ∃ h : Nat, ((i : Int) + j) / 2 = h := ⟨(i + j) / 2, by omega⟩
        have h3 : i ≤ h := by omega
        have h4 : h < j := by omega
        have hk : pn - h + h + 1 = mid + m := by have := HPN.out; omega
        generalize pn - h = k at hk
        have k1 : m ≤ k := by omega
        have k2 : k < b := by omega
        have ca := HRow.out.cell (i := k) (by omega)
        have cb := HRow.out.cell (i := h) (by omega)
        have HCall := fun q => HC.out.tells (wr.drewN q) (only_drewN (only_trans HWW.out HO.out) q) (P k) (P h) (HP.out.bound (by omega)) (HP.out.bound (by omega))
        have hsgn := HC.out.sign (P k) (P h)
        have w1 : IntKind.i64.wrap ((pn : Int) - h) = k := by have := HPN.out; rw [IntWalk.i64_in _ (by omega)]; omega
        have p3 : (0 : Int) ≤ (h : Int) := by omega
        have p4 : (h : Int) < n := by omega
        have p5 : (0 : Int) ≤ (k : Int) := by omega
        have p6 : (k : Int) < n := by omega
        have ek : k = m + mid - h - 1 := by omega
        have HK := Lib.hid ek
        have HKK := Lib.hid hk
        clear hk ek
        unfold rowE at ca cb
        have HT := Lib.hid HCall
        have hF := HC.out.enters
        have hl : lt (P k) (P h) = false ∨ lt (P k) (P h) = true := by cases lt (P k) (P h) <;> simp
        clear HCall
        generalize E (P h) = x at *
        generalize E (P k) = y at *
        generalize c (P k) (P h) = z at *
        have hE := HPre.out.early h k (by omega) (by omega) k1 k2
        rcases hl with hl | hl
        · as_aux_lemma =>
            have HL' : Hid (lo < h + 1 → R (P (h + 1 - 1)) (P (m + mid - (h + 1)))) := fun _ => by
              have hr := o.no hE hl
              rw [HK.out] at hr
              exact hr
            rw [hl] at hsgn
            clear hl hE
            go_wp2_with fail
            go_quiet ((exact Calls.quiet_of (HT.out _)))
            go_wp2_with fail
            go_roundw
            case rel => exact ⟨h + 1, j, by omega, by omega, i3, by go_num, rfl, HL', HG, HRow.out, only_drewN HO.out _⟩
            case measure => simp [intOf]; omega
        · as_aux_lemma =>
            have HG' : Hid (h < hi → R (P (m + mid - h - 1)) (P h)) := fun _ => by
              have hr := o.yes hE hl
              rw [HK.out] at hr
              exact hr
            rw [hl] at hsgn
            clear hl hE
            go_wp2_with fail
            go_quiet ((exact Calls.quiet_of (HT.out _)))
            go_wp2_with fail
            go_roundw
            case rel => exact ⟨i, h, i1, h3, by omega, rfl, rfl, HL, HG', HRow.out, only_drewN HO.out _⟩
            case measure => simp [intOf]; omega
      · obtain rfl : i = j := by omega
        obtain ⟨wo, rfl⟩ : ∃ wo : World, wo = wr := ⟨_, rfl⟩
        have HParts := Lib.hid (parts o HPre.out (HEnds.out.cut i1 i3 l2 l3 l4 l5 HL.out HG.out) (by omega) hm (by omega))
        obtain ⟨e, he⟩ : ∃ e : Nat, (mid : Int) + m - i = e := ⟨mid + m - i, by omega⟩
        have he' : m + mid - i = e := by omega
        rw [he'] at HParts
        have e1 : m ≤ e := by omega
        have e2 : mid ≤ e := by omega
        have e3 : e ≤ b := by omega
        have HE := Lib.hid he'
        clear he'
        have HPQ : Hid (Re 0 n (fun i => i) (rot i m e P)) := HP.out.trans ((Re.rot P (by omega) e1).mono (Nat.zero_le _) (by omega))
        have HQR : Hid (Re a b P (rot i m e P)) := (Re.rot P (by omega) e1).mono (by omega) e3
        obtain ⟨b1, hb1⟩ : ∃ bb : Bool, bb = decide (i < m ∧ m < e) := ⟨_, rfl⟩
        have HB1 := Lib.hid hb1
        clear hb1
        go_upto_region 39 with fail
        go_cut [185] (fun s wx => s = .bool b1 ∧ wo = wx)
        case first =>
          as_aux_lemma =>
            by_cases x1 : i < m
            · by_cases x2 : m < e
              · have hd := Lib.hid (HB1.out.trans (decide_eq_true ⟨x1, x2⟩))
                go_wp2_with fail
                go_meet
                exact ⟨congrArg Value.bool hd.out.symm, rfl⟩
              · have hd := Lib.hid (HB1.out.trans (decide_eq_false fun h => x2 h.2))
                go_wp2_with fail
                go_meet
                exact ⟨congrArg Value.bool hd.out.symm, rfl⟩
            · have hd := Lib.hid (HB1.out.trans (decide_eq_false fun h => x1 h.1))
              go_wp2_with fail
              go_meet
              exact ⟨congrArg Value.bool hd.out.symm, rfl⟩
        case rest =>
        obtain ⟨rfl, rfl⟩ := hcut
        go_upto_if 185 with (fail)
        go_upto_if 185 with (fail)
        go_cut [] (fun wx => ∃ Q, Hid (wx.rowIs g 3 n (rowE E Q)) ∧ Hid (w.grownBy wx (some g)) ∧ Hid (Parts R Q a i mid e b) ∧ Hid (Re 0 n (fun i => i) Q) ∧ Hid (Re a b P Q))
        case first =>
          as_aux_lemma =>
            cases b1 with
            | true =>
              have hx := Lib.hid (of_decide_eq_true HB1.out.symm)
              go_wp2_with fail
              refine (rotate_int E g n P i m e _ _ _ _ _ HRow.out hx.out.1 hx.out.2 (by omega) hn rfl rfl rfl).mono ?_
              rintro e1 w1 ⟨rfl, hr1, hg1⟩
              have HR1 := Lib.hid hr1
              have HG1 := Lib.hid hg1
              clear hr1 hg1
              go_wp2_with fail
              go_meet
              exact ⟨_, HR1.out, only_trans HO.out HG1.out, HParts, HPQ.out, HQR.out⟩
            | false =>
              have hx := Lib.hid (of_decide_eq_false HB1.out.symm)
              have HN := Lib.hid (rot_none (s := i) (m := m) (e := e) P (by have := hx.out; omega))
              go_wp2_with fail
              go_meet
              exact ⟨_, by show World.rowIs _ _ _ _ _; rw [HN.out]; exact HRow.out, HO.out, HParts, HPQ.out, HQR.out⟩
        case rest =>
        clear HParts HPQ HQR HRow HO HL HG HB1
        obtain ⟨Q, HR2, HG2, HParts, HPQ, HQR⟩ := hcut
        obtain ⟨w2, rfl⟩ : ∃ w2 : World, w2 = wc := ⟨_, rfl⟩
        obtain ⟨b2, hb2⟩ : ∃ bb : Bool, bb = decide (a < i ∧ i < mid) := ⟨_, rfl⟩
        have HB2 := Lib.hid hb2
        clear hb2
        go_upto_region 41 with fail
        go_cut [199] (fun s wx => s = .bool b2 ∧ w2 = wx)
        case first =>
          as_aux_lemma =>
            by_cases x1 : a < i
            · by_cases x2 : i < mid
              · have hd := Lib.hid (HB2.out.trans (decide_eq_true ⟨x1, x2⟩))
                go_wp2_with fail
                go_meet
                exact ⟨congrArg Value.bool hd.out.symm, rfl⟩
              · have hd := Lib.hid (HB2.out.trans (decide_eq_false fun h => x2 h.2))
                go_wp2_with fail
                go_meet
                exact ⟨congrArg Value.bool hd.out.symm, rfl⟩
            · have hd := Lib.hid (HB2.out.trans (decide_eq_false fun h => x1 h.1))
              go_wp2_with fail
              go_meet
              exact ⟨congrArg Value.bool hd.out.symm, rfl⟩
        case rest =>
        obtain ⟨rfl, rfl⟩ := hcut
        go_upto_if 199 with (fail)
        go_upto_if 199 with (fail)
        go_cut [] (fun wx => ∃ Q1, Hid (wx.rowIs g 3 n (rowE E Q1)) ∧ Hid (w.grownBy wx (some g)) ∧ Hid (Re a mid Q Q1) ∧ Hid (Srt R Q1 a mid))
        case first =>
          as_aux_lemma =>
            cases b2 with
            | true =>
              have hx := Lib.hid (of_decide_eq_true HB2.out.symm)
              go_wp2_with fail
              have hcc := IH.out a i mid Q w2 _ _ _ (by omega) (only_trans HWW.out HG2.out) HR2.out HPQ.out HParts.out.one hx.out.1 hx.out.2 (by omega) rfl rfl rfl
              refine hcc.mono ?_
              clear hcc
              rintro e1 w1 ⟨Q1, ⟨rfl, hr1, hg1⟩, hq1, hs1⟩
              have HR1 := Lib.hid hr1
              have HG1 := Lib.hid hg1
              have HQ1 := Lib.hid hq1
              have HS1 := Lib.hid hs1
              clear hr1 hg1 hq1 hs1
              go_wp2_with fail
              go_meet
              exact ⟨Q1, HR1.out, only_trans HG2.out HG1.out, HQ1.out, HS1.out⟩
            | false =>
              have hx := Lib.hid (of_decide_eq_false HB2.out.symm)
              have HN := Lib.hid (pre_one HParts.out (by have := hx.out; omega))
              go_wp2_with fail
              go_meet
              exact ⟨Q, HR2.out, HG2.out, Re.refl _ _ _, HN.out⟩
        case rest =>
        obtain ⟨Q1, HR3, HG3, HQ1, HS1⟩ := hcut
        obtain ⟨w3, rfl⟩ : ∃ w3 : World, w3 = wc := ⟨_, rfl⟩
        have HP1 : Hid (Re 0 n (fun i => i) Q1) := HPQ.out.trans (HQ1.out.mono (Nat.zero_le _) (by omega))
        obtain ⟨b3, hb3⟩ : ∃ bb : Bool, bb = decide (mid < e ∧ e < b) := ⟨_, rfl⟩
        have HB3 := Lib.hid hb3
        clear hb3
        go_upto_region 43 with fail
        go_cut [213] (fun s wx => s = .bool b3 ∧ w3 = wx)
        case first =>
          as_aux_lemma =>
            by_cases x1 : mid < e
            · by_cases x2 : e < b
              · have hd := Lib.hid (HB3.out.trans (decide_eq_true ⟨x1, x2⟩))
                go_wp2_with fail
                go_meet
                exact ⟨congrArg Value.bool hd.out.symm, rfl⟩
              · have hd := Lib.hid (HB3.out.trans (decide_eq_false fun h => x2 h.2))
                go_wp2_with fail
                go_meet
                exact ⟨congrArg Value.bool hd.out.symm, rfl⟩
            · have hd := Lib.hid (HB3.out.trans (decide_eq_false fun h => x1 h.1))
              go_wp2_with fail
              go_meet
              exact ⟨congrArg Value.bool hd.out.symm, rfl⟩
        case rest =>
        obtain ⟨rfl, rfl⟩ := hcut
        cases b3 with
        | true =>
          as_aux_lemma =>
            have hx := Lib.hid (of_decide_eq_true HB3.out.symm)
            go_wp2_with fail
            have hcc := IH.out mid e b Q1 w3 _ _ _ (by omega) (only_trans HWW.out HG3.out) HR3.out HP1.out (HParts.out.two_kept e2 HQ1.out) hx.out.1 hx.out.2 hb rfl rfl rfl
            refine hcc.mono ?_
            clear hcc
            rintro e1 w1 ⟨Q2, ⟨rfl, hr1, hg1⟩, hq2, hs2⟩
            have HJ := Lib.hid (joined HParts.out HQ1.out HS1.out hq2 hs2 (by omega) (by omega))
            have HR1 := Lib.hid hr1
            have HG1 := Lib.hid hg1
            clear hr1 hg1 hq2 hs2
            go_wp2_with fail
            refine bodyPost_end (results_none rfl _ _ _) rfl ?_
            exact ⟨Q2, ⟨rfl, HR1.out, only_trans HG3.out HG1.out⟩, HQR.out.trans HJ.out.2, HJ.out.1⟩
        | false =>
          as_aux_lemma =>
            have hx := Lib.hid (of_decide_eq_false HB3.out.symm)
            have hs2 : Srt R Q1 mid b := by
              have hp := HParts.out.two_kept e2 HQ1.out
              have hx' := hx.out
              by_cases z : e = mid
              · subst z; exact hp.right
              · obtain rfl : e = b := by omega
                exact hp.left
            have HJ := Lib.hid (joined HParts.out HQ1.out HS1.out (Re.refl mid b Q1) hs2 (by omega) (by omega))
            clear hs2
            go_wp2_with fail
            refine bodyPost_end (results_none rfl _ _ _) rfl ?_
            exact ⟨Q1, ⟨rfl, HR3.out, HG3.out⟩, HQR.out.trans HJ.out.2, HJ.out.1⟩
end

theorem merge_all (E : Nat → Int) (lt : Nat → Nat → Bool) (c : Nat → Nat → Int) (R : Nat → Nat → Prop) (o : Ord R lt) (F : FuncId) (cap : Array Value) (g n : Nat) (W : World) (hc : Cmp E lt c F cap g n W) (hn : n ≤ 1152921504606846976) :
    ∀ d, MergeTo E R F cap g n W d
  | 0 => fun a m b P w x y z h => by omega
  | d + 1 => fun a m b P w x y z h hW hrow hP hpre ha hm hb hx hy hz => by
    have ih := merge_all E lt c R o F cap g n W hc hn d
    subst hx hy hz
    by_cases h1 : m = a + 1
    · exact merge_first E lt c R o F cap g n W hc P a m b w hW hrow hP hpre ha hm hb hn h1
    · by_cases h2 : b = m + 1
      · exact merge_last E lt c R o F cap g n W hc P a m b w hW hrow hP hpre ha hm hb hn h1 h2
      · exact merge_mid E lt c R o F cap g n W hc P a m b w hW hrow hP hpre ha hm hb hn h1 h2 fun a' m' b' P' w' x' y' z' h' => ih a' m' b' P' w' x' y' z' (by omega)
end Go.Proofs.YtkddiaiohnbjpaaGreatDoor.Stable
