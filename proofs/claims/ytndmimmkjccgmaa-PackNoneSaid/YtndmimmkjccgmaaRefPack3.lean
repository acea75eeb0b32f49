/- The document's own Opener's Text. -/
import Derived.Test.YtndmimmkjccgmaaRefPack2
namespace Go.Proofs.Ytndmimmkjccgmaa.Pack
open Go.ChangeShapes Go.WideShapes Go.ChangeAt Go.RowKit

/-- The length that stands next. -/
def OSt.len (o : OSt) : Nat := byteN o.s o.at_ + 256 * byteN o.s (o.at_ + 1)
def OSt.hasText (o : OSt) (most : Int) : Bool := !o.bad && decide (o.at_ + 2 ≤ o.s.size ∧ (o.len : Int) ≤ most ∧ o.at_ + 2 + o.len ≤ o.s.size)
def OSt.text (o : OSt) (most : Int) : ByteArray × OSt := if o.hasText most = true then (o.s.extract (o.at_ + 2) (o.at_ + 2 + o.len), ⟨o.s, o.at_ + 2 + o.len, false⟩) else (⟨#[]⟩, o.spoil)
theorem text_not {o : OSt} {most : Int} (h : o.bad = true ∨ o.s.size < o.at_ + 2 ∨ most < o.len ∨ o.s.size < o.at_ + 2 + o.len) : o.text most = (⟨#[]⟩, o.spoil) := by
  have : o.hasText most = false := by
    unfold OSt.hasText
    rcases h with h | h
    · rw [h]; rfl
    · rw [decide_eq_false (by omega), Bool.and_false]
  unfold OSt.text
  rw [this]; rfl
theorem text_yes {o : OSt} {most : Int} (h0 : o.bad = false) (h : o.at_ + 2 ≤ o.s.size ∧ (o.len : Int) ≤ most ∧ o.at_ + 2 + o.len ≤ o.s.size) : o.text most = (o.s.extract (o.at_ + 2) (o.at_ + 2 + o.len), ⟨o.s, o.at_ + 2 + o.len, false⟩) := by
  unfold OSt.text OSt.hasText
  rw [h0, decide_eq_true h]; rfl
set_option maxHeartbeats 2000000 in
theorem r_otext (o : OSt) (most : Int) (g : Nat) (w : World) (hp : RO w g o) (hn : -9223372036854775808 ≤ most ∧ most ≤ 9223372036854775807) :
    Calls Try.prog 18 #[.pointer (some ⟨g, 0, none⟩), .int .i64 most] w fun e w' => e = .returned (.string (o.text most).1) ∧ RO w' g (o.text most).2 ∧ w.grownBy w' (some g) := by
  have c0 : w.cell? ⟨g, 0, none⟩ = some (.string o.s) := hp.1.cell (i := 0) (by omega)
  have c1 : w.cell? ⟨g, 1, none⟩ = some (.int .i64 (o.at_ : Int)) := hp.1.cell (i := 1) (by omega)
  have c2 : w.cell? ⟨g, 2, none⟩ = some (.bool o.bad) := hp.1.cell (i := 2) (by omega)
  have f1 := hp.1.frozen 1
  have f2 := hp.1.frozen 2
  have HP := Lib.hid hp
  have ha := hp.2.1
  have hz := hp.2.2
  clear hp
  by_cases hb : o.bad = true
  · have H := Lib.hid (text_not (o := o) (most := most) (Or.inl hb))
    rw [H.out]
    rw [hb] at c2
    clear H
    go_enter Try.func18, Try.ntmps18
    go_wp2_with fail
    go_quiet (fail)
    have hwx' : ∃ wx, wx = w.drewN nq := ⟨_, rfl⟩
    obtain ⟨wx, hwx⟩ := hwx'
    rw [← hwx]
    have PX := Lib.hid (show RO wx g o by rw [hwx]; exact HP.out)
    have GX := Lib.hid (show w.grownBy wx (some g) by rw [hwx]; exact only_drewN (only_refl w _) nq)
    have c0 : wx.cell? ⟨g, 0, none⟩ = some (.string o.s) := PX.out.1.cell (i := 0) (by omega)
    have c1 : wx.cell? ⟨g, 1, none⟩ = some (.int .i64 (o.at_ : Int)) := PX.out.1.cell (i := 1) (by omega)
    have c2 : wx.cell? ⟨g, 2, none⟩ = some (.bool o.bad) := PX.out.1.cell (i := 2) (by omega)
    have f1 := PX.out.1.frozen 1
    have f2 := PX.out.1.frozen 2
    clear hwx
    go_wp2_with fail
    go_ret
    exact ⟨rfl, ro_bad PX.out, only_set GX.out _ _⟩
  rw [Bool.not_eq_true] at hb
  by_cases hl : o.at_ + 2 ≤ o.s.size
  · have t1 : decide ((o.s.size : Int) - o.at_ < 2) = false := decide_eq_false (by omega)
    have i0 : o.at_ < o.s.size := by omega
    have i1 : o.at_ + 1 < o.s.size := by omega
    have B0 := byteN_at i0
    have B1 := byteN_at i1
    have z0 := byteN_lt o.s o.at_
    have z1 := byteN_lt o.s (o.at_ + 1)
    have e1 : IntKind.i64.wrap ((o.at_ : Int) + 1) = (o.at_ : Int) + 1 := IntWalk.i64_in _ (by omega)
    have e4 : ((o.at_ : Int) + 1).toNat = o.at_ + 1 := by omega
    have e5 : (0 : Int) ≤ (o.at_ : Int) + 1 := by omega
    have e6 : (o.at_ : Int) + 1 < (o.s.size : Int) := by omega
    rw [hb] at c2
    have hlen : o.len = byteN o.s o.at_ + 256 * byteN o.s (o.at_ + 1) := rfl
    have HLEN := Lib.hid hlen
    have w1 : IntKind.i64.wrap (256 * ((byteN o.s (o.at_ + 1) : Nat) : Int)) = 256 * ((byteN o.s (o.at_ + 1) : Nat) : Int) := IntWalk.i64_in _ (by omega)
    have w2 : IntKind.i64.wrap (((byteN o.s o.at_ : Nat) : Int) + 256 * ((byteN o.s (o.at_ + 1) : Nat) : Int)) = ((byteN o.s o.at_ : Nat) : Int) + 256 * ((byteN o.s (o.at_ + 1) : Nat) : Int) := IntWalk.i64_in _ (by omega)
    have w3 : IntKind.i64.wrap ((o.s.size : Int) - o.at_) = (o.s.size : Int) - o.at_ := IntWalk.i64_in _ (by omega)
    have w4 : IntKind.i64.wrap ((o.s.size : Int) - o.at_ - 2) = (o.s.size : Int) - o.at_ - 2 := IntWalk.i64_in _ (by omega)
    by_cases hm : (o.len : Int) ≤ most ∧ o.at_ + 2 + o.len ≤ o.s.size
    · have t2 : decide (most < ((byteN o.s o.at_ : Nat) : Int) + 256 * ((byteN o.s (o.at_ + 1) : Nat) : Int)) = false := decide_eq_false (by omega)
      have t3 : decide ((o.s.size : Int) - o.at_ - 2 < ((byteN o.s o.at_ : Nat) : Int) + 256 * ((byteN o.s (o.at_ + 1) : Nat) : Int)) = false := decide_eq_false (by omega)
      have H := Lib.hid (text_yes (o := o) (most := most) hb ⟨hl, hm.1, hm.2⟩)
      rw [H.out]
      clear H
      go_enter Try.func18, Try.ntmps18
      go_wp2_with fail
      go_quiet (fail)
      have hwx' : ∃ wx, wx = w.drewN nq := ⟨_, rfl⟩
      obtain ⟨wx, hwx⟩ := hwx'
      rw [← hwx]
      have PX := Lib.hid (show RO wx g o by rw [hwx]; exact HP.out)
      have GX := Lib.hid (show w.grownBy wx (some g) by rw [hwx]; exact only_drewN (only_refl w _) nq)
      have c0 : wx.cell? ⟨g, 0, none⟩ = some (.string o.s) := PX.out.1.cell (i := 0) (by omega)
      have c1 : wx.cell? ⟨g, 1, none⟩ = some (.int .i64 (o.at_ : Int)) := PX.out.1.cell (i := 1) (by omega)
      have c2 : wx.cell? ⟨g, 2, none⟩ = some (.bool o.bad) := PX.out.1.cell (i := 2) (by omega)
      have f1 := PX.out.1.frozen 1
      have f2 := PX.out.1.frozen 2
      clear hwx
      rw [hb] at c2
      go_wp2_with fail
      go_quiet (fail)
      have hwx' : ∃ wy, wy = wx.drewN nq := ⟨_, rfl⟩
      obtain ⟨wy, hwx⟩ := hwx'
      rw [← hwx]
      have PX := Lib.hid (show RO wy g o by rw [hwx]; exact PX.out)
      have GX := Lib.hid (show w.grownBy wy (some g) by rw [hwx]; exact only_drewN GX.out nq)
      have c0 : wy.cell? ⟨g, 0, none⟩ = some (.string o.s) := PX.out.1.cell (i := 0) (by omega)
      have c1 : wy.cell? ⟨g, 1, none⟩ = some (.int .i64 (o.at_ : Int)) := PX.out.1.cell (i := 1) (by omega)
      have c2 : wy.cell? ⟨g, 2, none⟩ = some (.bool o.bad) := PX.out.1.cell (i := 2) (by omega)
      have f1 := PX.out.1.frozen 1
      have f2 := PX.out.1.frozen 2
      clear hwx
      rw [hb] at c2
      go_wp2_with fail
      go_quiet (fail)
      have hwx' : ∃ wz, wz = wy.drewN nq := ⟨_, rfl⟩
      obtain ⟨wz, hwx⟩ := hwx'
      rw [← hwx]
      have PX := Lib.hid (show RO wz g o by rw [hwx]; exact PX.out)
      have GX := Lib.hid (show w.grownBy wz (some g) by rw [hwx]; exact only_drewN GX.out nq)
      have c0 : wz.cell? ⟨g, 0, none⟩ = some (.string o.s) := PX.out.1.cell (i := 0) (by omega)
      have c1 : wz.cell? ⟨g, 1, none⟩ = some (.int .i64 (o.at_ : Int)) := PX.out.1.cell (i := 1) (by omega)
      have c2 : wz.cell? ⟨g, 2, none⟩ = some (.bool o.bad) := PX.out.1.cell (i := 2) (by omega)
      have f1 := PX.out.1.frozen 1
      have f2 := PX.out.1.frozen 2
      clear hwx
      rw [hb] at c2
      go_wp2_with fail
      obtain ⟨A, hA⟩ : ∃ A, A = o.at_ + 2 + o.len := ⟨_, rfl⟩
      obtain ⟨P, hP⟩ : ∃ P, P = o.at_ + 2 := ⟨_, rfl⟩
      obtain ⟨N, hN⟩ : ∃ N, N = o.len := ⟨_, rfl⟩
      have ev : ((o.at_ : Int) + (2 + (((byteN o.s o.at_ : Nat) : Int) + 256 * ((byteN o.s (o.at_ + 1) : Nat) : Int)))) = (A : Int) := by omega
      have eN : (((byteN o.s o.at_ : Nat) : Int) + 256 * ((byteN o.s (o.at_ + 1) : Nat) : Int)) = (N : Int) := by omega
      have PV := Lib.hid (ro_at PX.out A (by omega))
      rw [hb] at PV
      have GV := Lib.hid (only_set GX.out 1 (.int .i64 (A : Int)))
      have ev2 : IntKind.i64.wrap ((A : Int) - N) = (P : Int) := (IntWalk.i64_in _ (by omega)).trans (by omega)
      have ev2' : (A : Int) - N = (P : Int) := by omega
      have ev5 : (0 : Int) ≤ (P : Int) := by omega
      have ev6 : (P : Int) ≤ (A : Int) := by omega
      have ev7 : (A : Int) ≤ (o.s.size : Int) := by omega
      have HA := Lib.hid hA
      have HP2 := Lib.hid hP
      rw [ev, eN]
      obtain ⟨wv, hwv⟩ : ∃ wv, wv = wz.setCell ⟨g, 1, none⟩ (.int .i64 (A : Int)) := ⟨_, rfl⟩
      rw [← hwv] at PV GV ⊢
      clear hwv c0 c1 c2 f1 f2 ev eN w1 w2 w3 w4 t1 t2 t3 hm hN hA hP e1 e4 e5 e6
      have c0 : wv.cell? ⟨g, 0, none⟩ = some (.string o.s) := PV.out.1.cell (i := 0) (by omega)
      have c1 : wv.cell? ⟨g, 1, none⟩ = some (.int .i64 (A : Int)) := PV.out.1.cell (i := 1) (by omega)
      go_quiet (fail)
      go_wp2_with fail
      go_ret
      have hA := HA.out
      have hP := HP2.out
      subst hA
      subst hP
      exact ⟨rfl, PV.out, only_drewN GV.out _⟩
    · have H := Lib.hid (text_not (o := o) (most := most) (by omega))
      rw [H.out]
      clear H
      by_cases hm2 : most < o.len
      · have t2 : decide (most < (((byteN o.s o.at_ : Nat) : Int) + 256 * ((byteN o.s (o.at_ + 1) : Nat) : Int))) = true := decide_eq_true (by omega)
        clear hm hm2 hlen
        go_enter Try.func18, Try.ntmps18
        go_wp2_with fail
        go_quiet (fail)
        have hwx' : ∃ wx, wx = w.drewN nq := ⟨_, rfl⟩
        obtain ⟨wx, hwx⟩ := hwx'
        rw [← hwx]
        have PX := Lib.hid (show RO wx g o by rw [hwx]; exact HP.out)
        have GX := Lib.hid (show w.grownBy wx (some g) by rw [hwx]; exact only_drewN (only_refl w _) nq)
        have c0 : wx.cell? ⟨g, 0, none⟩ = some (.string o.s) := PX.out.1.cell (i := 0) (by omega)
        have c1 : wx.cell? ⟨g, 1, none⟩ = some (.int .i64 (o.at_ : Int)) := PX.out.1.cell (i := 1) (by omega)
        have c2 : wx.cell? ⟨g, 2, none⟩ = some (.bool o.bad) := PX.out.1.cell (i := 2) (by omega)
        have f1 := PX.out.1.frozen 1
        have f2 := PX.out.1.frozen 2
        clear hwx
        rw [hb] at c2
        go_wp2_with fail
        go_quiet (fail)
        have hwx' : ∃ wy, wy = wx.drewN nq := ⟨_, rfl⟩
        obtain ⟨wy, hwx⟩ := hwx'
        rw [← hwx]
        have PX := Lib.hid (show RO wy g o by rw [hwx]; exact PX.out)
        have GX := Lib.hid (show w.grownBy wy (some g) by rw [hwx]; exact only_drewN GX.out nq)
        have c0 : wy.cell? ⟨g, 0, none⟩ = some (.string o.s) := PX.out.1.cell (i := 0) (by omega)
        have c1 : wy.cell? ⟨g, 1, none⟩ = some (.int .i64 (o.at_ : Int)) := PX.out.1.cell (i := 1) (by omega)
        have c2 : wy.cell? ⟨g, 2, none⟩ = some (.bool o.bad) := PX.out.1.cell (i := 2) (by omega)
        have f1 := PX.out.1.frozen 1
        have f2 := PX.out.1.frozen 2
        clear hwx
        rw [hb] at c2
        go_wp2_with fail
        go_quiet (fail)
        have hwx' : ∃ wz, wz = wy.drewN nq := ⟨_, rfl⟩
        obtain ⟨wz, hwx⟩ := hwx'
        rw [← hwx]
        have PX := Lib.hid (show RO wz g o by rw [hwx]; exact PX.out)
        have GX := Lib.hid (show w.grownBy wz (some g) by rw [hwx]; exact only_drewN GX.out nq)
        have c0 : wz.cell? ⟨g, 0, none⟩ = some (.string o.s) := PX.out.1.cell (i := 0) (by omega)
        have c1 : wz.cell? ⟨g, 1, none⟩ = some (.int .i64 (o.at_ : Int)) := PX.out.1.cell (i := 1) (by omega)
        have c2 : wz.cell? ⟨g, 2, none⟩ = some (.bool o.bad) := PX.out.1.cell (i := 2) (by omega)
        have f1 := PX.out.1.frozen 1
        have f2 := PX.out.1.frozen 2
        clear hwx
        go_wp2_with fail
        go_ret
        exact ⟨rfl, ro_bad PX.out, only_set GX.out _ _⟩
      · have t2 : decide (most < (((byteN o.s o.at_ : Nat) : Int) + 256 * ((byteN o.s (o.at_ + 1) : Nat) : Int))) = false := decide_eq_false (by omega)
        have t3 : decide ((o.s.size : Int) - o.at_ - 2 < (((byteN o.s o.at_ : Nat) : Int) + 256 * ((byteN o.s (o.at_ + 1) : Nat) : Int))) = true := decide_eq_true (by omega)
        clear hm hm2 hlen
        go_enter Try.func18, Try.ntmps18
        go_wp2_with fail
        go_quiet (fail)
        have hwx' : ∃ wx, wx = w.drewN nq := ⟨_, rfl⟩
        obtain ⟨wx, hwx⟩ := hwx'
        rw [← hwx]
        have PX := Lib.hid (show RO wx g o by rw [hwx]; exact HP.out)
        have GX := Lib.hid (show w.grownBy wx (some g) by rw [hwx]; exact only_drewN (only_refl w _) nq)
        have c0 : wx.cell? ⟨g, 0, none⟩ = some (.string o.s) := PX.out.1.cell (i := 0) (by omega)
        have c1 : wx.cell? ⟨g, 1, none⟩ = some (.int .i64 (o.at_ : Int)) := PX.out.1.cell (i := 1) (by omega)
        have c2 : wx.cell? ⟨g, 2, none⟩ = some (.bool o.bad) := PX.out.1.cell (i := 2) (by omega)
        have f1 := PX.out.1.frozen 1
        have f2 := PX.out.1.frozen 2
        clear hwx
        rw [hb] at c2
        go_wp2_with fail
        go_quiet (fail)
        have hwx' : ∃ wy, wy = wx.drewN nq := ⟨_, rfl⟩
        obtain ⟨wy, hwx⟩ := hwx'
        rw [← hwx]
        have PX := Lib.hid (show RO wy g o by rw [hwx]; exact PX.out)
        have GX := Lib.hid (show w.grownBy wy (some g) by rw [hwx]; exact only_drewN GX.out nq)
        have c0 : wy.cell? ⟨g, 0, none⟩ = some (.string o.s) := PX.out.1.cell (i := 0) (by omega)
        have c1 : wy.cell? ⟨g, 1, none⟩ = some (.int .i64 (o.at_ : Int)) := PX.out.1.cell (i := 1) (by omega)
        have c2 : wy.cell? ⟨g, 2, none⟩ = some (.bool o.bad) := PX.out.1.cell (i := 2) (by omega)
        have f1 := PX.out.1.frozen 1
        have f2 := PX.out.1.frozen 2
        clear hwx
        rw [hb] at c2
        go_wp2_with fail
        go_quiet (fail)
        have hwx' : ∃ wz, wz = wy.drewN nq := ⟨_, rfl⟩
        obtain ⟨wz, hwx⟩ := hwx'
        rw [← hwx]
        have PX := Lib.hid (show RO wz g o by rw [hwx]; exact PX.out)
        have GX := Lib.hid (show w.grownBy wz (some g) by rw [hwx]; exact only_drewN GX.out nq)
        have c0 : wz.cell? ⟨g, 0, none⟩ = some (.string o.s) := PX.out.1.cell (i := 0) (by omega)
        have c1 : wz.cell? ⟨g, 1, none⟩ = some (.int .i64 (o.at_ : Int)) := PX.out.1.cell (i := 1) (by omega)
        have c2 : wz.cell? ⟨g, 2, none⟩ = some (.bool o.bad) := PX.out.1.cell (i := 2) (by omega)
        have f1 := PX.out.1.frozen 1
        have f2 := PX.out.1.frozen 2
        clear hwx
        go_wp2_with fail
        go_ret
        exact ⟨rfl, ro_bad PX.out, only_set GX.out _ _⟩
  · have t1 : decide ((o.s.size : Int) - o.at_ < 2) = true := decide_eq_true (by omega)
    have H := Lib.hid (text_not (o := o) (most := most) (Or.inr (Or.inl (by omega))))
    rw [H.out]
    rw [hb] at c2
    clear H
    go_enter Try.func18, Try.ntmps18
    go_wp2_with fail
    go_quiet (fail)
    have hwx' : ∃ wx, wx = w.drewN nq := ⟨_, rfl⟩
    obtain ⟨wx, hwx⟩ := hwx'
    rw [← hwx]
    have PX := Lib.hid (show RO wx g o by rw [hwx]; exact HP.out)
    have GX := Lib.hid (show w.grownBy wx (some g) by rw [hwx]; exact only_drewN (only_refl w _) nq)
    have c0 : wx.cell? ⟨g, 0, none⟩ = some (.string o.s) := PX.out.1.cell (i := 0) (by omega)
    have c1 : wx.cell? ⟨g, 1, none⟩ = some (.int .i64 (o.at_ : Int)) := PX.out.1.cell (i := 1) (by omega)
    have c2 : wx.cell? ⟨g, 2, none⟩ = some (.bool o.bad) := PX.out.1.cell (i := 2) (by omega)
    have f1 := PX.out.1.frozen 1
    have f2 := PX.out.1.frozen 2
    clear hwx
    go_wp2_with fail
    go_ret
    exact ⟨rfl, ro_bad PX.out, only_set GX.out _ _⟩
end Go.Proofs.Ytndmimmkjccgmaa.Pack
