/- The document's own Opener, at whatever is asked. -/
import Derived.Test.YtndmimmkjccgmaaRefPack
namespace Go.Proofs.Ytndmimmkjccgmaa.Pack
open Go.ChangeShapes Go.WideShapes Go.ChangeAt Go.RowKit

/-- The byte at a place of a text. -/
def byteN (s : ByteArray) (i : Nat) : Nat := (s.data.getD i 0).toNat
/-- The number whose bytes stand there, the lowest first. -/
def valN (s : ByteArray) (a : Nat) : Nat → Nat
  | 0 => 0
  | n + 1 => byteN s a + 256 * valN s (a + 1) n
theorem byteN_lt (s : ByteArray) (i : Nat) : byteN s i < 256 := (s.data.getD i 0).toNat_lt
theorem valN_lt (s : ByteArray) : ∀ (n a : Nat), valN s a n < 256 ^ n
  | 0, _ => by show 0 < 256 ^ 0; decide
  | n + 1, a => by
    have h1 := byteN_lt s a
    have h2 := valN_lt s n (a + 1)
    show byteN s a + 256 * valN s (a + 1) n < 256 ^ (n + 1)
    rw [Nat.pow_succ]
    omega
theorem byteN_at {s : ByteArray} {i : Nat} (h : i < s.size) : (s[i]).toNat = byteN s i := by
  unfold byteN
  rw [Array.getD_eq_getD_getElem?, Array.getElem?_eq_getElem h]; rfl
def OSt.spoil (o : OSt) : OSt := ⟨o.s, o.at_, true⟩
def OSt.hasNum (o : OSt) (n : Int) : Bool := !o.bad && sizedB n && decide (n ≤ (o.s.size : Int) - o.at_)
def OSt.num (o : OSt) (n : Int) : Nat × OSt := if o.hasNum n = true then (valN o.s o.at_ n.toNat, ⟨o.s, o.at_ + n.toNat, false⟩) else (0, o.spoil)
def ocell (o : OSt) (i : Nat) : Value := if i = 0 then .string o.s else if i = 1 then .int .i64 (o.at_ : Int) else .bool o.bad
def RO (w : World) (g : Nat) (o : OSt) : Prop := w.rowIs g 46 3 (ocell o) ∧ o.at_ ≤ o.s.size ∧ o.s.size ≤ 200000
theorem ro_bad {w : World} {g : Nat} {o : OSt} (h : RO w g o) : RO (w.setCell ⟨g, 2, none⟩ (.bool true)) g o.spoil :=
  ⟨(h.1.set 2 _).congr fun i hi => by
    unfold ocell OSt.spoil
    by_cases e : i = 2
    · rw [if_pos e, if_neg (by omega), if_neg (by omega)]
    · rw [if_neg e]
      by_cases e2 : i = 0
      · rw [if_pos e2, if_pos e2]
      · rw [if_neg e2, if_neg e2, if_pos (by omega), if_pos (by omega)], h.2⟩
theorem ro_at {w : World} {g : Nat} {o : OSt} (h : RO w g o) (a : Nat) (ha : a ≤ o.s.size) : RO (w.setCell ⟨g, 1, none⟩ (.int .i64 (a : Int))) g ⟨o.s, a, o.bad⟩ :=
  ⟨(h.1.set 1 _).congr fun i hi => by
    unfold ocell
    by_cases e : i = 1
    · rw [if_pos e, if_neg (by omega), if_pos (by omega)]
    · rw [if_neg e]
      by_cases e2 : i = 0
      · rw [if_pos e2, if_pos e2]
      · rw [if_neg e2, if_neg e2, if_neg e, if_neg e], ha, h.2.2⟩
theorem r_odone (o : OSt) (g : Nat) (w : World) (hp : RO w g o) :
    Calls Try.prog 22 #[.pointer (some ⟨g, 0, none⟩)] w fun e w' => e = .returned (.bool (!o.bad && decide (o.at_ = o.s.size))) ∧ ∃ n, w' = w.drewN n := by
  have c0 : w.cell? ⟨g, 0, none⟩ = some (.string o.s) := hp.1.cell (i := 0) (by omega)
  have c1 : w.cell? ⟨g, 1, none⟩ = some (.int .i64 (o.at_ : Int)) := hp.1.cell (i := 1) (by omega)
  have c2 : w.cell? ⟨g, 2, none⟩ = some (.bool o.bad) := hp.1.cell (i := 2) (by omega)
  clear hp
  obtain ⟨s, a, b⟩ := o
  cases b with
  | true =>
    go_enter Try.func22, Try.ntmps22
    go_wp2_with fail
    go_quiet (fail)
    go_wp2_with fail
    go_ret
    exact ⟨rfl, _, rfl⟩
  | false =>
    by_cases h : a = s.size
    · have t1 : ((a : Int) == (s.size : Int)) = true := by rw [beq_iff_eq]; omega
      have H : Hid ((!false && decide (a = s.size)) = true) := show _ = _ by rw [decide_eq_true h]; rfl
      show Calls _ _ _ _ fun e w' => e = .returned (.bool (!false && decide (a = s.size))) ∧ _
      rw [H.out]
      clear h
      go_enter Try.func22, Try.ntmps22
      go_wp2_with fail
      go_quiet (fail)
      go_wp2_with fail
      go_ret
      exact ⟨rfl, _, rfl⟩
    · have t1 : ((a : Int) == (s.size : Int)) = false := by rw [beq_eq_false_iff_ne]; omega
      have H : Hid ((!false && decide (a = s.size)) = false) := show _ = _ by rw [decide_eq_false h]; rfl
      show Calls _ _ _ _ fun e w' => e = .returned (.bool (!false && decide (a = s.size))) ∧ _
      rw [H.out]
      clear h
      go_enter Try.func22, Try.ntmps22
      go_wp2_with fail
      go_quiet (fail)
      go_wp2_with fail
      go_ret
      exact ⟨rfl, _, rfl⟩
theorem val_next (s : ByteArray) (a : Nat) {j m : Nat} (h : j + 1 ≤ m) : valN s (a + j) (m - j) = byteN s (a + j) + 256 * valN s (a + (j + 1)) (m - (j + 1)) := by
  rw [show m - j = (m - (j + 1)) + 1 by omega]
  rfl
theorem val_bound (s : ByteArray) (a : Nat) {j m : Nat} (h : j + 1 ≤ m) (h8 : m ≤ 8) : valN s (a + (j + 1)) (m - (j + 1)) < 72057594037927936 :=
  Nat.lt_of_lt_of_le (valN_lt s _ _) (show 256 ^ (m - (j + 1)) ≤ 256 ^ 7 from Nat.pow_le_pow_right (by decide) (by omega))
theorem only_drewN {a w : World} {r : Option Nat} (h : a.grownBy w r) (n : Nat) : a.grownBy (w.drewN n) r := ⟨h.os, h.tape, h.output, h.size, h.block⟩
theorem quiet_of {P : Program} {f : FuncId} {args : Array Value} {w : World} {n : Nat} {v : Value} (h : ∀ w, Calls P f args w fun e w' => e = .returned v ∧ w = w') :
    Calls P f args (w.drewN n) fun e w'' => e = .returned v ∧ ∃ m, w'' = w.drewN m :=
  (h _).mono fun _ _ ⟨he, hm⟩ => ⟨he, n, hm.symm⟩
theorem r_onum (o : OSt) (n : Int) (g : Nat) (w : World) (hp : RO w g o) (hn : -9223372036854775808 ≤ n ∧ n ≤ 9223372036854775807) :
    Calls Try.prog 20 #[.pointer (some ⟨g, 0, none⟩), .int .i64 n] w fun e w' => e = .returned (.int .u64 ((o.num n).1 : Int)) ∧ RO w' g (o.num n).2 ∧ w.grownBy w' (some g) := by
  have c0 : w.cell? ⟨g, 0, none⟩ = some (.string o.s) := hp.1.cell (i := 0) (by omega)
  have c1 : w.cell? ⟨g, 1, none⟩ = some (.int .i64 (o.at_ : Int)) := hp.1.cell (i := 1) (by omega)
  have c2 : w.cell? ⟨g, 2, none⟩ = some (.bool o.bad) := hp.1.cell (i := 2) (by omega)
  have f1 := hp.1.frozen 1
  have f2 := hp.1.frozen 2
  have HP := Lib.hid hp
  have ha := hp.2.1
  have hz := hp.2.2
  clear hp
  have S := fun w => r_sized n w
  by_cases hb : o.bad = true
  · have H : Hid (o.num n = (0, o.spoil)) := show _ = _ by unfold OSt.num OSt.hasNum; rw [hb]; rfl
    rw [H.out]
    rw [hb] at c2
    go_enter Try.func20, Try.ntmps20
    go_wp2_with fail
    go_quiet (fail)
    have hwx' : ∃ wx, wx = w.drewN nq := ⟨_, rfl⟩
    obtain ⟨wx, hwx⟩ := hwx'
    rw [← hwx]
    have PX := Lib.hid (show RO wx g o by rw [hwx]; exact HP.out)
    have GX := Lib.hid (show w.grownBy wx (some g) by rw [hwx]; exact only_drewN (only_refl w _) nq)
    have c0 : wx.cell? ⟨g, 0, none⟩ = some (.string o.s) := PX.out.1.cell (i := 0) (by omega)
    have c1 : wx.cell? ⟨g, 1, none⟩ = some (.int .i64 (o.at_ : Int)) := PX.out.1.cell (i := 1) (by omega)
    have c2 : wx.cell? ⟨g, 2, none⟩ = some (.bool o.bad) := PX.out.1.cell (i := 2) (by omega)
    have f1 := PX.out.1.frozen 1
    have f2 := PX.out.1.frozen 2
    clear hwx
    go_wp2_with fail
    go_ret
    exact ⟨rfl, ro_bad PX.out, only_set GX.out _ _⟩
  rw [Bool.not_eq_true] at hb
  by_cases hs : sizedB n = true
  · by_cases hl : n ≤ (o.s.size : Int) - o.at_
    · have hm : ∃ m : Nat, n = m ∧ 1 ≤ m ∧ m ≤ 8 := by
        rcases (of_decide_eq_true hs : n = 1 ∨ n = 2 ∨ n = 4 ∨ n = 8) with rfl | rfl | rfl | rfl
        · exact ⟨1, rfl, by omega, by omega⟩
        · exact ⟨2, rfl, by omega, by omega⟩
        · exact ⟨4, rfl, by omega, by omega⟩
        · exact ⟨8, rfl, by omega, by omega⟩
      obtain ⟨m, rfl, m1, m8⟩ := hm
      have t1 : decide ((o.s.size : Int) - o.at_ < m) = false := decide_eq_false (by omega)
      have H : Hid (o.num m = (valN o.s o.at_ m, ⟨o.s, o.at_ + m, false⟩)) := show _ = _ by unfold OSt.num OSt.hasNum; rw [decide_eq_true hl, hs, hb]; rfl
      rw [H.out]
      rw [hb] at c2
      rw [hs] at S
      clear H
      go_enter Try.func20, Try.ntmps20
      go_wp2_with fail
      go_quiet ((exact quiet_of S))
      have hwx' : ∃ wx, wx = w.drewN nq := ⟨_, rfl⟩
      obtain ⟨wx, hwx⟩ := hwx'
      rw [← hwx]
      have PX := Lib.hid (show RO wx g o by rw [hwx]; exact HP.out)
      have GX := Lib.hid (show w.grownBy wx (some g) by rw [hwx]; exact only_drewN (only_refl w _) nq)
      have c0 : wx.cell? ⟨g, 0, none⟩ = some (.string o.s) := PX.out.1.cell (i := 0) (by omega)
      have c1 : wx.cell? ⟨g, 1, none⟩ = some (.int .i64 (o.at_ : Int)) := PX.out.1.cell (i := 1) (by omega)
      have c2 : wx.cell? ⟨g, 2, none⟩ = some (.bool o.bad) := PX.out.1.cell (i := 2) (by omega)
      have f1 := PX.out.1.frozen 1
      have f2 := PX.out.1.frozen 2
      clear hwx
      have hml : o.at_ + m ≤ o.s.size := by omega
      go_wp2_with fail
      go_loopw [5, 6] (fun u t wr => ∃ k : Nat, k ≤ m ∧ t = .int .i64 ((k : Int) - 1) ∧ u = .int .u64 ((valN o.s (o.at_ + k) (m - k) : Nat) : Int) ∧ ∃ n, wr = wx.drewN n) (fun _ t _ => ((intOf t) + 1).toNat)
      case atStart => exact ⟨m, Nat.le_refl _, rfl, by rw [Nat.sub_self]; rfl, 0, rfl⟩
      case round =>
        obtain ⟨k, hk, rfl, rfl, nn, rfl⟩ := hrel
        rcases Nat.eq_zero_or_pos k with h0 | h0
        · subst h0
          obtain ⟨wy, hwy⟩ : ∃ wy, wy = wx.drewN nn := ⟨_, rfl⟩
          rw [← hwy]
          have PY := Lib.hid (show RO wy g o by rw [hwy]; exact PX.out)
          have GY := Lib.hid (show w.grownBy wy (some g) by rw [hwy]; exact only_drewN GX.out nn)
          have c1 : wy.cell? ⟨g, 1, none⟩ = some (.int .i64 (o.at_ : Int)) := PY.out.1.cell (i := 1) (by omega)
          have f1 := PY.out.1.frozen 1
          have PZ := Lib.hid (ro_at PY.out (o.at_ + m) hml)
          rw [hb] at PZ
          clear hwy
          have em : ((0 : Nat) : Int) - 1 = -1 := rfl
          have es : wrap64 ((o.at_ : Int) + m) = o.at_ + m := by unfold wrap64; omega
          rw [em, Nat.add_zero, Nat.sub_zero]
          go_wp2_with fail
          go_ret
          exact ⟨rfl, PZ.out, only_set GY.out _ _⟩
        · obtain ⟨j, rfl⟩ : ∃ j, k = j + 1 := ⟨k - 1, by omega⟩
          have e0 : ((j + 1 : Nat) : Int) - 1 = j := by omega
          have hat : o.at_ + j < o.s.size := by omega
          have HB := Lib.hid (byteN_at hat)
          have HV := Lib.hid (val_next o.s o.at_ hk)
          have hx := val_bound o.s o.at_ (j := j) hk m8
          have hbl := byteN_lt o.s (o.at_ + j)
          generalize valN o.s (o.at_ + (j + 1)) (m - (j + 1)) = x at *
          have e1 : IntKind.i64.wrap ((o.at_ : Int) + j) = (o.at_ : Int) + j := IntWalk.i64_in _ (by omega)
          have e2 : IntKind.u64.wrap ((x : Int) * 256) = (x : Int) * 256 := IntWalk.u64_in _ (by omega)
          have e3 : IntKind.u64.wrap ((x : Int) * 256 + (byteN o.s (o.at_ + j) : Nat)) = (x : Int) * 256 + (byteN o.s (o.at_ + j) : Nat) := IntWalk.u64_in _ (by omega)
          have e4 : ((o.at_ : Int) + j).toNat = o.at_ + j := by omega
          have e5 : (0 : Int) ≤ (o.at_ : Int) + j := by omega
          have e6 : (o.at_ : Int) + j < (o.s.size : Int) := by omega
          have hb2 := HB.out
          rw [e0]
          go_wp2_with fail
          go_quiet (fail)
          go_wp2_with fail
          go_roundw
          case rel => exact ⟨j, by omega, rfl, by rw [HV.out]; congr 1 <;> omega, _, rfl⟩
          case measure => simp [intOf]
    · have t1 : decide ((o.s.size : Int) - o.at_ < n) = true := decide_eq_true (by omega)
      have H : Hid (o.num n = (0, o.spoil)) := show _ = _ by unfold OSt.num OSt.hasNum; rw [decide_eq_false hl, Bool.and_false]; rfl
      rw [H.out]
      rw [hb] at c2
      rw [hs] at S
      clear H
      go_enter Try.func20, Try.ntmps20
      go_wp2_with fail
      go_quiet ((exact quiet_of S))
      have hwx' : ∃ wx, wx = w.drewN nq := ⟨_, rfl⟩
      obtain ⟨wx, hwx⟩ := hwx'
      rw [← hwx]
      have PX := Lib.hid (show RO wx g o by rw [hwx]; exact HP.out)
      have GX := Lib.hid (show w.grownBy wx (some g) by rw [hwx]; exact only_drewN (only_refl w _) nq)
      have c0 : wx.cell? ⟨g, 0, none⟩ = some (.string o.s) := PX.out.1.cell (i := 0) (by omega)
      have c1 : wx.cell? ⟨g, 1, none⟩ = some (.int .i64 (o.at_ : Int)) := PX.out.1.cell (i := 1) (by omega)
      have c2 : wx.cell? ⟨g, 2, none⟩ = some (.bool o.bad) := PX.out.1.cell (i := 2) (by omega)
      have f1 := PX.out.1.frozen 1
      have f2 := PX.out.1.frozen 2
      clear hwx
      go_wp2_with fail
      go_ret
      exact ⟨rfl, ro_bad PX.out, only_set GX.out _ _⟩
  · rw [Bool.not_eq_true] at hs
    have H : Hid (o.num n = (0, o.spoil)) := show _ = _ by unfold OSt.num OSt.hasNum; rw [hs, Bool.and_false, Bool.false_and]; rfl
    rw [H.out]
    rw [hb] at c2
    rw [hs] at S
    clear H
    go_enter Try.func20, Try.ntmps20
    go_wp2_with fail
    go_quiet ((exact quiet_of S))
    have hwx' : ∃ wx, wx = w.drewN nq := ⟨_, rfl⟩
    obtain ⟨wx, hwx⟩ := hwx'
    rw [← hwx]
    have PX := Lib.hid (show RO wx g o by rw [hwx]; exact HP.out)
    have GX := Lib.hid (show w.grownBy wx (some g) by rw [hwx]; exact only_drewN (only_refl w _) nq)
    have c0 : wx.cell? ⟨g, 0, none⟩ = some (.string o.s) := PX.out.1.cell (i := 0) (by omega)
    have c1 : wx.cell? ⟨g, 1, none⟩ = some (.int .i64 (o.at_ : Int)) := PX.out.1.cell (i := 1) (by omega)
    have c2 : wx.cell? ⟨g, 2, none⟩ = some (.bool o.bad) := PX.out.1.cell (i := 2) (by omega)
    have f1 := PX.out.1.frozen 1
    have f2 := PX.out.1.frozen 2
    clear hwx
    go_wp2_with fail
    go_ret
    exact ⟨rfl, ro_bad PX.out, only_set GX.out _ _⟩
end Go.Proofs.Ytndmimmkjccgmaa.Pack
