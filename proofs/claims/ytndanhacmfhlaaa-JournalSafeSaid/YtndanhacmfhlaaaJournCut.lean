/- A journal whose disk a crash cuts: Arm, an Append or a Save that fails in some write, Start, Open; annuitykeep.Texts of any two lists; annuitykeep.Mod exactly. Of no one law. -/
import Derived.Test.YtndanhacmfhlaaaJournKeep
import Derived.Test.YtndanhacmfhlaaaGBase
import Derived.Deep.QuietTactic
import Derived.BigQuiet
namespace Go.Proofs.Ytndanhacmfhlaaa.Jour
open Go.ChangeShapes Go.WideShapes Go.ChangeAt Go.RowKit Go.Deep Els Go.Proofs.Ytndanhacmfhlaaa.Frame Disk Slice

/-- Texts tells something, and that they are the same where they are. -/
theorem texts_any (l r : List ByteArray) (v u : Value) (B B' : Nat) (w : World) (hv : Txts w B v l) (hu : Txts w B' u r) :
    Calls Try.prog 14 #[v, u] w fun e w' => (∃ y : Bool, e = .returned (.bool y)) ∧ ∃ n, w' = w.drewN n := by
  obtain ⟨A, c, rfl, hl, -, hcell⟩ := hv
  obtain ⟨A', c', rfl, hl', -, hcell'⟩ := hu
  have HC := Lib.hid hcell
  have HC' := Lib.hid hcell'
  clear hcell hcell'
  by_cases hne : l.length = r.length
  · have hnz := Lib.hid hne
    have t0 : ((l.length : Int) != (r.length : Int)) = false := by rw [hne]; exact bne_self_eq_false _
    have t0' : (l.length != r.length) = false := by rw [hne]; exact bne_self_eq_false _
    clear hne
    go_enter Try.func14, Try.ntmps14
    go_wp2_with fail
    go_loopw [5] (fun t wr => ∃ j : Nat, j ≤ l.length ∧ t = .int .i64 j ∧ ∃ n, wr = w.drewN n) (fun t _ => l.length - (intOf t).toNat)
    case atStart => exact ⟨0, Nat.zero_le _, rfl, 0, rfl⟩
    case round =>
      obtain ⟨j, hj, rfl, n, rfl⟩ := hrel
      by_cases hlt : j < l.length
      · obtain ⟨b, off, rfl, hb, hcell⟩ := HC.out (by omega)
        obtain ⟨b', off', rfl, hb', hcell'⟩ := HC'.out (by have := hnz.out; omega)
        obtain ⟨x, hx0⟩ : ∃ x, l[j]? = some x := ⟨_, List.getElem?_eq_getElem hlt⟩
        obtain ⟨y, hy0⟩ : ∃ y, r[j]? = some y := ⟨_, List.getElem?_eq_getElem (by have := hnz.out; omega)⟩
        have hx := hcell j x hx0
        have hy := hcell' j y hy0
        clear hcell hcell' hx0 hy0
        have h0 : (0 : Int) ≤ j := by omega
        have hlr : j < r.length := by have := hnz.out; omega
        by_cases hxy : (x.toList == y.toList) = true
        · have t1 : (x.toList != y.toList) = false := by unfold bne; rw [hxy]; rfl
          go_wp2_with fail
          go_quiet (fail)
          go_wp2_with fail
          go_roundw
          case rel => exact ⟨j + 1, by omega, by go_num, _, rfl⟩
          case measure => simp [intOf]; omega
        · have t1' : (x.toList == y.toList) = false := Bool.eq_false_iff.2 hxy
          have t1 : (x.toList != y.toList) = true := by unfold bne; rw [t1']; rfl
          go_wp2_with fail
          go_quiet (fail)
          go_wp2_with fail
          go_ret
          exact ⟨⟨false, rfl⟩, _, World.drewN_drewN ..⟩
      · go_wp2_with fail
        go_ret
        exact ⟨⟨true, rfl⟩, _, rfl⟩
  · have t0 : ((l.length : Int) != (r.length : Int)) = true := by rw [bne_iff_ne]; omega
    have t0' : (l.length != r.length) = true := by rw [bne_iff_ne]; exact hne
    go_enter Try.func14, Try.ntmps14
    go_wp2_with fail
    go_ret
    exact ⟨⟨false, rfl⟩, 0, rfl⟩
theorem mod_exact (x n : Int) (w : World) (h : 1 ≤ n) (h2 : n ≤ 1000000000) : Calls Try.prog 10 #[.int .i64 x, .int .i64 n] w fun e w' => e = .returned (.int .i64 ((x.tmod n + n).tmod n)) ∧ w = w' := by
  obtain ⟨W1, W2, W3⟩ := Mod.mod_facts x n h h2
  clear W2 W3
  have hn : (n == 0) = false := by rw [beq_eq_false_iff_ne]; omega
  have hn1 : decide (n < 1) = false := decide_eq_false (by omega)
  have hn2 : ¬ n = -1 := by omega
  have hn3 : (n == -1) = false := by rw [beq_eq_false_iff_ne]; exact hn2
  clear h2
  go_enter Try.func10, Try.ntmps10
  go_wp2
  go_ret
  exact ⟨rfl, rfl⟩
theorem mod_pos (x n : Int) (h : 1 ≤ n) (h2 : n ≤ 1000000000) : ∃ p : Nat, (p : Int) < n ∧ (x.tmod n + n).tmod n = p := by
  obtain ⟨-, W2, W3⟩ := Mod.mod_facts x n h h2
  exact ⟨((x.tmod n + n).tmod n).toNat, by rw [Int.toNat_of_nonneg W2]; exact W3, by rw [Int.toNat_of_nonneg W2]⟩
theorem mod_two (x : Int) : (x.tmod 2 + 2).tmod 2 = x % 2 := by
  obtain ⟨h1, h2⟩ := Mod.tmod_range x 2 (by decide)
  have h3 := Int.mul_tdiv_add_tmod x 2
  rw [Int.tmod_eq_emod_of_nonneg (by omega)]
  omega
/-- A journal on a disk that may be armed. -/
structure AU (w W : World) (K : Nat) (gj g b : Nat) (V : Value) (q : DSt) (j : JSt) (V8 : Value) (rs : List ByteArray) (m n : Nat) : Prop where
  lj : LJ w W gj g b V q j
  inv : Inv q j m
  live : Live q
  dead : j.dead = false
  len : q.S.length = K
  room : 8 ≤ K ∧ K ≤ 600
  fit : q.Fit K (600 * (n + 1))
  nx : j.next ≤ 2 + 2 * n
  own : W.ownsRow w.heap.size 9 1 V8 rs.length (rs.map Value.string)
  wlo : ∀ c, V8.ownBlock = some c → ¬ J4 gj g b V c
/-- A disk on which a journal stands that nobody has open. -/
structure DU (w W : World) (K : Nat) (g b : Nat) (q : DSt) (j : JSt) (V8 : Value) (rs : List ByteArray) (m n : Nat) : Prop where
  ld : LD w W g b q
  inv : Inv q j m
  len : q.S.length = K
  room : 8 ≤ K ∧ K ≤ 600
  fit : q.Fit K (600 * (n + 1))
  nx : j.next ≤ 2 + 2 * n
  own : W.ownsRow w.heap.size 9 1 V8 rs.length (rs.map Value.string)
  wlo : ∀ c, V8.ownBlock = some c → ¬ F2 g b c
section
variable {w W W' : World} {K : Nat} {ao : Bool} {gj g b : Nat} {V V8 : Value} {q : DSt} {j : JSt} {rs : List ByteArray} {m n : Nat}
theorem f2_j4 {i : Nat} (h : F2 g b i) : J4 gj g b V i := Or.inl (Or.inr h)
theorem cut_arm {a p : Int} (h : KU w W K ao gj g b V q j V8 rs m n) (ha : 0 ≤ a ∧ a ≤ 100000) (hp : 0 ≤ p ∧ p ≤ 256) : Calls Try.prog 9 #[.pointer (some ⟨g, 0, none⟩), .int .i64 a, .int .i64 p] W fun e w' => e = .returned (.int .i64 0) ∧ AU w w' K gj g b V (q.arm a p) j V8 rs m n :=
  (d_arm q (F2 g b) g b a p W (fun _ => Iff.rfl) h.lj.at_.dk).mono fun e w' kk => by
    obtain ⟨k1, k2, k3⟩ := kk
    rw [show armE a p = 0 by unfold armE armB; rw [if_pos (decide_eq_true ⟨ha.1, ha.2, hp.1, hp.2⟩)]] at k1
    have hS : (q.arm a p).S = q.S := by unfold DSt.arm; split <;> rfl
    have hD : (q.arm a p).dead = q.dead := by unfold DSt.arm; split <;> rfl
    exact ⟨k1, ⟨h.lj.disk k2 k3, inv_S h.inv hS, Live.of_fit (h.fit.arm a p) (by rw [hD]; exact h.live.dead), h.dead, by rw [hS]; exact h.len, h.room, h.fit.arm a p, h.nx, own_keep h.own (fun c hc => k3.block c (h.own.lt c hc).2 (fun e => h.wlo c hc (f2_j4 e))), h.wlo⟩⟩
theorem AU.len8 (h : AU w W K gj g b V q j V8 rs m n) : 2 ≤ q.S.length ∧ q.S.length ≤ 4096 ∧ 8 ≤ q.S.length := by have := h.len; have := h.room; omega
theorem cut_append {s : ByteArray} (h : AU w W K gj g b V q j V8 rs m n) (hn : n ≤ 1000) (hs : s.size ≤ 60000) (hO : OldA q j) : Calls Try.prog 8 #[.pointer (some ⟨gj, 0, none⟩), .string s] W fun e w' => ∃ er : Int, e = .returned (.int .i64 er) ∧ ∃ q' jr m', DU w w' K g b q' jr V8 rs m' (n + 1) ∧ (AllOld q j.next → OldS q' jr) ∧ ((jr.base = j.base ∧ jr.recs = j.recs ∧ (er = 73 ∨ er = 74)) ∨ (jr.base = j.base ∧ jr.recs = j.recs ++ [s] ∧ (er = 0 ∨ er = 74))) :=
  (p_append q j gj g b K (600 * (n + 1)) V s W h.lj.at_ h.fit (by omega) h.len8.2.1 h.len8.1 (inv_fit h.inv) (by have := h.inv.next; omega) (by omega)).mono fun e w' kk => by
    obtain ⟨k1, V', k2, k3, k4⟩ := h.lj.did kk
    obtain ⟨o1, -⟩ := own_did h.own h.wlo k3 k4
    have o2 : ∀ c, V8.ownBlock = some c → ¬ F2 g b c := fun c hc e => h.wlo c hc (f2_j4 e)
    have hq := append_qfit (j := j) (s := s) h.fit
    have hnx := h.nx
    have ha := h.inv.area
    obtain ⟨d1, d2, d3, d4, d5, -⟩ := append_done (s := s) h.inv h.live h.dead hs (fun _ => hO)
    generalize append q j s = x at *
    have h8 : 8 ≤ x.q.S.length := by rw [d1]; exact h.len8.2.2
    rcases d2 with e | e | e
    · obtain ⟨c1, c2, c3, c4, c5, c6⟩ := d3 e
      rw [c1] at c2
      exact ⟨_, k1, x.q, _, m, ⟨k2.ld, c2, d1.trans h.len, h.room, hq.more (by omega), (by show j.next + 1 ≤ _; omega), o1, o2⟩, fun hA => (old_sides (j := ⟨j.base, j.recs ++ [s], j.next + 1, j.area, j.used + sizeN s.size, false⟩) (c6 hA) h8 ha).2, Or.inr ⟨rfl, rfl, Or.inl e⟩⟩
    · obtain ⟨c1, c2⟩ := d4 e
      exact ⟨_, k1, x.q, j, m, ⟨k2.ld, by rw [c1]; exact h.inv, d1.trans h.len, h.room, hq.more (by omega), (by omega), o1, o2⟩, fun hA => by rw [c1]; exact (old_sides hA h.len8.2.2 ha).2, Or.inl ⟨rfl, rfl, Or.inl e⟩⟩
    · obtain ⟨-, c⟩ := d5 e
      rcases c with ⟨c1, c2⟩ | ⟨c1, c2⟩
      · exact ⟨_, k1, x.q, j, m, ⟨k2.ld, c1, d1.trans h.len, h.room, hq.more (by omega), (by omega), o1, o2⟩, c2, Or.inl ⟨rfl, rfl, Or.inr e⟩⟩
      · exact ⟨_, k1, x.q, _, m, ⟨k2.ld, c1, d1.trans h.len, h.room, hq.more (by omega), (by show j.next + 1 ≤ _; omega), o1, o2⟩, fun hA => (old_sides (j := ⟨j.base, j.recs ++ [s], j.next + 1, j.area, j.used + sizeN s.size, false⟩) (c2 hA) h8 ha).2, Or.inr ⟨rfl, rfl, Or.inr e⟩⟩
theorem cut_save {s : ByteArray} (h : AU w W K gj g b V q j V8 rs m n) (hn : n ≤ 1000) (hs : s.size ≤ 60000) (hO : OldS q j) : Calls Try.prog 7 #[.pointer (some ⟨gj, 0, none⟩), .string s] W fun e w' => ∃ er : Int, e = .returned (.int .i64 er) ∧ ∃ q' jr m', DU w w' K g b q' jr V8 rs m' (n + 1) ∧ (AllOld q j.next → OldA q' jr) ∧ ((jr.base = j.base ∧ jr.recs = j.recs ∧ (er = 73 ∨ er = 74)) ∨ (jr.base = s ∧ jr.recs = [] ∧ (er = 0 ∨ er = 74))) :=
  (p_save q j gj g b K (600 * (n + 1)) V s W h.lj.at_ h.fit (by omega) h.len8.2.1 h.len8.1 (inv_fit h.inv) (by have := h.inv.next; omega) (by omega)).mono fun e w' kk => by
    obtain ⟨k1, V', k2, k3, k4⟩ := h.lj.did kk
    obtain ⟨o1, -⟩ := own_did h.own h.wlo k3 k4
    have o2 : ∀ c, V8.ownBlock = some c → ¬ F2 g b c := fun c hc e => h.wlo c hc (f2_j4 e)
    have hq := save_qfit (j := j) (s := s) h.fit
    have hnx := h.nx
    have ha := h.inv.area
    obtain ⟨d1, d2, d3, d4, d5⟩ := save_done (s := s) h.inv h.live h.dead hs (fun _ => hO)
    generalize save q j s = x at *
    have h8 : 8 ≤ x.q.S.length := by rw [d1]; exact h.len8.2.2
    rcases d2 with e | e | e
    · obtain ⟨c1, c2, c3, c4, c6⟩ := d3 e
      rw [c1] at c2
      exact ⟨_, k1, x.q, _, _, ⟨k2.ld, c2, d1.trans h.len, h.room, hq.more (by omega), (by show j.next + 1 ≤ _; omega), o1, o2⟩, fun hA => (old_sides (j := ⟨s, [], j.next + 1, 1 - j.area, sizeN s.size, false⟩) (c6 hA) h8 (by show 1 - j.area ≤ 1; omega)).1, Or.inr ⟨rfl, rfl, Or.inl e⟩⟩
    · obtain ⟨c1, c2⟩ := d4 e
      exact ⟨_, k1, x.q, j, m, ⟨k2.ld, by rw [c1]; exact h.inv, d1.trans h.len, h.room, hq.more (by omega), (by omega), o1, o2⟩, fun hA => by rw [c1]; exact (old_sides hA h.len8.2.2 ha).1, Or.inl ⟨rfl, rfl, Or.inl e⟩⟩
    · obtain ⟨-, c⟩ := d5 e
      rcases c with ⟨c1, c2⟩ | ⟨c1, c2⟩
      · exact ⟨_, k1, x.q, j, m, ⟨k2.ld, c1, d1.trans h.len, h.room, hq.more (by omega), (by omega), o1, o2⟩, c2, Or.inl ⟨rfl, rfl, Or.inr e⟩⟩
      · exact ⟨_, k1, x.q, _, _, ⟨k2.ld, c1, d1.trans h.len, h.room, hq.more (by omega), (by show j.next + 1 ≤ _; omega), o1, o2⟩, fun hA => (old_sides (j := ⟨s, [], j.next + 1, 1 - j.area, sizeN s.size, false⟩) (c2 hA) h8 (by show 1 - j.area ≤ 1; omega)).1, Or.inr ⟨rfl, rfl, Or.inr e⟩⟩
theorem cut_start (h : DU w W K g b q j V8 rs m n) : Calls Try.prog 11 #[.pointer (some ⟨g, 0, none⟩)] W fun e w' => e = .returned (.tuple #[]) ∧ DU w w' K g b q.start j V8 rs m n :=
  (d_start q (F2 g b) g b W (fun _ => Iff.rfl) h.ld.dk).mono fun e w' kk => by
    obtain ⟨k1, k2, k3⟩ := kk
    exact ⟨k1, ⟨h.ld.only k2 k3, inv_S h.inv rfl, h.len, h.room, h.fit.start, h.nx, own_keep h.own (fun c hc => k3.block c (h.own.lt c hc).2 (h.wlo c hc)), h.wlo⟩⟩
theorem cut_open (h : DU w W K g b q j V8 rs m n) (hd : q.dead = false) (ha : q.armed = false) : Calls Try.prog 12 #[.pointer (some ⟨g, 0, none⟩)] W fun e w' => ∃ gj' V', e = .returned (.tuple #[.pointer (some ⟨gj', 0, none⟩), .int .i64 0]) ∧ KU w w' K false gj' g b V' q ⟨j.base, j.recs, j.next, j.area, j.used, false⟩ V8 rs m n := by
  have ho := open_inv h.inv hd
  refine (l_open h.ld h.fit (by have := h.len; have := h.room; omega) ho).mono fun e w' kk => ?_
  obtain ⟨gj', V', k1, k2, k3, k4, k5⟩ := kk
  exact ⟨gj', V', k1, ⟨k2, inv_dead h.inv false, Live.of_fit h.fit hd, ha, rfl, h.len, h.room, h.fit, h.nx, fun e => (by cases e), own_keep h.own (fun c hc => k3.block c (h.own.lt c hc).2 (h.wlo c hc)), fun c hc e => by
    have h1 := (h.own.lt c hc).2
    rcases e with (e | e) | e
    · omega
    · exact h.wlo c hc e
    · have := k5 c e; omega⟩⟩
end
end Go.Proofs.Ytndanhacmfhlaaa.Jour
