/- What the document's own Take, Cents and Ppm answer. -/
import Derived.Test.YtiaiahdejihlbaaHalves
import Derived.Test.YtiaiahdejihlbaaRef
import Derived.Deep.OwnRows
namespace Go.Proofs.Ytiaiahdejihlbaa.Fl
open Go.ChangeShapes Go.WideShapes Go.ChangeAt Go.RowKit Bits Money Flo

def two (u v : Value) (i : Nat) : Value := if i = 0 then u else v
theorem row_two (w : World) (t : TypeId) (u v : Value) : (w.alloc (.cells #[u, v] t)).rowIs w.heap.size t 2 (two u v) :=
  World.rowIs_alloc w #[u, v] t _ fun i hi => by
    match i, hi with
    | 0, _ => rfl
    | 1, _ => rfl
theorem two_set {w : World} {g : Nat} {t : TypeId} {u v u' v' : Value} (h : w.rowIs g t 2 (two u v)) :
    ((w.setCell ⟨g, 1, none⟩ v').setCell ⟨g, 0, none⟩ u').rowIs g t 2 (two u' v') :=
  ((h.set 1 v').set 0 u').congr fun i hi => by
    match i, hi with
    | 0, _ => rfl
    | 1, _ => rfl

/-- The document's Take ahead of a round: so often halved, in the block g. -/
structure HState (w : World) (g X j : Nat) (wr : World) : Prop where
  below : Below w.heap.size w wr
  old : w.heap.size ≤ g
  row : wr.rowIs g 59 2 (two (.int .u64 (hiI X j)) (.int .u64 (loI X j)))

theorem hstate_next {w wr : World} {g X j : Nat} {a b : Int} (h : HState w g X j wr) (ha : a = hiI X (j + 1)) (hb : b = loI X (j + 1)) :
    HState w g X (j + 1) ((wr.setCell ⟨g, 1, none⟩ (.int .u64 b)).setCell ⟨g, 0, none⟩ (.int .u64 a)) := by
  subst ha
  subst hb
  exact ⟨(h.below.setCell h.old _).setCell h.old _, h.old, two_set h.row⟩

theorem tiny {X d : Nat} (h : X < 18446744073709551616 * 1024) (hd : 200 < d) : rne X d = 0 ∧ hiI X 200 = 0 ∧ loI X 200 = 0 := by
  have h1 : (2:Nat) ^ 200 = 2 ^ 75 * 2 ^ 125 := by rw [← Nat.pow_add]
  have h2 := two_pos 125
  have h3 : (2:Nat) ^ 75 * 1 ≤ 2 ^ 75 * 2 ^ 125 := Nat.mul_le_mul_left _ h2
  have h4 : (2:Nat) ^ 200 ≤ 2 ^ d := Nat.pow_le_pow_right (by omega) (by omega)
  have h5 : (2:Nat) ^ 75 = 18446744073709551616 * 2048 := by decide
  have h6 : X / 2 ^ 200 = 0 := Nat.div_eq_of_lt (by omega)
  refine ⟨rne_small (by omega), ?_, ?_⟩
  · unfold hiI; rw [h6]; rfl
  · unfold loI; rw [h6]; rfl
theorem answer_ok {b k n : Nat} (hg : goodF b = true) (hk : 1 ≤ k ∧ k ≤ 1000000) (h : taken b k = n) (hn : n ≤ 10000000000000) : tE b (k : Int) = 0 ∧ tV b (k : Int) = (n : Nat) := by
  have e : (k : Int).toNat = k := by omega
  have h1 : tE b (k : Int) = 0 := tE_ok hg (by omega) (by rw [e, h]; exact hn)
  exact ⟨h1, (tV_ok h1).trans (by rw [e, h])⟩
theorem answer_no {b k : Nat} (hg : goodF b = true) (hk : 1 ≤ k ∧ k ≤ 1000000) (h : 10000000000000 < taken b k) : tE b (k : Int) = 14 ∧ tV b (k : Int) = 0 := by
  have e : (k : Int).toNat = k := by omega
  have h1 : tE b (k : Int) = 14 := tE_range hg (by omega) (by rw [e]; exact h)
  exact ⟨h1, tV_no h1 (by decide)⟩
theorem shift_facts {E d : Nat} (h : E + d = 1075) (h1 : 1 ≤ d) : wrap64 (E : Int) = E ∧ wrap64 ((E : Int) - 1075) = -(d : Int) ∧ 0 < d ∧ ¬ (0 : Int) ≤ -(d : Int) ∧ wrap64 (d : Int) = d := by
  unfold wrap64; omega
theorem nat_le {m : Nat} (h : m < 9007199254740992) : (m : Int) ≤ 18446744073709551615 := by omega
theorem answer_int {b k : Nat} {v : Int} (hg : goodF b = true) (hk : 1 ≤ k ∧ k ≤ 1000000) (h : ((taken b k : Nat) : Int) = v) (hn : v ≤ 10000000000000) : tE b (k : Int) = 0 ∧ tV b (k : Int) = v := by
  obtain ⟨h1, h2⟩ := answer_ok (n := taken b k) hg hk rfl (by omega)
  exact ⟨h1, h2.trans h⟩
theorem q_lo {X d : Nat} (h : hiI X d = 0) : loI X d = ((X / 2 ^ d : Nat) : Int) := by unfold hiI at h; unfold loI; omega
theorem mid_hi {X d : Nat} (h : ¬ hiI X d = 0) : 10000000000000 < rne X d := by
  have := rne_lo X d
  unfold hiI at h
  generalize X / 2 ^ d = q at *
  omega
theorem mid_lo {X d : Nat} (h : hiI X d = 0) (h1 : 10000000000000 < loI X d) : 10000000000000 < rne X d := by
  have := rne_lo X d
  rw [q_lo h] at h1; omega
theorem mid_less {X d : Nat} (h : hiI X d = 0) (h1 : halfB X d = false) : ((rne X d : Nat) : Int) = loI X d := by
  rw [q_lo h, rne_halves, h1]; simp
theorem mid_more {X d : Nat} (h : hiI X d = 0) (h1 : halfB X d = true) (h2 : restB X d = true) : ((rne X d : Nat) : Int) = loI X d + 1 := by
  rw [q_lo h, rne_halves, h1, h2]; simp
theorem mid_odd {X d : Nat} (h : hiI X d = 0) (h1 : halfB X d = true) (h2 : (loI X d % 2 == 1) = true) : ((rne X d : Nat) : Int) = loI X d + 1 := by
  rw [q_lo h, beq_iff_eq] at h2
  rw [q_lo h, rne_halves, h1, if_pos ⟨rfl, Or.inr (by omega)⟩]; simp
theorem mid_even {X d : Nat} (h : hiI X d = 0) (h1 : restB X d = false) (h2 : (loI X d % 2 == 1) = false) : ((rne X d : Nat) : Int) = loI X d := by
  rw [q_lo h, beq_eq_false_iff_ne] at h2
  rw [q_lo h, rne_halves, h1, if_neg (by rintro ⟨-, h | h⟩; exact nomatch h; omega)]; simp
theorem top_beq {a : Int} (h : ¬ a = 0) : (a == 0) = false := by rw [beq_eq_false_iff_ne]; exact h
theorem high_lo {X : Nat} (h : 4503599627370496 ≤ X) (h1 : hiI X 0 = 0) : 10000000000000 < loI X 0 := by
  rw [q_lo h1]; simp; omega
theorem high_x {m k : Nat} (h : 4503599627370496 ≤ m) (hk : 1 ≤ k) : 4503599627370496 ≤ m * k :=
  calc 4503599627370496 = 4503599627370496 * 1 := by rw [Nat.mul_one]
    _ ≤ m * k := Nat.mul_le_mul h hk
theorem shift_high {E d : Nat} (h : E = 1075 + d) (h1 : d ≤ 972) : wrap64 (E : Int) = E ∧ wrap64 ((E : Int) - 1075) = (d : Int) := by
  unfold wrap64; omega
theorem top_of {t : Nat} {v : Int} (h : (t : Int) = v) (hv : 10000000000000 < v) : 10000000000000 < t := by omega
theorem mul_bound {m k : Nat} (h : m < 9007199254740992) (hk : k ≤ 1000000) : m * k < 18446744073709551616 * 1024 := by
  have : m * k ≤ 9007199254740992 * 1000000 := Nat.mul_le_mul (by omega) hk
  omega
theorem parts_small {b : Nat} (he : b % 9223372036854775808 / 4503599627370496 = 0) : sig (b % 9223372036854775808) = b % 4503599627370496 ∧ ex (b % 9223372036854775808) = 0 := by
  unfold sig ex
  rw [if_pos (by omega)]
  omega
theorem parts_great {b : Nat} (he : 1 ≤ b % 9223372036854775808 / 4503599627370496) : sig (b % 9223372036854775808) = b % 4503599627370496 + 4503599627370496 ∧ ex (b % 9223372036854775808) = b % 9223372036854775808 / 4503599627370496 - 1 := by
  unfold sig ex
  rw [if_neg (by omega)]
  omega

set_option maxHeartbeats 400000 in
theorem rtake_zero (b : Nat) (k : Nat) (w : World) (hb : b < 18446744073709551616) (hg : goodF b = true) (hk : 1 ≤ k ∧ k ≤ 1000000) (he : b % 9223372036854775808 / 4503599627370496 = 0) :
    Calls Try.prog 10 #[.float .f64 b, .int .i64 (k : Int)] w fun e w' => e = .returned (.tuple #[.int .i64 (tV b k), .int .i64 (tE b k)]) ∧ Below w.heap.size w w' := by
  have hx := exp_of b hb
  rw [he] at hx
  have hm := man_of b hb
  obtain ⟨hp1, hp2⟩ := parts_small he
  have hM := Nat.mod_lt b (show 0 < 4503599627370496 by omega)
  have htk := taken_cut b k (by rw [hp2]; omega)
  rw [hp1, hp2, Nat.sub_zero, U_eq] at htk
  clear hp1 hp2
  generalize b % 4503599627370496 = M at *
  have h0 : hiI (M * k) 0 = (M : Int) * k / 18446744073709551616 := by rw [(halves_start _).2.2.1]; simp
  have h1 : loI (M * k) 0 = (M : Int) * k % 18446744073709551616 := by rw [(halves_start _).2.2.2]; simp
  have hX1 := mul_bound (show M < 9007199254740992 from Nat.lt_trans hM (by decide)) hk.2
  generalize hX : M * k = X at *
  have hm8 : ((M : Int)) ≤ 18446744073709551615 := nat_le (show M < 9007199254740992 from Nat.lt_trans hM (by decide))
  have hk8 : (k : Int) ≤ 1000000 := Int.ofNat_le.2 hk.2
  have HX := Lib.hid hX1
  clear hX1
  have H0 := Lib.hid h0
  have H1 := Lib.hid h1
  clear h0 h1 hX
  go_enter Try.func10, Try.ntmps10
  go_wp2_with fail
  refine (good_ref _ _ hb).mono ?_
  rintro e w' ⟨rfl, rfl⟩
  go_wp2_with fail
  refine (Ref.mul_any _ _ _ (Int.natCast_nonneg _) hm8 (Int.natCast_nonneg _) (Int.le_trans hk8 (by decide))).mono ?_
  rintro e w1 ⟨rfl, hb1⟩
  clear hx hm
  go_wp2_with fail
  go_loopw [12, 13, 14] (fun h r i wr => ∃ j : Nat, j ≤ 200 ∧ i = .int .i64 j ∧ h = .bool (halfB X j) ∧ r = .bool (restB X j) ∧ HState w w1.heap.size X j wr) (fun _ _ i _ => 200 - (intOf i).toNat)
  case atStart =>
    refine ⟨0, Nat.zero_le _, rfl, by rw [(halves_start X).1], by rw [(halves_start X).2.1], ?_⟩
    rw [← H0.out, ← H1.out]
    exact ⟨hb1.alloc hb1.size _, hb1.size, row_two _ _ _ _⟩
  case round =>
    obtain ⟨j, j1, rfl, rfl, rfl, hst⟩ := hrel
    have HS := Lib.hid hst
    obtain ⟨hbel, hold, hrow⟩ := hst
    have c0 : wr.cell? ⟨w1.heap.size, 0, none⟩ = some (.int .u64 (hiI X j)) := hrow.cell (i := 0) (by omega)
    have c1 : wr.cell? ⟨w1.heap.size, 1, none⟩ = some (.int .u64 (loI X j)) := hrow.cell (i := 1) (by omega)
    have f0 := hrow.frozen 0
    have f1 := hrow.frozen 1
    have l0 := hrow.lt
    obtain ⟨a0, a1⟩ := hi_range j HX.out
    obtain ⟨b0, b1⟩ := lo_range X j
    clear hrow hbel
    have d1 : decide ((j : Int) < 1074) = true := decide_eq_true (by omega)
    have e1 : (j : Int) < 1074 := by omega
    by_cases hlt : j < 200
    · have d2 : decide ((j : Int) < 200) = true := decide_eq_true (by omega)
      have e2 : (j : Int) < 200 := by omega
      have n0 := hi_next X j
      have n1 := lo_next X j
      have n2 := half_next X j
      have n3 := rest_next X j
      have N0 := Lib.hid n0
      have N1 := Lib.hid n1
      have N2 := Lib.hid n2
      clear n0 n1 n2
      generalize hiI X j = a at *
      generalize loI X j = c at *
      cases hr : restB X j with
      | true =>
        rw [hr, Bool.true_or] at n3
        have N3 := Lib.hid n3
        clear n3 hr
        go_wp2
        go_round
        case rel => exact ⟨j + 1, hlt, rfl, by rw [N2.out], by rw [← N3.out], hstate_next HS.out N0.out N1.out⟩
        case measure => exact Nat.sub_lt_sub_left (k := j) hlt (Nat.lt_succ_self j)
      | false =>
        rw [hr, Bool.false_or] at n3
        have N3 := Lib.hid n3
        clear n3 hr
        go_wp2
        go_round
        case rel => exact ⟨j + 1, hlt, rfl, by rw [N2.out], by rw [← N3.out], hstate_next HS.out N0.out N1.out⟩
        case measure => exact Nat.sub_lt_sub_left (k := j) hlt (Nat.lt_succ_self j)
    · have d2 : decide ((j : Int) < 200) = false := decide_eq_false (by omega)
      have e2 : ¬ (j : Int) < 200 := by omega
      obtain rfl : j = 200 := Nat.le_antisymm j1 (Nat.le_of_not_lt hlt)
      obtain ⟨t0, t1, t2⟩ := tiny HX.out (d := 1074) (by omega)
      obtain ⟨A1, A2⟩ := answer_ok hg hk (htk.trans t0) (Nat.zero_le _)
      have AE := Lib.hid A1
      have AV := Lib.hid A2
      rw [t1] at c0
      rw [t2] at c1
      clear t0 t1 t2 A1 A2 a0 a1 b0 b1 htk
      go_wp2
      go_ret2
      exact ⟨ret_two AV.out.symm AE.out.symm, by have := HS.out.below; go_grown⟩

set_option maxHeartbeats 400000 in
theorem rtake_low (b : Nat) (k : Nat) (w : World) (hb : b < 18446744073709551616) (hg : goodF b = true) (hk : 1 ≤ k ∧ k ≤ 1000000) (he : 1 ≤ b % 9223372036854775808 / 4503599627370496 ∧ b % 9223372036854775808 / 4503599627370496 < 875) :
    Calls Try.prog 10 #[.float .f64 b, .int .i64 (k : Int)] w fun e w' => e = .returned (.tuple #[.int .i64 (tV b k), .int .i64 (tE b k)]) ∧ Below w.heap.size w w' := by
  have hx := exp_of b hb
  have hm := man_of b hb
  obtain ⟨hp1, hp2⟩ := parts_great (b := b) (by omega)
  have hM := Nat.mod_lt b (show 0 < 4503599627370496 by omega)
  have htk := taken_cut b k (by rw [hp2, U_eq]; omega)
  rw [hp1, hp2, U_eq, show 1074 - (b % 9223372036854775808 / 4503599627370496 - 1) = 1075 - b % 9223372036854775808 / 4503599627370496 by omega] at htk
  clear hp1 hp2
  generalize b % 4503599627370496 = M at *
  generalize b % 9223372036854775808 / 4503599627370496 = E at *
  obtain ⟨d, hd, hde⟩ : ∃ d, 1075 - E = d ∧ E + d = 1075 := ⟨1075 - E, rfl, by omega⟩
  rw [hd] at htk
  have HD := Lib.hid (show 200 < d by omega)
  have hd1 : 1 ≤ d := by omega
  have he0 : ((E : Int) == 0) = false := by rw [beq_eq_false_iff_ne]; omega
  obtain ⟨m, hmm⟩ : ∃ m, m = M + 4503599627370496 := ⟨_, rfl⟩
  have hm9 : m < 9007199254740992 := by omega
  have W3 : IntKind.u64.wrap ((M : Int) + 4503599627370496) = (m : Int) := by rw [IntKind.wrap_u64]; omega
  rw [← hmm] at htk
  obtain ⟨W1, W2, g1, g2, W4⟩ := shift_facts hde hd1
  have HW4 := Lib.hid W4
  have G2 := Lib.hid g2
  have G3 := Lib.hid (show decide ((0 : Int) ≤ -(d : Int)) = false from decide_eq_false g2)
  clear W4 g1 g2
  clear he hd hde hmm hM
  have h0 : hiI (m * k) 0 = (m : Int) * k / 18446744073709551616 := by rw [(halves_start _).2.2.1]; simp
  have h1 : loI (m * k) 0 = (m : Int) * k % 18446744073709551616 := by rw [(halves_start _).2.2.2]; simp
  have hX1 := mul_bound hm9 hk.2
  generalize hX : m * k = X at *
  have hm8 : ((m : Int)) ≤ 18446744073709551615 := nat_le hm9
  have hk8 : (k : Int) ≤ 1000000 := Int.ofNat_le.2 hk.2
  have HX := Lib.hid hX1
  clear hX1
  have H0 := Lib.hid h0
  have H1 := Lib.hid h1
  clear h0 h1 hX
  go_enter Try.func10, Try.ntmps10
  go_wp2_with fail
  refine (good_ref _ _ hb).mono ?_
  rintro e w' ⟨rfl, rfl⟩
  go_wp2_with fail
  refine (Ref.mul_any _ _ _ (Int.natCast_nonneg _) hm8 (Int.natCast_nonneg _) (Int.le_trans hk8 (by decide))).mono ?_
  rintro e w1 ⟨rfl, hb1⟩
  clear hx hm
  rw [W2]
  clear W1 W2 W3
  have W4 := HW4.out
  have g2 := G2.out
  have g3 := G3.out
  go_wp2_with fail
  go_loopw [12, 13, 14] (fun h r i wr => ∃ j : Nat, j ≤ 200 ∧ i = .int .i64 j ∧ h = .bool (halfB X j) ∧ r = .bool (restB X j) ∧ HState w w1.heap.size X j wr) (fun _ _ i _ => 200 - (intOf i).toNat)
  case atStart =>
    refine ⟨0, Nat.zero_le _, rfl, by rw [(halves_start X).1], by rw [(halves_start X).2.1], ?_⟩
    rw [← H0.out, ← H1.out]
    exact ⟨hb1.alloc hb1.size _, hb1.size, row_two _ _ _ _⟩
  case round =>
    obtain ⟨j, j1, rfl, rfl, rfl, hst⟩ := hrel
    have HS := Lib.hid hst
    obtain ⟨hbel, hold, hrow⟩ := hst
    have c0 : wr.cell? ⟨w1.heap.size, 0, none⟩ = some (.int .u64 (hiI X j)) := hrow.cell (i := 0) (by omega)
    have c1 : wr.cell? ⟨w1.heap.size, 1, none⟩ = some (.int .u64 (loI X j)) := hrow.cell (i := 1) (by omega)
    have f0 := hrow.frozen 0
    have f1 := hrow.frozen 1
    have l0 := hrow.lt
    obtain ⟨a0, a1⟩ := hi_range j HX.out
    obtain ⟨b0, b1⟩ := lo_range X j
    clear hrow hbel
    have d1 : decide (j < d) = true := decide_eq_true (Nat.lt_of_le_of_lt j1 HD.out)
    by_cases hlt : j < 200
    · have e2 : (j : Int) < 200 := by clear W4; omega
      have d2 : decide ((j : Int) < 200) = true := decide_eq_true e2
      have n0 := hi_next X j
      have n1 := lo_next X j
      have n2 := half_next X j
      have n3 := rest_next X j
      have N0 := Lib.hid n0
      have N1 := Lib.hid n1
      have N2 := Lib.hid n2
      clear n0 n1 n2
      generalize hiI X j = a at *
      generalize loI X j = c at *
      cases hr : restB X j with
      | true =>
        rw [hr, Bool.true_or] at n3
        have N3 := Lib.hid n3
        clear n3 hr
        go_wp2
        go_round
        case rel => exact ⟨j + 1, hlt, rfl, by rw [N2.out], by rw [← N3.out], hstate_next HS.out N0.out N1.out⟩
        case measure => exact Nat.sub_lt_sub_left (k := j) hlt (Nat.lt_succ_self j)
      | false =>
        rw [hr, Bool.false_or] at n3
        have N3 := Lib.hid n3
        clear n3 hr
        go_wp2
        go_round
        case rel => exact ⟨j + 1, hlt, rfl, by rw [N2.out], by rw [← N3.out], hstate_next HS.out N0.out N1.out⟩
        case measure => exact Nat.sub_lt_sub_left (k := j) hlt (Nat.lt_succ_self j)
    · have e2 : ¬ (j : Int) < 200 := by clear W4; omega
      have d2 : decide ((j : Int) < 200) = false := decide_eq_false e2
      have e3 : (200 : Int) < d := by have := HD.out; clear W4; omega
      have d3 : decide ((200 : Int) < d) = true := decide_eq_true e3
      obtain rfl : j = 200 := Nat.le_antisymm j1 (Nat.le_of_not_lt hlt)
      obtain ⟨t0, t1, t2⟩ := tiny HX.out HD.out
      obtain ⟨A1, A2⟩ := answer_ok hg hk (htk.trans t0) (Nat.zero_le _)
      have AE := Lib.hid A1
      have AV := Lib.hid A2
      rw [t1] at c0
      rw [t2] at c1
      clear t0 t1 t2 A1 A2 a0 a1 b0 b1 htk
      go_wp2
      go_ret2
      exact ⟨ret_two AV.out.symm AE.out.symm, by have := HS.out.below; go_grown⟩

set_option maxHeartbeats 800000 in
theorem rtake_mid (b : Nat) (k : Nat) (w : World) (hb : b < 18446744073709551616) (hg : goodF b = true) (hk : 1 ≤ k ∧ k ≤ 1000000) (he : 875 ≤ b % 9223372036854775808 / 4503599627370496 ∧ b % 9223372036854775808 / 4503599627370496 < 1075) :
    Calls Try.prog 10 #[.float .f64 b, .int .i64 (k : Int)] w fun e w' => e = .returned (.tuple #[.int .i64 (tV b k), .int .i64 (tE b k)]) ∧ Below w.heap.size w w' := by
  have hx := exp_of b hb
  have hm := man_of b hb
  obtain ⟨hp1, hp2⟩ := parts_great (b := b) (by omega)
  have hM := Nat.mod_lt b (show 0 < 4503599627370496 by omega)
  have htk := taken_cut b k (by rw [hp2, U_eq]; omega)
  rw [hp1, hp2, U_eq, show 1074 - (b % 9223372036854775808 / 4503599627370496 - 1) = 1075 - b % 9223372036854775808 / 4503599627370496 by omega] at htk
  clear hp1 hp2
  generalize b % 4503599627370496 = M at *
  generalize b % 9223372036854775808 / 4503599627370496 = E at *
  obtain ⟨d, hd, hde⟩ : ∃ d, 1075 - E = d ∧ E + d = 1075 := ⟨1075 - E, rfl, by omega⟩
  rw [hd] at htk
  have HD := Lib.hid (show d ≤ 200 by omega)
  have hd1 : 1 ≤ d := by omega
  have he0 : ((E : Int) == 0) = false := by rw [beq_eq_false_iff_ne]; omega
  obtain ⟨m, hmm⟩ : ∃ m, m = M + 4503599627370496 := ⟨_, rfl⟩
  have hm9 : m < 9007199254740992 := by omega
  have W3 : IntKind.u64.wrap ((M : Int) + 4503599627370496) = (m : Int) := by rw [IntKind.wrap_u64]; omega
  rw [← hmm] at htk
  obtain ⟨W1, W2, g1, g2, W4⟩ := shift_facts hde hd1
  have HW4 := Lib.hid W4
  have G2 := Lib.hid g2
  have G3 := Lib.hid (show decide ((0 : Int) ≤ -(d : Int)) = false from decide_eq_false g2)
  clear W4 g1 g2
  clear he hd hde hmm hM
  have h0 : hiI (m * k) 0 = (m : Int) * k / 18446744073709551616 := by rw [(halves_start _).2.2.1]; simp
  have h1 : loI (m * k) 0 = (m : Int) * k % 18446744073709551616 := by rw [(halves_start _).2.2.2]; simp
  have hX1 := mul_bound hm9 hk.2
  generalize hX : m * k = X at *
  have hm8 : ((m : Int)) ≤ 18446744073709551615 := nat_le hm9
  have hk8 : (k : Int) ≤ 1000000 := Int.ofNat_le.2 hk.2
  have HX := Lib.hid hX1
  clear hX1
  have H0 := Lib.hid h0
  have H1 := Lib.hid h1
  clear h0 h1 hX
  go_enter Try.func10, Try.ntmps10
  go_wp2_with fail
  refine (good_ref _ _ hb).mono ?_
  rintro e w' ⟨rfl, rfl⟩
  go_wp2_with fail
  refine (Ref.mul_any _ _ _ (Int.natCast_nonneg _) hm8 (Int.natCast_nonneg _) (Int.le_trans hk8 (by decide))).mono ?_
  rintro e w1 ⟨rfl, hb1⟩
  clear hx hm
  rw [W2]
  clear W1 W2 W3
  have W4 := HW4.out
  have g2 := G2.out
  have g3 := G3.out
  go_wp2_with fail
  go_loopw [12, 13, 14] (fun h r i wr => ∃ j : Nat, j ≤ 200 ∧ j ≤ d ∧ i = .int .i64 j ∧ h = .bool (halfB X j) ∧ r = .bool (restB X j) ∧ HState w w1.heap.size X j wr) (fun _ _ i _ => 200 - (intOf i).toNat)
  case atStart =>
    refine ⟨0, Nat.zero_le _, Nat.zero_le _, rfl, by rw [(halves_start X).1], by rw [(halves_start X).2.1], ?_⟩
    rw [← H0.out, ← H1.out]
    exact ⟨hb1.alloc hb1.size _, hb1.size, row_two _ _ _ _⟩
  case round =>
    obtain ⟨j, j1, j2, rfl, rfl, rfl, hst⟩ := hrel
    have HS := Lib.hid hst
    obtain ⟨hbel, hold, hrow⟩ := hst
    have c0 : wr.cell? ⟨w1.heap.size, 0, none⟩ = some (.int .u64 (hiI X j)) := hrow.cell (i := 0) (by omega)
    have c1 : wr.cell? ⟨w1.heap.size, 1, none⟩ = some (.int .u64 (loI X j)) := hrow.cell (i := 1) (by omega)
    have f0 := hrow.frozen 0
    have f1 := hrow.frozen 1
    have l0 := hrow.lt
    obtain ⟨a0, a1⟩ := hi_range j HX.out
    obtain ⟨b0, b1⟩ := lo_range X j
    clear hrow hbel
    by_cases hlt : j < d
    · have d1 : decide (j < d) = true := decide_eq_true hlt
      have e2 : (j : Int) < 200 := Int.ofNat_lt.2 (Nat.lt_of_lt_of_le hlt HD.out)
      have d2 : decide ((j : Int) < 200) = true := decide_eq_true e2
      have n0 := hi_next X j
      have n1 := lo_next X j
      have n2 := half_next X j
      have n3 := rest_next X j
      have N0 := Lib.hid n0
      have N1 := Lib.hid n1
      have N2 := Lib.hid n2
      clear n0 n1 n2
      generalize hiI X j = a at *
      generalize loI X j = c at *
      cases hr : restB X j with
      | true =>
        rw [hr, Bool.true_or] at n3
        have N3 := Lib.hid n3
        clear n3 hr
        go_wp2
        go_round
        case rel => exact ⟨j + 1, Nat.le_trans hlt HD.out, hlt, rfl, by rw [N2.out], by rw [← N3.out], hstate_next HS.out N0.out N1.out⟩
        case measure => exact Nat.sub_lt_sub_left (k := j) (Nat.lt_of_lt_of_le hlt HD.out) (Nat.lt_succ_self j)
      | false =>
        rw [hr, Bool.false_or] at n3
        have N3 := Lib.hid n3
        clear n3 hr
        go_wp2
        go_round
        case rel => exact ⟨j + 1, Nat.le_trans hlt HD.out, hlt, rfl, by rw [N2.out], by rw [← N3.out], hstate_next HS.out N0.out N1.out⟩
        case measure => exact Nat.sub_lt_sub_left (k := j) (Nat.lt_of_lt_of_le hlt HD.out) (Nat.lt_succ_self j)
    · have d1 : decide (j < d) = false := decide_eq_false hlt
      have hjd : j = d := Nat.le_antisymm j2 (Nat.le_of_not_lt hlt)
      subst hjd
      have e3 : ¬ (200 : Int) < j := by have := HD.out; clear W4; omega
      have d3 : decide ((200 : Int) < j) = false := decide_eq_false e3
      clear j1 j2 g2 g3 hlt
      have M1 := Lib.hid (@mid_hi X j)
      have M2 := Lib.hid (@mid_lo X j)
      have M3 := Lib.hid (@mid_less X j)
      have M4 := Lib.hid (@mid_more X j)
      have M5 := Lib.hid (@mid_odd X j)
      have M6 := Lib.hid (@mid_even X j)
      rw [← htk] at M1 M2 M3 M4 M5 M6
      clear htk
      generalize hiI X j = a at *
      generalize loI X j = c at *
      by_cases ha : a = 0
      · subst ha
        by_cases hc : (10000000000000 : Int) < c
        · obtain ⟨A1, A2⟩ := answer_no hg hk (M2.out rfl hc)
          have AE := Lib.hid A1
          have AV := Lib.hid A2
          have dc : decide ((10000000000000 : Int) < c) = true := decide_eq_true hc
          clear A1 A2 a0 a1
          go_wp2
          go_ret2
          exact ⟨ret_two AV.out.symm AE.out.symm, by have := HS.out.below; go_grown⟩
        · have dc : decide ((10000000000000 : Int) < c) = false := decide_eq_false hc
          have W5 : wrap64 c = c := by unfold wrap64; clear W4; omega
          have W6 : wrap64 (c + 1) = c + 1 := by unfold wrap64; clear W4 W5; omega
          cases h1 : halfB X j with
          | false =>
            obtain ⟨A1, A2⟩ := answer_int hg hk (M3.out rfl h1) (Int.not_lt.1 hc)
            have AE := Lib.hid A1
            have AV := Lib.hid A2
            clear A1 A2 a0 a1 h1
            go_wp2
            go_ret2
            exact ⟨ret_two AV.out.symm AE.out.symm, by have := HS.out.below; go_grown⟩
          | true =>
            cases h2 : restB X j with
            | true =>
              have HT := Lib.hid (M4.out rfl h1 h2)
              clear a0 a1 h1 h2
              by_cases ht : (10000000000000 : Int) < c + 1
              · have dt : decide ((10000000000000 : Int) < c + 1) = true := decide_eq_true ht
                obtain ⟨A1, A2⟩ := answer_no hg hk (top_of HT.out ht)
                have AE := Lib.hid A1
                have AV := Lib.hid A2
                clear A1 A2
                go_wp2
                go_ret2
                exact ⟨ret_two AV.out.symm AE.out.symm, by have := HS.out.below; go_grown⟩
              · have dt : decide ((10000000000000 : Int) < c + 1) = false := decide_eq_false ht
                obtain ⟨A1, A2⟩ := answer_int hg hk HT.out (Int.not_lt.1 ht)
                have AE := Lib.hid A1
                have AV := Lib.hid A2
                clear A1 A2
                go_wp2
                go_ret2
                exact ⟨ret_two AV.out.symm AE.out.symm, by have := HS.out.below; go_grown⟩
            | false =>
              cases h3 : (c % 2 == 1) with
              | true =>
                have HT := Lib.hid (M5.out rfl h1 h3)
                clear a0 a1 h1 h2
                by_cases ht : (10000000000000 : Int) < c + 1
                · have dt : decide ((10000000000000 : Int) < c + 1) = true := decide_eq_true ht
                  obtain ⟨A1, A2⟩ := answer_no hg hk (top_of HT.out ht)
                  have AE := Lib.hid A1
                  have AV := Lib.hid A2
                  clear A1 A2
                  go_wp2
                  go_ret2
                  exact ⟨ret_two AV.out.symm AE.out.symm, by have := HS.out.below; go_grown⟩
                · have dt : decide ((10000000000000 : Int) < c + 1) = false := decide_eq_false ht
                  obtain ⟨A1, A2⟩ := answer_int hg hk HT.out (Int.not_lt.1 ht)
                  have AE := Lib.hid A1
                  have AV := Lib.hid A2
                  clear A1 A2
                  go_wp2
                  go_ret2
                  exact ⟨ret_two AV.out.symm AE.out.symm, by have := HS.out.below; go_grown⟩
              | false =>
                obtain ⟨A1, A2⟩ := answer_int hg hk (M6.out rfl h2 h3) (Int.not_lt.1 hc)
                have AE := Lib.hid A1
                have AV := Lib.hid A2
                clear A1 A2 a0 a1 h1 h2
                go_wp2
                go_ret2
                exact ⟨ret_two AV.out.symm AE.out.symm, by have := HS.out.below; go_grown⟩
      · obtain ⟨A1, A2⟩ := answer_no hg hk (M1.out ha)
        have AE := Lib.hid A1
        have AV := Lib.hid A2
        have hz := top_beq ha
        clear A1 A2
        go_wp2
        go_ret2
        exact ⟨ret_two AV.out.symm AE.out.symm, by have := HS.out.below; go_grown⟩

set_option maxHeartbeats 400000 in
theorem rtake_high (b : Nat) (k : Nat) (w : World) (hb : b < 18446744073709551616) (hg : goodF b = true) (hk : 1 ≤ k ∧ k ≤ 1000000) (he : 1075 ≤ b % 9223372036854775808 / 4503599627370496) :
    Calls Try.prog 10 #[.float .f64 b, .int .i64 (k : Int)] w fun e w' => e = .returned (.tuple #[.int .i64 (tV b k), .int .i64 (tE b k)]) ∧ Below w.heap.size w w' := by
  have hx := exp_of b hb
  have hm := man_of b hb
  obtain ⟨hp1, hp2⟩ := parts_great (b := b) (by omega)
  have hM := Nat.mod_lt b (show 0 < 4503599627370496 by omega)
  have hfar := taken_far b k (by rw [hp2, U_eq]; omega) hk.1
  rw [hp1] at hfar
  clear hp1 hp2
  have hE : b % 9223372036854775808 / 4503599627370496 ≤ 2047 := by omega
  generalize b % 4503599627370496 = M at *
  generalize b % 9223372036854775808 / 4503599627370496 = E at *
  obtain ⟨d, hde, hd1⟩ : ∃ d, E = 1075 + d ∧ d ≤ 972 := ⟨E - 1075, by omega, by omega⟩
  have he0 : ((E : Int) == 0) = false := by rw [beq_eq_false_iff_ne]; omega
  obtain ⟨m, hmm⟩ : ∃ m, m = M + 4503599627370496 := ⟨_, rfl⟩
  rw [← hmm] at hfar
  have hm9 : m < 9007199254740992 := by omega
  have hm7 : 4503599627370496 ≤ m := by omega
  have W3 : IntKind.u64.wrap ((M : Int) + 4503599627370496) = (m : Int) := by rw [IntKind.wrap_u64]; omega
  obtain ⟨W1, W2⟩ := shift_high hde hd1
  obtain ⟨A1, A2⟩ := answer_no hg hk (Nat.lt_of_lt_of_le (Nat.lt_of_lt_of_le (by decide) hm7) hfar)
  have AE := Lib.hid A1
  have AV := Lib.hid A2
  have hX7 := high_x hm7 hk.1
  clear he hde hd1 hE hmm hM hfar A1 A2 hm7
  have h0 : hiI (m * k) 0 = (m : Int) * k / 18446744073709551616 := by rw [(halves_start _).2.2.1]; simp
  have h1 : loI (m * k) 0 = (m : Int) * k % 18446744073709551616 := by rw [(halves_start _).2.2.2]; simp
  have hX1 := mul_bound hm9 hk.2
  generalize hX : m * k = X at *
  have hm8 : ((m : Int)) ≤ 18446744073709551615 := nat_le hm9
  have hk8 : (k : Int) ≤ 1000000 := Int.ofNat_le.2 hk.2
  have HX7 := Lib.hid hX7
  clear hX7
  have HX := Lib.hid hX1
  clear hX1
  have H0 := Lib.hid h0
  have H1 := Lib.hid h1
  clear h0 h1 hX
  go_enter Try.func10, Try.ntmps10
  go_wp2_with fail
  refine (good_ref _ _ hb).mono ?_
  rintro e w' ⟨rfl, rfl⟩
  go_wp2_with fail
  refine (Ref.mul_any _ _ _ (Int.natCast_nonneg _) hm8 (Int.natCast_nonneg _) (Int.le_trans hk8 (by decide))).mono ?_
  rintro e w1 ⟨rfl, hb1⟩
  clear hx hm
  rw [W2]
  clear W1 W2 W3
  go_wp2_with fail
  go_loopw [11] (fun i wr => i = .int .i64 0 ∧ HState w w1.heap.size X 0 wr) (fun _ _ => 0)
  case atStart =>
    refine ⟨rfl, ?_⟩
    rw [← H0.out, ← H1.out]
    exact ⟨hb1.alloc hb1.size _, hb1.size, row_two _ _ _ _⟩
  case round =>
    obtain ⟨rfl, hst⟩ := hrel
    have HS := Lib.hid hst
    obtain ⟨hbel, hold, hrow⟩ := hst
    have c0 : wr.cell? ⟨w1.heap.size, 0, none⟩ = some (.int .u64 (hiI X 0)) := hrow.cell (i := 0) (by omega)
    have c1 : wr.cell? ⟨w1.heap.size, 1, none⟩ = some (.int .u64 (loI X 0)) := hrow.cell (i := 1) (by omega)
    have f0 := hrow.frozen 0
    have f1 := hrow.frozen 1
    have l0 := hrow.lt
    obtain ⟨a0, a1⟩ := hi_range 0 HX.out
    obtain ⟨b0, b1⟩ := lo_range X 0
    have hh := Lib.hid (high_lo HX7.out)
    clear hrow hbel H0 H1
    generalize hiI X 0 = a at *
    generalize loI X 0 = c at *
    by_cases ha : a = 0
    · subst ha
      have hc := hh.out rfl
      have dc : decide ((10000000000000 : Int) < c) = true := decide_eq_true hc
      clear a0 a1
      by_cases hd : (0 : Int) < d
      · go_wp2
        go_ret2
        exact ⟨ret_two AV.out.symm AE.out.symm, by have := HS.out.below; go_grown⟩
      · go_wp2
        go_ret2
        exact ⟨ret_two AV.out.symm AE.out.symm, by have := HS.out.below; go_grown⟩
    · have hz := top_beq ha
      by_cases hd : (0 : Int) < d
      · go_wp2
        go_ret2
        exact ⟨ret_two AV.out.symm AE.out.symm, by have := HS.out.below; go_grown⟩
      · go_wp2
        go_ret2
        exact ⟨ret_two AV.out.symm AE.out.symm, by have := HS.out.below; go_grown⟩
end Go.Proofs.Ytiaiahdejihlbaa.Fl
