/- What the laws of layer 15 lean on: plain numbers; the layer's examples. -/
import Derived.Test.YtkeghiljolojlaaShell
import Derived.Test.YtkeghiljolojlaaLevelC5
import Derived.Test.YtkeghiljolojlaaRefLevel3
namespace Go.Proofs.Ytkeghiljolojlaa.Law
open Go.ChangeShapes Go.WideShapes Go.ChangeAt Go.RowKit Level

theorem lV_ge (b p r n : Int) : 0 ≤ lV b p r n := by
  cases h : okM b p r n with
  | false => rw [(lV_no h).1]; omega
  | true =>
    rw [(lV_yes h).1]
    obtain ⟨h1, -, -⟩ := okM_iff.1 h
    obtain ⟨b0, b1, p0, -, -, -⟩ := okL_iff.1 h1
    cases hl : lfO p r n.toNat b with
    | none => exact Int.le_refl _
    | some x => exact (lf_in p0 _ b0 b1 hl).1
/-- the least payment leaves nothing; one cent less leaves something. -/
theorem least_facts (b r n : Int) : (∃ x, oE b r n = x ∧ x ≠ 0 ∧ oV b r n = 0) ∨ (oE b r n = 0 ∧ ∃ q, oV b r n = q ∧ lV b q r n = 0 ∧ lE b q r n = 0 ∧ 0 ≤ q ∧ q ≤ 10000000000000 ∧ ((q = 0 ∧ b = 0) ∨ (0 < q ∧ (lE b (q - 1) r n = 14 ∨ (lE b (q - 1) r n = 0 ∧ 0 < lV b (q - 1) r n))))) := by
  cases h : okOf b r n with
  | false => exact Or.inl ⟨1, (oV_no h).2, by decide, (oV_no h).1⟩
  | true =>
    by_cases g : gr b r ≤ 10000000000000
    · obtain ⟨q0, q1⟩ := RLevel.of_top b r n h g
      refine Or.inr ⟨(oV_yes h g).2, ofQ b r n.toNat, (oV_yes h g).1, ?_⟩
      have hq := RLevel.left_of b r n (ofQ b r n.toNat) h g q0 q1
      obtain ⟨h1, h2, h3⟩ := okOf_iff.1 h
      obtain ⟨b0, b1, -, -, r0, r1⟩ := okL_iff.1 h1
      obtain ⟨M, hM⟩ : ∃ M, n.toNat = M + 1 := ⟨n.toNat - 1, by omega⟩
      have hi := of_iff (p := 0) M b0 r0 g (Int.le_refl 0)
      have hp := RLevel.left_of b r n (ofQ b r n.toNat - 1) h g
      have hz := lV_ge b (ofQ b r n.toNat - 1) r n
      have hst := pays_stuck (p := 0) (Int.le_refl 0) r0 b0 (fun c hc => by have := (mo_is hc).2; have := gr_ge b0 r0; omega) (M + 1)
      rw [← hM] at hi hst
      generalize ofQ b r n.toNat = q at *
      rcases hq with ⟨-, z1, z2⟩ | ⟨z, -⟩
      · refine ⟨z1, z2, q0, q1, ?_⟩
        by_cases hq0 : q = 0
        · refine Or.inl ⟨hq0, ?_⟩
          have : pays b 0 r n.toNat = true := decide_eq_true (hi.2 (by omega))
          rw [hst] at this
          exact of_decide_eq_true this
        · refine Or.inr ⟨by omega, ?_⟩
          rcases hp (by omega) (by omega) with ⟨k, -, -⟩ | ⟨-, ⟨k, -⟩ | ⟨k, l⟩⟩
          · omega
          · exact Or.inl k
          · exact Or.inr ⟨k, by omega⟩
      · omega
    · exact Or.inl ⟨14, (oV_over h g).2, by decide, (oV_over h g).1⟩

theorem okOf_small {b r : Int} (n : Nat) (b0 : 0 ≤ b) (b1 : b ≤ 4294967295) (r0 : 0 ≤ r) (r1 : r ≤ 65535) (n0 : 1 ≤ n) (n1 : n ≤ 360) : okOf b r n = true ∧ gr b r ≤ 10000000000000 := by
  refine ⟨okOf_iff.2 ⟨okL_iff.2 (by omega), by omega, by omega⟩, ?_⟩
  have := int_le (show b ≤ 10000000000000 by omega) r0 (show r ≤ 1000000 by omega)
  unfold gr; omega
/-- who pays more has no more left; who owes more, at a higher rate, in fewer months, pays no less. -/
theorem more_facts (lo hi p P r s : Int) (k m : Nat) (l0 : 0 ≤ lo) (l1 : lo ≤ hi) (h1 : hi ≤ 4294967295) (p0 : 0 ≤ p) (p1 : p ≤ P) (P1 : P ≤ 4294967295) (r0 : 0 ≤ r) (r1 : r ≤ s) (s1 : s ≤ 65535) (k0 : 1 ≤ k) (k1 : k ≤ m) (m1 : m ≤ 300) :
    ((∃ x, lE hi p r k = x ∧ x ≠ 0) ∨ (lE hi p r k = 0 ∧ lE hi P r k = 0 ∧ lV hi P r k ≤ lV hi p r k)) ∧ oE lo r m = 0 ∧ oE hi s k = 0 ∧ oV lo r m ≤ oV hi s k := by
  have o1 : okM hi p r k = true := okM_iff.2 ⟨okL_iff.2 (by omega), by omega, by omega⟩
  have o2 : okM hi P r k = true := okM_iff.2 ⟨okL_iff.2 (by omega), by omega, by omega⟩
  obtain ⟨o3, g3⟩ := okOf_small (b := lo) (r := r) m l0 (by omega) r0 (by omega) (by omega) (by omega)
  obtain ⟨o4, g4⟩ := okOf_small (b := hi) (r := s) k (by omega) h1 (by omega) s1 k0 (by omega)
  refine ⟨?_, (oV_yes o3 g3).2, (oV_yes o4 g4).2, ?_⟩
  · rw [(lV_yes o1).1, (lV_yes o1).2, (lV_yes o2).1, (lV_yes o2).2]
    cases hl : lfO p r ((k : Int).toNat) hi with
    | none => exact Or.inl ⟨14, rfl, by decide⟩
    | some x =>
      obtain ⟨y, e1, e2⟩ := lf_mono p0 p1 r0 (Int.le_refl r) _ (by omega) (Int.le_refl hi) hl
      rw [e1]
      exact Or.inr ⟨rfl, rfl, e2⟩
  · rw [(oV_yes o3 g3).1, (oV_yes o4 g4).1, Int.toNat_natCast, Int.toNat_natCast]
    obtain ⟨a, rfl⟩ : ∃ a, k = a + 1 := ⟨k - 1, by omega⟩
    obtain ⟨c, rfl⟩ : ∃ c, m = a + 1 + c := ⟨m - (a + 1), by omega⟩
    have y0 := of_ge hi s (a + 1)
    have e1 := (of_iff a (by omega) (by omega) g4 y0).2 (Int.le_refl _)
    obtain ⟨z, e2, e3⟩ := lf_mono y0 (Int.le_refl _) r0 r1 (a + 1) l0 l1 e1
    have z0 := (lf_in y0 _ l0 (by omega) e2).1
    obtain rfl : z = 0 := by omega
    have e4 := lf_more y0 c (a + 1) e2
    rw [show a + 1 + c = a + c + 1 from by omega] at e4 ⊢
    exact (of_iff (a + c) l0 r0 g3 y0).1 e4

/-- without interest. -/
theorem lf_flat {p : Int} (p0 : 0 ≤ p) (N : Nat) : ∀ {b : Int}, 0 ≤ b → b ≤ 10000000000000 → lfO p 0 N b = some (max (b - N * p) 0) := by
  induction N with
  | zero => intro b h0 _; show some b = _; congr 1; rw [show ((0 : Nat) : Int) * p = 0 from Int.zero_mul p]; omega
  | succ N ih =>
    intro b h0 h1
    rw [lf_some N (mo_some (by rw [gr_none]; exact h1)), gr_none, ih (by omega) (by omega)]
    congr 1
    have e : ((N + 1 : Nat) : Int) * p = N * p + p := by rw [Int.natCast_add, Int.add_mul]; omega
    have f : 0 ≤ (N : Int) * p := Int.mul_nonneg (by omega) p0
    rw [e]
    omega
/-- all instalments together. -/
theorem sums_facts (b r : Int) (n : Nat) (b0 : 0 ≤ b) (b1 : b ≤ 4294967295) (r0 : 0 ≤ r) (r1 : r ≤ 65535) (n0 : 1 ≤ n) (n1 : n ≤ 360) :
    ∃ p q, oV b r n = p ∧ oE b r n = 0 ∧ oV b 0 n = q ∧ oE b 0 n = 0 ∧ 0 ≤ q ∧ q ≤ p ∧ p ≤ 900000000000 ∧ b ≤ q * n ∧ b ≤ p * n ∧ q * n < b + n ∧ p * n ≤ 324000000000000 := by
  obtain ⟨o1, g1⟩ := okOf_small (b := b) (r := r) n b0 b1 r0 r1 n0 n1
  obtain ⟨o2, g2⟩ := okOf_small (b := b) (r := 0) n b0 b1 (by omega) (by omega) n0 n1
  refine ⟨ofQ b r n, ofQ b 0 n, ?_, (oV_yes o1 g1).2, ?_, (oV_yes o2 g2).2, of_ge _ _ _, ?_⟩
  · rw [(oV_yes o1 g1).1, Int.toNat_natCast]
  · rw [(oV_yes o2 g2).1, Int.toNat_natCast]
  obtain ⟨a, rfl⟩ : ∃ a, n = a + 1 := ⟨n - 1, by omega⟩
  have p0 := of_ge b r (a + 1)
  have q0 := of_ge b 0 (a + 1)
  have e1 := (of_iff a b0 r0 g1 p0).2 (Int.le_refl _)
  obtain ⟨z, e2, e3⟩ := lf_mono p0 (Int.le_refl _) (Int.le_refl 0) r0 (a + 1) b0 (Int.le_refl b) e1
  have z0 := (lf_in p0 _ b0 (by omega) e2).1
  obtain rfl : z = 0 := by omega
  have hqp := (of_iff a b0 (Int.le_refl 0) g2 p0).1 e2
  have e4 := (of_iff a b0 (Int.le_refl 0) g2 q0).2 (Int.le_refl _)
  have e5 := fun h => of_iff (p := ofQ b 0 (a + 1) - 1) a b0 (Int.le_refl 0) g2 h
  have hle := of_le (a + 1) b0 r0
  have hint := int_le (show b ≤ 10000000000000 by omega) r0 (show r ≤ 1000000 by omega)
  have hgr : gr b r = b + Money.rnd b r 12000000 1 := rfl
  generalize ofQ b r (a + 1) = p at *
  generalize ofQ b 0 (a + 1) = q at *
  rw [lf_flat q0 (a + 1) b0 (by omega)] at e4
  injection e4 with e4
  have c1 : ((a + 1 : Nat) : Int) * q = q * ((a + 1 : Nat) : Int) := Int.mul_comm _ _
  have h1 : b ≤ q * ((a + 1 : Nat) : Int) := by omega
  have h2 : q * ((a + 1 : Nat) : Int) ≤ p * ((a + 1 : Nat) : Int) := Int.mul_le_mul_of_nonneg_right hqp (by omega)
  have h3 : p * ((a + 1 : Nat) : Int) ≤ 900000000000 * 360 := Int.mul_le_mul (by omega) (by omega) (by omega) (by omega)
  refine ⟨hqp, by omega, h1, by omega, ?_, by omega⟩
  by_cases hq : q = 0
  · subst hq; omega
  · have e6 := e5 (by omega)
    rw [lf_flat (show 0 ≤ q - 1 by omega) (a + 1) b0 (by omega)] at e6
    have e7 : ¬ max (b - ((a + 1 : Nat) : Int) * (q - 1)) 0 = 0 := fun h => by
      rw [h] at e6
      have := e6.1 rfl
      omega
    have e8 : ((a + 1 : Nat) : Int) * (q - 1) = ((a + 1 : Nat) : Int) * q - ((a + 1 : Nat) : Int) := by rw [Int.mul_sub, Int.mul_one]
    rw [e8] at e7
    omega

/-! The examples. -/
theorem of_at (b r n v x : Int) (w : World) (hv : oV b r n = v) (hx : oE b r n = x) : Calls Try.prog 16 #[.int .i64 b, .int .i64 r, .int .i64 n] w fun e w' => e = .returned (.tuple #[.int .i64 v, .int .i64 x]) ∧ Below w.heap.size w w' := by
  rw [← hv, ← hx]; exact c_of b r n w
theorem left_at (b p r n v x : Int) (w : World) (hv : lV b p r n = v) (hx : lE b p r n = x) : Calls Try.prog 10 #[.int .i64 b, .int .i64 p, .int .i64 r, .int .i64 n] w fun e w' => e = .returned (.tuple #[.int .i64 v, .int .i64 x]) ∧ Below w.heap.size w w' := by
  rw [← hv, ← hx]; exact c_leftc b p r n w
theorem rof_at (b r n v x : Int) (w : World) (hv : oV b r n = v) (hx : oE b r n = x) : Calls Try.prog 17 #[.int .i64 b, .int .i64 r, .int .i64 n] w fun e w' => e = .returned (.tuple #[.int .i64 v, .int .i64 x]) ∧ Below w.heap.size w w' := by
  rw [← hv, ← hx]; exact RLevel.r_of b r n w
theorem rleft_at (b p r n v x : Int) (w : World) (hv : lV b p r n = v) (hx : lE b p r n = x) : Calls Try.prog 11 #[.int .i64 b, .int .i64 p, .int .i64 r, .int .i64 n] w fun e w' => e = .returned (.tuple #[.int .i64 v, .int .i64 x]) ∧ Below w.heap.size w w' := by
  rw [← hv, ← hx]; exact RLevel.r_left b p r n w
theorem ex_one : oV 1200 0 12 = 100 ∧ oE 1200 0 12 = 0 := by
  have h : okOf 1200 0 12 = true := by decide +kernel
  have g : gr 1200 0 ≤ 10000000000000 := by decide +kernel
  refine ⟨?_, (oV_yes h g).2⟩
  rw [(oV_yes h g).1]
  exact of_is 11 (by decide) (by decide) g (by decide) (by decide +kernel) (by decide +kernel)
theorem ex_two : oV 1000 120000 2 = 508 ∧ oE 1000 120000 2 = 0 := by
  have h : okOf 1000 120000 2 = true := by decide +kernel
  have g : gr 1000 120000 ≤ 10000000000000 := by decide +kernel
  refine ⟨?_, (oV_yes h g).2⟩
  rw [(oV_yes h g).1]
  exact of_is 1 (by decide) (by decide) g (by decide) (by decide +kernel) (by decide +kernel)
theorem wakes_level (w : World) : Calls Try.prog 15 #[] w fun e w' => e = .returned (.bool true) ∧ Below w.heap.size w w' := by
  have K1 := Lib.hid (fun W => of_at 1200 0 12 100 0 W ex_one.1 ex_one.2)
  have K2 := Lib.hid (fun W => of_at 1000 120000 2 508 0 W ex_two.1 ex_two.2)
  have K3 := Lib.hid (fun W => left_at 1000 507 120000 2 2 0 W (by decide +kernel) (by decide +kernel))
  go_enter Try.func15, Try.ntmps15
  go_wp2_with fail
  refine (K1.out _).mono ?_
  rintro e w1 ⟨rfl, hb⟩
  have B1 : Hid (Below w.heap.size w w1) := hb
  clear hb
  go_wp2_with fail
  refine (K2.out _).mono ?_
  rintro e w2 ⟨rfl, hb⟩
  have B2 : Hid (Below w.heap.size w w2) := show Below _ _ _ from B1.out.trans (hb.mono B1.out.size)
  clear hb
  go_wp2_with fail
  refine (K3.out _).mono ?_
  rintro e w3 ⟨rfl, hb⟩
  have B3 : Hid (Below w.heap.size w w3) := show Below _ _ _ from B2.out.trans (hb.mono B2.out.size)
  clear hb
  go_wp2_with fail
  go_ret
  exact ⟨rfl, B3.out⟩
end Go.Proofs.Ytkeghiljolojlaa.Law
