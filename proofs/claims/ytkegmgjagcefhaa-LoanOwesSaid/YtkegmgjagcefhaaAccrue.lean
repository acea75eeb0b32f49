/- What accrue's calls answer, at every input: a day's interest, days more (what goes beyond is told by a panic, and kept within), whole cents, and what is left. -/
import Derived.Test.YtkegmgjagcefhaaWakes
import Derived.Test.YtkegmgjagcefhaaByHand
import Derived.Shelf.Abstract
import Derived.Defers
import Derived.Recover
import Derived.WalkLawsBesides
import Derived.Deep.RegionHeld3
namespace Go.Proofs.Ytkegmgjagcefhaa.Accr
open Go.ChangeShapes Go.WideShapes Go.ChangeAt Go.RowKit Bits Law

/-- A day's interest. -/
def dayI (p r : Int) : Int := p * r / 365
def okD (p r : Int) : Bool := decide (0 ≤ p ∧ p ≤ 10000000000000 ∧ 0 ≤ r ∧ r ≤ 1000000)
theorem okD_iff {p r : Int} : okD p r = true ↔ (0 ≤ p ∧ p ≤ 10000000000000 ∧ 0 ≤ r ∧ r ≤ 1000000) := by unfold okD; simp
def dV (p r : Int) : Int := if okD p r then dayI p r else 0
def dE (p r : Int) : Int := if okD p r then 0 else 1
def okA (h p r n : Int) : Bool := decide (0 ≤ h ∧ h ≤ 1000000000000000000) && okD p r && decide (0 ≤ n ∧ n ≤ 87658)
def aV (h p r n : Int) : Int := if okA h p r n then (if h + dayI p r * n ≤ 1000000000000000000 then h + dayI p r * n else 0) else 0
def aE (h p r n : Int) : Int := if okA h p r n then (if h + dayI p r * n ≤ 1000000000000000000 then 0 else 14) else 1
def wholeI (m : Int) : Int := if m < 0 then 0 else m / 1000000
def okT (m c : Int) : Bool := decide (0 ≤ m ∧ m ≤ 1000000000000000000 ∧ 0 ≤ c ∧ c ≤ wholeI m)
def tV (m c : Int) : Int := if okT m c then m - c * 1000000 else 0
def tE (m c : Int) : Int := if okT m c then 0 else 1

theorem okA_iff {h p r n : Int} : okA h p r n = true ↔ (0 ≤ h ∧ h ≤ 1000000000000000000 ∧ okD p r = true ∧ 0 ≤ n ∧ n ≤ 87658) := by
  unfold okA; simp only [Bool.and_eq_true, decide_eq_true_eq]; exact ⟨fun ⟨⟨⟨a, b⟩, c⟩, d, e⟩ => ⟨a, b, c, d, e⟩, fun ⟨a, b, c, d, e⟩ => ⟨⟨⟨a, b⟩, c⟩, d, e⟩⟩
theorem dV_yes {p r : Int} (h : okD p r = true) : dV p r = dayI p r ∧ dE p r = 0 := by unfold dV dE; rw [h]; exact ⟨rfl, rfl⟩
theorem dV_no {p r : Int} (h : okD p r = false) : dV p r = 0 ∧ dE p r = 1 := by unfold dV dE; rw [h]; exact ⟨rfl, rfl⟩
theorem aV_yes {h p r n : Int} (h1 : okA h p r n = true) (h2 : h + dayI p r * n ≤ 1000000000000000000) : aV h p r n = h + dayI p r * n ∧ aE h p r n = 0 := by
  unfold aV aE; rw [if_pos h1, if_pos h1, if_pos h2, if_pos h2]; exact ⟨rfl, rfl⟩
theorem aV_over {h p r n : Int} (h1 : okA h p r n = true) (h2 : ¬ h + dayI p r * n ≤ 1000000000000000000) : aV h p r n = 0 ∧ aE h p r n = 14 := by
  unfold aV aE; rw [if_pos h1, if_pos h1, if_neg h2, if_neg h2]; exact ⟨rfl, rfl⟩
theorem aV_no {h p r n : Int} (h1 : okA h p r n = false) : aV h p r n = 0 ∧ aE h p r n = 1 := by
  unfold aV aE; rw [h1]; exact ⟨rfl, rfl⟩
theorem tV_yes {m c : Int} (h : okT m c = true) : tV m c = m - c * 1000000 ∧ tE m c = 0 := by unfold tV tE; rw [h]; exact ⟨rfl, rfl⟩
theorem tV_no {m c : Int} (h : okT m c = false) : tV m c = 0 ∧ tE m c = 1 := by unfold tV tE; rw [h]; exact ⟨rfl, rfl⟩
theorem prod_le {p r : Int} (h : okD p r = true) : 0 ≤ p * r ∧ p * r ≤ 10000000000000000000 := by
  obtain ⟨a, b, c, d⟩ := okD_iff.1 h
  refine ⟨Int.mul_nonneg a c, ?_⟩
  have := Int.mul_le_mul b d c (by omega)
  omega
theorem dayI_le {p r : Int} (h : okD p r = true) : 0 ≤ dayI p r ∧ dayI p r ≤ 27397260273972602 := by
  obtain ⟨a, b⟩ := prod_le h
  unfold dayI; omega
theorem days_le {d n : Int} (h0 : 0 ≤ d) (h1 : d ≤ 27397260273972602) (n0 : 0 ≤ n) (n1 : n ≤ 87658) : 0 ≤ d * n ∧ d * n ≤ 2401589041095890346116 := by
  refine ⟨Int.mul_nonneg h0 n0, ?_⟩
  have := Int.mul_le_mul h1 n1 n0 (by omega)
  omega
theorem wholeI_le (m : Int) (h : m ≤ 9223372036854775807) : 0 ≤ wholeI m ∧ wholeI m ≤ 9223372036854 ∧ wholeI m * 1000000 ≤ max m 0 := by
  unfold wholeI; split <;> omega

theorem ret_b {a b : Bool} (h : a = b) : Ending.returned (.bool a) = .returned (.bool b) := by rw [h]

theorem within_any (n m : Int) (w : World) : Calls Try.prog 69 #[.int .i64 n, .int .i64 m] w fun e w' => e = .returned (.bool (decide (0 ≤ n ∧ n ≤ m))) ∧ w = w' := by
  obtain ⟨B, hB⟩ : ∃ B : Bool, B = decide (0 ≤ n ∧ n ≤ m) := ⟨_, rfl⟩
  rw [← hB]
  by_cases h1 : 0 ≤ n
  · by_cases h2 : n ≤ m
    · have H : Hid (B = true) := hB.trans (decide_eq_true (And.intro h1 h2))
      clear hB
      go_enter Try.func69, Try.ntmps69
      go_wp2
      go_ret
      exact ⟨ret_b H.out.symm, rfl⟩
    · have H : Hid (B = false) := hB.trans (decide_eq_false (fun h => h2 h.2))
      clear hB
      go_enter Try.func69, Try.ntmps69
      go_wp2
      go_ret
      exact ⟨ret_b H.out.symm, rfl⟩
  · have H : Hid (B = false) := hB.trans (decide_eq_false (fun h => h1 h.1))
    clear hB
    go_enter Try.func69, Try.ntmps69
    go_wp2
    go_ret
    exact ⟨ret_b H.out.symm, rfl⟩

theorem within_is (n m : Int) (b : Bool) (w : World) (h : Hid (decide (0 ≤ n ∧ n ≤ m) = b)) : Calls Try.prog 69 #[.int .i64 n, .int .i64 m] w fun e w' => e = .returned (.bool b) ∧ w = w' := by
  have t := within_any n m w
  rw [h.out] at t; exact t

theorem good_any (p r : Int) (w : World) : Calls Try.prog 70 #[.int .i64 p, .int .i64 r] w fun e w' => e = .returned (.bool (okD p r)) ∧ w = w' := by
  cases h1 : decide (0 ≤ p ∧ p ≤ 10000000000000) with
  | false =>
    have H : okD p r = false := by
      rw [Bool.eq_false_iff]; intro h; obtain ⟨a, b, -, -⟩ := okD_iff.1 h; exact absurd (And.intro a b) (of_decide_eq_false h1)
    rw [H]
    have H1 := Lib.hid (fun W => within_is p 10000000000000 _ W h1)
    clear h1 H
    go_enter Try.func70, Try.ntmps70
    go_wp2_with fail
    refine (H1.out _).mono ?_
    rintro e w' ⟨rfl, rfl⟩
    go_wp2_with fail
    go_ret
    exact ⟨rfl, rfl⟩
  | true =>
    have H : okD p r = decide (0 ≤ r ∧ r ≤ 1000000) := by
      obtain ⟨a, b⟩ := of_decide_eq_true h1
      unfold okD; rw [decide_eq_decide]; exact ⟨fun h => h.2.2, fun h => ⟨a, b, h⟩⟩
    rw [H]
    have H1 := Lib.hid (fun W => within_is p 10000000000000 _ W h1)
    have H2 := Lib.hid (fun W => within_any r 1000000 W)
    clear h1 H
    generalize decide (0 ≤ r ∧ r ≤ 1000000) = B at *
    go_enter Try.func70, Try.ntmps70
    go_wp2_with fail
    refine (H1.out _).mono ?_
    rintro e w' ⟨rfl, rfl⟩
    go_wp2_with fail
    refine (H2.out _).mono ?_
    rintro e w' ⟨rfl, rfl⟩
    go_wp2_with fail
    go_ret
    exact ⟨rfl, rfl⟩

theorem good_is (p r : Int) (b : Bool) (w : World) (h : Hid (okD p r = b)) : Calls Try.prog 70 #[.int .i64 p, .int .i64 r] w fun e w' => e = .returned (.bool b) ∧ w = w' := by
  have t := good_any p r w
  rw [h.out] at t; exact t

theorem div_small (a c : Int) (w : World) (a0 : 0 ≤ a) (a1 : a ≤ 18446744073709551615) (c0 : 0 < c) (c1 : c ≤ 18446744073709551615) :
    Calls Try.prog 89 #[.int .u64 0, .int .u64 a, .int .u64 c] w fun e w' => e = .returned (.tuple #[.int .u64 (a / c), .int .u64 (a % c), .bool true]) ∧ ∃ n, w' = w.drewN n := by
  have t := Money.div_ok 0 a c w (by omega) c0 c1 a0 a1
  rw [Int.zero_mul, Int.zero_add] at t
  exact t

theorem mul_small (a b : Int) (w : World) (a0 : 0 ≤ a) (a1 : a ≤ 18446744073709551615) (b0 : 0 ≤ b) (b1 : b ≤ 18446744073709551615) (h : a * b ≤ 18446744073709551615) :
    Calls Try.prog 88 #[.int .u64 a, .int .u64 b] w fun e w' => e = .returned (.tuple #[.int .u64 0, .int .u64 (a * b)]) ∧ w = w' := by
  have t := Money.mul_any a b w a0 a1 b0 b1
  have h0 := Int.mul_nonneg a0 b0
  rw [Int.ediv_eq_zero_of_lt h0 (by omega), Int.emod_eq_of_lt h0 (by omega)] at t
  exact t

theorem daily_ok (p r : Int) (w : World) (h : okD p r = true) : Calls Try.prog 75 #[.int .i64 p, .int .i64 r] w fun e w' => e = .returned (.int .i64 (dayI p r)) ∧ ∃ n, w' = w.drewN n := by
  obtain ⟨p0, p1, r0, r1⟩ := okD_iff.1 h
  obtain ⟨m0, m1⟩ := prod_le h
  have Hp : IntKind.u64.wrap p = p := IntWalk.u64_in _ (by omega)
  have Hr : IntKind.u64.wrap r = r := IntWalk.u64_in _ (by omega)
  have HM := Lib.hid (fun W => mul_small p r W p0 (by omega) r0 (by omega) (by omega))
  have HD := Lib.hid (fun W => div_small (p * r) 365 W m0 (by omega) (by omega) (by omega))
  have Hw : IntKind.i64.wrap (p * r / 365) = p * r / 365 := IntWalk.i64_in _ (by omega)
  clear p0 p1 r0 r1 m0 m1 h
  unfold dayI
  generalize p * r = m at *
  generalize m / 365 = q at *
  generalize m % 365 = s at *
  go_enter Try.func75, Try.ntmps75
  go_wp2_with fail
  refine (HM.out _).mono ?_
  rintro e w1 ⟨rfl, rfl⟩
  go_wp2_with fail
  refine (HD.out _).mono ?_
  rintro e w1 ⟨rfl, n, rfl⟩
  go_wp2_with fail
  go_ret
  exact ⟨rfl, n, rfl⟩

theorem whole_any (m : Int) (w : World) (h : m ≤ 9223372036854775807) : Calls Try.prog 83 #[.int .i64 m] w fun e w' => e = .returned (.int .i64 (wholeI m)) ∧ w = w' := by
  by_cases h1 : m < 0
  · have E : Hid (wholeI m = 0) := by show wholeI m = 0; unfold wholeI; rw [if_pos h1]
    have M : max m 0 = 0 := by omega
    rw [E.out]
    go_enter Try.func83, Try.ntmps83
    go_wp2
    go_ret
    exact ⟨rfl, rfl⟩
  · have E : Hid (wholeI m = m / 1000000) := by show wholeI m = m / 1000000; unfold wholeI; rw [if_neg h1]
    have M : max m 0 = m := by omega
    rw [E.out]
    go_enter Try.func83, Try.ntmps83
    go_wp2
    go_ret
    exact ⟨rfl, rfl⟩

/-- The panic of what goes beyond. -/
def beyond : List PanicEntry := [{ v := .iface 24 (.int .i64 14), recovered := false }]

theorem must_ok (a : Int) (w : World) (h : a ≤ 1000000000000000000) (h0 : 0 ≤ a) : Calls Try.prog 87 #[.int .u64 0, .int .u64 a] w fun e w' => e = .returned (.int .i64 a) ∧ w = w' := by
  have Hw : IntKind.i64.wrap a = a := IntWalk.i64_in _ (by omega)
  have t1 : decide ((1000000000000000000 : Int) < a) = false := decide_eq_false (by omega)
  clear h h0
  go_enter Try.func87, Try.ntmps87
  go_wp2_with fail
  go_ret
  exact ⟨rfl, rfl⟩

theorem must_bad (hi a : Int) (w : World) (h : 0 < hi ∨ 1000000000000000000 < a) : Calls Try.prog 87 #[.int .u64 hi, .int .u64 a] w fun e w' => e = .panicked beyond ∧ w = w' := by
  by_cases h1 : 0 < hi
  · have t1 : decide ((0 : Int) < hi) = true := decide_eq_true h1
    clear h h1
    go_enter Try.func87, Try.ntmps87
    go_wp2_with fail
    exact ⟨rfl, rfl, rfl⟩
  · have t1 : decide ((0 : Int) < hi) = false := decide_eq_false h1
    have t2 : decide ((1000000000000000000 : Int) < a) = true := decide_eq_true (h.resolve_left h1)
    clear h h1
    go_enter Try.func87, Try.ntmps87
    go_wp2_with fail
    exact ⟨rfl, rfl, rfl⟩

theorem plus_ok (a b : Int) (w : World) (a0 : 0 ≤ a) (b0 : 0 ≤ b) (h : a + b ≤ 1000000000000000000) : Calls Try.prog 73 #[.int .i64 a, .int .i64 b] w fun e w' => e = .returned (.int .i64 (a + b)) ∧ w = w' := by
  have H1 : wrap64 (a + b) = a + b := by unfold wrap64; omega
  have H2 : IntKind.u64.wrap (a + b) = a + b := IntWalk.u64_in _ (by omega)
  have HM := Lib.hid (fun W => must_ok (a + b) W h (by omega))
  clear a0 b0 h
  go_enter Try.func73, Try.ntmps73
  go_wp2_with fail
  refine (HM.out _).mono ?_
  rintro e w' ⟨rfl, rfl⟩
  go_wp2_with fail
  go_ret
  exact ⟨rfl, rfl⟩

theorem plus_bad (a b : Int) (w : World) (a0 : 0 ≤ a) (b0 : 0 ≤ b) (a1 : a ≤ 1000000000000000000) (b1 : b ≤ 1000000000000000000) (h : ¬ a + b ≤ 1000000000000000000) : Calls Try.prog 73 #[.int .i64 a, .int .i64 b] w fun e w' => e = .panicked beyond ∧ w = w' := by
  have H1 : wrap64 (a + b) = a + b := by unfold wrap64; omega
  have H2 : IntKind.u64.wrap (a + b) = a + b := IntWalk.u64_in _ (by omega)
  have HM := Lib.hid (fun W => must_bad 0 (a + b) W (by omega))
  clear a0 b0 a1 b1 h
  go_enter Try.func73, Try.ntmps73
  go_wp2_with fail
  refine (HM.out _).mono ?_
  rintro e w' ⟨rfl, rfl⟩
  go_wp2_with fail
  exact ⟨rfl, rfl, rfl⟩

theorem times_ok (a b : Int) (w : World) (a0 : 0 ≤ a) (a1 : a ≤ 9223372036854775807) (b0 : 0 ≤ b) (b1 : b ≤ 9223372036854775807) (h : a * b ≤ 1000000000000000000) : Calls Try.prog 74 #[.int .i64 a, .int .i64 b] w fun e w' => e = .returned (.int .i64 (a * b)) ∧ w = w' := by
  have H1 : IntKind.u64.wrap a = a := IntWalk.u64_in _ (by omega)
  have H2 : IntKind.u64.wrap b = b := IntWalk.u64_in _ (by omega)
  have HM := Lib.hid (fun W => mul_small a b W a0 (by omega) b0 (by omega) (by omega))
  have HN := Lib.hid (fun W => must_ok (a * b) W h (Int.mul_nonneg a0 b0))
  clear a0 a1 b0 b1 h
  generalize a * b = m at *
  go_enter Try.func74, Try.ntmps74
  go_wp2_with fail
  refine (HM.out _).mono ?_
  rintro e w' ⟨rfl, rfl⟩
  go_wp2_with fail
  refine (HN.out _).mono ?_
  rintro e w' ⟨rfl, rfl⟩
  go_wp2_with fail
  go_ret
  exact ⟨rfl, rfl⟩

theorem times_bad (a b : Int) (w : World) (a0 : 0 ≤ a) (a1 : a ≤ 9223372036854775807) (b0 : 0 ≤ b) (b1 : b ≤ 9223372036854775807) (h : ¬ a * b ≤ 1000000000000000000) : Calls Try.prog 74 #[.int .i64 a, .int .i64 b] w fun e w' => e = .panicked beyond ∧ w = w' := by
  have H1 : IntKind.u64.wrap a = a := IntWalk.u64_in _ (by omega)
  have H2 : IntKind.u64.wrap b = b := IntWalk.u64_in _ (by omega)
  have hm := Int.mul_nonneg a0 b0
  have HM := Lib.hid (fun W => Money.mul_any a b W a0 (by omega) b0 (by omega))
  have HN := Lib.hid (fun W => must_bad (a * b / 18446744073709551616) (a * b % 18446744073709551616) W (by omega))
  clear a0 a1 b0 b1 h hm
  generalize a * b / 18446744073709551616 = hi at *
  generalize a * b % 18446744073709551616 = lo at *
  go_enter Try.func74, Try.ntmps74
  go_wp2_with fail
  refine (HM.out _).mono ?_
  rintro e w' ⟨rfl, rfl⟩
  go_wp2_with fail
  refine (HN.out _).mono ?_
  rintro e w' ⟨rfl, rfl⟩
  go_wp2_with fail
  exact ⟨rfl, rfl, rfl⟩

/-- The deferred closure: of a frame that panics. -/
theorem catch_panicking (p q : Addr) (x y : Int) (u : TypeId) (pv : Value) (older : List PanicEntry) (w : World) (hc : w.cell? p = some (.int .i64 x)) (hz : w.frozen? p = false) (hq : w.cell? q = some (.int .i64 y)) (hzq : w.frozen? q = false) (hpq : p ≠ q) :
    CallsD Try.prog 86 #[.pointer (some p), .pointer (some q)] (.panicking ({ v := .iface u pv, recovered := false } :: older)) w fun e u' w' =>
      e = .returned (.tuple #[]) ∧ u' = .panicking ({ v := .iface u pv, recovered := true } :: older) ∧ w' = (w.setCell p (.int .i64 0)).setCell q (.int .i64 14) := by
  refine callsD_of_wpS Try.func86 rfl fun c₀ cs hu => ?_
  apply wpS_seq
  apply wpS_region
  simp [wpOpsS, go_sem, recoverD, hu, Try.ntmps86, Exit.thenS]
  refine wpS_cond (t := true) (by simp [Act.eval, Array.replicate]) ?_
  simp only [if_true]
  apply wpS_region
  simp [wpOpsS, go_sem, hc, hz, hq, hzq, hpq, bodyPostS, results, Try.results86]

theorem catch_idle (p q : Addr) (w : World) :
    CallsD Try.prog 86 #[.pointer (some p), .pointer (some q)] .returning w fun e u' w' => e = .returned (.tuple #[]) ∧ u' = .returning ∧ w' = w := by
  refine callsD_of_wpS Try.func86 rfl fun c₀ cs hu => ?_
  apply wpS_seq
  apply wpS_region
  simp [wpOpsS, go_sem, recoverD, hu, Try.ntmps86, Exit.thenS]
  refine wpS_cond (t := false) (by simp [Act.eval, Array.replicate]) ?_
  simp only [Bool.false_eq_true, if_false]
  refine wpS_of_wp (wp_skip ?_)
  cases c₀
  simp_all [bodyPostS, results, Try.results86]

theorem told_ok (F : FuncId) (cap : Array Value) (n : Int) (w : World) (hF : ∀ (args : Array Value) (w : World), (callFunc F args).run Try.prog w = .ok (.enter F args) w) (h : Calls Try.prog F cap ((w.alloc (.cells #[.int .i64 0] 2)).alloc (.cells #[.int .i64 0] 24)) fun e w' => e = .returned (.int .i64 n) ∧ ∃ k, w' = (((w.alloc (.cells #[.int .i64 0] 2)).alloc (.cells #[.int .i64 0] 24))).drewN k) :
    Calls Try.prog 71 #[.func (.func F) #[] cap] w fun e w' => e = .returned (.tuple #[.int .i64 n, .int .i64 0]) ∧ Below w.heap.size w w' := by
  have hmf : ∀ (fn : Fn) (first cap : Array Value) (w : World), (Instr.makeFunc fn first cap).run Try.prog w = .ok (.func fn first cap) w := fun _ _ _ _ => rfl
  have H := Lib.hid h
  clear h
  go_enter_defers Try.func71, Try.ntmps71
  go_wp2_with fail
  refine (H.out).mono ?_
  rintro e w' ⟨rfl, k, rfl⟩
  go_wp2_with fail
  refine leaves_cons (f := 86) (args := #[.pointer (some ⟨w.heap.size, 0, none⟩), .pointer (some ⟨w.heap.size + 1, 0, none⟩)]) (by simp) (by simp [go_sem]) ?_
  refine (catch_idle ⟨w.heap.size, 0, none⟩ ⟨w.heap.size + 1, 0, none⟩ _).mono ?_
  rintro e u' w'' ⟨rfl, rfl, rfl⟩
  simp [Leaves, settle, results, Try.results71, go_sem]
  go_grown
  exact below_drewN (below_new (below_new (Below.refl _ _) _) _) _

theorem told_bad (F : FuncId) (cap : Array Value) (w : World) (hF : ∀ (args : Array Value) (w : World), (callFunc F args).run Try.prog w = .ok (.enter F args) w) (h : Calls Try.prog F cap ((w.alloc (.cells #[.int .i64 0] 2)).alloc (.cells #[.int .i64 0] 24)) fun e w' => e = .panicked beyond ∧ ∃ k, w' = (((w.alloc (.cells #[.int .i64 0] 2)).alloc (.cells #[.int .i64 0] 24))).drewN k) :
    Calls Try.prog 71 #[.func (.func F) #[] cap] w fun e w' => e = .returned (.tuple #[.int .i64 0, .int .i64 14]) ∧ Below w.heap.size w w' := by
  have hmf : ∀ (fn : Fn) (first cap : Array Value) (w : World), (Instr.makeFunc fn first cap).run Try.prog w = .ok (.func fn first cap) w := fun _ _ _ _ => rfl
  have H := Lib.hid h
  clear h
  go_enter_defers Try.func71, Try.ntmps71
  go_wp2_with fail
  refine (H.out).mono ?_
  rintro e w' ⟨rfl, k, rfl⟩
  go_wp2_with fail
  refine leaves_cons (f := 86) (args := #[.pointer (some ⟨w.heap.size, 0, none⟩), .pointer (some ⟨w.heap.size + 1, 0, none⟩)]) (by simp) (by simp [go_sem]) ?_
  refine (catch_panicking ⟨w.heap.size, 0, none⟩ ⟨w.heap.size + 1, 0, none⟩ 0 0 24 _ [] _ ?_ ?_ ?_ ?_ ?_).mono ?_
  · simp [go_sem]
  · simp [go_sem]
  · simp [go_sem]
  · simp [go_sem]
  · simp
  rintro e u' w'' ⟨rfl, rfl, rfl⟩
  simp [Leaves, settle, results, Try.results71, go_sem]
  go_grown
  exact below_drewN (below_new (below_new (Below.refl _ _) _) _) _

theorem add_ok (w : World) (h p r n : Int) (a b c d : Nat) (ha : w.cell? ⟨a, 0, none⟩ = some (.int .i64 h)) (hb : w.cell? ⟨b, 0, none⟩ = some (.int .i64 p)) (hc : w.cell? ⟨c, 0, none⟩ = some (.int .i64 r)) (hd : w.cell? ⟨d, 0, none⟩ = some (.int .i64 n)) (h0 : 0 ≤ h) (h1 : h ≤ 1000000000000000000) (hg : okD p r = true) (n0 : 0 ≤ n) (n1 : n ≤ 87658) (hs : h + dayI p r * n ≤ 1000000000000000000) :
    Calls Try.prog 72 #[.pointer (some ⟨a, 0, none⟩), .pointer (some ⟨b, 0, none⟩), .pointer (some ⟨c, 0, none⟩), .pointer (some ⟨d, 0, none⟩)] w fun e w' => e = .returned (.int .i64 (h + dayI p r * n)) ∧ ∃ k, w' = w.drewN k := by
  obtain ⟨d0, d1⟩ := dayI_le hg
  obtain ⟨m0, m1⟩ := days_le d0 d1 n0 n1
  have HD := Lib.hid (fun W => daily_ok p r W hg)
  have HT := Lib.hid (fun W => times_ok (dayI p r) n W d0 (by omega) n0 (by omega) (by omega))
  have HP := Lib.hid (fun W => plus_ok h (dayI p r * n) W h0 m0 hs)
  clear hs hg n0 n1 d0 d1 m0 m1 h0 h1
  generalize dayI p r = y at *
  generalize y * n = m at *
  go_enter Try.func72, Try.ntmps72
  go_wp2_with fail
  refine wp_region_held_drew (S := (fun w' => w'.cell? ⟨a, 0, none⟩ = some (.int .i64 h) ∧ w'.cell? ⟨b, 0, none⟩ = some (.int .i64 p) ∧ w'.cell? ⟨c, 0, none⟩ = some (.int .i64 r) ∧ w'.cell? ⟨d, 0, none⟩ = some (.int .i64 n) ∧ ∃ k, w' = w.drewN k)) (by kernel_rfl) ⟨ha, hb, hc, hd, 1, rfl⟩ (fun hHeld => ?_)
  refine ByHand.take_yes (v := ?_) 0 5 rfl rfl (by kernel_rfl) (by kernel_rfl) (by kernel_rfl) (fun _ _ _ h => h) (by rfl) ?_ (by assumption) ?_
  rotate_left
  · intro w' hSw
    have hSw := hSw.1
    go_simp
    all_goals with_reducible rfl
  (try simp only [Act.put, List.setIfInBounds_toArray, List.set_cons_zero, List.set_cons_succ])
  refine ByHand.take_yes (v := ?_) 1 6 rfl rfl (by kernel_rfl) (by kernel_rfl) (by kernel_rfl) (fun _ _ _ h => h) (by rfl) ?_ (by assumption) ?_
  rotate_left
  · intro w' hSw
    have hSw := hSw.2.1
    go_simp
    all_goals with_reducible rfl
  (try simp only [Act.put, List.setIfInBounds_toArray, List.set_cons_zero, List.set_cons_succ])
  refine ByHand.take_yes (v := ?_) 2 7 rfl rfl (by kernel_rfl) (by kernel_rfl) (by kernel_rfl) (fun _ _ _ h => h) (by rfl) ?_ (by assumption) ?_
  rotate_left
  · intro w' hSw
    have hSw := hSw.2.2.1
    go_simp
    all_goals with_reducible rfl
  (try simp only [Act.put, List.setIfInBounds_toArray, List.set_cons_zero, List.set_cons_succ])
  refine ByHand.take_yes (v := ?_) 4 9 rfl rfl (by kernel_rfl) (by kernel_rfl) (by kernel_rfl) (fun _ _ _ h => h) (by rfl) ?_ (by assumption) ?_
  rotate_left
  · intro w' hSw
    have hSw := hSw.2.2.2.1
    go_simp
    all_goals with_reducible rfl
  (try simp only [Act.put, List.setIfInBounds_toArray, List.set_cons_zero, List.set_cons_succ])
  refine wpAnyH_ready (rs := [3]) (by kernel_rfl) (by simp) (AllReadyH.cons rfl (fun K hK => ?_) AllReadyH.nil)
  go_simp
  refine (HD.out _).mono ?_
  rintro e w9 ⟨rfl, k9, rfl⟩
  go_wp2_with fail
  refine hK.out _ _ ?_ (fun hHeld => ?_)
  · exact ⟨by simpa using ha, by simpa using hb, by simpa using hc, by simpa using hd, _, rfl⟩
  clear hK K
  (try simp only [Act.put, List.setIfInBounds_toArray, List.set_cons_zero, List.set_cons_succ])
  refine wpAnyH_ready (rs := [5]) (by kernel_rfl) (by simp) (AllReadyH.cons rfl (fun K hK => ?_) AllReadyH.nil)
  go_simp
  refine (HT.out _).mono ?_
  rintro e w9 ⟨rfl, rfl⟩
  go_wp2_with fail
  refine hK.out _ _ ?_ (fun hHeld => ?_)
  · exact ⟨by simpa using ha, by simpa using hb, by simpa using hc, by simpa using hd, _, rfl⟩
  clear hK K
  (try simp only [Act.put, List.setIfInBounds_toArray, List.set_cons_zero, List.set_cons_succ])
  refine wpAnyH_ready (rs := [6]) (by kernel_rfl) (by simp) (AllReadyH.cons rfl (fun K hK => ?_) AllReadyH.nil)
  go_simp
  refine (HP.out _).mono ?_
  rintro e w9 ⟨rfl, rfl⟩
  go_wp2_with fail
  refine hK.out _ _ ?_ (fun hHeld => ?_)
  · exact ⟨by simpa using ha, by simpa using hb, by simpa using hc, by simpa using hd, _, rfl⟩
  clear hK K
  (try simp only [Act.put, List.setIfInBounds_toArray, List.set_cons_zero, List.set_cons_succ])
  refine ByHand.take_yes (v := ?_) 7 4 rfl rfl (by kernel_rfl) (by kernel_rfl) (by kernel_rfl) (fun _ _ _ h => h) (by rfl) ?_ (by assumption) ?_
  rotate_left
  · intro w' hSw
    (try dsimp only at hSw)
    go_simp
    all_goals with_reducible rfl
  (try simp only [Act.put, List.setIfInBounds_toArray, List.set_cons_zero, List.set_cons_succ])
  refine wpAnyH_done (by kernel_rfl) ?_ _
  go_wp2_with fail
  go_ret
  exact ⟨rfl, _, rfl⟩
theorem add_far (w : World) (h p r n : Int) (a b c d : Nat) (ha : w.cell? ⟨a, 0, none⟩ = some (.int .i64 h)) (hb : w.cell? ⟨b, 0, none⟩ = some (.int .i64 p)) (hc : w.cell? ⟨c, 0, none⟩ = some (.int .i64 r)) (hd : w.cell? ⟨d, 0, none⟩ = some (.int .i64 n)) (hg : okD p r = true) (n0 : 0 ≤ n) (n1 : n ≤ 87658) (hs : ¬ dayI p r * n ≤ 1000000000000000000) :
    Calls Try.prog 72 #[.pointer (some ⟨a, 0, none⟩), .pointer (some ⟨b, 0, none⟩), .pointer (some ⟨c, 0, none⟩), .pointer (some ⟨d, 0, none⟩)] w fun e w' => e = .panicked beyond ∧ ∃ k, w' = w.drewN k := by
  obtain ⟨d0, d1⟩ := dayI_le hg
  obtain ⟨m0, m1⟩ := days_le d0 d1 n0 n1
  have HD := Lib.hid (fun W => daily_ok p r W hg)
  have HT := Lib.hid (fun W => times_bad (dayI p r) n W d0 (by omega) n0 (by omega) hs)
  clear hs hg n0 n1 d0 d1 m0 m1 
  generalize dayI p r = y at *
  generalize y * n = m at *
  go_enter Try.func72, Try.ntmps72
  go_wp2_with fail
  refine wp_region_held_drew (S := (fun w' => w'.cell? ⟨a, 0, none⟩ = some (.int .i64 h) ∧ w'.cell? ⟨b, 0, none⟩ = some (.int .i64 p) ∧ w'.cell? ⟨c, 0, none⟩ = some (.int .i64 r) ∧ w'.cell? ⟨d, 0, none⟩ = some (.int .i64 n) ∧ ∃ k, w' = w.drewN k)) (by kernel_rfl) ⟨ha, hb, hc, hd, 1, rfl⟩ (fun hHeld => ?_)
  refine ByHand.take_yes (v := ?_) 0 5 rfl rfl (by kernel_rfl) (by kernel_rfl) (by kernel_rfl) (fun _ _ _ h => h) (by rfl) ?_ (by assumption) ?_
  rotate_left
  · intro w' hSw
    have hSw := hSw.1
    go_simp
    all_goals with_reducible rfl
  (try simp only [Act.put, List.setIfInBounds_toArray, List.set_cons_zero, List.set_cons_succ])
  refine ByHand.take_yes (v := ?_) 1 6 rfl rfl (by kernel_rfl) (by kernel_rfl) (by kernel_rfl) (fun _ _ _ h => h) (by rfl) ?_ (by assumption) ?_
  rotate_left
  · intro w' hSw
    have hSw := hSw.2.1
    go_simp
    all_goals with_reducible rfl
  (try simp only [Act.put, List.setIfInBounds_toArray, List.set_cons_zero, List.set_cons_succ])
  refine ByHand.take_yes (v := ?_) 2 7 rfl rfl (by kernel_rfl) (by kernel_rfl) (by kernel_rfl) (fun _ _ _ h => h) (by rfl) ?_ (by assumption) ?_
  rotate_left
  · intro w' hSw
    have hSw := hSw.2.2.1
    go_simp
    all_goals with_reducible rfl
  (try simp only [Act.put, List.setIfInBounds_toArray, List.set_cons_zero, List.set_cons_succ])
  refine ByHand.take_yes (v := ?_) 4 9 rfl rfl (by kernel_rfl) (by kernel_rfl) (by kernel_rfl) (fun _ _ _ h => h) (by rfl) ?_ (by assumption) ?_
  rotate_left
  · intro w' hSw
    have hSw := hSw.2.2.2.1
    go_simp
    all_goals with_reducible rfl
  (try simp only [Act.put, List.setIfInBounds_toArray, List.set_cons_zero, List.set_cons_succ])
  refine wpAnyH_ready (rs := [3]) (by kernel_rfl) (by simp) (AllReadyH.cons rfl (fun K hK => ?_) AllReadyH.nil)
  go_simp
  refine (HD.out _).mono ?_
  rintro e w9 ⟨rfl, k9, rfl⟩
  go_wp2_with fail
  refine hK.out _ _ ?_ (fun hHeld => ?_)
  · exact ⟨by simpa using ha, by simpa using hb, by simpa using hc, by simpa using hd, _, rfl⟩
  clear hK K
  (try simp only [Act.put, List.setIfInBounds_toArray, List.set_cons_zero, List.set_cons_succ])
  refine wpAnyH_ready (rs := [5]) (by kernel_rfl) (by simp) (AllReadyH.cons rfl (fun K hK => ?_) AllReadyH.nil)
  go_simp
  refine (HT.out _).mono ?_
  rintro e w9 ⟨rfl, rfl⟩
  exact ⟨rfl, rfl, _, rfl⟩
theorem add_over (w : World) (h p r n : Int) (a b c d : Nat) (ha : w.cell? ⟨a, 0, none⟩ = some (.int .i64 h)) (hb : w.cell? ⟨b, 0, none⟩ = some (.int .i64 p)) (hc : w.cell? ⟨c, 0, none⟩ = some (.int .i64 r)) (hd : w.cell? ⟨d, 0, none⟩ = some (.int .i64 n)) (h0 : 0 ≤ h) (h1 : h ≤ 1000000000000000000) (hg : okD p r = true) (n0 : 0 ≤ n) (n1 : n ≤ 87658) (hs : dayI p r * n ≤ 1000000000000000000) (ho : ¬ h + dayI p r * n ≤ 1000000000000000000) :
    Calls Try.prog 72 #[.pointer (some ⟨a, 0, none⟩), .pointer (some ⟨b, 0, none⟩), .pointer (some ⟨c, 0, none⟩), .pointer (some ⟨d, 0, none⟩)] w fun e w' => e = .panicked beyond ∧ ∃ k, w' = w.drewN k := by
  obtain ⟨d0, d1⟩ := dayI_le hg
  obtain ⟨m0, m1⟩ := days_le d0 d1 n0 n1
  have HD := Lib.hid (fun W => daily_ok p r W hg)
  have HT := Lib.hid (fun W => times_ok (dayI p r) n W d0 (by omega) n0 (by omega) (by omega))
  have HP := Lib.hid (fun W => plus_bad h (dayI p r * n) W h0 m0 h1 hs ho)
  clear hs hg n0 n1 d0 d1 m0 m1 h0 h1 ho
  generalize dayI p r = y at *
  generalize y * n = m at *
  go_enter Try.func72, Try.ntmps72
  go_wp2_with fail
  refine wp_region_held_drew (S := (fun w' => w'.cell? ⟨a, 0, none⟩ = some (.int .i64 h) ∧ w'.cell? ⟨b, 0, none⟩ = some (.int .i64 p) ∧ w'.cell? ⟨c, 0, none⟩ = some (.int .i64 r) ∧ w'.cell? ⟨d, 0, none⟩ = some (.int .i64 n) ∧ ∃ k, w' = w.drewN k)) (by kernel_rfl) ⟨ha, hb, hc, hd, 1, rfl⟩ (fun hHeld => ?_)
  refine ByHand.take_yes (v := ?_) 0 5 rfl rfl (by kernel_rfl) (by kernel_rfl) (by kernel_rfl) (fun _ _ _ h => h) (by rfl) ?_ (by assumption) ?_
  rotate_left
  · intro w' hSw
    have hSw := hSw.1
    go_simp
    all_goals with_reducible rfl
  (try simp only [Act.put, List.setIfInBounds_toArray, List.set_cons_zero, List.set_cons_succ])
  refine ByHand.take_yes (v := ?_) 1 6 rfl rfl (by kernel_rfl) (by kernel_rfl) (by kernel_rfl) (fun _ _ _ h => h) (by rfl) ?_ (by assumption) ?_
  rotate_left
  · intro w' hSw
    have hSw := hSw.2.1
    go_simp
    all_goals with_reducible rfl
  (try simp only [Act.put, List.setIfInBounds_toArray, List.set_cons_zero, List.set_cons_succ])
  refine ByHand.take_yes (v := ?_) 2 7 rfl rfl (by kernel_rfl) (by kernel_rfl) (by kernel_rfl) (fun _ _ _ h => h) (by rfl) ?_ (by assumption) ?_
  rotate_left
  · intro w' hSw
    have hSw := hSw.2.2.1
    go_simp
    all_goals with_reducible rfl
  (try simp only [Act.put, List.setIfInBounds_toArray, List.set_cons_zero, List.set_cons_succ])
  refine ByHand.take_yes (v := ?_) 4 9 rfl rfl (by kernel_rfl) (by kernel_rfl) (by kernel_rfl) (fun _ _ _ h => h) (by rfl) ?_ (by assumption) ?_
  rotate_left
  · intro w' hSw
    have hSw := hSw.2.2.2.1
    go_simp
    all_goals with_reducible rfl
  (try simp only [Act.put, List.setIfInBounds_toArray, List.set_cons_zero, List.set_cons_succ])
  refine wpAnyH_ready (rs := [3]) (by kernel_rfl) (by simp) (AllReadyH.cons rfl (fun K hK => ?_) AllReadyH.nil)
  go_simp
  refine (HD.out _).mono ?_
  rintro e w9 ⟨rfl, k9, rfl⟩
  go_wp2_with fail
  refine hK.out _ _ ?_ (fun hHeld => ?_)
  · exact ⟨by simpa using ha, by simpa using hb, by simpa using hc, by simpa using hd, _, rfl⟩
  clear hK K
  (try simp only [Act.put, List.setIfInBounds_toArray, List.set_cons_zero, List.set_cons_succ])
  refine wpAnyH_ready (rs := [5]) (by kernel_rfl) (by simp) (AllReadyH.cons rfl (fun K hK => ?_) AllReadyH.nil)
  go_simp
  refine (HT.out _).mono ?_
  rintro e w9 ⟨rfl, rfl⟩
  go_wp2_with fail
  refine hK.out _ _ ?_ (fun hHeld => ?_)
  · exact ⟨by simpa using ha, by simpa using hb, by simpa using hc, by simpa using hd, _, rfl⟩
  clear hK K
  (try simp only [Act.put, List.setIfInBounds_toArray, List.set_cons_zero, List.set_cons_succ])
  refine wpAnyH_ready (rs := [6]) (by kernel_rfl) (by simp) (AllReadyH.cons rfl (fun K hK => ?_) AllReadyH.nil)
  go_simp
  refine (HP.out _).mono ?_
  rintro e w9 ⟨rfl, rfl⟩
  exact ⟨rfl, rfl, _, rfl⟩
end Go.Proofs.Ytkegmgjagcefhaa.Accr
