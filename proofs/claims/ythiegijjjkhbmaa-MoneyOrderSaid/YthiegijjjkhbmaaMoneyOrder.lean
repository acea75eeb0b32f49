/- By money.MulDiv, of more there is no less, by a greater divisor no more, however it is rounded; in parts, rounded down, never more than at once, nor two less; no condition. -/
import Derived.Test.YthiegijjjkhbmaaShell
import Derived.Test.YthiegijjjkhbmaaWakes
import Derived.Test.YthiegijjjkhbmaaRnd
import Derived.Deep.QuietTactic
import Derived.BigQuiet
namespace Go.Proofs.Ythiegijjjkhbmaa.Law
open Go.ChangeShapes Go.WideShapes Go.ChangeAt Go.RowKit Bits Money Ref

set_option maxRecDepth 100000 in
set_option maxHeartbeats 1000000 in
theorem order_walk (a b c d lo hi p q : Int) (w : World) (a0 : 0 ≤ a) (a1 : a ≤ 4294967295) (b0 : 0 ≤ b) (b1 : b ≤ 4294967295) (c0 : 0 ≤ c) (c1 : c ≤ 65535) (d0 : 0 ≤ d) (d1 : d ≤ 65535)
    (hs : (a ≤ b ∧ lo = a ∧ hi = b) ∨ (b < a ∧ lo = b ∧ hi = a)) (ks : (c ≤ d ∧ p = c ∧ q = d) ∨ (d < c ∧ p = d ∧ q = c)) :
    Calls Try.prog 8 #[.int .u32 a, .int .u32 b, .agg #[.int .u16 c, .int .u16 d]] w fun e w' => e = .returned (.bool true) ∧ Below w.heap.size w w' := by
  have hl : 0 ≤ lo ∧ lo ≤ hi ∧ hi ≤ 4294967295 := by omega
  have hp : 0 ≤ p ∧ p ≤ q ∧ q ≤ 65535 := by omega
  obtain ⟨l0, l1, l2⟩ := hl
  obtain ⟨p0, p1, p2⟩ := hp
  have e1 : IntKind.i64.wrap (p + 1) = p + 1 := IntWalk.i64_in _ (by omega)
  have e2 : IntKind.i64.wrap (q + 1) = q + 1 := IntWalk.i64_in _ (by omega)
  have HS := Lib.hid hs
  have HK := Lib.hid ks
  clear hs ks
  go_enter Try.func8, Try.ntmps8
  go_upto_region 1 with fail
  go_cut [7, 8] from 24 to 31 (fun s7 s8 wx => s7 = .int .i64 lo ∧ s8 = .int .i64 hi ∧ wx = w.alloc (.cells #[.int .u16 c, .int .u16 d] 54))
  case first =>
    rcases HS.out with ⟨h, rfl, rfl⟩ | ⟨h, rfl, rfl⟩
    all_goals go_wp2_with fail
    all_goals (go_meet; exact ⟨congrArg (Value.int IntKind.i64) (by omega), congrArg (Value.int IntKind.i64) (by omega), rfl⟩)
  case rest =>
    obtain ⟨rfl, rfl, rfl⟩ := hcut
    go_upto_region 2 with fail
    go_cut [9, 10] from 32 to 45 (fun s9 s10 wx => s9 = .int .i64 (p + 1) ∧ s10 = .int .i64 (q + 1) ∧ Below w.heap.size w wx)
    case first =>
      rcases HK.out with ⟨k, rfl, rfl⟩ | ⟨k, rfl, rfl⟩
      all_goals go_quiet (fail)
      all_goals go_wp2_with fail
      all_goals (go_meet; exact ⟨congrArg (Value.int IntKind.i64) (by omega), congrArg (Value.int IntKind.i64) (by omega), below_drewN (below_new (Below.refl _ _) _) _⟩)
    case rest =>
    obtain ⟨rfl, rfl, hb0⟩ := hcut
    have HB0 := Lib.hid hb0
    clear hb0 e1 e2
    go_wp2_with fail
    go_loopw [11] (fun s wr => ∃ h : Int, s = .int .i64 h ∧ 0 ≤ h ∧ h ≤ 3 ∧ Below w.heap.size w wr) (fun s _ => (3 - intOf s).toNat)
    case atStart => exact ⟨0, rfl, by omega, by omega, HB0.out⟩
    case round =>
      obtain ⟨h, rfl, g0, g1, hb⟩ := hrel
      by_cases hh : h ≤ 2
      · obtain ⟨x0, x1⟩ := rnd_small (how := h) (a := lo) (b := 1000) (c := p + 1) (by omega) (by omega) (by omega)
        obtain ⟨y0, y1⟩ := rnd_small (how := h) (a := hi) (b := 1000) (c := p + 1) (by omega) (by omega) (by omega)
        obtain ⟨z0, z1⟩ := rnd_small (how := h) (a := lo) (b := 1000) (c := q + 1) (by omega) (by omega) (by omega)
        have m1 := rnd_more (how := h) (a := lo) (a' := hi) (b := 1000) (c := p + 1) (by omega) (by omega)
        have m2 := rnd_less (how := h) (a := lo) (b := 1000) (c := p + 1) (e := q + 1) (by omega) (by omega) (by omega)
        generalize hx : rnd lo 1000 (p + 1) h = x at *
        generalize hy : rnd hi 1000 (p + 1) h = y at *
        generalize hz : rnd lo 1000 (q + 1) h = z at *
        have HX := Lib.hid hx
        have HY := Lib.hid hy
        have HZ := Lib.hid hz
        have HB := Lib.hid hb
        clear hx hy hz hb
        go_wp2_with fail
        refine (md_small _ _ _ _ _ (by omega) (by omega) (by omega) (by omega) (by omega) (by omega) (by omega) (by omega) (by omega)).mono ?_
        rw [HX.out]
        rintro e w1 ⟨rfl, n, rfl⟩
        go_wp2_with fail
        refine (md_small _ _ _ _ _ (by omega) (by omega) (by omega) (by omega) (by omega) (by omega) (by omega) (by omega) (by omega)).mono ?_
        rw [HY.out]
        rintro e w1 ⟨rfl, m, rfl⟩
        go_wp2_with fail
        refine (md_small _ _ _ _ _ (by omega) (by omega) (by omega) (by omega) (by omega) (by omega) (by omega) (by omega) (by omega)).mono ?_
        rw [HZ.out]
        rintro e w1 ⟨rfl, l, rfl⟩
        go_wp2_with fail
        go_roundw
        case rel => exact ⟨_, rfl, by omega, by omega, below_drewN HB.out _⟩
        case measure => simp [intOf]; omega
      · obtain ⟨x0, x1⟩ := rnd_small (how := 0) (a := lo) (b := 1000) (c := p + 1) (by omega) (by omega) (by omega)
        obtain ⟨y0, y1⟩ := rnd_small (how := 0) (a := hi) (b := 1000) (c := p + 1) (by omega) (by omega) (by omega)
        obtain ⟨z0, z1⟩ := rnd_small (how := 0) (a := lo + hi) (b := 1000) (c := p + 1) (by omega) (by omega) (by omega)
        obtain ⟨m1, m2⟩ := rnd_parts (a := lo) (a' := hi) (b := 1000) (c := p + 1) (by omega)
        generalize hx : rnd lo 1000 (p + 1) 0 = x at *
        generalize hy : rnd hi 1000 (p + 1) 0 = y at *
        generalize hz : rnd (lo + hi) 1000 (p + 1) 0 = z at *
        have HX := Lib.hid hx
        have HY := Lib.hid hy
        have HZ := Lib.hid hz
        have HB := Lib.hid hb
        clear hx hy hz hb
        go_wp2_with fail
        refine (md_small _ _ _ _ _ (by omega) (by omega) (by omega) (by omega) (by omega) (by omega) (by omega) (by omega) (by omega)).mono ?_
        rw [HX.out]
        rintro e w1 ⟨rfl, n, rfl⟩
        go_wp2_with fail
        refine (md_small _ _ _ _ _ (by omega) (by omega) (by omega) (by omega) (by omega) (by omega) (by omega) (by omega) (by omega)).mono ?_
        rw [HY.out]
        rintro e w1 ⟨rfl, m, rfl⟩
        go_wp2_with fail
        refine (md_small _ _ _ _ _ (by omega) (by omega) (by omega) (by omega) (by omega) (by omega) (by omega) (by omega) (by omega)).mono ?_
        rw [HZ.out]
        rintro e w1 ⟨rfl, l, rfl⟩
        go_wp2_with fail
        refine (wakes_any _).mono ?_
        rintro e w6 ⟨rfl, j, rfl⟩
        go_wp2_with fail
        go_ret
        exact ⟨rfl, below_drewN HB.out _⟩

set_option maxRecDepth 100000 in
theorem moneyOrder_lifted (os : Os) (started : os.Started) (H : Type) (enc : TypeId × Value → H) :
    ReturnsInHanded {} Try.checked os 8 .any (Rows.moneyOrderSpec.pre6 enc Try.prog Try.f8 Rows.moneyOrderRow.domain false) (Rows.moneyOrderSpec.post enc Try.prog Try.f8 false true false false) := by
  refine Shell.law_lifted (C := Try.checked) (tb := 4) (by kernel_rfl) started (by kernel_rfl) Try.func8
    (ChangeSpec.witness6 (enc := enc) (C := Try.checked) false ⟨#[], #[.int .u32 0, .int .u32 0, .agg #[.int .u16 0, .int .u16 0]], []⟩ 8 (by kernel_rfl) (by kernel_rfl) (by kernel_rfl) (by kernel_rfl))
    (by kernel_rfl) (by kernel_rfl) rfl rfl Try.underlying4 ?_
  intro W base args ds p hval0 hA0
  have hval : ∀ (j : Nat) t v, Try.f8.params[j]? = some t → args[j]? = some v → Value.okWide Try.prog W .any base t v := hval0
  have hA : DataW.TrodAll enc Try.prog W 0 (fun _ => true) true Try.f8.params.toList args.toList ds p := hA0
  clear hval0 hA0
  rw [Try.params8] at hA hval
  obtain ⟨v0, vs0, d0, ds0, p0, q0, hargs, rfl, rfl, h0, r0⟩ := trodAll_cons hA
  obtain ⟨v1, vs1, d1, ds1, p1, q1, rfl, rfl, rfl, h1, r1⟩ := trodAll_cons r0
  obtain ⟨v2, vs2, d2, ds2, p2, q2, rfl, rfl, rfl, h2, r2⟩ := trodAll_cons r1
  obtain ⟨rfl, rfl, rfl⟩ := trodAll_nil r2
  obtain rfl : args = #[v0, v1, v2] := by cases args; simp_all
  refine ⟨rfl, ?_⟩
  obtain ⟨a, rfl, -, -, ha⟩ := open_int Try.underlying50 (hval 0 50 v0 rfl rfl) h0
  obtain ⟨b, rfl, -, -, hb⟩ := open_int Try.underlying50 (hval 1 50 v1 rfl rfl) h1
  obtain ⟨zs, hzl, rfl, hz⟩ := Shell.open_arr Try.underlying54 Try.underlying51 (by kernel_rfl) (by kernel_rfl) (hval 2 54 v2 rfl rfl) h2
  obtain ⟨c, d, rfl⟩ := Shell.list2 zs hzl
  have ba := bounds_u32 ha
  have bb := bounds_u32 hb
  have bc := bounds_u16 (hz c (by simp))
  have bd := bounds_u16 (hz d (by simp))
  obtain ⟨lo, hi, hs⟩ : ∃ lo hi : Int, (a ≤ b ∧ lo = a ∧ hi = b) ∨ (b < a ∧ lo = b ∧ hi = a) := by
    by_cases h : a ≤ b
    · exact ⟨a, b, Or.inl ⟨h, rfl, rfl⟩⟩
    · exact ⟨b, a, Or.inr ⟨by omega, rfl, rfl⟩⟩
  obtain ⟨p, q, ks⟩ : ∃ p q : Int, (c ≤ d ∧ p = c ∧ q = d) ∨ (d < c ∧ p = d ∧ q = c) := by
    by_cases h : c ≤ d
    · exact ⟨c, d, Or.inl ⟨h, rfl, rfl⟩⟩
    · exact ⟨d, c, Or.inr ⟨by omega, rfl, rfl⟩⟩
  exact order_walk a b c d lo hi p q W ba.1 ba.2 bb.1 bb.2 bc.1 bc.2 bd.1 bd.2 hs ks

theorem moneyOrder_over : Rows.moneyOrderRow.holds Try.pinned (OpenSpec.ofChange Rows.moneyOrderSpec) :=
  OpenClaim.holds_of_wide 8 Try.f8 rfl rfl rfl rfl rfl rfl rfl ⟨rfl, rfl, rfl, rfl, rfl⟩ rfl rfl rfl rfl rfl (by kernel_rfl) Try.func8 (by kernel_rfl)
    (of_decide_eq_true (by kernel_rfl)) (by unfold Func.isWrapper; first | (rw [if_pos (by decide +kernel)]; kernel_rfl) | (rw [if_neg (by decide +kernel)]; exact ⟨rfl, rfl⟩))
    (fun os st H enc _ => moneyOrder_lifted os st H enc)

/-- The statement. -/
theorem moneyOrder_proved : Rows.MoneyOrderSaid := moneyOrder_over
end Go.Proofs.Ythiegijjjkhbmaa.Law
