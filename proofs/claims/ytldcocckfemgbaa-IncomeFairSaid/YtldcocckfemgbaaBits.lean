/- What bits.Mul64 and bits.Div64 answer, at every input. -/
import Derived.Test.YtldcocckfemgbaaLen
import Derived.Test.YtldcocckfemgbaaDivMath
import Derived.BigQuiet
import Derived.Deep.QuietTactic
import Derived.Deep.DeepCutAuto
import Derived.Deep.CutBlock
import Derived.Laws.MathBits
import Derived.Lib.Hide
namespace Go.Proofs.Ytldcocckfemgbaa.Bits
open Go.ChangeShapes Go.WideShapes Go.ChangeAt Go.RowKit

theorem ret_two {j k : IntKind} {a b c d : Int} (h1 : a = c) (h2 : b = d) : Ending.returned (.tuple #[.int j a, .int k b]) = .returned (.tuple #[.int j c, .int k d]) := by rw [h1, h2]

theorem mul64_any (a b : Int) (w : World) (a0 : 0 ≤ a) (a1 : a ≤ 18446744073709551615) (b0 : 0 ≤ b) (b1 : b ≤ 18446744073709551615) :
    Calls Try.prog 25 #[.int .u64 a, .int .u64 b] w fun e w' => e = .returned (.tuple #[.int .u64 (a * b / 18446744073709551616), .int .u64 (a * b % 18446744073709551616)]) ∧ w = w' := by
  go_enter Try.func25, Try.ntmps25
  go_wp2
  go_ret2
  refine ⟨ret_two ?_ (IntKind.wrap_u64 _), rfl⟩
  have e := mul64_arith a b a0 (by omega) b0 (by omega)
  simp only [IntKind.wrap_u64, and_low32 a a0 (by omega), and_low32 b b0 (by omega)]
  rw [and_low32 _ (by omega) (by omega), e]

theorem lead_at (y : Int) (s : Nat) (w : World) (h0 : 0 ≤ y) (h1 : y ≤ 18446744073709551615) (hs : Hid ((64 - (Lib.bitLen y.toNat : Nat) : Int) = (s : Int))) :
    Calls Try.prog 28 #[.int .u64 y] w fun e w' => e = .returned (.int .i64 (s : Int)) ∧ w = w' :=
  (lead64_any y w h0 h1).mono fun _ _ h => ⟨by rw [h.1, hs.out], h.2⟩

set_option maxHeartbeats 400000 in
theorem div64_low (lo y : Int) (w : World) (h1 : 0 < y) (h2 : y ≤ 18446744073709551615) (l0 : 0 ≤ lo) (l1 : lo ≤ 18446744073709551615) :
    Calls Try.prog 26 #[.int .u64 0, .int .u64 lo, .int .u64 y] w fun e w' => e = .returned (.tuple #[.int .u64 (lo / y), .int .u64 (lo % y)]) ∧ ∃ n, w' = w.drewN n := by
  go_enter Try.func26, Try.ntmps26
  go_wp2_with fail
  go_quiet (fail)
  go_wp2
  go_ret2
  exact ⟨rfl, _, rfl⟩

/-- What stands behind the first part: the two words moved up. -/
structure Moved (hi lo y : Int) (s : Nat) (U a b u1 u0 : Int) : Prop where
  yy : y * 2 ^ s = a * 4294967296 + b
  nn : (hi * 18446744073709551616 + lo) * 2 ^ s = U * 18446744073709551616 + u1 * 4294967296 + u0

def MovedSlots (hi lo y : Int) (s : Nat) (w : World) (s2 s9 s10 s11 s13 s14 : Value) (wx : World) : Prop :=
  ∃ U a b u1 u0 : Int, Halves U a b u1 ∧ 0 ≤ u0 ∧ u0 ≤ 4294967295 ∧ Moved hi lo y s U a b u1 u0 ∧ s2 = .int .u64 (a * 4294967296 + b) ∧ s9 = .int .u64 a ∧ s10 = .int .u64 b ∧ s11 = .int .u64 U ∧ s13 = .int .u64 u1 ∧ s14 = .int .u64 u0 ∧ wx = w

theorem moved (hi lo y : Int) (s : Nat) (w : World) (h0 : 0 < hi) (h1 : hi < y) (l0 : 0 ≤ lo) (l1 : lo ≤ 18446744073709551615) (s1 : s ≤ 63) (n1 : 9223372036854775808 ≤ y * 2 ^ s) (n2 : y * 2 ^ s ≤ 18446744073709551615) :
    MovedSlots hi lo y s w (.int .u64 (y * 2 ^ s)) (.int .u64 (y * 2 ^ s / 4294967296)) (.int .u64 (bits BinOp.and IntKind.u64 (y * 2 ^ s) 4294967295)) (.int .u64 (bits BinOp.or IntKind.u64 (IntKind.u64.wrap (hi * 2 ^ s)) (lo / 2 ^ (64 - s)))) (.int .u64 (IntKind.u64.wrap (lo * 2 ^ s) / 4294967296)) (.int .u64 (bits BinOp.and IntKind.u64 (IntKind.u64.wrap (lo * 2 ^ s)) 4294967295)) w := by
  have p := two_pow_pos s
  have pq := two_pow_split s s1
  have ul := up_low lo (2 ^ s) (2 ^ (64 - s)) p (two_pow_pos _) pq l0 l1
  have hp : hi * 2 ^ s + 2 ^ s ≤ y * 2 ^ s := by
    have : (hi + 1) * 2 ^ s ≤ y * 2 ^ s := Int.mul_le_mul_of_nonneg_right (by omega) (by omega)
    rw [Int.add_mul, Int.one_mul] at this; exact this
  have hp0 : 0 ≤ hi * 2 ^ s := Int.mul_nonneg (by omega) (by omega)
  have e1 : IntKind.u64.wrap (hi * 2 ^ s) = hi * 2 ^ s := by rw [IntKind.wrap_u64]; omega
  have e2 := or_up hi (lo / 2 ^ (64 - s)) s (by omega) (by omega) ul.2.1 ul.2.2 s1
  have e3 : IntKind.u64.wrap (lo * 2 ^ s) = lo * 2 ^ s - lo / 2 ^ (64 - s) * 18446744073709551616 := by rw [IntKind.wrap_u64]; exact ul.1
  have e4 : 0 ≤ IntKind.u64.wrap (lo * 2 ^ s) ∧ IntKind.u64.wrap (lo * 2 ^ s) < 18446744073709551616 := by rw [IntKind.wrap_u64]; omega
  have f1 := and_low32 (y * 2 ^ s) (by omega) (by omega)
  have f2 := and_low32 (IntKind.u64.wrap (lo * 2 ^ s)) e4.1 e4.2
  rw [e1, e2, f1, f2]
  have nn : (hi * 18446744073709551616 + lo) * 2 ^ s = hi * 2 ^ s * 18446744073709551616 + lo * 2 ^ s := by grind
  generalize IntKind.u64.wrap (lo * 2 ^ s) = L at *
  refine ⟨hi * 2 ^ s + lo / 2 ^ (64 - s), y * 2 ^ s / 4294967296, y * 2 ^ s % 4294967296, L / 4294967296, L % 4294967296, ⟨?_, ?_, ?_, ?_, ?_, ?_, ?_, ?_⟩, ?_, ?_, ⟨?_, ?_⟩, ?_, rfl, rfl, rfl, rfl, rfl, rfl⟩ <;> first | omega | (rw [show y * 2 ^ s / 4294967296 * 4294967296 + y * 2 ^ s % 4294967296 = y * 2 ^ s from by omega]) | skip

set_option maxHeartbeats 1000000 in
theorem div64_high (hi lo y : Int) (s : Nat) (w : World) (h0 : 0 < hi) (h1 : hi < y) (h2 : y ≤ 18446744073709551615) (l0 : 0 ≤ lo) (l1 : lo ≤ 18446744073709551615) (s1 : s ≤ 63) (hs : Hid ((64 - (Lib.bitLen y.toNat : Nat) : Int) = (s : Int))) (n1 : 9223372036854775808 ≤ y * 2 ^ s) (n2 : y * 2 ^ s ≤ 18446744073709551615) :
    Calls Try.prog 26 #[.int .u64 hi, .int .u64 lo, .int .u64 y] w fun e w' => e = .returned (.tuple #[.int .u64 ((hi * 18446744073709551616 + lo) / y), .int .u64 ((hi * 18446744073709551616 + lo) % y)]) ∧ w' = w := by
  have HM := moved hi lo y s w h0 h1 l0 l1 s1 n1 n2
  go_enter Try.func26, Try.ntmps26
  go_upto_region 14 with (go_at_call 28; refine (lead_at _ s _ (by omega) (by omega) hs).mono ?_; rintro e w' ⟨rfl, rfl⟩)
  go_cut [2, 9, 10, 11, 13, 14] from 39 to 58 (fun s2 s9 s10 s11 s13 s14 wx => MovedSlots hi lo y s w s2 s9 s10 s11 s13 s14 wx)
  case first =>
    go_wp2
    go_meet
    exact HM
  case rest =>
    obtain ⟨U, a, b, u1, u0, H1, u00, u01, HV, rfl, rfl, rfl, rfl, rfl, rfl, rfl⟩ := hcut
    obtain ⟨Q1, hQ1⟩ : ∃ Q, Dig U a b u1 Q := ⟨_, rfl⟩
    have bq := dig_bd H1 hQ1
    obtain ⟨f1, f2, f3, f4, f5, f6⟩ := dig_first H1 hQ1
    obtain ⟨a0, a1, b0, b1, v0, v1, U0, U1⟩ := id H1
    have F4 := Lib.hid f4; clear f4
    have g1 : 0 ≤ U / a * a := Int.mul_nonneg f3 (by omega)
    go_upto_block 0 with fail
    go_cut [15, 16] from 67 to 85 (fun s15 s16 wx => s15 = .int .u64 Q1 ∧ wx = wc)
    case first =>
      go_wp2_with fail
      go_loop [15, 16] (fun q r => ∃ q' r' : Int, q = .int .u64 q' ∧ r = .int .u64 r' ∧ 0 ≤ r' ∧ r' ≤ 4294967295 ∧ Hid (q' * a + r' = U) ∧ Q1 ≤ q' ∧ q' ≤ 4294967297) (fun q _ => (intOf q).toNat)
      case atStart => exact ⟨_, _, rfl, rfl, f5, by omega, F4, f1, f2⟩
      case round =>
        obtain ⟨q', r', rfl, rfl, r0, r1, E, k1, k2⟩ := hrel
        by_cases hq : 4294967296 ≤ q' ∨ 4294967296 * r' + u1 < q' * b
        · have more := dig_more H1 hQ1 E.out hq
          have E2 := Lib.hid (step_eq E.out)
          have out : 4294967296 ≤ r' + a → q' - 1 = Q1 := fun h => by
            have := dig_out H1 hQ1 E2.out h (by omega) (by omega); omega
          have O := Lib.hid out
          clear out E
          by_cases hq1 : 4294967296 ≤ q'
          · clear hq
            by_cases hr : 4294967296 ≤ r' + a
            · go_wp2
              go_meet
              exact ⟨by rw [O.out hr], rfl⟩
            · go_wp2
              go_round
              case rel => exact ⟨_, _, rfl, rfl, by omega, by omega, E2, by omega, by omega⟩
              case measure => simp [intOf]; omega
          · have hq2 : 4294967296 * r' + u1 < q' * b := by omega
            have m := mul_top q' b (by omega) (by omega) b0 b1
            clear hq
            by_cases hr : 4294967296 ≤ r' + a
            · go_wp2
              go_meet
              exact ⟨by rw [O.out hr], rfl⟩
            · go_wp2
              go_round
              case rel => exact ⟨_, _, rfl, rfl, by omega, by omega, E2, by omega, by omega⟩
              case measure => simp [intOf]; omega
        · have hq1 : q' < 4294967296 := by omega
          have hq2 : q' * b ≤ 4294967296 * r' + u1 := by omega
          have dn := dig_done H1 hQ1 E.out hq2
          have m := mul_top q' b (by omega) (by omega) b0 b1
          have ee : q' = Q1 := by omega
          have EE := Lib.hid ee
          clear hq ee
          go_wp2
          go_meet
          exact ⟨by rw [EE.out], rfl⟩
    case rest =>
      obtain ⟨rfl, rfl⟩ := hcut
      obtain ⟨V, hV⟩ : ∃ V, V = U * 4294967296 + u1 - Q1 * (a * 4294967296 + b) := ⟨_, rfl⟩
      have rb := dig_rest H1 hQ1
      rw [← hV] at rb
      have H0 : Halves V a b u0 := ⟨a0, a1, b0, b1, u00, u01, rb.1, rb.2⟩
      have EV : Hid (IntKind.u64.wrap (IntKind.u64.wrap (IntKind.u64.wrap (U * 4294967296) + u1) - IntKind.u64.wrap (Q1 * (a * 4294967296 + b))) = V) :=
        Lib.hid ((mod_sub _ _ (by omega) (by omega) U u1 rfl).trans hV.symm)
      obtain ⟨Q0, hQ0⟩ : ∃ Q, Dig V a b u0 Q := ⟨_, rfl⟩
      have bq0 := dig_bd H0 hQ0
      obtain ⟨j1, j2, j3, j4, j5, j6⟩ := dig_first H0 hQ0
      have G4 := Lib.hid j4; clear j4
      have g0 : 0 ≤ V / a * a := Int.mul_nonneg j3 (by omega)
      have fin := both hi lo y (2 ^ s) U a b u1 u0 Q1 V Q0 (two_pow_pos s) HV.yy HV.nn H0 hV hQ0
      have lst := mod_sub (V * 4294967296 + u0) (Q0 * (a * 4294967296 + b)) (by have := dig_rest H0 hQ0; omega) (by have := dig_rest H0 hQ0; omega) V u0 rfl
      have FIN := Lib.hid fin
      have LST := Lib.hid lst
      clear fin lst hV
      obtain ⟨V0, V1⟩ := rb
      go_upto_region 21 with fail
      go_cut [17] from 86 to 93 (fun s17 wx => s17 = .int .u64 V ∧ wx = wc)
      case first =>
        go_wp2
        go_meet
        exact ⟨by rw [EV.out], rfl⟩
      case rest =>
        obtain ⟨rfl, rfl⟩ := hcut
        go_upto_block 2 with fail
        go_cut [18, 16] from 102 to 120 (fun s18 s16 wx => s18 = .int .u64 Q0 ∧ wx = wc)
        case first =>
          go_wp2_with fail
          go_loop [18, 16] (fun q r => ∃ q' r' : Int, q = .int .u64 q' ∧ r = .int .u64 r' ∧ 0 ≤ r' ∧ r' ≤ 4294967295 ∧ Hid (q' * a + r' = V) ∧ Q0 ≤ q' ∧ q' ≤ 4294967297) (fun q _ => (intOf q).toNat)
          case atStart => exact ⟨_, _, rfl, rfl, j5, by omega, G4, j1, j2⟩
          case round =>
            obtain ⟨q', r', rfl, rfl, r0, r1, E, k1, k2⟩ := hrel
            by_cases hq : 4294967296 ≤ q' ∨ 4294967296 * r' + u0 < q' * b
            · have more := dig_more H0 hQ0 E.out hq
              have E2 := Lib.hid (step_eq E.out)
              have out : 4294967296 ≤ r' + a → q' - 1 = Q0 := fun h => by
                have := dig_out H0 hQ0 E2.out h (by omega) (by omega); omega
              have O := Lib.hid out
              clear out E
              by_cases hq1 : 4294967296 ≤ q'
              · clear hq
                by_cases hr : 4294967296 ≤ r' + a
                · go_wp2
                  go_meet
                  exact ⟨by rw [O.out hr], rfl⟩
                · go_wp2
                  go_round
                  case rel => exact ⟨_, _, rfl, rfl, by omega, by omega, E2, by omega, by omega⟩
                  case measure => simp [intOf]; omega
              · have hq2 : 4294967296 * r' + u0 < q' * b := by omega
                have m := mul_top q' b (by omega) (by omega) b0 b1
                clear hq
                by_cases hr : 4294967296 ≤ r' + a
                · go_wp2
                  go_meet
                  exact ⟨by rw [O.out hr], rfl⟩
                · go_wp2
                  go_round
                  case rel => exact ⟨_, _, rfl, rfl, by omega, by omega, E2, by omega, by omega⟩
                  case measure => simp [intOf]; omega
            · have hq1 : q' < 4294967296 := by omega
              have hq2 : q' * b ≤ 4294967296 * r' + u0 := by omega
              have dn := dig_done H0 hQ0 E.out hq2
              have m := mul_top q' b (by omega) (by omega) b0 b1
              have ee : q' = Q0 := by omega
              have EE := Lib.hid ee
              clear hq ee
              go_wp2
              go_meet
              exact ⟨by rw [EE.out], rfl⟩
        case rest =>
          obtain ⟨rfl, rfl⟩ := hcut
          go_wp2
          go_ret2
          rw [LST.out, FIN.out.1, FIN.out.2]
          exact ⟨rfl, rfl⟩

theorem drewN_zero (w : World) : w = w.drewN 0 := rfl
/-- Div64, wherever it does not panic. -/
theorem div64_any (hi lo y : Int) (w : World) (h0 : 0 ≤ hi) (h1 : hi < y) (h2 : y ≤ 18446744073709551615) (l0 : 0 ≤ lo) (l1 : lo ≤ 18446744073709551615) :
    Calls Try.prog 26 #[.int .u64 hi, .int .u64 lo, .int .u64 y] w fun e w' => e = .returned (.tuple #[.int .u64 ((hi * 18446744073709551616 + lo) / y), .int .u64 ((hi * 18446744073709551616 + lo) % y)]) ∧ ∃ n, w' = w.drewN n := by
  by_cases h : hi = 0
  · subst h
    rw [Int.zero_mul, Int.zero_add]
    exact div64_low lo y w h1 h2 l0 l1
  · obtain ⟨s, s1, hs, n1, n2⟩ := lead y (by omega) h2
    exact (div64_high hi lo y s w (by omega) h1 h2 l0 l1 s1 (Lib.hid hs) n1 n2).mono fun _ _ h => ⟨h.1, 0, h.2⟩
end Go.Proofs.Ytldcocckfemgbaa.Bits
