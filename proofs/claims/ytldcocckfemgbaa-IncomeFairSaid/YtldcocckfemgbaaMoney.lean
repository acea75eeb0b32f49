/- What money's Good, Mul, Div and MulDiv answer, at every input. -/
import Derived.Test.YtldcocckfemgbaaBits
import Derived.Handy
namespace Go.Proofs.Ytldcocckfemgbaa.Money
open Go.ChangeShapes Go.WideShapes Go.ChangeAt Go.RowKit Bits

theorem ret_three {j k : IntKind} {a b c d : Int} {e f : Bool} (h1 : a = c) (h2 : b = d) (h3 : e = f) : Ending.returned (.tuple #[.int j a, .int k b, .bool e]) = .returned (.tuple #[.int j c, .int k d, .bool f]) := by rw [h1, h2, h3]

def goodB (a : Int) : Bool := decide (-10000000000000 ≤ a ∧ a ≤ 10000000000000)
theorem goodB_iff (a : Int) : goodB a = true ↔ (-10000000000000 ≤ a ∧ a ≤ 10000000000000) := by unfold goodB; simp
theorem ret_bool {a b : Bool} (h : a = b) : Ending.returned (.bool a) = .returned (.bool b) := by rw [h]

theorem mul_any (a b : Int) (w : World) (a0 : 0 ≤ a) (a1 : a ≤ 18446744073709551615) (b0 : 0 ≤ b) (b1 : b ≤ 18446744073709551615) :
    Calls Try.prog 19 #[.int .u64 a, .int .u64 b] w fun e w' => e = .returned (.tuple #[.int .u64 (a * b / 18446744073709551616), .int .u64 (a * b % 18446744073709551616)]) ∧ w = w' := by
  go_enter Try.func19, Try.ntmps19
  go_wp2_with (go_at_call 25; refine (mul64_any _ _ _ (by omega) (by omega) (by omega) (by omega)).mono ?_; rintro e w' ⟨rfl, rfl⟩)
  go_ret2
  exact ⟨rfl, rfl⟩

theorem div_ok (hi lo c : Int) (w : World) (h0 : 0 ≤ hi) (h1 : hi < c) (h2 : c ≤ 18446744073709551615) (l0 : 0 ≤ lo) (l1 : lo ≤ 18446744073709551615) :
    Calls Try.prog 20 #[.int .u64 hi, .int .u64 lo, .int .u64 c] w fun e w' => e = .returned (.tuple #[.int .u64 ((hi * 18446744073709551616 + lo) / c), .int .u64 ((hi * 18446744073709551616 + lo) % c), .bool true]) ∧ ∃ n, w' = w.drewN n := by
  go_enter Try.func20, Try.ntmps20
  go_wp2_with (go_at_call 26; refine (div64_any _ _ _ _ (by omega) (by omega) (by omega) (by omega) (by omega)).mono ?_; rintro e w' ⟨rfl, n, rfl⟩)
  go_ret3
  exact ⟨rfl, n, rfl⟩

theorem div_no (hi lo c : Int) (w : World) (h1 : c ≤ hi) :
    Calls Try.prog 20 #[.int .u64 hi, .int .u64 lo, .int .u64 c] w fun e w' => e = .returned (.tuple #[.int .u64 0, .int .u64 0, .bool false]) ∧ w = w' := by
  go_enter Try.func20, Try.ntmps20
  go_wp2
  go_ret3
  exact ⟨rfl, rfl⟩

def risesB (q r c how : Int) : Bool := decide (how = 1 ∧ 0 < r ∨ how = 2 ∧ (c - r < r ∨ r = c - r ∧ q % 2 = 1))
theorem risesB_yes {q r c how : Int} (h : how = 1 ∧ 0 < r ∨ how = 2 ∧ (c - r < r ∨ r = c - r ∧ q % 2 = 1)) : risesB q r c how = true := by unfold risesB; simpa using h
theorem risesB_no {q r c how : Int} (h : ¬ (how = 1 ∧ 0 < r ∨ how = 2 ∧ (c - r < r ∨ r = c - r ∧ q % 2 = 1))) : risesB q r c how = false := by unfold risesB; simpa using h

set_option maxHeartbeats 400000 in
theorem rises_any (q r c how : Int) (w : World) (q0 : 0 ≤ q) (q1 : q ≤ 18446744073709551615) (r0 : 0 ≤ r) (r1 : r < c) (c1 : c ≤ 18446744073709551615) :
    Calls Try.prog 21 #[.int .u64 q, .int .u64 r, .int .u64 c, .int .i64 how] w fun e w' => e = .returned (.bool (risesB q r c how)) ∧ w = w' := by
  by_cases h1 : how = 1
  · subst h1
    by_cases h2 : 0 < r
    · have H := Lib.hid (risesB_yes (q := q) (c := c) (Or.inl ⟨rfl, h2⟩))
      go_enter Try.func21, Try.ntmps21
      go_wp2
      go_ret
      exact ⟨ret_bool H.out.symm, rfl⟩
    · have H := Lib.hid (risesB_no (q := q) (r := r) (c := c) (how := 1) (by omega))
      go_enter Try.func21, Try.ntmps21
      go_wp2
      go_ret
      exact ⟨ret_bool H.out.symm, rfl⟩
  · by_cases h2 : how = 2
    · subst h2
      by_cases h3 : c - r < r
      · have H := Lib.hid (risesB_yes (q := q) (r := r) (c := c) (how := 2) (by omega))
        go_enter Try.func21, Try.ntmps21
        go_wp2
        go_ret
        exact ⟨ret_bool H.out.symm, rfl⟩
      · by_cases h4 : r = c - r
        · by_cases h5 : q % 2 = 1
          · have H := Lib.hid (risesB_yes (q := q) (r := r) (c := c) (how := 2) (by omega))
            have b4 : (r == c - r) = true := by simpa using h4
            have b5 : (q % 2 == 1) = true := by simpa using h5
            clear h4 h5
            go_enter Try.func21, Try.ntmps21
            go_wp2
            go_ret
            exact ⟨ret_bool H.out.symm, rfl⟩
          · have H := Lib.hid (risesB_no (q := q) (r := r) (c := c) (how := 2) (by omega))
            have b4 : (r == c - r) = true := by simpa using h4
            have b5 : (q % 2 == 1) = false := by simpa using h5
            clear h4 h5
            go_enter Try.func21, Try.ntmps21
            go_wp2
            go_ret
            exact ⟨ret_bool H.out.symm, rfl⟩
        · have H := Lib.hid (risesB_no (q := q) (r := r) (c := c) (how := 2) (by omega))
          have b4 : (r == c - r) = false := by simpa using h4
          clear h4
          go_enter Try.func21, Try.ntmps21
          go_wp2
          go_ret
          exact ⟨ret_bool H.out.symm, rfl⟩
    · have H := Lib.hid (risesB_no (q := q) (r := r) (c := c) (how := how) (by omega))
      have b1 : (how == 1) = false := by simpa using h1
      have b2 : (how == 2) = false := by simpa using h2
      clear h1 h2
      go_enter Try.func21, Try.ntmps21
      go_wp2
      go_ret
      exact ⟨ret_bool H.out.symm, rfl⟩
end Go.Proofs.Ytldcocckfemgbaa.Money
