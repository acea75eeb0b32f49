/- The examples of layer 13, and small contracts that its laws lean on. -/
import Derived.Test.YtkcfheaikhfonaaShell
import Derived.Test.YtkcfheaikhfonaaAccrue2
import Derived.Test.YtkcfheaikhfonaaRefAccrue
import Derived.Test.YtkcfheaikhfonaaMod
import Derived.Deep.QuietTactic
import Derived.BigQuiet
namespace Go.Proofs.Ytkcfheaikhfonaa.Law
open Go.ChangeShapes Go.WideShapes Go.ChangeAt Go.RowKit Accr RAccr

theorem mod_is (x n : Int) (w : World) (h : 1 ≤ n) (h2 : n ≤ 1000000000) : Calls Try.prog 16 #[.int .i64 x, .int .i64 n] w fun e w' => e = .returned (.int .i64 ((x.tmod n + n).tmod n)) ∧ w = w' := by
  obtain ⟨W1, W2, W3⟩ := Mod.mod_facts x n h h2
  clear W2 W3
  have hn : (n == 0) = false := by rw [beq_eq_false_iff_ne]; omega
  have hn1 : decide (n < 1) = false := decide_eq_false (by omega)
  have hn2 : ¬ n = -1 := by omega
  have hn3 : (n == -1) = false := by rw [beq_eq_false_iff_ne]; exact hn2
  clear h2
  go_enter Try.func16, Try.ntmps16
  go_wp2
  go_ret
  exact ⟨rfl, rfl⟩
theorem quiet_of {P : Program} {f : FuncId} {args : Array Value} {w : World} {n : Nat} {v : Value} (h : ∀ w, Calls P f args w fun e w' => e = .returned v ∧ w = w') :
    Calls P f args (w.drewN n) fun e w' => e = .returned v ∧ ∃ m, w' = w.drewN m := (h _).mono fun _ _ k => ⟨k.1, n, k.2.symm⟩
theorem daily_is (p r v x : Int) (w : World) (hv : dV p r = v) (hx : dE p r = x) : Calls Try.prog 7 #[.int .i64 p, .int .i64 r] w fun e w' => e = .returned (.tuple #[.int .i64 v, .int .i64 x]) ∧ ∃ n, w' = w.drewN n := by
  rw [← hv, ← hx]; exact c_daily p r w
theorem add_is (h p r n v x : Int) (w : World) (hv : aV h p r n = v) (hx : aE h p r n = x) : Calls Try.prog 9 #[.int .i64 h, .int .i64 p, .int .i64 r, .int .i64 n] w fun e w' => e = .returned (.tuple #[.int .i64 v, .int .i64 x]) ∧ Below w.heap.size w w' := by
  rw [← hv, ← hx]; exact c_add h p r n w
theorem whole_is (m v : Int) (w : World) (h : m ≤ 9223372036854775807) (hv : wholeI m = v) : Calls Try.prog 14 #[.int .i64 m] w fun e w' => e = .returned (.int .i64 v) ∧ w = w' := by
  rw [← hv]; exact whole_any m w h
theorem take_is (m c v x : Int) (w : World) (h : m ≤ 9223372036854775807) (hv : tV m c = v) (hx : tE m c = x) : Calls Try.prog 12 #[.int .i64 m, .int .i64 c] w fun e w' => e = .returned (.tuple #[.int .i64 v, .int .i64 x]) ∧ w = w' := by
  rw [← hv, ← hx]; exact c_take m c w h

theorem wakes_accrue (w : World) : Calls Try.prog 11 #[] w fun e w' => e = .returned (.bool true) ∧ Below w.heap.size w w' := by
  have K1 := Lib.hid (fun W => daily_is 1000000 50000 136986301 0 W (by kernel_rfl) (by kernel_rfl))
  have K2 := Lib.hid (fun W => add_is 5 1000000 50000 2 273972607 0 W (by kernel_rfl) (by kernel_rfl))
  have K3 := Lib.hid (fun W => whole_is 273972607 273 W (by omega) (by kernel_rfl))
  go_enter Try.func11, Try.ntmps11
  go_wp2_with fail
  refine (K1.out _).mono ?_
  rintro e w1 ⟨rfl, n, rfl⟩
  go_wp2_with fail
  refine (K2.out _).mono ?_
  rintro e w2 ⟨rfl, hb⟩
  have HB := Lib.hid hb
  clear hb
  go_wp2_with fail
  refine (K3.out _).mono ?_
  rintro e w3 ⟨rfl, rfl⟩
  go_wp2_with fail
  go_ret
  exact ⟨rfl, below_via (below_drewN (Below.refl _ _) n) HB.out⟩
end Go.Proofs.Ytkcfheaikhfonaa.Law
