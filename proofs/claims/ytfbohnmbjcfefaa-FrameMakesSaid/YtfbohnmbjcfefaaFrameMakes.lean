/- The sectors of every record, or that there are none; how many any size has; no condition. -/
import Derived.Test.YtfbohnmbjcfefaaShell
import Derived.Test.YtfbohnmbjcfefaaFrameWakes
import Derived.Test.YtfbohnmbjcfefaaGFr
namespace Go.Proofs.Ytfbohnmbjcfefaa.Law
open Go.ChangeShapes Go.WideShapes Go.ChangeAt Go.RowKit Go.Proofs.Ytfbohnmbjcfefaa.Frame Pack Crc Els

theorem u32_nat {z : Int} (h : (Lit.int .u32 z).wf = true) : ∃ n : Nat, z = n ∧ n < 4294967296 := by
  have h : 0 ≤ z ∧ z ≤ 4294967295 := by simpa [Lit.wf, IntKind.min, IntKind.max, IntKind.bits, IntKind.signed] using h
  exact ⟨z.toNat, by omega, by omega⟩
theorem i64_range {z : Int} (h : (Lit.int .i64 z).wf = true) : -9223372036854775808 ≤ z ∧ z ≤ 9223372036854775807 := by
  simpa [Lit.wf, IntKind.min, IntKind.max, IntKind.bits, IntKind.signed] using h
theorem makes_walk (num : Nat) (s : ByteArray) (n : Int) (w : World) (hn : num < 4294967296) (hi : -9223372036854775808 ≤ n ∧ n ≤ 9223372036854775807) :
    Calls Try.prog 3 #[.int .u32 (num : Nat), .string s, .int .i64 n] w fun e w' => e = .returned (.bool true) ∧ Below w.heap.size w w' := by
  by_cases hs : 62000 < s.size
  · have t0 : decide ((62000 : Int) < (s.size : Int)) = true := decide_eq_true (by omega)
    go_enter Try.func3, Try.ntmps3
    go_wp2_with fail
    refine (wakes_frame w).mono ?_
    rintro e w1 ⟨rfl, hb⟩
    go_wp2_with fail
    go_ret
    exact ⟨rfl, hb⟩
  · have t0 : decide ((62000 : Int) < (s.size : Int)) = false := decide_eq_false (by omega)
    have F1 := f_make num s w hn (by omega)
    have F2 : Hid (∀ W, Calls Try.prog 10 #[.int .u32 (num : Nat), .string s] W (Made num s W)) := fun W => r_make num s W hn
    have S1 : Hid (∀ W, Calls Try.prog 12 #[.int .i64 n] W fun e w' => e = .returned (.int .i64 (sizeV n)) ∧ Below W.heap.size W w') := fun W => f_size n W hi
    have S2 : Hid (∀ W, Calls Try.prog 13 #[.int .i64 n] W fun e w' => e = .returned (.int .i64 (sizeV n)) ∧ W = w') := fun W => r_fsize n W hi
    have S3 : Hid (∀ W, Calls Try.prog 12 #[.int .i64 (s.size : Int)] W fun e w' => e = .returned (.int .i64 (sizeV s.size)) ∧ Below W.heap.size W w') := fun W => f_size s.size W (by omega)
    have S4 : Hid (∀ W, Calls Try.prog 13 #[.int .i64 (s.size : Int)] W fun e w' => e = .returned (.int .i64 (sizeV s.size)) ∧ W = w') := fun W => r_fsize s.size W (by omega)
    generalize sizeV n = x1 at *
    generalize sizeV (s.size : Int) = x2 at *
    unfold Made at F1 F2
    generalize makX num s = X at *
    generalize makL num s = l at *
    clear hs hn hi
    go_enter Try.func3, Try.ntmps3
    go_wp2_with fail
    refine F1.mono ?_
    rintro e w1 ⟨v, rfl, ht, hb⟩
    obtain ⟨A, c, rfl⟩ := ht.shape
    have T1 := Lib.hid ht
    have B1 := Lib.hid hb
    clear F1 ht hb
    go_wp2_with fail
    refine (F2.out w1).mono ?_
    rintro e w2 ⟨v, rfl, ht, hb⟩
    obtain ⟨A2, c2, rfl⟩ := ht.shape
    have T2 := Lib.hid (T1.out.below hb)
    have T3 := Lib.hid ht
    have B2 := Lib.hid (below_on B1.out hb)
    clear F2 ht hb T1
    go_wp2_with (first
      | (go_at_call 11
         refine (texts_same l _ _ _ _ w2 T2.out T3.out).mono ?_
         rintro e w3 ⟨rfl, d, rfl⟩
         have B3 : Hid (Below w.heap.size w (w2.drewN d)) := show Below _ _ _ from ⟨B2.out.os, B2.out.tape, B2.out.output, B2.out.size, B2.out.block⟩
         generalize w2.drewN d = w3 at *)
      | (go_at_call 12
         with_reducible refine (S1.out _).mono ?_
         rintro e w4 ⟨rfl, hb⟩
         have B4 := Lib.hid (below_on B3.out hb)
         clear hb)
      | (go_at_call 13
         with_reducible refine (S2.out _).mono ?_
         rintro e w5 ⟨rfl, rfl⟩)
      | (go_at_call 12
         with_reducible refine (S3.out _).mono ?_
         rintro e w6 ⟨rfl, hb⟩
         have B6 := Lib.hid (below_on B4.out hb)
         clear hb)
      | (go_at_call 13
         with_reducible refine (S4.out _).mono ?_
         rintro e w7 ⟨rfl, rfl⟩)
      | (go_at_call 8
         refine (wakes_frame _).mono ?_
         rintro e w8 ⟨rfl, hb⟩
         have B8 := Lib.hid (below_on B6.out hb)
         clear hb))
    go_ret
    exact ⟨rfl, B8.out⟩

set_option maxRecDepth 100000 in
theorem frameMakes_lifted (os : Os) (started : os.Started) (H : Type) (enc : TypeId × Value → H) :
    ReturnsInHanded {} Try.checked os 3 .any (Rows.frameMakesSpec.pre6 enc Try.prog Try.f3 Rows.frameMakesRow.domain false) (Rows.frameMakesSpec.post enc Try.prog Try.f3 false true false false) := by
  refine Shell.law_lifted (C := Try.checked) (tb := 4) (by kernel_rfl) started (by kernel_rfl) Try.func3
    (ChangeSpec.witness6 (enc := enc) (C := Try.checked) false ⟨#[], #[.int .u32 0, .string ⟨#[]⟩, .int .i64 0], []⟩ 8 (by kernel_rfl) (by kernel_rfl) (by kernel_rfl) (by kernel_rfl))
    (by kernel_rfl) (by kernel_rfl) rfl rfl Try.underlying4 ?_
  intro W base args ds p hval0 hA0
  have hval : ∀ (j : Nat) t v, Try.f3.params[j]? = some t → args[j]? = some v → Value.okWide Try.prog W .any base t v := hval0
  have hA : DataW.TrodAll enc Try.prog W 0 (fun _ => true) true Try.f3.params.toList args.toList ds p := hA0
  clear hval0 hA0
  rw [Try.params3] at hA hval
  obtain ⟨v0, vs0, d0, ds0, p0, q0, hargs, rfl, rfl, h0, r0⟩ := trodAll_cons hA
  obtain ⟨v1, vs1, d1, ds1, p1, q1, rfl, rfl, rfl, h1, r1⟩ := trodAll_cons r0
  obtain ⟨v2, vs2, d2, ds2, p2, q2, rfl, rfl, rfl, h2, r2⟩ := trodAll_cons r1
  obtain ⟨rfl, rfl, rfl⟩ := trodAll_nil r2
  obtain rfl : args = #[v0, v1, v2] := by cases args; simp_all
  refine ⟨rfl, ?_⟩
  obtain ⟨z0, rfl, -, -, w0⟩ := open_int Try.underlying22 (hval 0 22 v0 rfl rfl) h0
  obtain ⟨num, rfl, b0⟩ := u32_nat w0
  obtain ⟨s, rfl, -, -, w1⟩ := ChangeMaps.open_string Try.underlying9 (hval 1 9 v1 rfl rfl) h1
  obtain ⟨n, rfl, -, -, w2⟩ := open_int Try.underlying3 (hval 2 3 v2 rfl rfl) h2
  have b2 := i64_range w2
  exact makes_walk num s n W b0 b2

theorem frameMakes_over : Rows.frameMakesRow.holds Try.pinned (OpenSpec.ofChange Rows.frameMakesSpec) :=
  OpenClaim.holds_of_wide 3 Try.f3 rfl rfl rfl rfl rfl rfl rfl ⟨rfl, rfl, rfl, rfl, rfl⟩ rfl rfl rfl rfl rfl (by kernel_rfl) Try.func3 (by kernel_rfl)
    (of_decide_eq_true (by kernel_rfl)) (by unfold Func.isWrapper; first | (rw [if_pos (by decide +kernel)]; kernel_rfl) | (rw [if_neg (by decide +kernel)]; exact ⟨rfl, rfl⟩))
    (fun os st H enc _ => frameMakes_lifted os st H enc)

/-- The statement. -/
theorem frameMakes_proved : Rows.FrameMakesSaid := frameMakes_over
end Go.Proofs.Ytfbohnmbjcfefaa.Law
