/- A longer record has no fewer sectors; each has just so many bytes, the record's number, its own place, and how many there are; no condition. -/
import Derived.Test.YtfbohnmbjcfefaaShell
import Derived.Test.YtfbohnmbjcfefaaFrameWakes
import Derived.Test.YtfbohnmbjcfefaaGFr
import Derived.Deep.RegionHeld3
import Derived.Deep.DeepCutAuto
import Derived.BigFrame
import Derived.BigQuiet
import Derived.Deep.QuietTactic
namespace Go.Proofs.Ytfbohnmbjcfefaa.Law
open Go.ChangeShapes Go.WideShapes Go.ChangeAt Go.RowKit Go.Proofs.Ytfbohnmbjcfefaa.Frame Pack Crc Els

theorem u32_nat {z : Int} (h : (Lit.int .u32 z).wf = true) : ∃ n : Nat, z = n ∧ n < 4294967296 := by
  have h : 0 ≤ z ∧ z ≤ 4294967295 := by simpa [Lit.wf, IntKind.min, IntKind.max, IntKind.bits, IntKind.signed] using h
  exact ⟨z.toNat, by omega, by omega⟩
theorem i64_range {z : Int} (h : (Lit.int .i64 z).wf = true) : -9223372036854775808 ≤ z ∧ z ≤ 9223372036854775807 := by
  simpa [Lit.wf, IntKind.min, IntKind.max, IntKind.bits, IntKind.signed] using h
theorem below_new {a b : World} (h : Below a.heap.size a b) (o : Obj) : Below a.heap.size a (b.alloc o) := h.alloc h.size o
theorem u16_nat {z : Int} (h : (Lit.int .u16 z).wf = true) : ∃ n : Nat, z = n ∧ n < 65536 := by
  have h : 0 ≤ z ∧ z ≤ 65535 := by simpa [Lit.wf, IntKind.min, IntKind.max, IntKind.bits, IntKind.signed] using h
  exact ⟨z.toNat, by omega, by omega⟩
set_option maxRecDepth 20000 in
theorem r_zeros (n : Nat) (w : World) (h : n ≤ 1000000) : Calls Try.prog 20 #[.int .i64 (n : Int)] w fun e w' => e = .returned (.string (nulls n)) ∧ Below w.heap.size w w' := by
  have hmk0 := fun W : World => run_make_row' (P := Try.prog) 53 5 (.int .u8 0) 1 Try.underlying53 u8_info rfl .i64 .i64 n (by omega) (by omega) W
  have cv0 := fun W : World => nulls_text (P := Try.prog) (World.rowIs_made W (.int .u8 0) n 5) 53 9 Try.underlying53 Try.underlying5 Try.underlying9
  have t0 : decide ((n : Int) < 0) = false := decide_eq_false (by omega)
  go_enter Try.func20, Try.ntmps20
  go_wp2_with fail
  go_ret
  exact ⟨rfl, below_new (Below.refl _ _) _⟩
set_option maxRecDepth 20000 in
set_option maxHeartbeats 4000000 in
theorem sizes_walk (num A B : Nat) (w : World) (hn : num < 4294967296) (hA : A < 65536) (hB : B < 65536) :
    Calls Try.prog 7 #[.int .u32 (num : Nat), .int .u16 (A : Nat), .int .u16 (B : Nat)] w fun e w' => e = .returned (.bool true) ∧ Below w.heap.size w w' := by
  obtain ⟨X1, X2, f1, f2, y1, y2⟩ : ∃ X1 X2 : Nat, (wrap64 (if B < A then (B : Int) else (A : Int))).tmod 60001 = (X1 : Int) ∧ (wrap64 (if A < B then (B : Int) else (A : Int))).tmod 60001 = (X2 : Int) ∧ X1 ≤ 60000 ∧ X2 ≤ 60000 := by
    refine ⟨(if B < A then B else A) % 60001, (if A < B then B else A) % 60001, ?_, ?_, by omega, by omega⟩
    · rw [show wrap64 (if B < A then (B : Int) else (A : Int)) = ((if B < A then B else A : Nat) : Int) by unfold wrap64; split <;> omega]
      rfl
    · rw [show wrap64 (if A < B then (B : Int) else (A : Int)) = ((if A < B then B else A : Nat) : Int) by unfold wrap64; split <;> omega]
      rfl
  have f3 : (wrap64 (min (A : Int) (B : Int))).tmod 60001 = (X1 : Int) := by
    rw [← f1, show min (A : Int) (B : Int) = if B < A then (B : Int) else (A : Int) by split <;> omega]
  have f4 : (wrap64 (max (A : Int) (B : Int))).tmod 60001 = (X2 : Int) := by
    rw [← f2, show max (A : Int) (B : Int) = if A < B then (B : Int) else (A : Int) by split <;> omega]
  clear hA hB
  go_enter Try.func7, Try.ntmps7
  go_upto_if 24 with fail
  go_cut [7, 8] (fun s7 s8 wx => ∃ X Y : Nat, s7 = .int .i64 X ∧ s8 = .int .i64 Y ∧ X ≤ Y ∧ Y ≤ 60000 ∧ wx = w)
  case first =>
    by_cases h : X2 < X1
    · have t0 : decide (X2 < X1) = true := decide_eq_true h
      go_wp2_with fail
      all_goals (go_meet; exact ⟨X2, X1, rfl, rfl, by omega, by omega, rfl⟩)
    · have t0 : decide (X2 < X1) = false := decide_eq_false h
      go_wp2_with fail
      all_goals (go_meet; exact ⟨X1, X2, rfl, rfl, by omega, by omega, rfl⟩)
  case rest =>
    obtain ⟨X, Y, rfl, rfl, hxy, hy, rfl⟩ := hcut
    clear f1 f2 f3 f4 y1 y2
    have Z1 : Hid (∀ W, Calls Try.prog 12 #[.int .i64 (X : Int)] W fun e w' => e = .returned (.int .i64 (sizeN X : Nat)) ∧ Below W.heap.size W w') := fun W => by
      have := f_size X W (by omega)
      rwa [show sizeV (X : Int) = (sizeN X : Nat) by unfold sizeV; rw [if_pos (by omega)]; rfl] at this
    have Z2 : Hid (∀ W, Calls Try.prog 12 #[.int .i64 (Y : Int)] W fun e w' => e = .returned (.int .i64 (sizeN Y : Nat)) ∧ Below W.heap.size W w') := fun W => by
      have := f_size Y W (by omega)
      rwa [show sizeV (Y : Int) = (sizeN Y : Nat) by unfold sizeV; rw [if_pos (by omega)]; rfl] at this
    have Z3 : Hid (∀ W, Calls Try.prog 12 #[.int .i64 60000] W fun e w' => e = .returned (.int .i64 246) ∧ Below W.heap.size W w') := fun W => f_size 60000 W (by omega)
    have Z4 : Hid (∀ W, Calls Try.prog 12 #[.int .i64 60001] W fun e w' => e = .returned (.int .i64 0) ∧ Below W.heap.size W w') := fun W => f_size 60001 W (by omega)
    have Z5 : Hid (∀ W, Calls Try.prog 12 #[.int .i64 (-1)] W fun e w' => e = .returned (.int .i64 0) ∧ Below W.heap.size W w') := fun W => f_size (-1) W (by omega)
    have hp : 1 ≤ sizeN X := by unfold sizeN; omega
    have hpq : sizeN X ≤ sizeN Y := by unfold sizeN; omega
    generalize sizeN Y = q at *
    obtain ⟨z, hz⟩ : ∃ z, z = X % 3000 := ⟨_, rfl⟩
    have hz3 : z ≤ 2999 := by omega
    have r3 : (X : Int).tmod 3000 = (z : Int) := by rw [hz]; rfl
    have ZS : Hid (∀ W, Calls Try.prog 12 #[.int .i64 (z : Int)] W fun e w' => e = .returned (.int .i64 (sizeN z : Nat)) ∧ Below W.heap.size W w') := fun W => by
      have := f_size z W (by omega)
      rwa [show sizeV (z : Int) = (sizeN z : Nat) by unfold sizeV; rw [if_pos (by omega)]; rfl] at this
    have ZZ : Hid (∀ W, Calls Try.prog 20 #[.int .i64 (z : Int)] W fun e w' => e = .returned (.string (nulls z)) ∧ Below W.heap.size W w') := fun W => r_zeros z W (by omega)
    have ZM : Hid (∀ W, Calls Try.prog 9 #[.int .u32 (num : Nat), .string (nulls z)] W (Made num (nulls z) W)) := fun W => f_make num (nulls z) W hn (by rw [nulls_size]; omega)
    unfold Made at ZM
    have t1 : decide (q < sizeN X) = false := decide_eq_false (by omega)
    have t2 : decide (sizeN X < 1) = false := decide_eq_false (by omega)
    have t3 : ¬ sizeN X = 0 := by omega
    generalize hpX : sizeN X = px at *
    have HB0 : Hid (Below wc.heap.size wc wc) := Below.refl _ _
    clear hz hpX
    go_upto_region 7 with (first
      | (go_at_call 12
         with_reducible refine (Z1.out _).mono ?_
         rintro e y ⟨rfl, hb⟩
         replace HB0 := Lib.hid (below_on HB0.out hb)
         clear hb)
      | (go_at_call 12
         with_reducible refine (Z2.out _).mono ?_
         rintro e y ⟨rfl, hb⟩
         replace HB0 := Lib.hid (below_on HB0.out hb)
         clear hb)
      | (go_at_call 12
         with_reducible refine (Z3.out _).mono ?_
         rintro e y ⟨rfl, hb⟩
         replace HB0 := Lib.hid (below_on HB0.out hb)
         clear hb)
      | (go_at_call 12
         with_reducible refine (Z4.out _).mono ?_
         rintro e y ⟨rfl, hb⟩
         replace HB0 := Lib.hid (below_on HB0.out hb)
         clear hb)
      | (go_at_call 12
         with_reducible refine (Z5.out _).mono ?_
         rintro e y ⟨rfl, hb⟩
         replace HB0 := Lib.hid (below_on HB0.out hb)
         clear hb)
      | (go_at_call 20
         refine (ZZ.out _).mono ?_
         rintro e y ⟨rfl, hb⟩
         replace HB0 := Lib.hid (below_on HB0.out hb)
         clear hb)
      | (go_at_call 9
         refine (ZM.out _).mono ?_
         rintro e y ⟨v, rfl, ht, hb⟩
         have HT := Lib.hid ht
         replace HB0 := Lib.hid (below_on HB0.out hb)
         clear ht hb))
    by_cases h0 : num = 0
    · have e0 : ((num : Int) == 0) = true := by rw [h0]; rfl
      have hx : makX num (nulls z) = 1 := by unfold makX; rw [if_pos h0]
      have hl : makL num (nulls z) = [] := by unfold makL; rw [if_pos (Or.inl h0)]
      rw [hx]
      rw [hl] at HT
      obtain ⟨P, k, rfl, -, -, -⟩ := HT.out
      clear h0 hx hl
      go_wp2_with (go_at_call 8
                   refine (wakes_frame _).mono ?_
                   rintro e w9 ⟨rfl, hb⟩
                   replace HB0 := Lib.hid (below_on HB0.out hb)
                   clear hb)
      go_ret
      exact ⟨rfl, HB0.out⟩
    · have e0 : ((num : Int) == 0) = false := by rw [beq_eq_false_iff_ne]; omega
      have hx : makX num (nulls z) = 0 := by unfold makX; rw [if_neg h0, if_neg (by rw [nulls_size]; omega)]
      have hl : makL num (nulls z) = secL num (nulls z) := by unfold makL; rw [if_neg (by rw [nulls_size]; omega)]
      rw [hx]
      rw [hl] at HT
      have hsz : (nulls z).size = z := nulls_size z
      have hln : (secL num (nulls z)).length = sizeN z := by rw [secL_length, hsz]
      have hm := size_most (n := z) (by omega)
      obtain ⟨P, k, rfl, -, -, hc⟩ := HT.out
      have SEC : Hid (∀ j, j < sizeN z → ∃ x : ByteArray, (secL num (nulls z))[j]? = some x ∧ x.size = 256 ∧ numV x = num ∧ valN x 4 2 = j ∧ valN x 6 2 = sizeN z) := fun j hj =>
        ⟨_, secL_at (by rw [hsz]; exact hj), sec_size (piece_size (by rw [hsz]; exact hj)), num_sec (piece_size (by rw [hsz]; exact hj)) hn, sec_place (by omega), by rw [hsz]; exact sec_many (by omega)⟩
      have HC := Lib.hid hc
      rw [hln]
      have e1 : ((sizeN z : Int) != (sizeN z : Int)) = false := by simp
      have hm2 := hm.2
      clear h0 hx hl hsz hc HT hm
      generalize secL num (nulls z) = L at *
      generalize sizeN z = m at *
      go_wp2_with (go_at_call 12
                   with_reducible refine (ZS.out _).mono ?_
                   rintro e y ⟨rfl, hb⟩
                   have HYY := Lib.hid hb
                   replace HB0 := Lib.hid (below_on HB0.out hb)
                   clear hb)
      clear e1 ZS ZZ ZM Z1 Z2 Z3 Z4 Z5 hp hpq t1 t2 t3 r3 hz3
      go_loopw [11] (fun t wr => ∃ j : Nat, j ≤ m ∧ t = .int .i64 j ∧ Hid (Below y.heap.size y wr)) (fun t _ => m - (intOf t).toNat)
      case atStart => exact ⟨0, Nat.zero_le _, rfl, Below.refl _ _⟩
      case round =>
        obtain ⟨j, hj, rfl, HR⟩ := hrel
        by_cases hlt : j < m
        · obtain ⟨b, off, rfl, hb, hcell⟩ := HC.out (by omega)
          obtain ⟨x, hx, hx256, hxn, hx4, hx6⟩ := SEC.out j hlt
          have c1 : wr.cell? ⟨b, off + j, none⟩ = some (.string x) := ((below_on HYY.out HR.out).cell (p := ⟨b, off + j, none⟩) hb).trans (hcell j x hx)
          have l1 := World.block_lt_of_cell? wr _ c1
          have HNF : Hid (∀ W, Calls Try.prog 17 #[.string x] W fun e w' => e = .returned (.int .u32 (num : Nat)) ∧ Below W.heap.size W w') := fun W => by
            have := f_num x W (by omega)
            rwa [hxn] at this
          have q4 : 4 < x.size := by omega
          have g4 := byteN_at (s := x) (i := 4) q4
          have q5 : 5 < x.size := by omega
          have g5 := byteN_at (s := x) (i := 5) q5
          have q6 : 6 < x.size := by omega
          have g6 := byteN_at (s := x) (i := 6) q6
          have q7 : 7 < x.size := by omega
          have g7 := byteN_at (s := x) (i := 7) q7
          have v4 : byteN x 4 + 256 * byteN x 5 = j := by rw [← hx4]; show _ = byteN x 4 + 256 * (byteN x 5 + 256 * 0); omega
          have v6 : byteN x 6 + 256 * byteN x 7 = m := by rw [← hx6]; show _ = byteN x 6 + 256 * (byteN x 7 + 256 * 0); omega
          have k4 := byteN_lt x 4
          have k5 := byteN_lt x 5
          have k6 := byteN_lt x 6
          have k7 := byteN_lt x 7
          generalize byteN x 4 = n4 at *
          generalize byteN x 5 = n5 at *
          generalize byteN x 6 = n6 at *
          generalize byteN x 7 = n7 at *
          have z5 : IntKind.i64.wrap (256 * (n5 : Int)) = 256 * (n5 : Int) := IntWalk.i64_in _ (by omega)
          have z7 : IntKind.i64.wrap (256 * (n7 : Int)) = 256 * (n7 : Int) := IntWalk.i64_in _ (by omega)
          have z4 : IntKind.i64.wrap ((n4 : Int) + 256 * (n5 : Int)) = (j : Int) := by rw [IntWalk.i64_in _ (by omega)]; omega
          have z6 : IntKind.i64.wrap ((n6 : Int) + 256 * (n7 : Int)) = (m : Int) := by rw [IntWalk.i64_in _ (by omega)]; omega
          have y4 : IntKind.i64.wrap (n4 : Int) = n4 := IntWalk.i64_in _ (by omega)
          have y5 : IntKind.i64.wrap (n5 : Int) = n5 := IntWalk.i64_in _ (by omega)
          have y6 : IntKind.i64.wrap (n6 : Int) = n6 := IntWalk.i64_in _ (by omega)
          have y7 : IntKind.i64.wrap (n7 : Int) = n7 := IntWalk.i64_in _ (by omega)
          have e2 : ((num : Int) != (num : Int)) = false := by simp
          have e3 : ((j : Int) != (j : Int)) = false := by simp
          have e4 : ((m : Int) != (m : Int)) = false := by simp
          have u0 : decide ((j : Int) < (m : Int)) = true := decide_eq_true (by omega)
          have u1 : ((x.size : Int) != 256) = false := by rw [bne_eq_false_iff_eq]; omega
          have j0 : (0 : Int) ≤ j := by omega
          have j1 : (j : Int) < (m : Int) := by omega
          have s4 : (4 : Int) < (x.size : Int) := by omega
          have s5 : (5 : Int) < (x.size : Int) := by omega
          have s6 : (6 : Int) < (x.size : Int) := by omega
          have s7 : (7 : Int) < (x.size : Int) := by omega
          clear hcell hx hx256 hxn hx4 hx6 v4 v6 k4 k5 k6 k7
          go_wp2_with fail
          go_region_held3 (fun w' => w'.cell? ⟨b, off + j, none⟩ = some (.string x))
            (first | exact d1 | exact c1)
            (first
              | (go_at_call 17
                 refine (HNF.out _).mono ?_
                 rintro e w7 ⟨rfl, hb7⟩
                 have d1 : w7.cell? ⟨b, off + j, none⟩ = some (.string x) := (hb7.cell (p := ⟨b, off + j, none⟩) l1).trans c1
                 have HR7 : Hid (Below y.heap.size y w7) := below_on (show Below y.heap.size y wr.drew from ⟨HR.out.os, HR.out.tape, HR.out.output, HR.out.size, HR.out.block⟩) hb7
                 clear hb7))
          all_goals go_wp2_with fail
          all_goals go_roundw
          all_goals first
            | exact ⟨j + 1, by omega, by go_num, HR7⟩
            | (simp [intOf]; omega)
        · obtain rfl : j = m := by omega
          have u0 : decide ((j : Int) < (j : Int)) = false := decide_eq_false (by omega)
          have HBB := Lib.hid (below_on HB0.out HR.out)
          go_wp2_with (go_at_call 8
                       refine (wakes_frame _).mono ?_
                       rintro e w9 ⟨rfl, hb⟩
                       have HB9 := Lib.hid (below_on HBB.out hb)
                       clear hb)
          go_ret
          exact ⟨rfl, HB9.out⟩

set_option maxRecDepth 100000 in
theorem frameSizes_lifted (os : Os) (started : os.Started) (H : Type) (enc : TypeId × Value → H) :
    ReturnsInHanded {} Try.checked os 7 .any (Rows.frameSizesSpec.pre6 enc Try.prog Try.f7 Rows.frameSizesRow.domain false) (Rows.frameSizesSpec.post enc Try.prog Try.f7 false true false false) := by
  refine Shell.law_lifted (C := Try.checked) (tb := 4) (by kernel_rfl) started (by kernel_rfl) Try.func7
    (ChangeSpec.witness6 (enc := enc) (C := Try.checked) false ⟨#[], #[.int .u32 0, .int .u16 0, .int .u16 0], []⟩ 8 (by kernel_rfl) (by kernel_rfl) (by kernel_rfl) (by kernel_rfl))
    (by kernel_rfl) (by kernel_rfl) rfl rfl Try.underlying4 ?_
  intro W base args ds p hval0 hA0
  have hval : ∀ (j : Nat) t v, Try.f7.params[j]? = some t → args[j]? = some v → Value.okWide Try.prog W .any base t v := hval0
  have hA : DataW.TrodAll enc Try.prog W 0 (fun _ => true) true Try.f7.params.toList args.toList ds p := hA0
  clear hval0 hA0
  rw [Try.params7] at hA hval
  obtain ⟨v0, vs0, d0, ds0, p0, q0, hargs, rfl, rfl, h0, r0⟩ := trodAll_cons hA
  obtain ⟨v1, vs1, d1, ds1, p1, q1, rfl, rfl, rfl, h1, r1⟩ := trodAll_cons r0
  obtain ⟨v2, vs2, d2, ds2, p2, q2, rfl, rfl, rfl, h2, r2⟩ := trodAll_cons r1
  obtain ⟨rfl, rfl, rfl⟩ := trodAll_nil r2
  obtain rfl : args = #[v0, v1, v2] := by cases args; simp_all
  refine ⟨rfl, ?_⟩
  obtain ⟨z0, rfl, -, -, w0⟩ := open_int Try.underlying22 (hval 0 22 v0 rfl rfl) h0
  obtain ⟨num, rfl, b0⟩ := u32_nat w0
  obtain ⟨z1, rfl, -, -, w1⟩ := open_int Try.underlying46 (hval 1 46 v1 rfl rfl) h1
  obtain ⟨A, rfl, b1⟩ := u16_nat w1
  obtain ⟨z2, rfl, -, -, w2⟩ := open_int Try.underlying46 (hval 2 46 v2 rfl rfl) h2
  obtain ⟨B, rfl, b2⟩ := u16_nat w2
  exact sizes_walk num A B W b0 b1 b2

theorem frameSizes_over : Rows.frameSizesRow.holds Try.pinned (OpenSpec.ofChange Rows.frameSizesSpec) :=
  OpenClaim.holds_of_wide 7 Try.f7 rfl rfl rfl rfl rfl rfl rfl ⟨rfl, rfl, rfl, rfl, rfl⟩ rfl rfl rfl rfl rfl (by kernel_rfl) Try.func7 (by kernel_rfl)
    (of_decide_eq_true (by kernel_rfl)) (by unfold Func.isWrapper; first | (rw [if_pos (by decide +kernel)]; kernel_rfl) | (rw [if_neg (by decide +kernel)]; exact ⟨rfl, rfl⟩))
    (fun os st H enc _ => frameSizes_lifted os st H enc)

/-- The statement. -/
theorem frameSizes_proved : Rows.FrameSizesSaid := frameSizes_over
end Go.Proofs.Ytfbohnmbjcfefaa.Law
