/- Days and days more are as all at once for every loan; a loan that is closed stays as it is; no condition. -/
import Derived.Test.YtkegmgjagcefhaaShell
import Derived.Test.YtkegmgjagcefhaaOpenLn
import Derived.Test.YtkegmgjagcefhaaLoanWakes
import Derived.Test.YtkegmgjagcefhaaRefLoan2
import Derived.Test.YtkegmgjagcefhaaLoanMath2
namespace Go.Proofs.Ytkegmgjagcefhaa.Law
open Go.ChangeShapes Go.WideShapes Go.ChangeAt Go.RowKit Accr Box Loan RLoan

theorem wf_u16 {z : Int} (h : (Lit.int .u16 z).wf = true) : 0 ≤ z ∧ z ≤ 65535 := by simpa [Lit.wf, IntKind.min, IntKind.max, IntKind.bits, IntKind.signed] using h
set_option maxRecDepth 20000 in
set_option maxHeartbeats 4000000 in
theorem days_walk (l : Ln) (n m : Int) (w : World) (n0 : 0 ≤ n) (n1 : n ≤ 65535) (m0 : 0 ≤ m) (m1 : m ≤ 65535) : Calls Try.prog 7 #[.agg l.cells, .agg #[.int .u16 n, .int .u16 m]] w fun e w' => e = .returned (.bool true) ∧ Below w.heap.size w w' := by
  obtain ⟨g, w0, e0, f0, hB, hb⟩ := boxd_new w l.cells 23
  obtain ⟨k, w1, e1, f1, hK, hb2⟩ := boxd_new w0 #[.int .u16 n, .int .u16 m] 53
  have b1 : k = g + 1 := by rw [e1, f0, Deep.nblk_alloc, ← e0]
  have HL : Hid (Boxd w1 g l.cells 23) := hB.below hb2
  have HK : Hid (Boxd w1 k #[.int .u16 n, .int .u16 m] 53) := hK
  have HW : Hid (Below w.heap.size w w1) := below_to hb hb2
  clear hB hK hb hb2
  have Hn : IntKind.i64.wrap n = n := IntWalk.i64_in _ (by omega)
  have Hm : IntKind.i64.wrap m = m := IntWalk.i64_in _ (by omega)
  have r0 : 0 ≤ m.tmod 20000 := Int.tmod_nonneg _ m0
  have r1 : m.tmod 20000 < 20000 := Int.tmod_lt_of_pos _ (by decide)
  have S1 : wrap64 (n + m.tmod 20000) = n + m.tmod 20000 := by unfold wrap64; omega
  have S2 : IntKind.i64.wrap (n + m.tmod 20000) = n + m.tmod 20000 := IntWalk.i64_in _ (by omega)
  have S3 : IntKind.i64.wrap (m.tmod 20000) = m.tmod 20000 := IntWalk.i64_in _ (by omega)
  have hw := days_ways (l := l) n0 n1 r0 (show m.tmod 20000 ≤ 19999 by omega)
  have K1 : Hid (∀ W, Calls Try.prog 10 #[.agg l.cells, .int .i64 (n + m.tmod 20000)] W fun e w' => e = .returned (.tuple #[.agg (accR l (n + m.tmod 20000)).1.cells, .int .i64 (accR l (n + m.tmod 20000)).2]) ∧ Below W.heap.size W w') := fun W => c_accrue l _ W
  have K2 := Lib.hid (fun W => c_accrue l n W)
  have KW := Lib.hid wakes_loan
  have HSL := Lib.hid (ln_info l)
  have HSA := Lib.hid (ln_info (accR l (n + m.tmod 20000)).1)
  have HOA := Lib.hid (ln_one (accR l (n + m.tmod 20000)).1)
  have HZA : Hid (13 = ((accR l (n + m.tmod 20000)).1).cells.size) := show _ = _ from rfl
  have HSB := Lib.hid (ln_info (accR l n).1)
  have HOB := Lib.hid (ln_one (accR l n).1)
  have HZB : Hid (13 = ((accR l n).1).cells.size) := show _ = _ from rfl
  have K3 : Hid (∀ W, Calls Try.prog 10 #[.agg (accR l n).1.cells, .int .i64 (m.tmod 20000)] W fun e w' => e = .returned (.tuple #[.agg (accR (accR l n).1 (m.tmod 20000)).1.cells, .int .i64 (accR (accR l n).1 (m.tmod 20000)).2]) ∧ Below W.heap.size W w') := fun W => c_accrue _ _ W
  have KD := Lib.hid (fun W => alike (accR l (n + m.tmod 20000)).1 W)
  have XL1 : Hid (l.cells[1]? = some (.int .i64 l.prin)) := show _ = _ from rfl
  have XL2 : Hid (l.cells[2]? = some (.int .i64 l.intr)) := show _ = _ from rfl
  have XL3 : Hid (l.cells[3]? = some (.int .i64 l.subs)) := show _ = _ from rfl
  have XL8 : Hid (l.cells[8]? = some (.int .i64 l.closed)) := show _ = _ from rfl
  have XA1 : Hid ((accR l (n + m.tmod 20000)).1.cells[1]? = some (.int .i64 (accR l (n + m.tmod 20000)).1.prin)) := show _ = _ from rfl
  have XA2 : Hid ((accR l (n + m.tmod 20000)).1.cells[2]? = some (.int .i64 (accR l (n + m.tmod 20000)).1.intr)) := show _ = _ from rfl
  have XA3 : Hid ((accR l (n + m.tmod 20000)).1.cells[3]? = some (.int .i64 (accR l (n + m.tmod 20000)).1.subs)) := show _ = _ from rfl
  rcases hw with ⟨e, he, h1, h2⟩ | ⟨h1, h2⟩ | ⟨h1, h2, h3, h4, h5, h6, h7⟩
  · have t1 : (e != 0) = true := by rw [bne_iff_ne]; exact he
    have t2 : (e == 0) = false := by rw [beq_eq_false_iff_ne]; exact he
    have t3 : (e == e) = true := by simp
    rw [h1] at K1
    rw [h2] at K2
    clear he h1 h2 n0 n1 m0 m1 r0 r1
    clear K3 KD XL1 XL2 XL3 XL8 XA1 XA2 XA3
    generalize (accR l n).1.cells = CB at *
    generalize (accR l (n + m.tmod 20000)).1.cells = CA at *
    generalize l.cells = C at *
    go_enter Try.func7, Try.ntmps7
    go_upto_region 1 with fail
    rw [← f0, ← e0]
    rw [← f1, ← b1]
    clear e0 f0 e1 f1 b1
    have k0 := (HK.out.cell (i := 0)).trans (show (#[.int .u16 n, .int .u16 m] : Array Value)[0]? = some (.int .u16 n) from rfl)
    have k1 := (HK.out.cell (i := 1)).trans (show (#[.int .u16 n, .int .u16 m] : Array Value)[1]? = some (.int .u16 m) from rfl)
    go_upto_region 2 with (first
      | (refine o_load rfl 23 _ rfl _ rfl _ _ _ HL.out Try.underlying23 rfl HSL.out ?_)
      | (go_at_call 10; with_reducible refine (K1.out _).mono ?_; rintro e y1 ⟨rfl, hb⟩; replace HL := Lib.hid (HL.out.below hb); replace HK := Lib.hid (HK.out.below hb); replace HW := Lib.hid (below_to HW.out hb); clear hb)
      | (refine o_store rfl 23 _ _ rfl rfl y1.heap.size _ rfl rfl _ _ (heap_alloc_last _ _) HSA.out HZA.out HOA.out ?_; intro z1 hr ho; replace HL := Lib.hid ((HL.out.below (below_one _ _)).one ho (Nat.ne_of_lt HL.out.lt)); replace HK := Lib.hid ((HK.out.below (below_one _ _)).one ho (Nat.ne_of_lt HK.out.lt)); have HA := Lib.hid hr; replace HW := Lib.hid (below_one_of (below_to HW.out (below_one _ _)) ho HW.out.size (below_to HW.out (below_one _ _)).size); clear hr ho))
    have k0 := (HK.out.cell (i := 0)).trans (show (#[.int .u16 n, .int .u16 m] : Array Value)[0]? = some (.int .u16 n) from rfl)
    have k1 := (HK.out.cell (i := 1)).trans (show (#[.int .u16 n, .int .u16 m] : Array Value)[1]? = some (.int .u16 m) from rfl)
    go_upto_region 3 with (first
      | (refine o_load rfl 23 _ rfl _ rfl _ _ _ HL.out Try.underlying23 rfl HSL.out ?_)
      | (refine o_load rfl 23 _ rfl _ rfl _ _ _ HA.out Try.underlying23 rfl HSA.out ?_)
      | (go_at_call 10; with_reducible refine (K2.out _).mono ?_; rintro e y2 ⟨rfl, hb⟩; replace HL := Lib.hid (HL.out.below hb); replace HK := Lib.hid (HK.out.below hb); replace HA := Lib.hid (HA.out.below hb); replace HW := Lib.hid (below_to HW.out hb); clear hb)
      | (refine o_store rfl 23 _ _ rfl rfl y2.heap.size _ rfl rfl _ _ (heap_alloc_last _ _) HSB.out HZB.out HOB.out ?_; intro z2 hr ho; replace HL := Lib.hid ((HL.out.below (below_one _ _)).one ho (Nat.ne_of_lt HL.out.lt)); replace HK := Lib.hid ((HK.out.below (below_one _ _)).one ho (Nat.ne_of_lt HK.out.lt)); replace HA := Lib.hid ((HA.out.below (below_one _ _)).one ho (Nat.ne_of_lt HA.out.lt)); have HB := Lib.hid hr; replace HW := Lib.hid (below_one_of (below_to HW.out (below_one _ _)) ho HW.out.size (below_to HW.out (below_one _ _)).size); clear hr ho))
    go_wp2_with (first
      | (go_at_call 17; with_reducible refine (KW.out _).mono ?_; rintro e y3 ⟨rfl, hb⟩; replace HL := Lib.hid (HL.out.below hb); replace HK := Lib.hid (HK.out.below hb); replace HA := Lib.hid (HA.out.below hb); replace HB := Lib.hid (HB.out.below hb); replace HW := Lib.hid (below_to HW.out hb); clear hb))
    go_ret
    exact ⟨rfl, HW.out⟩
  · rw [h1] at K2
    rw [h2] at K1
    clear h1 h2 n0 n1 m0 m1 r0 r1
    clear K3 KD XL1 XL2 XL3 XL8 XA1 XA2 XA3
    generalize (accR l n).1.cells = CB at *
    generalize (accR l (n + m.tmod 20000)).1.cells = CA at *
    generalize l.cells = C at *
    go_enter Try.func7, Try.ntmps7
    go_upto_region 1 with fail
    rw [← f0, ← e0]
    rw [← f1, ← b1]
    clear e0 f0 e1 f1 b1
    have k0 := (HK.out.cell (i := 0)).trans (show (#[.int .u16 n, .int .u16 m] : Array Value)[0]? = some (.int .u16 n) from rfl)
    have k1 := (HK.out.cell (i := 1)).trans (show (#[.int .u16 n, .int .u16 m] : Array Value)[1]? = some (.int .u16 m) from rfl)
    go_upto_region 2 with (first
      | (refine o_load rfl 23 _ rfl _ rfl _ _ _ HL.out Try.underlying23 rfl HSL.out ?_)
      | (go_at_call 10; with_reducible refine (K1.out _).mono ?_; rintro e y1 ⟨rfl, hb⟩; replace HL := Lib.hid (HL.out.below hb); replace HK := Lib.hid (HK.out.below hb); replace HW := Lib.hid (below_to HW.out hb); clear hb)
      | (refine o_store rfl 23 _ _ rfl rfl y1.heap.size _ rfl rfl _ _ (heap_alloc_last _ _) HSA.out HZA.out HOA.out ?_; intro z1 hr ho; replace HL := Lib.hid ((HL.out.below (below_one _ _)).one ho (Nat.ne_of_lt HL.out.lt)); replace HK := Lib.hid ((HK.out.below (below_one _ _)).one ho (Nat.ne_of_lt HK.out.lt)); have HA := Lib.hid hr; replace HW := Lib.hid (below_one_of (below_to HW.out (below_one _ _)) ho HW.out.size (below_to HW.out (below_one _ _)).size); clear hr ho))
    have k0 := (HK.out.cell (i := 0)).trans (show (#[.int .u16 n, .int .u16 m] : Array Value)[0]? = some (.int .u16 n) from rfl)
    have k1 := (HK.out.cell (i := 1)).trans (show (#[.int .u16 n, .int .u16 m] : Array Value)[1]? = some (.int .u16 m) from rfl)
    go_upto_region 3 with (first
      | (refine o_load rfl 23 _ rfl _ rfl _ _ _ HL.out Try.underlying23 rfl HSL.out ?_)
      | (refine o_load rfl 23 _ rfl _ rfl _ _ _ HA.out Try.underlying23 rfl HSA.out ?_)
      | (go_at_call 10; with_reducible refine (K2.out _).mono ?_; rintro e y2 ⟨rfl, hb⟩; replace HL := Lib.hid (HL.out.below hb); replace HK := Lib.hid (HK.out.below hb); replace HA := Lib.hid (HA.out.below hb); replace HW := Lib.hid (below_to HW.out hb); clear hb)
      | (refine o_store rfl 23 _ _ rfl rfl y2.heap.size _ rfl rfl _ _ (heap_alloc_last _ _) HSB.out HZB.out HOB.out ?_; intro z2 hr ho; replace HL := Lib.hid ((HL.out.below (below_one _ _)).one ho (Nat.ne_of_lt HL.out.lt)); replace HK := Lib.hid ((HK.out.below (below_one _ _)).one ho (Nat.ne_of_lt HK.out.lt)); replace HA := Lib.hid ((HA.out.below (below_one _ _)).one ho (Nat.ne_of_lt HA.out.lt)); have HB := Lib.hid hr; replace HW := Lib.hid (below_one_of (below_to HW.out (below_one _ _)) ho HW.out.size (below_to HW.out (below_one _ _)).size); clear hr ho))
    go_wp2_with (first
      | (go_at_call 17; with_reducible refine (KW.out _).mono ?_; rintro e y3 ⟨rfl, hb⟩; replace HL := Lib.hid (HL.out.below hb); replace HK := Lib.hid (HK.out.below hb); replace HA := Lib.hid (HA.out.below hb); replace HB := Lib.hid (HB.out.below hb); replace HW := Lib.hid (below_to HW.out hb); clear hb))
    go_ret
    exact ⟨rfl, HW.out⟩
  · rw [h1] at K2
    rw [h2] at K1
    rw [h3, h2] at K3
    rw [h4] at XA1
    have t1 : (l.prin == l.prin) = true := by simp
    have t2 : decide (l.intr ≤ (accR l (n + m.tmod 20000)).1.intr) = true := decide_eq_true h5
    have t3 : decide (l.subs ≤ (accR l (n + m.tmod 20000)).1.subs) = true := decide_eq_true h6
    clear h1 h2 h3 h4 n0 n1 m0 m1 r0 r1
    by_cases hc : l.closed = 0
    · have t4 : (l.closed == 0) = true := by rw [hc]; rfl
      clear h7 hc
      generalize (accR l n).1.cells = CB at *
      generalize (accR l (n + m.tmod 20000)).1.cells = CA at *
      generalize (accR l (n + m.tmod 20000)).1.intr = i2 at *
      generalize (accR l (n + m.tmod 20000)).1.subs = i3 at *
      generalize l.prin = p1 at *
      generalize l.intr = p2 at *
      generalize l.subs = p3 at *
      generalize l.closed = p8 at *
      generalize l.cells = C at *
      go_enter Try.func7, Try.ntmps7
      go_upto_region 1 with fail
      rw [← f0, ← e0]
      rw [← f1, ← b1]
      clear e0 f0 e1 f1 b1
      have k0 := (HK.out.cell (i := 0)).trans (show (#[.int .u16 n, .int .u16 m] : Array Value)[0]? = some (.int .u16 n) from rfl)
      have k1 := (HK.out.cell (i := 1)).trans (show (#[.int .u16 n, .int .u16 m] : Array Value)[1]? = some (.int .u16 m) from rfl)
      go_upto_region 2 with (first
        | (refine o_load rfl 23 _ rfl _ rfl _ _ _ HL.out Try.underlying23 rfl HSL.out ?_)
        | (go_at_call 10; with_reducible refine (K1.out _).mono ?_; rintro e y1 ⟨rfl, hb⟩; replace HL := Lib.hid (HL.out.below hb); replace HK := Lib.hid (HK.out.below hb); replace HW := Lib.hid (below_to HW.out hb); clear hb)
        | (refine o_store rfl 23 _ _ rfl rfl y1.heap.size _ rfl rfl _ _ (heap_alloc_last _ _) HSA.out HZA.out HOA.out ?_; intro z1 hr ho; replace HL := Lib.hid ((HL.out.below (below_one _ _)).one ho (Nat.ne_of_lt HL.out.lt)); replace HK := Lib.hid ((HK.out.below (below_one _ _)).one ho (Nat.ne_of_lt HK.out.lt)); have HA := Lib.hid hr; replace HW := Lib.hid (below_one_of (below_to HW.out (below_one _ _)) ho HW.out.size (below_to HW.out (below_one _ _)).size); clear hr ho))
      have k0 := (HK.out.cell (i := 0)).trans (show (#[.int .u16 n, .int .u16 m] : Array Value)[0]? = some (.int .u16 n) from rfl)
      have k1 := (HK.out.cell (i := 1)).trans (show (#[.int .u16 n, .int .u16 m] : Array Value)[1]? = some (.int .u16 m) from rfl)
      go_upto_region 3 with (first
        | (refine o_load rfl 23 _ rfl _ rfl _ _ _ HL.out Try.underlying23 rfl HSL.out ?_)
        | (refine o_load rfl 23 _ rfl _ rfl _ _ _ HA.out Try.underlying23 rfl HSA.out ?_)
        | (go_at_call 10; with_reducible refine (K2.out _).mono ?_; rintro e y2 ⟨rfl, hb⟩; replace HL := Lib.hid (HL.out.below hb); replace HK := Lib.hid (HK.out.below hb); replace HA := Lib.hid (HA.out.below hb); replace HW := Lib.hid (below_to HW.out hb); clear hb)
        | (refine o_store rfl 23 _ _ rfl rfl y2.heap.size _ rfl rfl _ _ (heap_alloc_last _ _) HSB.out HZB.out HOB.out ?_; intro z2 hr ho; replace HL := Lib.hid ((HL.out.below (below_one _ _)).one ho (Nat.ne_of_lt HL.out.lt)); replace HK := Lib.hid ((HK.out.below (below_one _ _)).one ho (Nat.ne_of_lt HK.out.lt)); replace HA := Lib.hid ((HA.out.below (below_one _ _)).one ho (Nat.ne_of_lt HA.out.lt)); have HB := Lib.hid hr; replace HW := Lib.hid (below_one_of (below_to HW.out (below_one _ _)) ho HW.out.size (below_to HW.out (below_one _ _)).size); clear hr ho))
      have k0 := (HK.out.cell (i := 0)).trans (show (#[.int .u16 n, .int .u16 m] : Array Value)[0]? = some (.int .u16 n) from rfl)
      have k1 := (HK.out.cell (i := 1)).trans (show (#[.int .u16 n, .int .u16 m] : Array Value)[1]? = some (.int .u16 m) from rfl)
      go_upto_region 6 with (first
        | (refine o_load rfl 23 _ rfl _ rfl _ _ _ HL.out Try.underlying23 rfl HSL.out ?_)
        | (refine o_load rfl 23 _ rfl _ rfl _ _ _ HA.out Try.underlying23 rfl HSA.out ?_)
        | (refine o_load rfl 23 _ rfl _ rfl _ _ _ HB.out Try.underlying23 rfl HSB.out ?_)
        | (go_at_call 10; with_reducible refine (K3.out _).mono ?_; rintro e y3 ⟨rfl, hb⟩; replace HL := Lib.hid (HL.out.below hb); replace HK := Lib.hid (HK.out.below hb); replace HA := Lib.hid (HA.out.below hb); replace HB := Lib.hid (HB.out.below hb); replace HW := Lib.hid (below_to HW.out hb); clear hb)
        | (refine o_store rfl 23 _ _ rfl rfl y3.heap.size _ rfl rfl _ _ (heap_alloc_last _ _) HSA.out HZA.out HOA.out ?_; intro z3 hr ho; replace HL := Lib.hid ((HL.out.below (below_one _ _)).one ho (Nat.ne_of_lt HL.out.lt)); replace HK := Lib.hid ((HK.out.below (below_one _ _)).one ho (Nat.ne_of_lt HK.out.lt)); replace HA := Lib.hid ((HA.out.below (below_one _ _)).one ho (Nat.ne_of_lt HA.out.lt)); replace HB := Lib.hid ((HB.out.below (below_one _ _)).one ho (Nat.ne_of_lt HB.out.lt)); have HQ := Lib.hid hr; replace HW := Lib.hid (below_one_of (below_to HW.out (below_one _ _)) ho HW.out.size (below_to HW.out (below_one _ _)).size); clear hr ho))
      have l1 := (HL.out.cell (i := 1)).trans XL1.out
      have l2 := (HL.out.cell (i := 2)).trans XL2.out
      have l3 := (HL.out.cell (i := 3)).trans XL3.out
      have l8 := (HL.out.cell (i := 8)).trans XL8.out
      have a1 := (HA.out.cell (i := 1)).trans XA1.out
      have a2 := (HA.out.cell (i := 2)).trans XA2.out
      have a3 := (HA.out.cell (i := 3)).trans XA3.out
      go_wp2_with (first
        | (refine o_load rfl 23 _ rfl _ rfl _ _ _ HL.out Try.underlying23 rfl HSL.out ?_)
        | (refine o_load rfl 23 _ rfl _ rfl _ _ _ HA.out Try.underlying23 rfl HSA.out ?_)
        | (refine o_load rfl 23 _ rfl _ rfl _ _ _ HB.out Try.underlying23 rfl HSB.out ?_)
        | (refine o_load rfl 23 _ rfl _ rfl _ _ _ HQ.out Try.underlying23 rfl HSA.out ?_)
        | (go_at_call 16; with_reducible refine (KD.out _).mono ?_; rintro e y4 ⟨rfl, hb⟩; replace HL := Lib.hid (HL.out.below hb); replace HK := Lib.hid (HK.out.below hb); replace HA := Lib.hid (HA.out.below hb); replace HB := Lib.hid (HB.out.below hb); replace HQ := Lib.hid (HQ.out.below hb); replace HW := Lib.hid (below_to HW.out hb); clear hb; have l1 := (HL.out.cell (i := 1)).trans XL1.out; have l2 := (HL.out.cell (i := 2)).trans XL2.out; have l3 := (HL.out.cell (i := 3)).trans XL3.out; have l8 := (HL.out.cell (i := 8)).trans XL8.out; have a1 := (HA.out.cell (i := 1)).trans XA1.out; have a2 := (HA.out.cell (i := 2)).trans XA2.out; have a3 := (HA.out.cell (i := 3)).trans XA3.out)
        | (go_at_call 17; with_reducible refine (KW.out _).mono ?_; rintro e y5 ⟨rfl, hb⟩; replace HL := Lib.hid (HL.out.below hb); replace HK := Lib.hid (HK.out.below hb); replace HA := Lib.hid (HA.out.below hb); replace HB := Lib.hid (HB.out.below hb); replace HQ := Lib.hid (HQ.out.below hb); replace HW := Lib.hid (below_to HW.out hb); clear hb))
      go_ret
      exact ⟨rfl, HW.out⟩
    · have t4 : (l.closed == 0) = false := by rw [beq_eq_false_iff_ne]; exact hc
      replace h7 := h7 hc
      clear hc h5 h6 t2 t3
      rw [h7] at K1 K3 KD HSA HOA HZA XA1 XA2 XA3
      clear h7
      have t2 : decide (l.intr ≤ l.intr) = true := decide_eq_true (Int.le_refl _)
      have t3 : decide (l.subs ≤ l.subs) = true := decide_eq_true (Int.le_refl _)
      generalize (accR l n).1.cells = CB at *
      generalize l.prin = p1 at *
      generalize l.intr = p2 at *
      generalize l.subs = p3 at *
      generalize l.closed = p8 at *
      generalize l.cells = C at *
      go_enter Try.func7, Try.ntmps7
      go_upto_region 1 with fail
      rw [← f0, ← e0]
      rw [← f1, ← b1]
      clear e0 f0 e1 f1 b1
      have k0 := (HK.out.cell (i := 0)).trans (show (#[.int .u16 n, .int .u16 m] : Array Value)[0]? = some (.int .u16 n) from rfl)
      have k1 := (HK.out.cell (i := 1)).trans (show (#[.int .u16 n, .int .u16 m] : Array Value)[1]? = some (.int .u16 m) from rfl)
      go_upto_region 2 with (first
        | (refine o_load rfl 23 _ rfl _ rfl _ _ _ HL.out Try.underlying23 rfl HSL.out ?_)
        | (go_at_call 10; with_reducible refine (K1.out _).mono ?_; rintro e y1 ⟨rfl, hb⟩; replace HL := Lib.hid (HL.out.below hb); replace HK := Lib.hid (HK.out.below hb); replace HW := Lib.hid (below_to HW.out hb); clear hb)
        | (refine o_store rfl 23 _ _ rfl rfl y1.heap.size _ rfl rfl _ _ (heap_alloc_last _ _) HSA.out HZA.out HOA.out ?_; intro z1 hr ho; replace HL := Lib.hid ((HL.out.below (below_one _ _)).one ho (Nat.ne_of_lt HL.out.lt)); replace HK := Lib.hid ((HK.out.below (below_one _ _)).one ho (Nat.ne_of_lt HK.out.lt)); have HA := Lib.hid hr; replace HW := Lib.hid (below_one_of (below_to HW.out (below_one _ _)) ho HW.out.size (below_to HW.out (below_one _ _)).size); clear hr ho))
      have k0 := (HK.out.cell (i := 0)).trans (show (#[.int .u16 n, .int .u16 m] : Array Value)[0]? = some (.int .u16 n) from rfl)
      have k1 := (HK.out.cell (i := 1)).trans (show (#[.int .u16 n, .int .u16 m] : Array Value)[1]? = some (.int .u16 m) from rfl)
      go_upto_region 3 with (first
        | (refine o_load rfl 23 _ rfl _ rfl _ _ _ HL.out Try.underlying23 rfl HSL.out ?_)
        | (refine o_load rfl 23 _ rfl _ rfl _ _ _ HA.out Try.underlying23 rfl HSA.out ?_)
        | (go_at_call 10; with_reducible refine (K2.out _).mono ?_; rintro e y2 ⟨rfl, hb⟩; replace HL := Lib.hid (HL.out.below hb); replace HK := Lib.hid (HK.out.below hb); replace HA := Lib.hid (HA.out.below hb); replace HW := Lib.hid (below_to HW.out hb); clear hb)
        | (refine o_store rfl 23 _ _ rfl rfl y2.heap.size _ rfl rfl _ _ (heap_alloc_last _ _) HSB.out HZB.out HOB.out ?_; intro z2 hr ho; replace HL := Lib.hid ((HL.out.below (below_one _ _)).one ho (Nat.ne_of_lt HL.out.lt)); replace HK := Lib.hid ((HK.out.below (below_one _ _)).one ho (Nat.ne_of_lt HK.out.lt)); replace HA := Lib.hid ((HA.out.below (below_one _ _)).one ho (Nat.ne_of_lt HA.out.lt)); have HB := Lib.hid hr; replace HW := Lib.hid (below_one_of (below_to HW.out (below_one _ _)) ho HW.out.size (below_to HW.out (below_one _ _)).size); clear hr ho))
      have k0 := (HK.out.cell (i := 0)).trans (show (#[.int .u16 n, .int .u16 m] : Array Value)[0]? = some (.int .u16 n) from rfl)
      have k1 := (HK.out.cell (i := 1)).trans (show (#[.int .u16 n, .int .u16 m] : Array Value)[1]? = some (.int .u16 m) from rfl)
      go_upto_region 6 with (first
        | (refine o_load rfl 23 _ rfl _ rfl _ _ _ HL.out Try.underlying23 rfl HSL.out ?_)
        | (refine o_load rfl 23 _ rfl _ rfl _ _ _ HA.out Try.underlying23 rfl HSA.out ?_)
        | (refine o_load rfl 23 _ rfl _ rfl _ _ _ HB.out Try.underlying23 rfl HSB.out ?_)
        | (go_at_call 10; with_reducible refine (K3.out _).mono ?_; rintro e y3 ⟨rfl, hb⟩; replace HL := Lib.hid (HL.out.below hb); replace HK := Lib.hid (HK.out.below hb); replace HA := Lib.hid (HA.out.below hb); replace HB := Lib.hid (HB.out.below hb); replace HW := Lib.hid (below_to HW.out hb); clear hb)
        | (refine o_store rfl 23 _ _ rfl rfl y3.heap.size _ rfl rfl _ _ (heap_alloc_last _ _) HSA.out HZA.out HOA.out ?_; intro z3 hr ho; replace HL := Lib.hid ((HL.out.below (below_one _ _)).one ho (Nat.ne_of_lt HL.out.lt)); replace HK := Lib.hid ((HK.out.below (below_one _ _)).one ho (Nat.ne_of_lt HK.out.lt)); replace HA := Lib.hid ((HA.out.below (below_one _ _)).one ho (Nat.ne_of_lt HA.out.lt)); replace HB := Lib.hid ((HB.out.below (below_one _ _)).one ho (Nat.ne_of_lt HB.out.lt)); have HQ := Lib.hid hr; replace HW := Lib.hid (below_one_of (below_to HW.out (below_one _ _)) ho HW.out.size (below_to HW.out (below_one _ _)).size); clear hr ho))
      have l1 := (HL.out.cell (i := 1)).trans XL1.out
      have l2 := (HL.out.cell (i := 2)).trans XL2.out
      have l3 := (HL.out.cell (i := 3)).trans XL3.out
      have l8 := (HL.out.cell (i := 8)).trans XL8.out
      have a1 := (HA.out.cell (i := 1)).trans XA1.out
      have a2 := (HA.out.cell (i := 2)).trans XA2.out
      have a3 := (HA.out.cell (i := 3)).trans XA3.out
      go_wp2_with (first
        | (refine o_load rfl 23 _ rfl _ rfl _ _ _ HL.out Try.underlying23 rfl HSL.out ?_)
        | (refine o_load rfl 23 _ rfl _ rfl _ _ _ HA.out Try.underlying23 rfl HSA.out ?_)
        | (refine o_load rfl 23 _ rfl _ rfl _ _ _ HB.out Try.underlying23 rfl HSB.out ?_)
        | (refine o_load rfl 23 _ rfl _ rfl _ _ _ HQ.out Try.underlying23 rfl HSA.out ?_)
        | (go_at_call 16; with_reducible refine (KD.out _).mono ?_; rintro e y4 ⟨rfl, hb⟩; replace HL := Lib.hid (HL.out.below hb); replace HK := Lib.hid (HK.out.below hb); replace HA := Lib.hid (HA.out.below hb); replace HB := Lib.hid (HB.out.below hb); replace HQ := Lib.hid (HQ.out.below hb); replace HW := Lib.hid (below_to HW.out hb); clear hb; have l1 := (HL.out.cell (i := 1)).trans XL1.out; have l2 := (HL.out.cell (i := 2)).trans XL2.out; have l3 := (HL.out.cell (i := 3)).trans XL3.out; have l8 := (HL.out.cell (i := 8)).trans XL8.out; have a1 := (HA.out.cell (i := 1)).trans XA1.out; have a2 := (HA.out.cell (i := 2)).trans XA2.out; have a3 := (HA.out.cell (i := 3)).trans XA3.out)
        | (go_at_call 17; with_reducible refine (KW.out _).mono ?_; rintro e y5 ⟨rfl, hb⟩; replace HL := Lib.hid (HL.out.below hb); replace HK := Lib.hid (HK.out.below hb); replace HA := Lib.hid (HA.out.below hb); replace HB := Lib.hid (HB.out.below hb); replace HQ := Lib.hid (HQ.out.below hb); replace HW := Lib.hid (below_to HW.out hb); clear hb))
      go_ret
      exact ⟨rfl, HW.out⟩
set_option maxRecDepth 100000 in
theorem loanDays_lifted (os : Os) (started : os.Started) (H : Type) (enc : TypeId × Value → H) :
    ReturnsInHanded {} Try.checked os 7 .any (Rows.loanDaysSpec.pre6 enc Try.prog Try.f7 Rows.loanDaysRow.domain false) (Rows.loanDaysSpec.post enc Try.prog Try.f7 false true false false) := by
  refine Shell.law_lifted (C := Try.checked) (tb := 4) (by kernel_rfl) started (by kernel_rfl) Try.func7
    (ChangeSpec.witness6 (enc := enc) (C := Try.checked) false ⟨#[], #[Value.agg #[.int .i64 0, .int .i64 0, .int .i64 0, .int .i64 0, .int .i64 0, .int .i64 0, .bool false, .int .i64 0, .int .i64 0, .int .i64 0, .int .i64 0, .int .i64 0, .int .i64 0], Value.agg #[.int .u16 0, .int .u16 0]], []⟩ 8 (by kernel_rfl) (by kernel_rfl) (by kernel_rfl) (by kernel_rfl))
    (by kernel_rfl) (by kernel_rfl) rfl rfl Try.underlying4 ?_
  intro W base args ds p hval0 hA0
  have hval : ∀ (j : Nat) t v, Try.f7.params[j]? = some t → args[j]? = some v → Value.okWide Try.prog W .any base t v := hval0
  have hA : DataW.TrodAll enc Try.prog W 0 (fun _ => true) true Try.f7.params.toList args.toList ds p := hA0
  clear hval0 hA0
  rw [Try.params7] at hA hval
  obtain ⟨v0, vs0, d0, ds0, p0, q0, hargs, rfl, rfl, h0, r0⟩ := trodAll_cons hA
  obtain ⟨v1, vs1, d1, ds1, p1, q1, rfl, rfl, rfl, h1, r1⟩ := trodAll_cons r0
  obtain ⟨rfl, rfl, rfl⟩ := trodAll_nil r1
  obtain rfl : args = #[v0, v1] := by cases args; simp_all
  refine ⟨rfl, ?_⟩
  obtain ⟨l, rfl, hf0⟩ := open_ln (hval 0 23 v0 rfl rfl) h0
  obtain ⟨zs1, hzl1, rfl, hz1⟩ := Shell.open_arr Try.underlying53 Try.underlying52 (by kernel_rfl) (by kernel_rfl) (hval 1 53 v1 rfl rfl) h1
  obtain ⟨n0, n1, rfl⟩ := Shell.list2 zs1 hzl1
  have bn := wf_u16 (hz1 n0 (by simp))
  have bm := wf_u16 (hz1 n1 (by simp))
  exact days_walk l n0 n1 W bn.1 bn.2 bm.1 bm.2

theorem loanDays_over : Rows.loanDaysRow.holds Try.pinned (OpenSpec.ofChange Rows.loanDaysSpec) :=
  OpenClaim.holds_of_wide 7 Try.f7 rfl rfl rfl rfl rfl rfl rfl ⟨rfl, rfl, rfl, rfl, rfl⟩ rfl rfl rfl rfl rfl (by kernel_rfl) Try.func7 (by kernel_rfl)
    (of_decide_eq_true (by kernel_rfl)) (by unfold Func.isWrapper; first | (rw [if_pos (by decide +kernel)]; kernel_rfl) | (rw [if_neg (by decide +kernel)]; exact ⟨rfl, rfl⟩))
    (fun os st H enc _ => loanDays_lifted os st H enc)

/-- The statement. -/
theorem loanDays_proved : Rows.LoanDaysSaid := loanDays_over
end Go.Proofs.Ytkegmgjagcefhaa.Law
