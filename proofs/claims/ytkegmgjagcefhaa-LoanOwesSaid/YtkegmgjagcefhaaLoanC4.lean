/- The program's own package loan: told, which keeps a panic within. -/
import Derived.Test.YtkegmgjagcefhaaLoanC3
import Derived.Defers
import Derived.Recover
import Derived.WalkLawsBesides
namespace Go.Proofs.Ytkegmgjagcefhaa.Loan
open Go.ChangeShapes Go.WideShapes Go.ChangeAt Go.RowKit Accr Box

theorem assert_none (w : World) : (Instr.typeAssert .nilIface 20 24 true).run Try.prog w = .ok (.tuple #[.int .i64 0, .bool false]) w := by kernel_rfl
theorem assert_some (e : Int) (w : World) : (Instr.typeAssert (.iface 24 (.int .i64 e)) 20 24 true).run Try.prog w = .ok (.tuple #[.int .i64 e, .bool true]) w := by kernel_rfl
theorem idle_i (q : Addr) (w : World) :
    CallsD Try.prog 65 #[.pointer (some q)] .returning w fun e u' w' => e = .returned (.tuple #[]) ∧ u' = .returning ∧ w' = w := by
  refine callsD_of_wpS Try.func65 rfl fun c₀ cs hu => ?_
  have ha := assert_none w
  apply wpS_seq
  apply wpS_region
  simp [wpOpsS, go_sem, recoverD, hu, Try.ntmps65, Exit.thenS, ha]
  apply wpS_seq
  apply wpS_region
  simp [wpOpsS, go_sem, Array.replicate]
  refine wpS_cond (t := false) (by simp [Act.eval]) ?_
  simp only [Bool.false_eq_true, if_false]
  refine wpS_of_wp (wp_skip ?_)
  cases c₀
  simp_all [bodyPostS, results, Try.results65]
theorem caught_i (q : Addr) (x y : Int) (older : List PanicEntry) (w : World) (hc : w.cell? q = some (.int .i64 y)) (hz : w.frozen? q = false) :
    CallsD Try.prog 65 #[.pointer (some q)] (.panicking ({ v := .iface 24 (.int .i64 x), recovered := false } :: older)) w fun e u' w' =>
      e = .returned (.tuple #[]) ∧ u' = .panicking ({ v := .iface 24 (.int .i64 x), recovered := true } :: older) ∧ w' = w.setCell q (.int .i64 x) := by
  refine callsD_of_wpS Try.func65 rfl fun c₀ cs hu => ?_
  have ha := assert_some x w
  apply wpS_seq
  apply wpS_region
  simp [wpOpsS, go_sem, recoverD, hu, Try.ntmps65, Exit.thenS, ha]
  apply wpS_seq
  apply wpS_region
  simp [wpOpsS, go_sem, Array.replicate]
  refine wpS_cond (t := true) (by simp [Act.eval]) ?_
  simp only [if_true]
  apply wpS_region
  simp [wpOpsS, go_sem, hc, hz, bodyPostS, results, Try.results65]
theorem idle_l (q : Addr) (w : World) :
    CallsD Try.prog 68 #[.pointer (some q)] .returning w fun e u' w' => e = .returned (.tuple #[]) ∧ u' = .returning ∧ w' = w := by
  refine callsD_of_wpS Try.func68 rfl fun c₀ cs hu => ?_
  have ha := assert_none w
  apply wpS_seq
  apply wpS_region
  simp [wpOpsS, go_sem, recoverD, hu, Try.ntmps68, Exit.thenS, ha]
  apply wpS_seq
  apply wpS_region
  simp [wpOpsS, go_sem, Array.replicate]
  refine wpS_cond (t := false) (by simp [Act.eval]) ?_
  simp only [Bool.false_eq_true, if_false]
  refine wpS_of_wp (wp_skip ?_)
  cases c₀
  simp_all [bodyPostS, results, Try.results68]
theorem caught_l (q : Addr) (x y : Int) (older : List PanicEntry) (w : World) (hc : w.cell? q = some (.int .i64 y)) (hz : w.frozen? q = false) :
    CallsD Try.prog 68 #[.pointer (some q)] (.panicking ({ v := .iface 24 (.int .i64 x), recovered := false } :: older)) w fun e u' w' =>
      e = .returned (.tuple #[]) ∧ u' = .panicking ({ v := .iface 24 (.int .i64 x), recovered := true } :: older) ∧ w' = w.setCell q (.int .i64 x) := by
  refine callsD_of_wpS Try.func68 rfl fun c₀ cs hu => ?_
  have ha := assert_some x w
  apply wpS_seq
  apply wpS_region
  simp [wpOpsS, go_sem, recoverD, hu, Try.ntmps68, Exit.thenS, ha]
  apply wpS_seq
  apply wpS_region
  simp [wpOpsS, go_sem, Array.replicate]
  refine wpS_cond (t := true) (by simp [Act.eval]) ?_
  simp only [if_true]
  apply wpS_region
  simp [wpOpsS, go_sem, hc, hz, bodyPostS, results, Try.results68]
theorem toldI_ok (Fn : FuncId) (cap : Array Value) (n : Int) (w : World) (hF : ∀ (args : Array Value) (w : World), (callFunc Fn args).run Try.prog w = .ok (.enter Fn args) w) (h : Calls Try.prog Fn cap (w.alloc (.cells #[.int .i64 0] 24)) fun e w' => e = .returned (.int .i64 n) ∧ Below (w.alloc (.cells #[.int .i64 0] 24)).heap.size (w.alloc (.cells #[.int .i64 0] 24)) w') :
    Calls Try.prog 28 #[.func (.func Fn) #[] cap] w fun e w' => e = .returned (.tuple #[.int .i64 n, .int .i64 0]) ∧ Below w.heap.size w w' := by
  have hmf := make_fn
  obtain ⟨g, wb, e1, e2, hB, hb⟩ := boxd_new w #[.int .i64 0] 24
  rw [← e2] at h
  have H := Lib.hid h
  have HB := Lib.hid hB
  have HW := Lib.hid hb
  have HG : Hid (w.heap.size ≤ g) := show _ ≤ _ from Nat.le_of_eq e1.symm
  clear h hB hb
  go_enter_defers Try.func28, Try.ntmps28
  go_upto_region 1 with fail
  rw [← e2, ← e1]
  clear e1 e2
  go_wp2_with fail
  refine H.out.mono ?_
  rintro e w' ⟨rfl, hb⟩
  replace HW := Lib.hid (below_to HW.out hb)
  replace HB := Lib.hid (HB.out.below hb)
  have c0 := (HB.out.cell (i := 0)).trans (show (#[.int .i64 0] : Array Value)[0]? = some (.int .i64 0) from rfl)
  have f0 := boxd_free (i := 0) HB.out
  clear hb
  go_wp2_with fail
  refine leaves_cons (f := 65) (args := #[.pointer (some ⟨g, 0, none⟩)]) (by simp) (by simp [go_sem]) ?_
  refine (idle_i ⟨g, 0, none⟩ _).mono ?_
  rintro e u' w'' ⟨rfl, rfl, rfl⟩
  simp [Leaves, settle, results, Try.results28, go_sem, c0]
  exact below_one_of HW.out (one_set _ _ _ _) HG.out HW.out.size
theorem toldI_bad (Fn : FuncId) (cap : Array Value) (x : Int) (w : World) (hF : ∀ (args : Array Value) (w : World), (callFunc Fn args).run Try.prog w = .ok (.enter Fn args) w) (h : Calls Try.prog Fn cap (w.alloc (.cells #[.int .i64 0] 24)) fun e w' => e = .panicked (errL x) ∧ Below (w.alloc (.cells #[.int .i64 0] 24)).heap.size (w.alloc (.cells #[.int .i64 0] 24)) w') :
    Calls Try.prog 28 #[.func (.func Fn) #[] cap] w fun e w' => e = .returned (.tuple #[.int .i64 0, .int .i64 x]) ∧ Below w.heap.size w w' := by
  have hmf := make_fn
  obtain ⟨g, wb, e1, e2, hB, hb⟩ := boxd_new w #[.int .i64 0] 24
  rw [← e2] at h
  have H := Lib.hid h
  have HB := Lib.hid hB
  have HW := Lib.hid hb
  have HG : Hid (w.heap.size ≤ g) := show _ ≤ _ from Nat.le_of_eq e1.symm
  clear h hB hb
  go_enter_defers Try.func28, Try.ntmps28
  go_upto_region 1 with fail
  rw [← e2, ← e1]
  clear e1 e2
  go_wp2_with fail
  refine H.out.mono ?_
  rintro e w' ⟨rfl, hb⟩
  replace HW := Lib.hid (below_to HW.out hb)
  replace HB := Lib.hid (HB.out.below hb)
  have c0 := (HB.out.cell (i := 0)).trans (show (#[.int .i64 0] : Array Value)[0]? = some (.int .i64 0) from rfl)
  have f0 := boxd_free (i := 0) HB.out
  clear hb
  go_wp2_with fail
  refine leaves_cons (f := 65) (args := #[.pointer (some ⟨g, 0, none⟩)]) (by simp) (by simp [go_sem]) ?_
  refine (caught_i ⟨g, 0, none⟩ x 0 [] _ c0 f0).mono ?_
  rintro e u' w'' ⟨rfl, rfl, rfl⟩
  simp [Leaves, settle, results, Try.results28, go_sem, c0]
  exact below_one_of HW.out (one_set _ _ _ _) HG.out HW.out.size
set_option maxRecDepth 20000 in
theorem toldL_ok (Fn : FuncId) (cap : Array Value) (l : Ln) (k : Nat) (w : World) (hk : k < w.heap.size) (hF : ∀ (args : Array Value) (w : World), (callFunc Fn args).run Try.prog w = .ok (.enter Fn args) w) (h : Calls Try.prog Fn cap ((w.alloc (.cells #[.int .i64 0, .int .i64 0, .int .i64 0, .int .i64 0, .int .i64 0, .int .i64 0, .bool false, .int .i64 0, .int .i64 0, .int .i64 0, .int .i64 0, .int .i64 0, .int .i64 0] 23)).alloc (.cells #[.int .i64 0] 24)) fun e w' => e = .returned (.agg l.cells) ∧ One k ((w.alloc (.cells #[.int .i64 0, .int .i64 0, .int .i64 0, .int .i64 0, .int .i64 0, .int .i64 0, .bool false, .int .i64 0, .int .i64 0, .int .i64 0, .int .i64 0, .int .i64 0, .int .i64 0] 23)).alloc (.cells #[.int .i64 0] 24)) w') :
    Calls Try.prog 34 #[.func (.func Fn) #[] cap] w fun e w' => e = .returned (.tuple #[.agg l.cells, .int .i64 0]) ∧ One k w w' := by
  have HS := Lib.hid (ln_info l)
  have H1 := Lib.hid (ln_one l)
  have HZ : Hid (13 = l.cells.size) := show _ = _ from rfl
  generalize l.cells = C at *
  have hmf := make_fn
  obtain ⟨g, wb, e1, e2, hB, hb⟩ := boxd_new w #[.int .i64 0, .int .i64 0, .int .i64 0, .int .i64 0, .int .i64 0, .int .i64 0, .bool false, .int .i64 0, .int .i64 0, .int .i64 0, .int .i64 0, .int .i64 0, .int .i64 0] 23
  obtain ⟨g2, wc, e3, e4, hB2, hb2⟩ := boxd_new wb #[.int .i64 0] 24
  rw [← e2, ← e4] at h
  have e5 : g2 = g + 1 := by rw [e3, e2, Deep.nblk_alloc, e1]
  have H := Lib.hid h
  have HR : Hid (Boxd wc g #[.int .i64 0, .int .i64 0, .int .i64 0, .int .i64 0, .int .i64 0, .int .i64 0, .bool false, .int .i64 0, .int .i64 0, .int .i64 0, .int .i64 0, .int .i64 0, .int .i64 0] 23) := hB.below hb2
  have HB : Hid (Boxd wc g2 #[.int .i64 0] 24) := hB2
  have HW : Hid (Below w.heap.size w wc) := below_to hb hb2
  have HG : Hid (w.heap.size ≤ g ∧ w.heap.size ≤ g2 ∧ ¬ g = g2 ∧ ¬ g2 = g ∧ ¬ g = k ∧ ¬ g2 = k) := show _ ∧ _ ∧ ¬ _ ∧ ¬ _ ∧ ¬ _ ∧ ¬ _ by omega
  clear h hB hb hB2 hb2 hk
  go_enter_defers Try.func34, Try.ntmps34
  go_upto_region 1 with fail
  rw [← e2, ← e1, ← e5, ← e4]
  clear e1 e2 e3 e4 e5
  go_wp2_with fail
  refine H.out.mono ?_
  rintro e w' ⟨rfl, ho⟩
  replace HR := Lib.hid (HR.out.one ho HG.out.2.2.2.2.1)
  replace HB := Lib.hid (HB.out.one ho HG.out.2.2.2.2.2)
  have HO := Lib.hid ((One.of (g := k) HW.out).trans ho)
  clear ho HW
  go_wp2_with (first
    | (refine o_store rfl 23 _ _ rfl rfl _ _ rfl rfl _ _ HR.out HS.out HZ.out H1.out ?_; intro y hr ho; replace HR := Lib.hid hr; replace HB := Lib.hid (HB.out.one ho HG.out.2.2.2.1); replace HO := Lib.hid (one_far HO.out ho HG.out.1); clear hr ho)
    | (refine o_put rfl 24 _ _ rfl rfl g2 0 (.int .i64 0) rfl rfl rfl _ _ HB.out (by simp) err_one ?_; intro y hr ho; replace HB := Lib.hid hr; replace HR := Lib.hid (HR.out.one ho HG.out.2.2.1); replace HO := Lib.hid (one_far HO.out ho HG.out.2.1); clear hr ho))
  refine leaves_cons (f := 68) (args := #[.pointer (some ⟨g2, 0, none⟩)]) (by simp) (by simp [go_sem]) ?_
  refine (idle_l ⟨g2, 0, none⟩ _).mono ?_
  rintro e u' w'' ⟨rfl, rfl, rfl⟩
  have hc := (HB.out.cell (i := 0)).trans (show _ = some (.int .i64 0) from rfl)
  simp only [Leaves, settle]
  exact ⟨_, results_pair rfl _ _ g g2 _ _ _ (.int .i64 0) rfl rfl HR.out Try.underlying23 rfl HS.out (by simp [go_sem, hc]), rfl, HO.out⟩
set_option maxRecDepth 20000 in
theorem toldL_bad (Fn : FuncId) (cap : Array Value) (x : Int) (k : Nat) (w : World) (hk : k < w.heap.size) (hF : ∀ (args : Array Value) (w : World), (callFunc Fn args).run Try.prog w = .ok (.enter Fn args) w) (h : Calls Try.prog Fn cap ((w.alloc (.cells #[.int .i64 0, .int .i64 0, .int .i64 0, .int .i64 0, .int .i64 0, .int .i64 0, .bool false, .int .i64 0, .int .i64 0, .int .i64 0, .int .i64 0, .int .i64 0, .int .i64 0] 23)).alloc (.cells #[.int .i64 0] 24)) fun e w' => e = .panicked (errL x) ∧ One k ((w.alloc (.cells #[.int .i64 0, .int .i64 0, .int .i64 0, .int .i64 0, .int .i64 0, .int .i64 0, .bool false, .int .i64 0, .int .i64 0, .int .i64 0, .int .i64 0, .int .i64 0, .int .i64 0] 23)).alloc (.cells #[.int .i64 0] 24)) w') :
    Calls Try.prog 34 #[.func (.func Fn) #[] cap] w fun e w' => e = .returned (.tuple #[.agg ln0.cells, .int .i64 x]) ∧ One k w w' := by
  have HS := Lib.hid (ln_info ln0)
  have hmf := make_fn
  obtain ⟨g, wb, e1, e2, hB, hb⟩ := boxd_new w #[.int .i64 0, .int .i64 0, .int .i64 0, .int .i64 0, .int .i64 0, .int .i64 0, .bool false, .int .i64 0, .int .i64 0, .int .i64 0, .int .i64 0, .int .i64 0, .int .i64 0] 23
  obtain ⟨g2, wc, e3, e4, hB2, hb2⟩ := boxd_new wb #[.int .i64 0] 24
  rw [← e2, ← e4] at h
  have e5 : g2 = g + 1 := by rw [e3, e2, Deep.nblk_alloc, e1]
  have H := Lib.hid h
  have HR : Hid (Boxd wc g #[.int .i64 0, .int .i64 0, .int .i64 0, .int .i64 0, .int .i64 0, .int .i64 0, .bool false, .int .i64 0, .int .i64 0, .int .i64 0, .int .i64 0, .int .i64 0, .int .i64 0] 23) := hB.below hb2
  have HB : Hid (Boxd wc g2 #[.int .i64 0] 24) := hB2
  have HW : Hid (Below w.heap.size w wc) := below_to hb hb2
  have HG : Hid (w.heap.size ≤ g ∧ w.heap.size ≤ g2 ∧ ¬ g = g2 ∧ ¬ g2 = g ∧ ¬ g = k ∧ ¬ g2 = k) := show _ ∧ _ ∧ ¬ _ ∧ ¬ _ ∧ ¬ _ ∧ ¬ _ by omega
  clear h hB hb hB2 hb2 hk
  go_enter_defers Try.func34, Try.ntmps34
  go_upto_region 1 with fail
  rw [← e2, ← e1, ← e5, ← e4]
  clear e1 e2 e3 e4 e5
  go_wp2_with fail
  refine H.out.mono ?_
  rintro e w' ⟨rfl, ho⟩
  replace HR := Lib.hid (HR.out.one ho HG.out.2.2.2.2.1)
  replace HB := Lib.hid (HB.out.one ho HG.out.2.2.2.2.2)
  have HO := Lib.hid ((One.of (g := k) HW.out).trans ho)
  clear ho HW
  go_wp2_with fail
  have c0 := (HB.out.cell (i := 0)).trans (show (#[.int .i64 0] : Array Value)[0]? = some (.int .i64 0) from rfl)
  have f0 := boxd_free (i := 0) HB.out
  refine leaves_cons (f := 68) (args := #[.pointer (some ⟨g2, 0, none⟩)]) (by simp) (by simp [go_sem]) ?_
  refine (caught_l ⟨g2, 0, none⟩ x 0 [] _ c0 f0).mono ?_
  rintro e u' w'' ⟨rfl, rfl, rfl⟩
  have ho := one_set w' g2 0 (.int .i64 x)
  have HB2 : Boxd (w'.setCell ⟨g2, 0, none⟩ (.int .i64 x)) g2 #[.int .i64 x] 24 := boxd_set HB.out rfl
  have hc := (HB2.cell (i := 0)).trans (show _ = some (.int .i64 x) from rfl)
  simp only [settle]
  exact ⟨_, results_pair rfl _ _ g g2 _ _ _ (.int .i64 x) rfl rfl (HR.out.one ho HG.out.2.2.1) Try.underlying23 rfl HS.out (by simp [go_sem, hc]), rfl, one_far HO.out ho HG.out.2.1⟩
end Go.Proofs.Ytkegmgjagcefhaa.Loan
