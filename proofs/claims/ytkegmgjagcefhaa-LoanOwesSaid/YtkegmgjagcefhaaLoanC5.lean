/- The program's own package loan: the closures of Capitalize, Fee, Draw, Owes, Close. -/
import Derived.Test.YtkegmgjagcefhaaLoanC4
namespace Go.Proofs.Ytkegmgjagcefhaa.Loan
open Go.ChangeShapes Go.WideShapes Go.ChangeAt Go.RowKit Accr Box Slice Money

/-- What stands while a closure runs: the loan's box g, the box g2 of what it tells, the boxes of what it holds beside. -/
structure St (w : World) (g g2 : Nat) (C R : Array Value) (ks : List (Nat × Value × TypeId)) (W : World) : Prop where
  box : Boxd W g C 23
  res : Boxd W g2 R 23
  one : One g w W
  ne : ¬ g2 = g
  low : w.heap.size ≤ g2
  keep : ∀ x ∈ ks, Boxd W x.1 #[x.2.1] x.2.2 ∧ ¬ x.1 = g ∧ x.1 < w.heap.size
section
variable {w W W' : World} {g g2 : Nat} {C D R : Array Value} {ks : List (Nat × Value × TypeId)}
theorem St.below (h : St w g g2 C R ks W) (hb : Below W.heap.size W W') : St w g g2 C R ks W' :=
  ⟨h.box.below hb, h.res.below hb, h.one.then hb, h.ne, h.low, fun x hx => ⟨(h.keep x hx).1.below hb, (h.keep x hx).2⟩⟩
theorem St.drawn (h : St w g g2 C R ks W) : St w g g2 C R ks W.drew := ⟨h.box, h.res, h.one.drawn, h.ne, h.low, h.keep⟩
theorem St.put (h : St w g g2 C R ks W) (hr : Boxd W' g D 23) (ho : One g W W') : St w g g2 D R ks W' :=
  ⟨hr, h.res.one ho h.ne, h.one.trans ho, h.ne, h.low, fun x hx => ⟨(h.keep x hx).1.one ho (h.keep x hx).2.1, (h.keep x hx).2⟩⟩
theorem St.fill (h : St w g g2 C R ks W) (hr : Boxd W' g2 D 23) (ho : One g2 W W') : St w g g2 C D ks W' :=
  ⟨h.box.one ho (fun e => h.ne e.symm), hr, one_far h.one ho h.low, h.ne, h.low, fun x hx => ⟨(h.keep x hx).1.one ho (by have h1 := (h.keep x hx).2.2; have h2 := h.low; omega), (h.keep x hx).2⟩⟩
theorem St.cell (h : St w g g2 C R ks W) {i : Nat} {v : Value} (hc : C[i]? = some v) : W.cell? ⟨g, i, none⟩ = some v := h.box.cell.trans hc
theorem St.arg (h : St w g g2 C R ks W) {k : Nat} {v : Value} {T : TypeId} (hx : (k, v, T) ∈ ks) : W.cell? ⟨k, 0, none⟩ = some v := (h.keep _ hx).1.cell.trans rfl
theorem st_new (hB : Boxd w g C 23) (hk : ∀ x ∈ ks, Boxd w x.1 #[x.2.1] x.2.2 ∧ ¬ x.1 = g) : ∃ g2 wb, g2 = w.heap.size ∧ wb = w.alloc (.cells #[.int .i64 0, .int .i64 0, .int .i64 0, .int .i64 0, .int .i64 0, .int .i64 0, .bool false, .int .i64 0, .int .i64 0, .int .i64 0, .int .i64 0, .int .i64 0, .int .i64 0] 23) ∧ St w g g2 C #[.int .i64 0, .int .i64 0, .int .i64 0, .int .i64 0, .int .i64 0, .int .i64 0, .bool false, .int .i64 0, .int .i64 0, .int .i64 0, .int .i64 0, .int .i64 0, .int .i64 0] ks wb := by
  obtain ⟨g2, wb, e1, e2, h1, h2⟩ := boxd_new w #[.int .i64 0, .int .i64 0, .int .i64 0, .int .i64 0, .int .i64 0, .int .i64 0, .bool false, .int .i64 0, .int .i64 0, .int .i64 0, .int .i64 0, .int .i64 0, .int .i64 0] 23
  exact ⟨g2, wb, e1, e2, hB.below h2, h1, One.of h2, by have := hB.lt; omega, by omega, fun x hx => ⟨(hk x hx).1.below h2, (hk x hx).2, (hk x hx).1.lt⟩⟩
end
set_option maxRecDepth 20000 in
theorem capF_arg (l : Ln)  (g : Nat) (w : World) (hB : Boxd w g l.cells 23) (hg : (goodL l && true) = false) : Calls Try.prog 41 #[.pointer (some ⟨g, 0, none⟩)] w fun e w' => e = .panicked (errL 1) ∧ One g w w' := by
  have hks : ∀ x ∈ ([] : List (Nat × Value × TypeId)), Boxd w x.1 #[x.2.1] x.2.2 ∧ ¬ x.1 = g := fun x hx => absurd hx List.not_mem_nil
  obtain ⟨g2, wb, e1, e2, hst⟩ := st_new hB hks
  have HST := Lib.hid hst
  clear hst hks hB
  have HS := Lib.hid (ln_info l)
  have KN := Lib.hid (fun W => open_arg l true W hg)
  clear hg
  generalize l.cells = C at *
  go_enter Try.func41, Try.ntmps41
  go_upto_region 1 with fail
  rw [← e2, ← e1]
  clear e1 e2
  go_wp2_with (first
    | (refine o_load rfl 23 _ rfl _ rfl _ _ _ HST.out.box Try.underlying23 rfl HS.out ?_)
    | (go_at_call 42; with_reducible refine (KN.out _).mono ?_; rintro e y ⟨rfl, hb⟩; replace HST := Lib.hid (HST.out.below hb); clear hb))
  exact ⟨rfl, rfl, HST.out.one⟩
set_option maxRecDepth 20000 in
theorem capF_gone (l : Ln)  (g : Nat) (w : World) (hB : Boxd w g l.cells 23) (hg : (goodL l && true) = true) (ho : openB l = false) : Calls Try.prog 41 #[.pointer (some ⟨g, 0, none⟩)] w fun e w' => e = .panicked (errL 61) ∧ One g w w' := by
  have hks : ∀ x ∈ ([] : List (Nat × Value × TypeId)), Boxd w x.1 #[x.2.1] x.2.2 ∧ ¬ x.1 = g := fun x hx => absurd hx List.not_mem_nil
  obtain ⟨g2, wb, e1, e2, hst⟩ := st_new hB hks
  have HST := Lib.hid hst
  clear hst hks hB
  have HS := Lib.hid (ln_info l)
  have KN := Lib.hid (fun W => open_gone l true W hg ho)
  clear hg ho
  generalize l.cells = C at *
  go_enter Try.func41, Try.ntmps41
  go_upto_region 1 with fail
  rw [← e2, ← e1]
  clear e1 e2
  go_wp2_with (first
    | (refine o_load rfl 23 _ rfl _ rfl _ _ _ HST.out.box Try.underlying23 rfl HS.out ?_)
    | (go_at_call 42; with_reducible refine (KN.out _).mono ?_; rintro e y ⟨rfl, hb⟩; replace HST := Lib.hid (HST.out.below hb); clear hb))
  exact ⟨rfl, rfl, HST.out.one⟩
set_option maxRecDepth 20000 in
theorem capF_over (l : Ln)  (g : Nat) (w : World) (hB : Boxd w g l.cells 23) (hg : (goodL l && true) = true) (ho : openB l = true) (hl : ¬ l.prin + centsL l ≤ 10000000000000) : Calls Try.prog 41 #[.pointer (some ⟨g, 0, none⟩)] w fun e w' => e = .panicked (errL 14) ∧ One g w w' := by
  have hks : ∀ x ∈ ([] : List (Nat × Value × TypeId)), Boxd w x.1 #[x.2.1] x.2.2 ∧ ¬ x.1 = g := fun x hx => absurd hx List.not_mem_nil
  obtain ⟨g2, wb, e1, e2, hst⟩ := st_new hB hks
  have HST := Lib.hid hst
  clear hst hks hB
  have HS := Lib.hid (ln_info l)
  have G : Good l := goodL_iff.1 (by simpa using hg)
  have KN := Lib.hid (fun W => open_ok l true W hg ho)
  have KC := Lib.hid (fun W => cap_bad l W G hl)
  clear hg ho hl G
  generalize l.cells = C at *
  go_enter Try.func41, Try.ntmps41
  go_upto_region 1 with fail
  rw [← e2, ← e1]
  clear e1 e2
  go_wp2_with (first
    | (refine o_load rfl 23 _ rfl _ rfl _ _ _ HST.out.box Try.underlying23 rfl HS.out ?_)
    | (go_at_call 42; with_reducible refine (KN.out _).mono ?_; rintro e y ⟨rfl, hb⟩; replace HST := Lib.hid (HST.out.below hb); clear hb)
    | (go_at_call 43; with_reducible refine (KC.out _).mono ?_; rintro e y ⟨rfl, hb⟩; replace HST := Lib.hid (HST.out.below hb); clear hb))
  exact ⟨rfl, rfl, HST.out.one⟩
set_option maxRecDepth 20000 in
theorem capF_ok (l : Ln)  (g : Nat) (w : World) (hB : Boxd w g l.cells 23) (hg : (goodL l && true) = true) (ho : openB l = true) (hl : l.prin + centsL l ≤ 10000000000000) : Calls Try.prog 41 #[.pointer (some ⟨g, 0, none⟩)] w fun e w' => e = .returned (.agg (capL l).cells) ∧ One g w w' := by
  have hks : ∀ x ∈ ([] : List (Nat × Value × TypeId)), Boxd w x.1 #[x.2.1] x.2.2 ∧ ¬ x.1 = g := fun x hx => absurd hx List.not_mem_nil
  obtain ⟨g2, wb, e1, e2, hst⟩ := st_new hB hks
  have HST := Lib.hid hst
  clear hst hks hB
  have HS := Lib.hid (ln_info l)
  have G : Good l := goodL_iff.1 (by simpa using hg)
  have KN := Lib.hid (fun W => open_ok l true W hg ho)
  have KC := Lib.hid (fun W => cap_ok l W G hl)
  clear hg ho hl G
  have HS2 := Lib.hid (ln_info (capL l))
  have HO := Lib.hid (ln_one (capL l))
  have HZ : Hid (13 = (capL l).cells.size) := show _ = _ from rfl
  generalize (capL l).cells = D at *
  generalize l.cells = C at *
  go_enter Try.func41, Try.ntmps41
  go_upto_region 1 with fail
  rw [← e2, ← e1]
  clear e1 e2
  go_wp2_with (first
    | (refine o_load rfl 23 _ rfl _ rfl _ _ _ HST.out.box Try.underlying23 rfl HS.out ?_)
    | (go_at_call 42; with_reducible refine (KN.out _).mono ?_; rintro e y ⟨rfl, hb⟩; replace HST := Lib.hid (HST.out.below hb); clear hb)
    | (go_at_call 43; with_reducible refine (KC.out _).mono ?_; rintro e y ⟨rfl, hb⟩; replace HST := Lib.hid (HST.out.below hb); clear hb)
    | (refine o_store rfl 23 _ _ rfl rfl _ _ rfl rfl _ _ HST.out.res HS2.out HZ.out HO.out ?_; intro y hr ho; replace HST := Lib.hid (HST.out.fill hr ho); clear hr ho))
  refine bodyPost_ret (results_cell_row rfl _ _ _ _ _ _ _ rfl HST.out.res Try.underlying23 rfl HS2.out) rfl ?_
  exact ⟨rfl, HST.out.one⟩
set_option maxRecDepth 20000 in
theorem feeF_arg (l : Ln) (a : Int) (ka : Nat) (g : Nat) (w : World) (hB : Boxd w g l.cells 23) (q0 : Boxd w ka #[.int .i64 a] 2) (ne0 : ¬ ka = g) (hg : (goodL l && amountB a) = false) : Calls Try.prog 53 #[.pointer (some ⟨g, 0, none⟩), .pointer (some ⟨ka, 0, none⟩)] w fun e w' => e = .panicked (errL 1) ∧ One g w w' := by
  have hks : ∀ x ∈ ([(ka, .int .i64 a, 2)] : List (Nat × Value × TypeId)), Boxd w x.1 #[x.2.1] x.2.2 ∧ ¬ x.1 = g := by
    intro x hx
    simp only [List.mem_cons, List.not_mem_nil, or_false] at hx
    obtain rfl := hx
    exact ⟨q0, ne0⟩
  obtain ⟨g2, wb, e1, e2, hst⟩ := st_new hB hks
  have HST := Lib.hid hst
  clear hst hks hB q0 ne0
  have HS := Lib.hid (ln_info l)
  have KN := Lib.hid (fun W => open_arg l (amountB a) W hg)
  clear hg
  unfold amountB at *
  have KA := Lib.hid (fun W => amount_c a W)
  have HM : Hid ((ka, Value.int .i64 a, 2) ∈ [(ka, Value.int .i64 a, 2)]) := List.mem_singleton.2 rfl
  generalize hKS : [(ka, Value.int .i64 a, 2)] = KS at *
  generalize wB a 1 1000000000 = bb at *
  generalize l.cells = C at *
  go_enter Try.func53, Try.ntmps53
  go_upto_region 1 with fail
  rw [← e2, ← e1]
  clear e1 e2
  have hS0 : wb.drew.cell? ⟨ka, 0, none⟩ = some (.int .i64 a) ∧ St w g g2 C #[.int .i64 0, .int .i64 0, .int .i64 0, .int .i64 0, .int .i64 0, .int .i64 0, .bool false, .int .i64 0, .int .i64 0, .int .i64 0, .int .i64 0, .int .i64 0, .int .i64 0] KS wb.drew := ⟨HST.out.drawn.arg (k := ka) (T := 2) HM.out, HST.out.drawn⟩
  refine wp_region_held_drew (S := (fun W => W.cell? ⟨ka, 0, none⟩ = some (.int .i64 a) ∧ St w g g2 C #[.int .i64 0, .int .i64 0, .int .i64 0, .int .i64 0, .int .i64 0, .int .i64 0, .bool false, .int .i64 0, .int .i64 0, .int .i64 0, .int .i64 0, .int .i64 0, .int .i64 0] KS W)) (by kernel_rfl) hS0 (fun hHeld => ?_)
  refine take_row 0 3 rfl rfl (by kernel_rfl) (by kernel_rfl) (by kernel_rfl) 23 _ rfl _ rfl _ _ Try.underlying23 rfl HS.out (fun _ h => h.2.box) (fun _ _ _ h => h) (by rfl) (by assumption) ?_
  (try simp only [Act.put, List.setIfInBounds_toArray, List.set_cons_zero, List.set_cons_succ])
  refine ByHand.take_yes (v := ?_) 1 4 rfl rfl (by kernel_rfl) (by kernel_rfl) (by kernel_rfl) (fun _ _ _ h => h) (by rfl) ?_ (by assumption) ?_
  rotate_left
  · intro w' hSw
    (try dsimp only at hSw)
    go_simp
    all_goals with_reducible rfl
  (try simp only [Act.put, List.setIfInBounds_toArray, List.set_cons_zero, List.set_cons_succ])
  refine wpAnyH_ready (rs := [2]) (by kernel_rfl) (by simp) (AllReadyH.cons rfl (fun K hK => ?_) AllReadyH.nil)
  go_simp
  refine (KA.out _).mono ?_
  rintro e w' ⟨rfl, rfl⟩
  go_wp2_with fail
  refine hK.out _ _ ?_ (fun hHeld => ?_)
  · exact hS0
  clear hK K
  (try simp only [Act.put, List.setIfInBounds_toArray, List.set_cons_zero, List.set_cons_succ])
  refine wpAnyH_ready (rs := [3]) (by kernel_rfl) (by simp) (AllReadyH.cons rfl (fun K hK => ?_) AllReadyH.nil)
  go_simp
  refine (KN.out _).mono ?_
  rintro e y ⟨rfl, hb⟩
  replace HST := Lib.hid (hS0.2.below hb)
  go_wp2_with fail
  exact ⟨rfl, rfl, HST.out.one⟩
set_option maxRecDepth 20000 in
theorem feeF_gone (l : Ln) (a : Int) (ka : Nat) (g : Nat) (w : World) (hB : Boxd w g l.cells 23) (q0 : Boxd w ka #[.int .i64 a] 2) (ne0 : ¬ ka = g) (hg : (goodL l && amountB a) = true) (ho : openB l = false) : Calls Try.prog 53 #[.pointer (some ⟨g, 0, none⟩), .pointer (some ⟨ka, 0, none⟩)] w fun e w' => e = .panicked (errL 61) ∧ One g w w' := by
  have hks : ∀ x ∈ ([(ka, .int .i64 a, 2)] : List (Nat × Value × TypeId)), Boxd w x.1 #[x.2.1] x.2.2 ∧ ¬ x.1 = g := by
    intro x hx
    simp only [List.mem_cons, List.not_mem_nil, or_false] at hx
    obtain rfl := hx
    exact ⟨q0, ne0⟩
  obtain ⟨g2, wb, e1, e2, hst⟩ := st_new hB hks
  have HST := Lib.hid hst
  clear hst hks hB q0 ne0
  have HS := Lib.hid (ln_info l)
  have KN := Lib.hid (fun W => open_gone l (amountB a) W hg ho)
  clear hg ho
  unfold amountB at *
  have KA := Lib.hid (fun W => amount_c a W)
  have HM : Hid ((ka, Value.int .i64 a, 2) ∈ [(ka, Value.int .i64 a, 2)]) := List.mem_singleton.2 rfl
  generalize hKS : [(ka, Value.int .i64 a, 2)] = KS at *
  generalize wB a 1 1000000000 = bb at *
  generalize l.cells = C at *
  go_enter Try.func53, Try.ntmps53
  go_upto_region 1 with fail
  rw [← e2, ← e1]
  clear e1 e2
  have hS0 : wb.drew.cell? ⟨ka, 0, none⟩ = some (.int .i64 a) ∧ St w g g2 C #[.int .i64 0, .int .i64 0, .int .i64 0, .int .i64 0, .int .i64 0, .int .i64 0, .bool false, .int .i64 0, .int .i64 0, .int .i64 0, .int .i64 0, .int .i64 0, .int .i64 0] KS wb.drew := ⟨HST.out.drawn.arg (k := ka) (T := 2) HM.out, HST.out.drawn⟩
  refine wp_region_held_drew (S := (fun W => W.cell? ⟨ka, 0, none⟩ = some (.int .i64 a) ∧ St w g g2 C #[.int .i64 0, .int .i64 0, .int .i64 0, .int .i64 0, .int .i64 0, .int .i64 0, .bool false, .int .i64 0, .int .i64 0, .int .i64 0, .int .i64 0, .int .i64 0, .int .i64 0] KS W)) (by kernel_rfl) hS0 (fun hHeld => ?_)
  refine take_row 0 3 rfl rfl (by kernel_rfl) (by kernel_rfl) (by kernel_rfl) 23 _ rfl _ rfl _ _ Try.underlying23 rfl HS.out (fun _ h => h.2.box) (fun _ _ _ h => h) (by rfl) (by assumption) ?_
  (try simp only [Act.put, List.setIfInBounds_toArray, List.set_cons_zero, List.set_cons_succ])
  refine ByHand.take_yes (v := ?_) 1 4 rfl rfl (by kernel_rfl) (by kernel_rfl) (by kernel_rfl) (fun _ _ _ h => h) (by rfl) ?_ (by assumption) ?_
  rotate_left
  · intro w' hSw
    (try dsimp only at hSw)
    go_simp
    all_goals with_reducible rfl
  (try simp only [Act.put, List.setIfInBounds_toArray, List.set_cons_zero, List.set_cons_succ])
  refine wpAnyH_ready (rs := [2]) (by kernel_rfl) (by simp) (AllReadyH.cons rfl (fun K hK => ?_) AllReadyH.nil)
  go_simp
  refine (KA.out _).mono ?_
  rintro e w' ⟨rfl, rfl⟩
  go_wp2_with fail
  refine hK.out _ _ ?_ (fun hHeld => ?_)
  · exact hS0
  clear hK K
  (try simp only [Act.put, List.setIfInBounds_toArray, List.set_cons_zero, List.set_cons_succ])
  refine wpAnyH_ready (rs := [3]) (by kernel_rfl) (by simp) (AllReadyH.cons rfl (fun K hK => ?_) AllReadyH.nil)
  go_simp
  refine (KN.out _).mono ?_
  rintro e y ⟨rfl, hb⟩
  replace HST := Lib.hid (hS0.2.below hb)
  go_wp2_with fail
  exact ⟨rfl, rfl, HST.out.one⟩
set_option maxRecDepth 20000 in
theorem feeF_over (l : Ln) (a : Int) (ka : Nat) (g : Nat) (w : World) (hB : Boxd w g l.cells 23) (q0 : Boxd w ka #[.int .i64 a] 2) (ne0 : ¬ ka = g) (hg : (goodL l && amountB a) = true) (ho : openB l = true) (hl : ¬ l.fees + a ≤ 10000000000000) : Calls Try.prog 53 #[.pointer (some ⟨g, 0, none⟩), .pointer (some ⟨ka, 0, none⟩)] w fun e w' => e = .panicked (errL 14) ∧ One g w w' := by
  have hks : ∀ x ∈ ([(ka, .int .i64 a, 2)] : List (Nat × Value × TypeId)), Boxd w x.1 #[x.2.1] x.2.2 ∧ ¬ x.1 = g := by
    intro x hx
    simp only [List.mem_cons, List.not_mem_nil, or_false] at hx
    obtain rfl := hx
    exact ⟨q0, ne0⟩
  obtain ⟨g2, wb, e1, e2, hst⟩ := st_new hB hks
  have HST := Lib.hid hst
  clear hst hks hB q0 ne0
  have HS := Lib.hid (ln_info l)
  have G : Good l := goodL_iff.1 (Bool.and_eq_true_iff.1 hg).1
  have ga := wB_iff.1 (show wB a 1 1000000000 = true from (Bool.and_eq_true_iff.1 hg).2)
  have KP := Lib.hid (fun W => add3 l.fees a W G.fees0 G.fees1 (by omega) (by omega))
  rw [if_neg hl, if_neg hl] at KP
  have KN := Lib.hid (fun W => open_ok l (amountB a) W hg ho)
  clear hg ho hl ga G
  unfold amountB at *
  have KA := Lib.hid (fun W => amount_c a W)
  have HM : Hid ((ka, Value.int .i64 a, 2) ∈ [(ka, Value.int .i64 a, 2)]) := List.mem_singleton.2 rfl
  have XF : Hid (l.cells[4]? = some (.int .i64 l.fees)) := show _ = _ from rfl
  generalize hKS : [(ka, Value.int .i64 a, 2)] = KS at *
  generalize wB a 1 1000000000 = bb at *
  generalize l.fees = p at *
  generalize l.cells = C at *
  go_enter Try.func53, Try.ntmps53
  go_upto_region 1 with fail
  rw [← e2, ← e1]
  clear e1 e2
  have hS0 : wb.drew.cell? ⟨ka, 0, none⟩ = some (.int .i64 a) ∧ St w g g2 C #[.int .i64 0, .int .i64 0, .int .i64 0, .int .i64 0, .int .i64 0, .int .i64 0, .bool false, .int .i64 0, .int .i64 0, .int .i64 0, .int .i64 0, .int .i64 0, .int .i64 0] KS wb.drew := ⟨HST.out.drawn.arg (k := ka) (T := 2) HM.out, HST.out.drawn⟩
  refine wp_region_held_drew (S := (fun W => W.cell? ⟨ka, 0, none⟩ = some (.int .i64 a) ∧ St w g g2 C #[.int .i64 0, .int .i64 0, .int .i64 0, .int .i64 0, .int .i64 0, .int .i64 0, .bool false, .int .i64 0, .int .i64 0, .int .i64 0, .int .i64 0, .int .i64 0, .int .i64 0] KS W)) (by kernel_rfl) hS0 (fun hHeld => ?_)
  refine take_row 0 3 rfl rfl (by kernel_rfl) (by kernel_rfl) (by kernel_rfl) 23 _ rfl _ rfl _ _ Try.underlying23 rfl HS.out (fun _ h => h.2.box) (fun _ _ _ h => h) (by rfl) (by assumption) ?_
  (try simp only [Act.put, List.setIfInBounds_toArray, List.set_cons_zero, List.set_cons_succ])
  refine ByHand.take_yes (v := ?_) 1 4 rfl rfl (by kernel_rfl) (by kernel_rfl) (by kernel_rfl) (fun _ _ _ h => h) (by rfl) ?_ (by assumption) ?_
  rotate_left
  · intro w' hSw
    (try dsimp only at hSw)
    go_simp
    all_goals with_reducible rfl
  (try simp only [Act.put, List.setIfInBounds_toArray, List.set_cons_zero, List.set_cons_succ])
  refine wpAnyH_ready (rs := [2]) (by kernel_rfl) (by simp) (AllReadyH.cons rfl (fun K hK => ?_) AllReadyH.nil)
  go_simp
  refine (KA.out _).mono ?_
  rintro e w' ⟨rfl, rfl⟩
  go_wp2_with fail
  refine hK.out _ _ ?_ (fun hHeld => ?_)
  · exact hS0
  clear hK K
  (try simp only [Act.put, List.setIfInBounds_toArray, List.set_cons_zero, List.set_cons_succ])
  refine wpAnyH_ready (rs := [3]) (by kernel_rfl) (by simp) (AllReadyH.cons rfl (fun K hK => ?_) AllReadyH.nil)
  go_simp
  refine (KN.out _).mono ?_
  rintro e y ⟨rfl, hb⟩
  replace HST := Lib.hid (hS0.2.below hb)
  go_wp2_with fail
  have ca := HST.out.arg (k := ka) HM.out
  refine hK.out _ _ ?_ (fun hHeld => ?_)
  · exact ⟨ca, HST.out⟩
  clear hK K
  (try simp only [Act.put, List.setIfInBounds_toArray, List.set_cons_zero, List.set_cons_succ])
  refine wpAnyH_done (by kernel_rfl) ?_ _
  have c4 := HST.out.cell (i := 4) XF.out
  go_wp2_with (first
    | (go_at_call 55; with_reducible refine (KP.out _).mono ?_; rintro e y ⟨rfl, hb⟩; replace HST := Lib.hid (HST.out.below hb); clear hb)
    | (go_at_call 39; with_reducible refine (must_bad _ _ _ rfl).mono ?_; rintro e w' ⟨rfl, rfl⟩))
  exact ⟨rfl, rfl, HST.out.one⟩
set_option maxRecDepth 20000 in
theorem feeF_ok (l : Ln) (a : Int) (ka : Nat) (g : Nat) (w : World) (hB : Boxd w g l.cells 23) (q0 : Boxd w ka #[.int .i64 a] 2) (ne0 : ¬ ka = g) (hg : (goodL l && amountB a) = true) (ho : openB l = true) (hl : l.fees + a ≤ 10000000000000) : Calls Try.prog 53 #[.pointer (some ⟨g, 0, none⟩), .pointer (some ⟨ka, 0, none⟩)] w fun e w' => e = .returned (.agg ({ l with fees := l.fees + a } : Ln).cells) ∧ One g w w' := by
  have hks : ∀ x ∈ ([(ka, .int .i64 a, 2)] : List (Nat × Value × TypeId)), Boxd w x.1 #[x.2.1] x.2.2 ∧ ¬ x.1 = g := by
    intro x hx
    simp only [List.mem_cons, List.not_mem_nil, or_false] at hx
    obtain rfl := hx
    exact ⟨q0, ne0⟩
  obtain ⟨g2, wb, e1, e2, hst⟩ := st_new hB hks
  have HST := Lib.hid hst
  clear hst hks hB q0 ne0
  have HS := Lib.hid (ln_info l)
  have G : Good l := goodL_iff.1 (Bool.and_eq_true_iff.1 hg).1
  have ga := wB_iff.1 (show wB a 1 1000000000 = true from (Bool.and_eq_true_iff.1 hg).2)
  have KP := Lib.hid (fun W => add3 l.fees a W G.fees0 G.fees1 (by omega) (by omega))
  rw [if_pos hl, if_pos hl] at KP
  have KN := Lib.hid (fun W => open_ok l (amountB a) W hg ho)
  clear hg ho hl ga G
  unfold amountB at *
  have KA := Lib.hid (fun W => amount_c a W)
  have HM : Hid ((ka, Value.int .i64 a, 2) ∈ [(ka, Value.int .i64 a, 2)]) := List.mem_singleton.2 rfl
  have XF : Hid (l.cells[4]? = some (.int .i64 l.fees)) := show _ = _ from rfl
  have PX : Hid (l.cells.setIfInBounds 4 (.int .i64 (l.fees + a)) = ({ l with fees := l.fees + a } : Ln).cells) := show _ = _ from rfl
  have HS2 := Lib.hid (ln_info { l with fees := l.fees + a })
  have HO := Lib.hid (ln_one { l with fees := l.fees + a })
  have HZ : Hid (l.cells.size = 13) := ln_size l
  have HZ2 : Hid (13 = ({ l with fees := l.fees + a } : Ln).cells.size) := show _ = _ from rfl
  generalize hKS : [(ka, Value.int .i64 a, 2)] = KS at *
  generalize wB a 1 1000000000 = bb at *
  generalize ({ l with fees := l.fees + a } : Ln).cells = D at *
  generalize l.fees + a = s at *
  generalize l.fees = p at *
  generalize l.cells = C at *
  go_enter Try.func53, Try.ntmps53
  go_upto_region 1 with fail
  rw [← e2, ← e1]
  clear e1 e2
  have hS0 : wb.drew.cell? ⟨ka, 0, none⟩ = some (.int .i64 a) ∧ St w g g2 C #[.int .i64 0, .int .i64 0, .int .i64 0, .int .i64 0, .int .i64 0, .int .i64 0, .bool false, .int .i64 0, .int .i64 0, .int .i64 0, .int .i64 0, .int .i64 0, .int .i64 0] KS wb.drew := ⟨HST.out.drawn.arg (k := ka) (T := 2) HM.out, HST.out.drawn⟩
  refine wp_region_held_drew (S := (fun W => W.cell? ⟨ka, 0, none⟩ = some (.int .i64 a) ∧ St w g g2 C #[.int .i64 0, .int .i64 0, .int .i64 0, .int .i64 0, .int .i64 0, .int .i64 0, .bool false, .int .i64 0, .int .i64 0, .int .i64 0, .int .i64 0, .int .i64 0, .int .i64 0] KS W)) (by kernel_rfl) hS0 (fun hHeld => ?_)
  refine take_row 0 3 rfl rfl (by kernel_rfl) (by kernel_rfl) (by kernel_rfl) 23 _ rfl _ rfl _ _ Try.underlying23 rfl HS.out (fun _ h => h.2.box) (fun _ _ _ h => h) (by rfl) (by assumption) ?_
  (try simp only [Act.put, List.setIfInBounds_toArray, List.set_cons_zero, List.set_cons_succ])
  refine ByHand.take_yes (v := ?_) 1 4 rfl rfl (by kernel_rfl) (by kernel_rfl) (by kernel_rfl) (fun _ _ _ h => h) (by rfl) ?_ (by assumption) ?_
  rotate_left
  · intro w' hSw
    (try dsimp only at hSw)
    go_simp
    all_goals with_reducible rfl
  (try simp only [Act.put, List.setIfInBounds_toArray, List.set_cons_zero, List.set_cons_succ])
  refine wpAnyH_ready (rs := [2]) (by kernel_rfl) (by simp) (AllReadyH.cons rfl (fun K hK => ?_) AllReadyH.nil)
  go_simp
  refine (KA.out _).mono ?_
  rintro e w' ⟨rfl, rfl⟩
  go_wp2_with fail
  refine hK.out _ _ ?_ (fun hHeld => ?_)
  · exact hS0
  clear hK K
  (try simp only [Act.put, List.setIfInBounds_toArray, List.set_cons_zero, List.set_cons_succ])
  refine wpAnyH_ready (rs := [3]) (by kernel_rfl) (by simp) (AllReadyH.cons rfl (fun K hK => ?_) AllReadyH.nil)
  go_simp
  refine (KN.out _).mono ?_
  rintro e y ⟨rfl, hb⟩
  replace HST := Lib.hid (hS0.2.below hb)
  go_wp2_with fail
  have ca := HST.out.arg (k := ka) HM.out
  refine hK.out _ _ ?_ (fun hHeld => ?_)
  · exact ⟨ca, HST.out⟩
  clear hK K
  (try simp only [Act.put, List.setIfInBounds_toArray, List.set_cons_zero, List.set_cons_succ])
  refine wpAnyH_done (by kernel_rfl) ?_ _
  have c4 := HST.out.cell (i := 4) XF.out
  go_wp2_with (first
    | (go_at_call 55; with_reducible refine (KP.out _).mono ?_; rintro e y ⟨rfl, hb⟩; replace HST := Lib.hid (HST.out.below hb); clear hb)
    | (go_at_call 39; with_reducible refine (must_ok _ _).mono ?_; rintro e w' ⟨rfl, rfl⟩)
    | (refine o_load rfl 23 _ rfl _ rfl _ _ _ HST.out.box Try.underlying23 rfl HS2.out ?_)
    | (refine o_put rfl 2 _ _ rfl rfl g 4 (.int .i64 s) rfl rfl rfl _ _ HST.out.box (by simp [HZ.out]) i64_one ?_; intro y hr ho; rw [PX.out] at hr; replace HST := Lib.hid (HST.out.put hr ho); clear hr ho)
    | (refine o_store rfl 23 _ _ rfl rfl _ _ rfl rfl _ _ HST.out.res HS2.out HZ2.out HO.out ?_; intro y hr ho; replace HST := Lib.hid (HST.out.fill hr ho); clear hr ho))
  refine bodyPost_ret (results_cell_row rfl _ _ _ _ _ _ _ rfl HST.out.res Try.underlying23 rfl HS2.out) rfl ?_
  exact ⟨rfl, HST.out.one⟩
set_option maxRecDepth 20000 in
theorem drawF_arg (l : Ln) (a : Int) (ka : Nat) (g : Nat) (w : World) (hB : Boxd w g l.cells 23) (q0 : Boxd w ka #[.int .i64 a] 2) (ne0 : ¬ ka = g) (hg : (goodL l && amountB a) = false) : Calls Try.prog 57 #[.pointer (some ⟨g, 0, none⟩), .pointer (some ⟨ka, 0, none⟩)] w fun e w' => e = .panicked (errL 1) ∧ One g w w' := by
  have hks : ∀ x ∈ ([(ka, .int .i64 a, 2)] : List (Nat × Value × TypeId)), Boxd w x.1 #[x.2.1] x.2.2 ∧ ¬ x.1 = g := by
    intro x hx
    simp only [List.mem_cons, List.not_mem_nil, or_false] at hx
    obtain rfl := hx
    exact ⟨q0, ne0⟩
  obtain ⟨g2, wb, e1, e2, hst⟩ := st_new hB hks
  have HST := Lib.hid hst
  clear hst hks hB q0 ne0
  have HS := Lib.hid (ln_info l)
  have KN := Lib.hid (fun W => open_arg l (amountB a) W hg)
  clear hg
  unfold amountB at *
  have KA := Lib.hid (fun W => amount_c a W)
  have HM : Hid ((ka, Value.int .i64 a, 2) ∈ [(ka, Value.int .i64 a, 2)]) := List.mem_singleton.2 rfl
  generalize hKS : [(ka, Value.int .i64 a, 2)] = KS at *
  generalize wB a 1 1000000000 = bb at *
  generalize l.cells = C at *
  go_enter Try.func57, Try.ntmps57
  go_upto_region 1 with fail
  rw [← e2, ← e1]
  clear e1 e2
  have hS0 : wb.drew.cell? ⟨ka, 0, none⟩ = some (.int .i64 a) ∧ St w g g2 C #[.int .i64 0, .int .i64 0, .int .i64 0, .int .i64 0, .int .i64 0, .int .i64 0, .bool false, .int .i64 0, .int .i64 0, .int .i64 0, .int .i64 0, .int .i64 0, .int .i64 0] KS wb.drew := ⟨HST.out.drawn.arg (k := ka) (T := 2) HM.out, HST.out.drawn⟩
  refine wp_region_held_drew (S := (fun W => W.cell? ⟨ka, 0, none⟩ = some (.int .i64 a) ∧ St w g g2 C #[.int .i64 0, .int .i64 0, .int .i64 0, .int .i64 0, .int .i64 0, .int .i64 0, .bool false, .int .i64 0, .int .i64 0, .int .i64 0, .int .i64 0, .int .i64 0, .int .i64 0] KS W)) (by kernel_rfl) hS0 (fun hHeld => ?_)
  refine take_row 0 3 rfl rfl (by kernel_rfl) (by kernel_rfl) (by kernel_rfl) 23 _ rfl _ rfl _ _ Try.underlying23 rfl HS.out (fun _ h => h.2.box) (fun _ _ _ h => h) (by rfl) (by assumption) ?_
  (try simp only [Act.put, List.setIfInBounds_toArray, List.set_cons_zero, List.set_cons_succ])
  refine ByHand.take_yes (v := ?_) 1 4 rfl rfl (by kernel_rfl) (by kernel_rfl) (by kernel_rfl) (fun _ _ _ h => h) (by rfl) ?_ (by assumption) ?_
  rotate_left
  · intro w' hSw
    (try dsimp only at hSw)
    go_simp
    all_goals with_reducible rfl
  (try simp only [Act.put, List.setIfInBounds_toArray, List.set_cons_zero, List.set_cons_succ])
  refine wpAnyH_ready (rs := [2]) (by kernel_rfl) (by simp) (AllReadyH.cons rfl (fun K hK => ?_) AllReadyH.nil)
  go_simp
  refine (KA.out _).mono ?_
  rintro e w' ⟨rfl, rfl⟩
  go_wp2_with fail
  refine hK.out _ _ ?_ (fun hHeld => ?_)
  · exact hS0
  clear hK K
  (try simp only [Act.put, List.setIfInBounds_toArray, List.set_cons_zero, List.set_cons_succ])
  refine wpAnyH_ready (rs := [3]) (by kernel_rfl) (by simp) (AllReadyH.cons rfl (fun K hK => ?_) AllReadyH.nil)
  go_simp
  refine (KN.out _).mono ?_
  rintro e y ⟨rfl, hb⟩
  replace HST := Lib.hid (hS0.2.below hb)
  go_wp2_with fail
  exact ⟨rfl, rfl, HST.out.one⟩
set_option maxRecDepth 20000 in
theorem drawF_gone (l : Ln) (a : Int) (ka : Nat) (g : Nat) (w : World) (hB : Boxd w g l.cells 23) (q0 : Boxd w ka #[.int .i64 a] 2) (ne0 : ¬ ka = g) (hg : (goodL l && amountB a) = true) (ho : openB l = false) : Calls Try.prog 57 #[.pointer (some ⟨g, 0, none⟩), .pointer (some ⟨ka, 0, none⟩)] w fun e w' => e = .panicked (errL 61) ∧ One g w w' := by
  have hks : ∀ x ∈ ([(ka, .int .i64 a, 2)] : List (Nat × Value × TypeId)), Boxd w x.1 #[x.2.1] x.2.2 ∧ ¬ x.1 = g := by
    intro x hx
    simp only [List.mem_cons, List.not_mem_nil, or_false] at hx
    obtain rfl := hx
    exact ⟨q0, ne0⟩
  obtain ⟨g2, wb, e1, e2, hst⟩ := st_new hB hks
  have HST := Lib.hid hst
  clear hst hks hB q0 ne0
  have HS := Lib.hid (ln_info l)
  have KN := Lib.hid (fun W => open_gone l (amountB a) W hg ho)
  clear hg ho
  unfold amountB at *
  have KA := Lib.hid (fun W => amount_c a W)
  have HM : Hid ((ka, Value.int .i64 a, 2) ∈ [(ka, Value.int .i64 a, 2)]) := List.mem_singleton.2 rfl
  generalize hKS : [(ka, Value.int .i64 a, 2)] = KS at *
  generalize wB a 1 1000000000 = bb at *
  generalize l.cells = C at *
  go_enter Try.func57, Try.ntmps57
  go_upto_region 1 with fail
  rw [← e2, ← e1]
  clear e1 e2
  have hS0 : wb.drew.cell? ⟨ka, 0, none⟩ = some (.int .i64 a) ∧ St w g g2 C #[.int .i64 0, .int .i64 0, .int .i64 0, .int .i64 0, .int .i64 0, .int .i64 0, .bool false, .int .i64 0, .int .i64 0, .int .i64 0, .int .i64 0, .int .i64 0, .int .i64 0] KS wb.drew := ⟨HST.out.drawn.arg (k := ka) (T := 2) HM.out, HST.out.drawn⟩
  refine wp_region_held_drew (S := (fun W => W.cell? ⟨ka, 0, none⟩ = some (.int .i64 a) ∧ St w g g2 C #[.int .i64 0, .int .i64 0, .int .i64 0, .int .i64 0, .int .i64 0, .int .i64 0, .bool false, .int .i64 0, .int .i64 0, .int .i64 0, .int .i64 0, .int .i64 0, .int .i64 0] KS W)) (by kernel_rfl) hS0 (fun hHeld => ?_)
  refine take_row 0 3 rfl rfl (by kernel_rfl) (by kernel_rfl) (by kernel_rfl) 23 _ rfl _ rfl _ _ Try.underlying23 rfl HS.out (fun _ h => h.2.box) (fun _ _ _ h => h) (by rfl) (by assumption) ?_
  (try simp only [Act.put, List.setIfInBounds_toArray, List.set_cons_zero, List.set_cons_succ])
  refine ByHand.take_yes (v := ?_) 1 4 rfl rfl (by kernel_rfl) (by kernel_rfl) (by kernel_rfl) (fun _ _ _ h => h) (by rfl) ?_ (by assumption) ?_
  rotate_left
  · intro w' hSw
    (try dsimp only at hSw)
    go_simp
    all_goals with_reducible rfl
  (try simp only [Act.put, List.setIfInBounds_toArray, List.set_cons_zero, List.set_cons_succ])
  refine wpAnyH_ready (rs := [2]) (by kernel_rfl) (by simp) (AllReadyH.cons rfl (fun K hK => ?_) AllReadyH.nil)
  go_simp
  refine (KA.out _).mono ?_
  rintro e w' ⟨rfl, rfl⟩
  go_wp2_with fail
  refine hK.out _ _ ?_ (fun hHeld => ?_)
  · exact hS0
  clear hK K
  (try simp only [Act.put, List.setIfInBounds_toArray, List.set_cons_zero, List.set_cons_succ])
  refine wpAnyH_ready (rs := [3]) (by kernel_rfl) (by simp) (AllReadyH.cons rfl (fun K hK => ?_) AllReadyH.nil)
  go_simp
  refine (KN.out _).mono ?_
  rintro e y ⟨rfl, hb⟩
  replace HST := Lib.hid (hS0.2.below hb)
  go_wp2_with fail
  exact ⟨rfl, rfl, HST.out.one⟩
set_option maxRecDepth 20000 in
theorem drawF_over (l : Ln) (a : Int) (ka : Nat) (g : Nat) (w : World) (hB : Boxd w g l.cells 23) (q0 : Boxd w ka #[.int .i64 a] 2) (ne0 : ¬ ka = g) (hg : (goodL l && amountB a) = true) (ho : openB l = true) (hl : ¬ l.prin + a ≤ 10000000000000) : Calls Try.prog 57 #[.pointer (some ⟨g, 0, none⟩), .pointer (some ⟨ka, 0, none⟩)] w fun e w' => e = .panicked (errL 14) ∧ One g w w' := by
  have hks : ∀ x ∈ ([(ka, .int .i64 a, 2)] : List (Nat × Value × TypeId)), Boxd w x.1 #[x.2.1] x.2.2 ∧ ¬ x.1 = g := by
    intro x hx
    simp only [List.mem_cons, List.not_mem_nil, or_false] at hx
    obtain rfl := hx
    exact ⟨q0, ne0⟩
  obtain ⟨g2, wb, e1, e2, hst⟩ := st_new hB hks
  have HST := Lib.hid hst
  clear hst hks hB q0 ne0
  have HS := Lib.hid (ln_info l)
  have G : Good l := goodL_iff.1 (Bool.and_eq_true_iff.1 hg).1
  have ga := wB_iff.1 (show wB a 1 1000000000 = true from (Bool.and_eq_true_iff.1 hg).2)
  have KP := Lib.hid (fun W => add3 l.prin a W G.prin0 G.prin1 (by omega) (by omega))
  rw [if_neg hl, if_neg hl] at KP
  have KN := Lib.hid (fun W => open_ok l (amountB a) W hg ho)
  clear hg ho hl ga G
  unfold amountB at *
  have KA := Lib.hid (fun W => amount_c a W)
  have HM : Hid ((ka, Value.int .i64 a, 2) ∈ [(ka, Value.int .i64 a, 2)]) := List.mem_singleton.2 rfl
  have XF : Hid (l.cells[1]? = some (.int .i64 l.prin)) := show _ = _ from rfl
  generalize hKS : [(ka, Value.int .i64 a, 2)] = KS at *
  generalize wB a 1 1000000000 = bb at *
  generalize l.prin = p at *
  generalize l.cells = C at *
  go_enter Try.func57, Try.ntmps57
  go_upto_region 1 with fail
  rw [← e2, ← e1]
  clear e1 e2
  have hS0 : wb.drew.cell? ⟨ka, 0, none⟩ = some (.int .i64 a) ∧ St w g g2 C #[.int .i64 0, .int .i64 0, .int .i64 0, .int .i64 0, .int .i64 0, .int .i64 0, .bool false, .int .i64 0, .int .i64 0, .int .i64 0, .int .i64 0, .int .i64 0, .int .i64 0] KS wb.drew := ⟨HST.out.drawn.arg (k := ka) (T := 2) HM.out, HST.out.drawn⟩
  refine wp_region_held_drew (S := (fun W => W.cell? ⟨ka, 0, none⟩ = some (.int .i64 a) ∧ St w g g2 C #[.int .i64 0, .int .i64 0, .int .i64 0, .int .i64 0, .int .i64 0, .int .i64 0, .bool false, .int .i64 0, .int .i64 0, .int .i64 0, .int .i64 0, .int .i64 0, .int .i64 0] KS W)) (by kernel_rfl) hS0 (fun hHeld => ?_)
  refine take_row 0 3 rfl rfl (by kernel_rfl) (by kernel_rfl) (by kernel_rfl) 23 _ rfl _ rfl _ _ Try.underlying23 rfl HS.out (fun _ h => h.2.box) (fun _ _ _ h => h) (by rfl) (by assumption) ?_
  (try simp only [Act.put, List.setIfInBounds_toArray, List.set_cons_zero, List.set_cons_succ])
  refine ByHand.take_yes (v := ?_) 1 4 rfl rfl (by kernel_rfl) (by kernel_rfl) (by kernel_rfl) (fun _ _ _ h => h) (by rfl) ?_ (by assumption) ?_
  rotate_left
  · intro w' hSw
    (try dsimp only at hSw)
    go_simp
    all_goals with_reducible rfl
  (try simp only [Act.put, List.setIfInBounds_toArray, List.set_cons_zero, List.set_cons_succ])
  refine wpAnyH_ready (rs := [2]) (by kernel_rfl) (by simp) (AllReadyH.cons rfl (fun K hK => ?_) AllReadyH.nil)
  go_simp
  refine (KA.out _).mono ?_
  rintro e w' ⟨rfl, rfl⟩
  go_wp2_with fail
  refine hK.out _ _ ?_ (fun hHeld => ?_)
  · exact hS0
  clear hK K
  (try simp only [Act.put, List.setIfInBounds_toArray, List.set_cons_zero, List.set_cons_succ])
  refine wpAnyH_ready (rs := [3]) (by kernel_rfl) (by simp) (AllReadyH.cons rfl (fun K hK => ?_) AllReadyH.nil)
  go_simp
  refine (KN.out _).mono ?_
  rintro e y ⟨rfl, hb⟩
  replace HST := Lib.hid (hS0.2.below hb)
  go_wp2_with fail
  have ca := HST.out.arg (k := ka) HM.out
  refine hK.out _ _ ?_ (fun hHeld => ?_)
  · exact ⟨ca, HST.out⟩
  clear hK K
  (try simp only [Act.put, List.setIfInBounds_toArray, List.set_cons_zero, List.set_cons_succ])
  refine wpAnyH_done (by kernel_rfl) ?_ _
  have c1 := HST.out.cell (i := 1) XF.out
  go_wp2_with (first
    | (go_at_call 55; with_reducible refine (KP.out _).mono ?_; rintro e y ⟨rfl, hb⟩; replace HST := Lib.hid (HST.out.below hb); clear hb)
    | (go_at_call 39; with_reducible refine (must_bad _ _ _ rfl).mono ?_; rintro e w' ⟨rfl, rfl⟩))
  exact ⟨rfl, rfl, HST.out.one⟩
set_option maxRecDepth 20000 in
theorem drawF_ok (l : Ln) (a : Int) (ka : Nat) (g : Nat) (w : World) (hB : Boxd w g l.cells 23) (q0 : Boxd w ka #[.int .i64 a] 2) (ne0 : ¬ ka = g) (hg : (goodL l && amountB a) = true) (ho : openB l = true) (hl : l.prin + a ≤ 10000000000000) : Calls Try.prog 57 #[.pointer (some ⟨g, 0, none⟩), .pointer (some ⟨ka, 0, none⟩)] w fun e w' => e = .returned (.agg ({ l with prin := l.prin + a } : Ln).cells) ∧ One g w w' := by
  have hks : ∀ x ∈ ([(ka, .int .i64 a, 2)] : List (Nat × Value × TypeId)), Boxd w x.1 #[x.2.1] x.2.2 ∧ ¬ x.1 = g := by
    intro x hx
    simp only [List.mem_cons, List.not_mem_nil, or_false] at hx
    obtain rfl := hx
    exact ⟨q0, ne0⟩
  obtain ⟨g2, wb, e1, e2, hst⟩ := st_new hB hks
  have HST := Lib.hid hst
  clear hst hks hB q0 ne0
  have HS := Lib.hid (ln_info l)
  have G : Good l := goodL_iff.1 (Bool.and_eq_true_iff.1 hg).1
  have ga := wB_iff.1 (show wB a 1 1000000000 = true from (Bool.and_eq_true_iff.1 hg).2)
  have KP := Lib.hid (fun W => add3 l.prin a W G.prin0 G.prin1 (by omega) (by omega))
  rw [if_pos hl, if_pos hl] at KP
  have KN := Lib.hid (fun W => open_ok l (amountB a) W hg ho)
  clear hg ho hl ga G
  unfold amountB at *
  have KA := Lib.hid (fun W => amount_c a W)
  have HM : Hid ((ka, Value.int .i64 a, 2) ∈ [(ka, Value.int .i64 a, 2)]) := List.mem_singleton.2 rfl
  have XF : Hid (l.cells[1]? = some (.int .i64 l.prin)) := show _ = _ from rfl
  have PX : Hid (l.cells.setIfInBounds 1 (.int .i64 (l.prin + a)) = ({ l with prin := l.prin + a } : Ln).cells) := show _ = _ from rfl
  have HS2 := Lib.hid (ln_info { l with prin := l.prin + a })
  have HO := Lib.hid (ln_one { l with prin := l.prin + a })
  have HZ : Hid (l.cells.size = 13) := ln_size l
  have HZ2 : Hid (13 = ({ l with prin := l.prin + a } : Ln).cells.size) := show _ = _ from rfl
  generalize hKS : [(ka, Value.int .i64 a, 2)] = KS at *
  generalize wB a 1 1000000000 = bb at *
  generalize ({ l with prin := l.prin + a } : Ln).cells = D at *
  generalize l.prin + a = s at *
  generalize l.prin = p at *
  generalize l.cells = C at *
  go_enter Try.func57, Try.ntmps57
  go_upto_region 1 with fail
  rw [← e2, ← e1]
  clear e1 e2
  have hS0 : wb.drew.cell? ⟨ka, 0, none⟩ = some (.int .i64 a) ∧ St w g g2 C #[.int .i64 0, .int .i64 0, .int .i64 0, .int .i64 0, .int .i64 0, .int .i64 0, .bool false, .int .i64 0, .int .i64 0, .int .i64 0, .int .i64 0, .int .i64 0, .int .i64 0] KS wb.drew := ⟨HST.out.drawn.arg (k := ka) (T := 2) HM.out, HST.out.drawn⟩
  refine wp_region_held_drew (S := (fun W => W.cell? ⟨ka, 0, none⟩ = some (.int .i64 a) ∧ St w g g2 C #[.int .i64 0, .int .i64 0, .int .i64 0, .int .i64 0, .int .i64 0, .int .i64 0, .bool false, .int .i64 0, .int .i64 0, .int .i64 0, .int .i64 0, .int .i64 0, .int .i64 0] KS W)) (by kernel_rfl) hS0 (fun hHeld => ?_)
  refine take_row 0 3 rfl rfl (by kernel_rfl) (by kernel_rfl) (by kernel_rfl) 23 _ rfl _ rfl _ _ Try.underlying23 rfl HS.out (fun _ h => h.2.box) (fun _ _ _ h => h) (by rfl) (by assumption) ?_
  (try simp only [Act.put, List.setIfInBounds_toArray, List.set_cons_zero, List.set_cons_succ])
  refine ByHand.take_yes (v := ?_) 1 4 rfl rfl (by kernel_rfl) (by kernel_rfl) (by kernel_rfl) (fun _ _ _ h => h) (by rfl) ?_ (by assumption) ?_
  rotate_left
  · intro w' hSw
    (try dsimp only at hSw)
    go_simp
    all_goals with_reducible rfl
  (try simp only [Act.put, List.setIfInBounds_toArray, List.set_cons_zero, List.set_cons_succ])
  refine wpAnyH_ready (rs := [2]) (by kernel_rfl) (by simp) (AllReadyH.cons rfl (fun K hK => ?_) AllReadyH.nil)
  go_simp
  refine (KA.out _).mono ?_
  rintro e w' ⟨rfl, rfl⟩
  go_wp2_with fail
  refine hK.out _ _ ?_ (fun hHeld => ?_)
  · exact hS0
  clear hK K
  (try simp only [Act.put, List.setIfInBounds_toArray, List.set_cons_zero, List.set_cons_succ])
  refine wpAnyH_ready (rs := [3]) (by kernel_rfl) (by simp) (AllReadyH.cons rfl (fun K hK => ?_) AllReadyH.nil)
  go_simp
  refine (KN.out _).mono ?_
  rintro e y ⟨rfl, hb⟩
  replace HST := Lib.hid (hS0.2.below hb)
  go_wp2_with fail
  have ca := HST.out.arg (k := ka) HM.out
  refine hK.out _ _ ?_ (fun hHeld => ?_)
  · exact ⟨ca, HST.out⟩
  clear hK K
  (try simp only [Act.put, List.setIfInBounds_toArray, List.set_cons_zero, List.set_cons_succ])
  refine wpAnyH_done (by kernel_rfl) ?_ _
  have c1 := HST.out.cell (i := 1) XF.out
  go_wp2_with (first
    | (go_at_call 55; with_reducible refine (KP.out _).mono ?_; rintro e y ⟨rfl, hb⟩; replace HST := Lib.hid (HST.out.below hb); clear hb)
    | (go_at_call 39; with_reducible refine (must_ok _ _).mono ?_; rintro e w' ⟨rfl, rfl⟩)
    | (refine o_load rfl 23 _ rfl _ rfl _ _ _ HST.out.box Try.underlying23 rfl HS2.out ?_)
    | (refine o_put rfl 2 _ _ rfl rfl g 1 (.int .i64 s) rfl rfl rfl _ _ HST.out.box (by simp [HZ.out]) i64_one ?_; intro y hr ho; rw [PX.out] at hr; replace HST := Lib.hid (HST.out.put hr ho); clear hr ho)
    | (refine o_store rfl 23 _ _ rfl rfl _ _ rfl rfl _ _ HST.out.res HS2.out HZ2.out HO.out ?_; intro y hr ho; replace HST := Lib.hid (HST.out.fill hr ho); clear hr ho))
  refine bodyPost_ret (results_cell_row rfl _ _ _ _ _ _ _ rfl HST.out.res Try.underlying23 rfl HS2.out) rfl ?_
  exact ⟨rfl, HST.out.one⟩
end Go.Proofs.Ytkegmgjagcefhaa.Loan
