/- The program's own Add and Cut, at any stretches: what they are made of. -/
import Derived.Test.YtjcgclfcompioaaSpanB
import Derived.ArgAppend
import Derived.Lib.SliceRun
namespace Go.Proofs.Ytjcgclfcompioaa.Span
open Go.ChangeShapes Go.WideShapes Go.ChangeAt Go.RowKit Pairs Slice

theorem prs_take {w : World} {B q c0 c1 : Nat} {A : Option Addr} {zs : List (Int × Int)} (h : Prs w B (.slice A zs.length c0) zs) (hq : q ≤ zs.length) (h1 : q ≤ c1) (h2 : A = none → c1 = 0) : Prs w B (.slice A q c1) (zs.take q) := by
  obtain ⟨A', c', e, hl, hn, hc⟩ := h
  injection e with e1 e2 e3
  subst e1
  have hlen : (zs.take q).length = q := by rw [List.length_take]; omega
  refine ⟨A, c1, by rw [hlen], by omega, ⟨h2, by omega⟩, fun h0 => ?_⟩
  obtain ⟨b, off, rfl, hb, hcell⟩ := hc (by omega)
  refine ⟨b, off, rfl, hb, fun i hi => ?_⟩
  rw [hlen] at hi
  have e : (zs.take q).getD i (0, 0) = zs.getD i (0, 0) := by simp only [List.getD_eq_getElem?_getD, List.getElem?_take, hi, if_true]
  rw [e]
  exact hcell i (by omega)
theorem prs_drop {w : World} {B q c0 : Nat} {ad : Addr} {zs : List (Int × Int)} (h : Prs w B (.slice (some ad) zs.length c0) zs) (hq : q ≤ zs.length) :
    Prs w B (.slice (if c0 = q then some ad else some (ad.add (q * 2))) (zs.length - q) (c0 - q)) (zs.drop q) := by
  obtain ⟨A', c', e, hl, hn, hc⟩ := h
  injection e with e1 e2 e3
  subst e1
  subst e3
  have hn := hn.2
  have hlen : (zs.drop q).length = zs.length - q := List.length_drop
  refine ⟨_, _, by rw [hlen], by omega, ⟨fun h => (by split at h <;> cases h), by omega⟩, fun h0 => ?_⟩
  rw [hlen] at h0
  obtain ⟨b, off, e, hb, hcell⟩ := hc (by omega)
  injection e with e
  subst e
  rw [if_neg (by omega), Go.WideShapes.add_plain]
  refine ⟨b, off + q * 2, rfl, hb, fun i hi => ?_⟩
  rw [hlen] at hi
  have e : (zs.drop q).getD i (0, 0) = zs.getD (q + i) (0, 0) := by simp only [List.getD_eq_getElem?_getD, List.getElem?_drop]
  have e2 : off + q * 2 + i * 2 = off + (q + i) * 2 := by omega
  rw [e, e2]
  exact hcell (q + i) (by omega)
theorem prs_cells {w : World} {B n c : Nat} {ad : Addr} {zs : List (Int × Int)} (h : Prs w B (.slice (some ad) n c) zs) : ∀ j u, (flat zs)[j]? = some u → w.cell? (ad.add j) = some u := by
  obtain ⟨A', c', e, hl, hn, hc⟩ := h
  injection e with e1 e2 e3
  subst e1
  intro j y hj
  have hlt : j < zs.length * 2 := by
    rcases Nat.lt_or_ge j (flat zs).length with h | h
    · rwa [flat_length] at h
    · rw [List.getElem?_eq_none h] at hj; cases hj
  obtain ⟨b, off, hb, -, hcell⟩ := hc (by omega)
  injection hb with hb
  subst hb
  obtain ⟨c0, c1⟩ := hcell (j / 2) (by omega)
  rw [Go.WideShapes.add_plain]
  rcases Nat.mod_two_eq_zero_or_one j with hm | hm
  · rw [show j = j / 2 * 2 by omega, flat_get0 zs (j / 2) (by omega)] at hj
    rw [show off + j = off + j / 2 * 2 by omega, c0]; exact hj
  · rw [show j = j / 2 * 2 + 1 by omega, flat_get1 zs (j / 2) (by omega)] at hj
    rw [show off + j = off + j / 2 * 2 + 1 by omega, c1]; exact hj
/-- append of pairs to a slice that came in, cut without room behind it: it moves. -/
theorem wpList_append_cut {P : Program} (w : World) {ops : Array Oper} {rest : List Oper} {o : Oper} {a : Act} {Q : Exit → Act → World → Prop} (hgd : o.guard = none) (s x : Operand) (t : TypeId)
    (ho : o.op = .call { callee := .builtin .append, args := #[s, x], argTypes := #[t, t] })
    (e : TypeId) (i : TypeInfo) (z : Value) (ht : P.underlying t = some (.slice e)) (hi : P.info? e = some i) (hz : i.zero = some z)
    (hsize : i.size = 2) (hby : i.bytes = 16) (hzs : z.cells.size = 2)
    (A : Option Addr) (n B : Nat) (xs : List (Int × Int)) (hs : a.eval s = .slice A n n) (hxs : Prs w B (.slice A n n) xs)
    (B' : Nat) (u : Value) (ys : List (Int × Int)) (hx : a.eval x = u) (hys : Prs w B' u ys) (h0 : 0 < ys.length)
    (h63 : n + ys.length ≤ maxLen) (hbytes : (n + ys.length) * 16 ≤ 140737488355328)
    (h : ∀ v' w', w'.ownsRow w.heap.size e 2 v' (n + ys.length) (flat xs ++ flat ys) → w.grownBy w' none → wpList P ops Q rest (a.put o.dst v') w') : wpList P ops Q (o :: rest) a w := by
  obtain ⟨Ay, cy, rfl⟩ := hys.shape
  have hAy : ∃ ad, Ay = some ad := by
    obtain ⟨A', c', e, -, -, hc⟩ := id hys
    injection e with e1
    obtain ⟨b, off, hb, -⟩ := hc h0
    exact ⟨_, e1.trans hb⟩
  obtain ⟨ad, rfl⟩ := hAy
  have hn : n = xs.length := by
    obtain ⟨A', c', e, -⟩ := id hxs
    injection e
  have hnone : A = none → n = 0 ∧ n = 0 := by
    intro hA
    obtain ⟨A', c', e, -, hk, -⟩ := id hxs
    injection e with e1 e2 e3
    have := hk.1 (e1.symm.trans hA)
    omega
  exact wpList_append_grows w hgd s x t ho e i z 2 16 ht hi hz hsize hby hzs (by omega) A n n (flat xs) hs hnone (by rw [flat_length, hn]) (fun b hb => by subst hb; exact prs_cells hxs)
    ad ys.length cy (flat ys) hx (flat_length ys) (prs_cells hys) flat_cells (by omega) h63 hbytes h
theorem u_few (zs : List (Int × Int)) (v : Value) (w : World) (hv : Prs w w.heap.size v zs) :
    Calls Try.prog 31 #[v] w fun e w' => ∃ u, e = .returned (.tuple #[u, .int .i64 (resE zs)]) ∧ Prs w w.heap.size u (resL zs) ∧ w = w' := by
  obtain ⟨A, c, rfl⟩ := hv.shape
  have HV := Lib.hid hv
  have hl : zs.length ≤ 9223372036854775807 := by obtain ⟨_, _, _, hl, _⟩ := hv; exact hl
  clear hv
  by_cases hm : 1000 < zs.length
  · have H1 : Hid (resL zs = []) := show _ = _ by unfold resL; rw [if_neg (by omega)]
    have H2 : Hid (resE zs = 3) := show _ = _ by unfold resE; rw [if_neg (by omega)]
    rw [H2.out]
    go_enter Try.func31, Try.ntmps31
    go_wp2_with fail
    go_ret2
    exact ⟨.slice none 0 0, rfl, by rw [H1.out]; exact Prs.nil_ _ _, rfl⟩
  · have H1 : Hid (resL zs = zs) := show _ = _ by unfold resL; rw [if_pos (by omega)]
    have H2 : Hid (resE zs = 0) := show _ = _ by unfold resE; rw [if_pos (by omega)]
    rw [H2.out]
    go_enter Try.func31, Try.ntmps31
    go_wp2_with fail
    go_ret2
    exact ⟨_, rfl, by rw [H1.out]; exact HV.out, rfl⟩
theorem u_clone (zs : List (Int × Int)) (v : Value) (B : Nat) (w : World) (hB : B ≤ w.heap.size) (hv : Prs w B v zs) (hl : zs.length ≤ 2000) :
    Calls Try.prog 34 #[v] w fun e w' => ∃ u, e = .returned u ∧ Prs w' w'.heap.size u zs ∧ Below w.heap.size w w' := by
  have HV := Lib.hid hv
  have HL := Lib.hid hl
  obtain ⟨A, c, rfl, -, hn, -⟩ := hv
  obtain ⟨i0, hi0, hz0, hz1, hz2⟩ := info_parts span_info
  have HI := Lib.hid hi0
  have HZ0 := Lib.hid hz0
  have HZ1 := Lib.hid hz1
  have HZ2 := Lib.hid hz2
  have q : ∀ (w : World) (a : Option Addr) (n c : Nat), (binOp .eql 22 (.slice a n c) (.slice none 0 0)).run Try.prog w = .ok (.bool a.isNone) w := fun w a n c => Lib.run_eql_slice_nil w _ _ a n c 0 0 Try.underlying22
  cases A with
  | none =>
    have hc := hn.1 rfl
    have hn := hn.2
    have h0 : zs = [] := List.eq_nil_of_length_eq_zero (by omega)
    subst h0
    subst hc
    clear hn hi0 hz0 hz1 hz2
    go_enter Try.func34, Try.ntmps34
    go_wp2_with fail
    go_ret
    exact ⟨_, rfl, Prs.nil_ _ _, Below.refl _ _⟩
  | some ad =>
    clear hn hi0 hz0 hz1 hz2
    go_enter Try.func34, Try.ntmps34
    go_wp2_with (first
      | (at_builtin
         refine Pairs.wpList_append_pairs rfl (.tmp 5) (.tmp 6) _ rfl w.heap.size 51 i0 (.agg #[.int .i64 0, .int .i64 0]) Try.underlying22 HI.out HZ0.out HZ1.out HZ2.out rfl (.slice (some ⟨w.heap.size, 0, none⟩) 0 0) 0 [] rfl (own_empty w _ _ _ (Nat.le_refl _)) B _ zs rfl (HV.out.alloc hB _) (by have := HL.out; unfold maxLen; omega) (by have := HL.out; omega) (by simp) ?_
         intro v3 wk hown hgrow
         rw [Nat.zero_add, List.nil_append] at hown
         have HB := Lib.hid (below_append (a := w) (below_new (Below.refl _ _) _) (Nat.le_refl _) (own_empty w 51 2 _ (Nat.le_refl _)) hgrow)
         have P1 := Lib.hid (Prs.of_own rfl hown)
         obtain ⟨AP1, cP1, rfl⟩ := own_shape hown
         clear hown hgrow)
      | fail)
    go_ret
    exact ⟨_, rfl, P1.out, HB.out⟩
set_option maxHeartbeats 1000000 in
theorem u_swap (zs os : List (Int × Int)) (i j : Nat) (v vo : Value) (B base : Nat) (w : World) (hB : B ≤ base) (hb : base ≤ w.heap.size) (hv : Prs w B v zs) (hl : zs.length ≤ 1000) (hij : i ≤ j) (hj : j ≤ zs.length)
    (ho : w.ownsRow base 51 2 vo os.length (flat os)) (hol : os.length ≤ 2) :
    Calls Try.prog 29 #[v, .int .i64 i, .int .i64 j, vo] w fun e w' => ∃ u, e = .returned (.tuple #[u, .int .i64 (resE (zs.take i ++ os ++ zs.drop j))]) ∧ Prs w' w'.heap.size u (resL (zs.take i ++ os ++ zs.drop j)) ∧ Below base w w' := by
  have HV := Lib.hid hv
  have HO := Lib.hid ho
  have HL := Lib.hid hl
  have hv0 := hv
  obtain ⟨A, c, rfl, -, hn, -⟩ := hv
  obtain ⟨Ao, co, rfl⟩ := own_shape ho
  have hcap := hn.2
  have h1 : (0 : Int) ≤ i := by omega
  have h2 : (0 : Int) ≤ j := by omega
  obtain ⟨i0, hi0, hz0, hz1, hz2⟩ := info_parts span_info
  have HI := Lib.hid hi0
  have HZ0 := Lib.hid hz0
  have HZ1 := Lib.hid hz1
  have HZ2 := Lib.hid hz2
  cases A with
  | none =>
    have hc := hn.1 rfl
    have h0 : zs = [] := List.eq_nil_of_length_eq_zero (by omega)
    subst h0
    subst hc
    obtain rfl : j = 0 := by simpa using hj
    obtain rfl : i = 0 := by omega
    have PT := Lib.hid (Prs.nil_ w B)
    clear hn hcap hi0 hz0 hz1 hz2 ho hv0
    rw [List.take_zero, List.drop_zero]
    generalize hn3 : os.length + (([] : List (Int × Int))).length = n3
    have HX := Lib.hid hn3
    rcases Nat.eq_zero_or_pos n3 with h0 | h0
    · have ho0 : os = [] := List.eq_nil_of_length_eq_zero (by omega)
      have hd0 : ([] : List (Int × Int)) = [] := List.eq_nil_of_length_eq_zero (by omega)
      have HR : Hid (resL (([] : List (Int × Int)) ++ os ++ ([] : List (Int × Int))) = ([] : List (Int × Int))) := show _ = _ by
        rw [ho0, hd0, List.append_nil, List.append_nil]
        unfold resL
        rw [if_pos (by simp)]
      have HE : Hid (resE (([] : List (Int × Int)) ++ os ++ ([] : List (Int × Int))) = 0) := show _ = _ by
        rw [ho0, hd0, List.append_nil, List.append_nil]
        unfold resE
        rw [if_pos (by simp)]
      have PC := Lib.hid (Prs.nil_ w B)
      clear ho0 hd0
      subst h0
      rw [HE.out, HR.out]
      go_enter Try.func29, Try.ntmps29
      go_wp2_with (first
        | (at_builtin
           refine Pairs.wpList_append_pairs rfl (.tmp 11) (.tmp 14) _ rfl base 51 i0 (.agg #[.int .i64 0, .int .i64 0]) Try.underlying22 HI.out HZ0.out HZ1.out HZ2.out rfl _ _ _ rfl HO.out B _ (([] : List (Int × Int))) rfl (Prs.nil_ w B) (by have := HL.out; unfold maxLen; omega) (by have := HL.out; omega) hb ?_
           intro v3 w3 hown hgrow
           rw [← flat_append, hn3] at hown
           have hbel : Below base w w3 := (Below.refl base w).grown hgrow hb (fun g hg => (HO.out.lt g hg).1)
           have P3 := Lib.hid (Prs.of_own (by rw [List.length_append]; exact HX.out.symm) hown)
           obtain ⟨A3, c3, rfl⟩ := own_shape hown
           have B3 := Lib.hid hbel
           have PC := Lib.hid (PC.out.below (hbel.mono hB))
           clear hown hgrow hbel)
        | fail)
      all_goals
        have hcc := u_clone (([] : List (Int × Int))) _ B w3 (Nat.le_trans hB (Nat.le_trans hb B3.out.size)) PC.out (by simp)
        refine hcc.mono ?_
        clear hcc
        rintro e w4 ⟨u, rfl, hu, hb4⟩
        have PU := Lib.hid hu
        have B4 : Hid (Below base w w4) := B3.out.trans (hb4.mono (Nat.le_trans hb B3.out.size))
        clear hu hb4
        go_wp2_with fail
        go_ret2
        exact ⟨_, rfl, PU.out, B4.out⟩
    · have t3 : ((n3 : Int) == 0) = false := by rw [beq_eq_false_iff_ne]; omega
      have t4 : decide (n3 = 0) = false := decide_eq_false (by omega)
      rw [List.nil_append, List.append_nil]
      go_enter Try.func29, Try.ntmps29
      go_wp2_with (first
        | (at_builtin
           refine Pairs.wpList_append_pairs rfl (.tmp 11) (.tmp 14) _ rfl base 51 i0 (.agg #[.int .i64 0, .int .i64 0]) Try.underlying22 HI.out HZ0.out HZ1.out HZ2.out rfl _ _ _ rfl HO.out B _ (([] : List (Int × Int))) rfl (Prs.nil_ w B) (by have := HL.out; unfold maxLen; omega) (by have := HL.out; omega) hb ?_
           intro v3 w3 hown hgrow
           rw [← flat_append, hn3] at hown
           have hbel : Below base w w3 := (Below.refl base w).grown hgrow hb (fun g hg => (HO.out.lt g hg).1)
           have P3 := Lib.hid (Prs.of_own (by rw [List.length_append]; exact HX.out.symm) hown)
           obtain ⟨A3, c3, rfl⟩ := own_shape hown
           have B3 := Lib.hid hbel
           have PT := Lib.hid (PT.out.below (hbel.mono hB))
           clear hown hgrow hbel)
        | (at_builtin
           refine wpList_append_cut _ rfl (.tmp 26) (.tmp 27) _ rfl 51 i0 (.agg #[.int .i64 0, .int .i64 0]) Try.underlying22 HI.out HZ0.out HZ1.out HZ2.out rfl _ 0 B (([] : List (Int × Int))) rfl PT.out _ _ (os ++ ([] : List (Int × Int))) rfl P3.out (by rw [List.length_append, HX.out]; exact h0) (by have := HL.out; rw [List.length_append, HX.out]; unfold maxLen; omega) (by have := HL.out; rw [List.length_append, HX.out]; omega) ?_
           intro v4 w4 hown hgrow
           rw [← flat_append] at hown
           have hbel : Below base w w4 := B3.out.grown hgrow (Nat.le_trans hb B3.out.size) (fun g hg => (by cases hg))
           rw [show 0 + (os ++ ([] : List (Int × Int))).length = n3 by rw [Nat.zero_add, List.length_append, HX.out], List.nil_append, List.append_nil] at hown
           have P4 := Lib.hid (Prs.of_own (by have := HX.out; rw [List.length_nil] at this; omega) hown)
           obtain ⟨A4, c4, rfl⟩ := own_shape hown
           have B4 := Lib.hid hbel
           clear hown hgrow hbel)
        | fail)
      all_goals
        refine (u_few _ _ _ P4.out).mono ?_
        rintro e w5 ⟨u, rfl, hu, rfl⟩
        have PU := Lib.hid hu
        clear hu
        go_wp2_with fail
        go_ret2
        exact ⟨_, rfl, PU.out, B4.out⟩
  | some ad =>
    have PT := Lib.hid (prs_take HV.out (q := i) (c1 := i) (by omega) (Nat.le_refl _) (fun h => by cases h))
    have PD := Lib.hid (prs_drop HV.out hj)
    have t1 : decide ((j : Int) ≤ zs.length) = true := decide_eq_true (by omega)
    have t2 : decide ((i : Int) ≤ c) = true := decide_eq_true (by omega)
    clear hn hi0 hz0 hz1 hz2 ho hv0
    generalize hn3 : os.length + (zs.drop j).length = n3
    have hlen : (zs.drop j).length = zs.length - j := List.length_drop
    have HX := Lib.hid hn3
    rcases Nat.eq_zero_or_pos n3 with h0 | h0
    · have ho0 : os = [] := List.eq_nil_of_length_eq_zero (by omega)
      have hd0 : zs.drop j = [] := List.eq_nil_of_length_eq_zero (by omega)
      have HR : Hid (resL (zs.take i ++ os ++ zs.drop j) = zs.take i) := show _ = _ by
        rw [ho0, hd0, List.append_nil, List.append_nil]
        unfold resL
        rw [if_pos (by rw [List.length_take]; have := HL.out; omega)]
      have HE : Hid (resE (zs.take i ++ os ++ zs.drop j) = 0) := show _ = _ by
        rw [ho0, hd0, List.append_nil, List.append_nil]
        unfold resE
        rw [if_pos (by rw [List.length_take]; have := HL.out; omega)]
      have PC := Lib.hid (prs_take HV.out (q := i) (c1 := c) (by omega) (by omega) (fun h => by cases h))
      clear ho0 hd0
      subst h0
      rw [HE.out, HR.out]
      go_enter Try.func29, Try.ntmps29
      go_wp2_with (first
        | (at_builtin
           refine Pairs.wpList_append_pairs rfl (.tmp 11) (.tmp 14) _ rfl base 51 i0 (.agg #[.int .i64 0, .int .i64 0]) Try.underlying22 HI.out HZ0.out HZ1.out HZ2.out rfl _ _ _ rfl HO.out B _ (zs.drop j) rfl PD.out (by have := HL.out; unfold maxLen; omega) (by have := HL.out; omega) hb ?_
           intro v3 w3 hown hgrow
           rw [← flat_append, hn3] at hown
           have hbel : Below base w w3 := (Below.refl base w).grown hgrow hb (fun g hg => (HO.out.lt g hg).1)
           have P3 := Lib.hid (Prs.of_own (by rw [List.length_append]; exact HX.out.symm) hown)
           obtain ⟨A3, c3, rfl⟩ := own_shape hown
           have B3 := Lib.hid hbel
           have PC := Lib.hid (PC.out.below (hbel.mono hB))
           clear hown hgrow hbel)
        | fail)
      all_goals
        try subst h
        have hcc := u_clone (zs.take i) _ B w3 (Nat.le_trans hB (Nat.le_trans hb B3.out.size)) PC.out (by rw [List.length_take]; have := HL.out; omega)
        refine hcc.mono ?_
        clear hcc
        rintro e w4 ⟨u, rfl, hu, hb4⟩
        have PU := Lib.hid hu
        have B4 : Hid (Below base w w4) := B3.out.trans (hb4.mono (Nat.le_trans hb B3.out.size))
        clear hu hb4
        go_wp2_with fail
        go_ret2
        exact ⟨_, rfl, PU.out, B4.out⟩
    · have t3 : ((n3 : Int) == 0) = false := by rw [beq_eq_false_iff_ne]; omega
      have t4 : decide (n3 = 0) = false := decide_eq_false (by omega)
      rw [List.append_assoc]
      go_enter Try.func29, Try.ntmps29
      go_wp2_with (first
        | (at_builtin
           refine Pairs.wpList_append_pairs rfl (.tmp 11) (.tmp 14) _ rfl base 51 i0 (.agg #[.int .i64 0, .int .i64 0]) Try.underlying22 HI.out HZ0.out HZ1.out HZ2.out rfl _ _ _ rfl HO.out B _ (zs.drop j) rfl PD.out (by have := HL.out; unfold maxLen; omega) (by have := HL.out; omega) hb ?_
           intro v3 w3 hown hgrow
           rw [← flat_append, hn3] at hown
           have hbel : Below base w w3 := (Below.refl base w).grown hgrow hb (fun g hg => (HO.out.lt g hg).1)
           have P3 := Lib.hid (Prs.of_own (by rw [List.length_append]; exact HX.out.symm) hown)
           obtain ⟨A3, c3, rfl⟩ := own_shape hown
           have B3 := Lib.hid hbel
           have PT := Lib.hid (PT.out.below (hbel.mono hB))
           clear hown hgrow hbel)
        | (at_builtin
           refine wpList_append_cut _ rfl (.tmp 26) (.tmp 27) _ rfl 51 i0 (.agg #[.int .i64 0, .int .i64 0]) Try.underlying22 HI.out HZ0.out HZ1.out HZ2.out rfl _ i B (zs.take i) rfl PT.out _ _ (os ++ zs.drop j) rfl P3.out (by rw [List.length_append, HX.out]; exact h0) (by have := HL.out; rw [List.length_append, HX.out]; unfold maxLen; omega) (by have := HL.out; rw [List.length_append, HX.out]; omega) ?_
           intro v4 w4 hown hgrow
           rw [← flat_append] at hown
           have hbel : Below base w w4 := B3.out.grown hgrow (Nat.le_trans hb B3.out.size) (fun g hg => (by cases hg))
           rw [show i + (os ++ zs.drop j).length = i + n3 by rw [List.length_append, HX.out]] at hown
           have P4 := Lib.hid (Prs.of_own (by rw [List.length_append, List.length_append, HX.out, List.length_take, Nat.min_eq_left (Nat.le_trans hij hj)]) hown)
           obtain ⟨A4, c4, rfl⟩ := own_shape hown
           have B4 := Lib.hid hbel
           clear hown hgrow hbel)
        | fail)
      all_goals
        refine (u_few _ _ _ P4.out).mono ?_
        rintro e w5 ⟨u, rfl, hu, rfl⟩
        have PU := Lib.hid hu
        clear hu
        go_wp2_with fail
        go_ret2
        exact ⟨_, rfl, PU.out, B4.out⟩
end Go.Proofs.Ytjcgclfcompioaa.Span
