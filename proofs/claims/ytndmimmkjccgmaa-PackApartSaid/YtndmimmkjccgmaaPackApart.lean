/- Two rows of items of the same sizes are packed alike just if all are alike; no condition. -/
import Derived.Test.YtndmimmkjccgmaaShell
import Derived.Test.YtndmimmkjccgmaaPackWakes
import Derived.Test.YtndmimmkjccgmaaPackApartMath
import Derived.Test.YtndmimmkjccgmaaModFixed
import Derived.Deep.RegionHeld3
import Derived.Deep.DeepCutAuto
import Derived.ChangeMaps5
namespace Go.Proofs.Ytndmimmkjccgmaa.Law
open Go.ChangeShapes Go.WideShapes Go.ChangeAt Go.RowKit Pack Items

theorem item_new {F : Nat → Prop} {wr w1 : World} {a0 a1 a2 : Value} {T : TypeId} (hlt : ∀ i, F i → i < wr.heap.size) (ho : Only F (wr.alloc (.cells #[a0, a1, a2] T)) w1) : w1.heap[wr.heap.size]? = some (.cells #[a0, a1, a2] T) := by
  rw [ho.block _ (by simp) (fun h => by have := hlt _ h; omega)]
  show (wr.heap.push _)[wr.heap.size]? = _
  exact Array.getElem?_push_size
theorem grown_set (w : World) (a : Addr) (v : Value) : w.grownBy (w.setCell a v) (some a.block) :=
  ⟨rfl, rfl, rfl, by show _ ≤ (w.heap.modify _ _).size; rw [Array.size_modify]; exact Nat.le_refl _, fun k _ hk => Below.heap_setCell _ _ _ k (fun e => hk (by rw [e]))⟩
theorem cells_of {w : World} {r : Nat} {a0 a1 a2 : Value} {T : TypeId} (h : w.heap[r]? = some (.cells #[a0, a1, a2] T)) :
    w.cell? ⟨r, 0, none⟩ = some a0 ∧ w.cell? ⟨r, 1, none⟩ = some a1 ∧ w.cell? ⟨r, 2, none⟩ = some a2 ∧ w.frozen? ⟨r, 0, none⟩ = false ∧ w.frozen? ⟨r, 1, none⟩ = false ∧ w.frozen? ⟨r, 2, none⟩ = false := by
  simp [World.cell?, World.frozen?, h]
set_option maxHeartbeats 4000000 in
set_option maxRecDepth 20000 in
theorem packApart_fair (l : List It) (at_ : Int) (u : Nat) (v : Value) (w : World) (hv : Its w w.heap.size v l) (hfit : ∀ z ∈ l, z.Fit) (hf : fairB l = true) (h0 : 0 < l.length) (hu : u < 18446744073709551616) :
    Calls Try.prog 7 #[v, .int .i64 at_, .int .u64 u] w fun e w' => e = .returned (.bool true) ∧ Below w.heap.size w w' := by
  have R := r_fair l v _ w hv
  rw [hf] at R
  have HF := Lib.hid (fair_small hf)
  have HFIT := Lib.hid hfit
  have hl3 := fair_len hf
  obtain ⟨k, hk, M⟩ := Mod.mod_fixed at_ l.length (by omega) (by omega)
  have hkl : k < l.length := by omega
  have M := Lib.hid M
  have n0 : ((l.length : Int) == 0) = false := by rw [beq_eq_false_iff_ne]; omega
  obtain ⟨A, c, rfl, -, -, hcell⟩ := hv
  have HC := Lib.hid hcell
  clear hcell hfit hf
  go_enter Try.func7, Try.ntmps7
  go_wp2_with fail
  refine R.mono ?_
  rintro e w1 ⟨rfl, n, rfl⟩
  clear R
  go_wp2_with fail
  refine (M.out _).mono ?_
  rintro e w2 ⟨rfl, rfl⟩
  go_wp2_with fail
  clear M
  generalize hW : ((w.drewN n).alloc (.cells #[.pointer none, .int .i64 0, .int .i64 0] 29)).alloc (.cells #[.pointer none, .int .i64 0, .int .i64 0] 29) = wz
  have T0 : TwoP w wz w.heap.size (w.heap.size + 1) (fun i => i = w.heap.size) (fun i => i = w.heap.size + 1) pst0 pst0 := by
    rw [← hW]
    exact twoP_start w (w.drewN n) rfl ⟨rfl, rfl, rfl, Nat.le_refl _, fun _ _ => rfl⟩
  have T0 := Lib.hid T0
  clear hW
  have SAME := Lib.hid (fun h1 h2 => turn_all (l := l) (u := u) hkl h1 h2)
  obtain ⟨sv, hsv⟩ : ∃ sv, sv = sameI (l.getD k it0) u := ⟨_, rfl⟩
  rw [← hsv] at SAME
  have HS := Lib.hid hsv
  clear hsv
  go_loopw [10, 11] (fun sm t wr => ∃ (j : Nat) (F F' : Nat → Prop), j ≤ l.length ∧ t = .int .i64 j ∧ sm = .bool (decide (j ≤ k) || sv) ∧ Hid (TwoP w wr w.heap.size (w.heap.size + 1) F F' (runP pst0 (l.take j)) (runP pst0 ((turnL l k u).take j)))) (fun _ t _ => l.length - (intOf t).toNat)
  case atStart => exact ⟨0, _, _, Nat.zero_le _, rfl, by rw [decide_eq_true (Nat.zero_le k)]; rfl, T0⟩
  case round =>
    obtain ⟨j, F, F', hj, rfl, rfl, TT⟩ := hrel
    have SZ := TT.out.below.size
    by_cases hlt : j < l.length
    · obtain ⟨b, off, rfl, hb, hq⟩ := HC.out (by omega)
      have X := Lib.hid (hq j hlt)
      have FIT := HFIT.out _ (item_in hlt)
      have SML := Lib.hid (HF.out _ (item_in hlt))
      have u0 : decide ((j : Int) < (l.length : Int)) = true := decide_eq_true (by omega)
      have j0 : (0 : Int) ≤ j := by omega
      clear hq
      have R1 := Lib.hid (run_next l hlt)
      have R2 := Lib.hid (turn_run (u := u) hkl hlt)
      have R3 := Lib.hid (fun h : j = k => (show sv = sameI (l.getD j it0) u by rw [HS.out, h]))
      generalize l.getD j it0 = z at *
      have x0 := (TT.out.below.cell (p := ⟨b, off + j * 3, none⟩) hb).trans X.out.1
      have x1 := (TT.out.below.cell (p := ⟨b, off + j * 3 + 1, none⟩) hb).trans X.out.2.1
      have x2 := (TT.out.below.cell (p := ⟨b, off + j * 3 + 2, none⟩) hb).trans X.out.2.2
      have FIT := Lib.hid FIT
      by_cases hz : z.size = 0
      · have u1 : (z.size == 0) = true := by rw [beq_iff_eq]; exact hz
        go_wp2_with fail
        have TA := Lib.hid (TT.out.alloc (.cells #[.int .i64 0, .int .u64 z.v, .string z.s] 35))
        have E1 : Hid ((runP pst0 (l.take j)).text z.s = runP pst0 (l.take (j + 1))) := show _ = _ by rw [R1.out]; unfold PSt.step; rw [if_pos hz]
        have hcc := pk_text _ z.s w.heap.size F _ TA.out.pk (by have := SML.out; omega)
        rw [E1.out] at hcc
        refine hcc.mono ?_
        clear hcc
        rintro e w1 ⟨rfl, F1, hp, ho, hF⟩
        have y0 := (cells_of (item_new TT.out.pk.lt ho)).1
        have y1 := (cells_of (item_new TT.out.pk.lt ho)).2.1
        have y2 := (cells_of (item_new TT.out.pk.lt ho)).2.2.1
        have f1 := (cells_of (item_new TT.out.pk.lt ho)).2.2.2.2.1
        have f2 := (cells_of (item_new TT.out.pk.lt ho)).2.2.2.2.2
        have n1 : ¬ F1 wr.heap.size := fun h => by
          rcases hF _ h with h | h
          · have := TT.out.pk.lt _ h; omega
          · simp at h; omega
        have n2 : ¬ F' wr.heap.size := fun h => by have := TT.out.qk.lt _ h; omega
        have T1 := Lib.hid (TA.out.first ho hp hF)
        clear hp ho hF x0 x1 x2
        have zl : ¬ (9223372036854775807 < z.s.size + 1) := by have := SML.out; omega
        by_cases hjk : j = k
        · obtain rfl := hjk
          have u2 : ((j : Int) == (j : Int)) = true := by rw [beq_iff_eq]
          have E2 : Hid ((runP pst0 ((turnL l j u).take j)).text (z.s ++ ⟨#[122]⟩) = runP pst0 ((turnL l j u).take (j + 1))) := show _ = _ by rw [R2.out, if_pos rfl]; unfold turnI; rw [if_pos hz]; unfold PSt.step; rw [if_pos hz]
          have SM : Hid (false = (decide (j + 1 ≤ j) || sv)) := show _ = _ by rw [decide_eq_false (show ¬ (j + 1 ≤ j) by omega), Bool.false_or, R3.out rfl]; unfold sameI; rw [if_pos hz]
          go_wp2_with fail
          have T2 := Lib.hid (T1.out.turn (grown_set w1 ⟨wr.heap.size, 2, none⟩ (.string (z.s ++ ⟨#[122]⟩))) n1 n2 SZ)
          have hcc := pk_text _ (z.s ++ ⟨#[122]⟩) (w.heap.size + 1) F' _ T2.out.qk (by rw [ByteArray.size_append]; have := SML.out; have : (⟨#[122]⟩ : ByteArray).size = 1 := rfl; omega)
          rw [E2.out] at hcc
          refine hcc.mono ?_
          clear hcc
          rintro e w2 ⟨rfl, F2, hp, ho, hF⟩
          have T3 := Lib.hid (T2.out.swap.first ho hp hF).swap
          clear hp ho hF
          go_wp2_with fail
          go_roundw
          case rel => exact ⟨j + 1, F1, F2, by omega, by go_num, by rw [← SM.out], T3⟩
          case measure => simp [intOf]; omega
        · have u2 : ((j : Int) == (k : Int)) = false := by rw [beq_eq_false_iff_ne]; omega
          have E2 : Hid ((runP pst0 ((turnL l k u).take j)).text z.s = runP pst0 ((turnL l k u).take (j + 1))) := show _ = _ by rw [R2.out, if_neg hjk]; unfold PSt.step; rw [if_pos hz]
          have SM : Hid (decide (j ≤ k) = decide (j + 1 ≤ k)) := show _ = _ from decide_eq_decide.2 (by omega)
          clear hjk
          go_wp2_with fail
          have hcc := pk_text _ z.s (w.heap.size + 1) F' _ T1.out.qk (by have := SML.out; omega)
          rw [E2.out] at hcc
          refine hcc.mono ?_
          clear hcc
          rintro e w2 ⟨rfl, F2, hp, ho, hF⟩
          have T3 := Lib.hid (T1.out.swap.first ho hp hF).swap
          clear hp ho hF
          go_wp2_with fail
          go_roundw
          case rel => exact ⟨j + 1, F1, F2, by omega, by go_num, by rw [← SM.out], T3⟩
          case measure => simp [intOf]; omega
      · have u1 : (z.size == 0) = false := by rw [beq_eq_false_iff_ne]; exact hz
        go_wp2_with fail
        have TA := Lib.hid (TT.out.alloc (.cells #[.int .i64 z.size, .int .u64 z.v, .string z.s] 35))
        have E1 : Hid ((runP pst0 (l.take j)).num z.v z.size = runP pst0 (l.take (j + 1))) := show _ = _ by rw [R1.out]; unfold PSt.step; rw [if_neg hz]
        have hcc := pk_num _ z.v z.size w.heap.size F _ TA.out.pk FIT.out.2.1 FIT.out.1
        rw [E1.out] at hcc
        refine hcc.mono ?_
        clear hcc
        rintro e w1 ⟨rfl, F1, hp, ho, hF⟩
        have y0 := (cells_of (item_new TT.out.pk.lt ho)).1
        have y1 := (cells_of (item_new TT.out.pk.lt ho)).2.1
        have y2 := (cells_of (item_new TT.out.pk.lt ho)).2.2.1
        have f1 := (cells_of (item_new TT.out.pk.lt ho)).2.2.2.2.1
        have f2 := (cells_of (item_new TT.out.pk.lt ho)).2.2.2.2.2
        have n1 : ¬ F1 wr.heap.size := fun h => by
          rcases hF _ h with h | h
          · have := TT.out.pk.lt _ h; omega
          · simp at h; omega
        have n2 : ¬ F' wr.heap.size := fun h => by have := TT.out.qk.lt _ h; omega
        have T1 := Lib.hid (TA.out.first ho hp hF)
        clear hp ho hF x0 x1 x2
        by_cases hjk : j = k
        · obtain rfl := hjk
          have u2 : ((j : Int) == (j : Int)) = true := by rw [beq_iff_eq]
          have E2 : Hid ((runP pst0 ((turnL l j u).take j)).num u z.size = runP pst0 ((turnL l j u).take (j + 1))) := show _ = _ by rw [R2.out, if_pos rfl]; unfold turnI; rw [if_neg hz]; unfold PSt.step; exact (if_neg hz).symm
          have SM : Hid (decide (z.v = u) = (decide (j + 1 ≤ j) || sv)) := show _ = _ by rw [decide_eq_false (show ¬ (j + 1 ≤ j) by omega), Bool.false_or, R3.out rfl]; unfold sameI; rw [if_neg hz]
          have u3 : ((z.v : Int) == (u : Int)) = decide (z.v = u) := by rw [Bool.eq_iff_iff, beq_iff_eq, decide_eq_true_eq]; omega
          generalize decide (z.v = u) = sw at *
          go_wp2_with fail
          have T2 := Lib.hid (T1.out.turn (grown_set w1 ⟨wr.heap.size, 1, none⟩ (.int .u64 u)) n1 n2 SZ)
          have hcc := pk_num _ u z.size (w.heap.size + 1) F' _ T2.out.qk hu FIT.out.1
          rw [E2.out] at hcc
          refine hcc.mono ?_
          clear hcc
          rintro e w2 ⟨rfl, F2, hp, ho, hF⟩
          have T3 := Lib.hid (T2.out.swap.first ho hp hF).swap
          clear hp ho hF
          go_wp2_with fail
          go_roundw
          case rel => exact ⟨j + 1, F1, F2, by omega, by go_num, by rw [← SM.out], T3⟩
          case measure => simp [intOf]; omega
        · have u2 : ((j : Int) == (k : Int)) = false := by rw [beq_eq_false_iff_ne]; omega
          have E2 : Hid ((runP pst0 ((turnL l k u).take j)).num z.v z.size = runP pst0 ((turnL l k u).take (j + 1))) := show _ = _ by rw [R2.out, if_neg hjk]; unfold PSt.step; rw [if_neg hz]
          have SM : Hid (decide (j ≤ k) = decide (j + 1 ≤ k)) := show _ = _ from decide_eq_decide.2 (by omega)
          clear hjk
          go_wp2_with fail
          have hcc := pk_num _ z.v z.size (w.heap.size + 1) F' _ T1.out.qk FIT.out.2.1 FIT.out.1
          rw [E2.out] at hcc
          refine hcc.mono ?_
          clear hcc
          rintro e w2 ⟨rfl, F2, hp, ho, hF⟩
          have T3 := Lib.hid (T1.out.swap.first ho hp hF).swap
          clear hp ho hF
          go_wp2_with fail
          go_roundw
          case rel => exact ⟨j + 1, F1, F2, by omega, by go_num, by rw [← SM.out], T3⟩
          case measure => simp [intOf]; omega
    · obtain rfl : j = l.length := by omega
      have u0 : decide ((l.length : Int) < (l.length : Int)) = false := decide_eq_false (by omega)
      have e1 : l.take l.length = l := List.take_length
      have e2 : (turnL l k u).take l.length = turnL l k u := by rw [← turn_len l k u]; exact List.take_length
      have e3 : decide (l.length ≤ k) = false := decide_eq_false (by omega)
      rw [e1, e2] at TT
      rw [e3, Bool.false_or]
      clear e1 e2 e3
      generalize runP pst0 l = st at *
      generalize runP pst0 (turnL l k u) = st2 at *
      go_wp2_with fail
      have hcc := pk_done st w.heap.size F wr TT.out.pk
      refine hcc.mono ?_
      clear hcc
      rintro e w1 ⟨rfl, F1, hp, ho, hF⟩
      have T1 := Lib.hid (TT.out.first ho hp hF)
      clear hp ho hF
      go_wp2_with fail
      have hcc := pk_done st2 (w.heap.size + 1) F' w1 T1.out.qk
      refine hcc.mono ?_
      clear hcc
      rintro e w2 ⟨rfl, F2, hp, ho, hF⟩
      have T2 := Lib.hid (T1.out.swap.first ho hp hF).swap
      clear hp ho hF
      have BB := Lib.hid T2.out.below
      by_cases he : st.e = 0
      · have he' : (st.e != 0) = false := by rw [he]; rfl
        have a1 : st.told = st.s := by unfold PSt.told; rw [if_pos he]
        rw [a1]
        by_cases hf : st2.e = 0
        · have hf' : (st2.e != 0) = false := by rw [hf]; rfl
          have a2 : st2.told = st2.s := by unfold PSt.told; rw [if_pos hf]
          rw [a2]
          by_cases hs : st.s = st2.s
          · have hv : sv = true := (SAME.out he hf).1 hs
            clear SAME HS
            subst hv
            rw [hs]
            go_wp2_with fail
            refine (wakes_pack _).mono ?_
            rintro e wk ⟨rfl, hbk⟩
            have BB := Lib.hid (BB.out.trans (hbk.mono BB.out.size))
            clear hbk
            go_wp2_with fail
            go_ret
            exact ⟨rfl, BB.out⟩
          · have hv : sv = false := by
              cases hv : sv with
              | false => rfl
              | true => exact absurd ((SAME.out he hf).2 hv) hs
            clear SAME HS
            subst hv
            have u5 : ¬ (st.s.toList = st2.s.toList) := fun h => hs (Go.WideShapes.bytes_inj (by rw [← ByteArray.toList_eq, ← ByteArray.toList_eq]; exact h))
            have u6 : (st.s.toList == st2.s.toList) = false := by rw [beq_eq_false_iff_ne]; exact u5
            go_wp2_with fail
            refine (wakes_pack _).mono ?_
            rintro e wk ⟨rfl, hbk⟩
            have BB := Lib.hid (BB.out.trans (hbk.mono BB.out.size))
            clear hbk
            go_wp2_with fail
            go_ret
            exact ⟨rfl, BB.out⟩
        · have hf' : (st2.e != 0) = true := by rw [bne_iff_ne]; exact hf
          go_wp2_with fail
          refine (wakes_pack _).mono ?_
          rintro e wk ⟨rfl, hbk⟩
          have BB := Lib.hid (BB.out.trans (hbk.mono BB.out.size))
          clear hbk
          go_wp2_with fail
          go_ret
          exact ⟨rfl, BB.out⟩
      · have he' : (st.e != 0) = true := by rw [bne_iff_ne]; exact he
        go_wp2_with fail
        refine (wakes_pack _).mono ?_
        rintro e wk ⟨rfl, hbk⟩
        have BB := Lib.hid (BB.out.trans (hbk.mono BB.out.size))
        clear hbk
        go_wp2_with fail
        go_ret
        exact ⟨rfl, BB.out⟩
theorem packApart_not (l : List It) (at_ : Int) (u : Nat) (v : Value) (w : World) (hv : Its w w.heap.size v l) (hf : fairB l = false) :
    Calls Try.prog 7 #[v, .int .i64 at_, .int .u64 u] w fun e w' => e = .returned (.bool true) ∧ Below w.heap.size w w' := by
  have R := r_fair l v _ w hv
  rw [hf] at R
  obtain ⟨A, c, rfl⟩ := hv.shape
  clear hv
  go_enter Try.func7, Try.ntmps7
  go_wp2_with fail
  refine R.mono ?_
  rintro e w1 ⟨rfl, n, rfl⟩
  go_wp2_with fail
  refine (wakes_pack _).mono ?_
  rintro e wk ⟨rfl, hb⟩
  have BB : Hid (Below w.heap.size w wk) := show Below _ _ _ from ⟨hb.os, hb.tape, hb.output, hb.size, hb.block⟩
  clear hb
  go_wp2_with fail
  go_ret
  exact ⟨rfl, BB.out⟩
set_option maxHeartbeats 1000000 in
theorem packApart_none (l : List It) (at_ : Int) (u : Nat) (v : Value) (w : World) (hv : Its w w.heap.size v l) (hf : fairB l = true) (h0 : l.length = 0) :
    Calls Try.prog 7 #[v, .int .i64 at_, .int .u64 u] w fun e w' => e = .returned (.bool true) ∧ Below w.heap.size w w' := by
  have R := r_fair l v _ w hv
  rw [hf] at R
  obtain ⟨A, c, rfl⟩ := hv.shape
  clear hv
  have n0 : ((l.length : Int) == 0) = true := by rw [beq_iff_eq]; omega
  clear h0
  go_enter Try.func7, Try.ntmps7
  go_wp2_with fail
  refine R.mono ?_
  rintro e w1 ⟨rfl, n, rfl⟩
  go_wp2_with fail
  refine (wakes_pack _).mono ?_
  rintro e wk ⟨rfl, hb⟩
  have BB : Hid (Below w.heap.size w wk) := show Below _ _ _ from ⟨hb.os, hb.tape, hb.output, hb.size, hb.block⟩
  clear hb
  go_wp2_with fail
  go_ret
  exact ⟨rfl, BB.out⟩
theorem packApart_walk (l : List It) (at_ : Int) (u : Nat) (v : Value) (w : World) (hv : Its w w.heap.size v l) (hfit : ∀ z ∈ l, z.Fit) (hu : u < 18446744073709551616) :
    Calls Try.prog 7 #[v, .int .i64 at_, .int .u64 u] w fun e w' => e = .returned (.bool true) ∧ Below w.heap.size w w' := by
  cases hf : fairB l with
  | true =>
    by_cases h0 : l.length = 0
    · exact packApart_none l at_ u v w hv hf h0
    · exact packApart_fair l at_ u v w hv hfit hf (by omega) hu
  | false => exact packApart_not l at_ u v w hv hf

set_option maxRecDepth 100000 in
theorem packApart_lifted (os : Os) (started : os.Started) (H : Type) (enc : TypeId × Value → H) :
    ReturnsInHanded {} Try.checked os 7 .any (Rows.packApartSpec.pre6 enc Try.prog Try.f7 Rows.packApartRow.domain false) (Rows.packApartSpec.post enc Try.prog Try.f7 false true false false) := by
  refine Shell.law_lifted (C := Try.checked) (tb := 4) (by kernel_rfl) started (by kernel_rfl) Try.func7
    (ChangeSpec.witness6 (enc := enc) (C := Try.checked) false ⟨#[], #[Value.slice none 0 0, .int .i64 0, .int .u64 0], []⟩ 8 (by kernel_rfl) (by kernel_rfl) (by kernel_rfl) (by kernel_rfl))
    (by kernel_rfl) (by kernel_rfl) rfl rfl Try.underlying4 ?_
  intro W base args ds p hval0 hA0
  have hval : ∀ (j : Nat) t v, Try.f7.params[j]? = some t → args[j]? = some v → Value.okWide Try.prog W .any base t v := hval0
  have hA : DataW.TrodAll enc Try.prog W 0 (fun _ => true) true Try.f7.params.toList args.toList ds p := hA0
  clear hval0 hA0
  rw [Try.params7] at hA hval
  obtain ⟨v0, vs0, d0, ds0, p0, q0, hargs, rfl, rfl, h0, r0⟩ := trodAll_cons hA
  obtain ⟨v1, vs1, d1, ds1, p1, q1, rfl, rfl, rfl, h1, r1⟩ := trodAll_cons r0
  obtain ⟨v2, vs2, d2, ds2, p2, q2, rfl, rfl, rfl, h2, r2⟩ := trodAll_cons r1
  obtain ⟨rfl, rfl, rfl⟩ := trodAll_nil r2
  obtain rfl : args = #[v0, v1, v2] := by cases args; simp_all
  refine ⟨rfl, ?_⟩
  obtain ⟨l, hl, fitl⟩ := Items.open_items Try.underlying22 Try.underlying35 (by kernel_rfl) rfl rfl rfl rfl rfl rfl Try.underlying3 Try.underlying33 Try.underlying9 (by kernel_rfl) (by kernel_rfl) (by kernel_rfl) (hval 0 22 v0 rfl rfl) h0
  obtain ⟨at_, rfl, -, -, -⟩ := open_int Try.underlying3 (hval 1 3 v1 rfl rfl) h1
  obtain ⟨u, rfl, -, -, hu⟩ := open_int Try.underlying33 (hval 2 33 v2 rfl rfl) h2
  have bu := bounds_u64 hu
  obtain ⟨u, rfl⟩ := Int.eq_ofNat_of_zero_le bu.1
  exact packApart_walk l at_ u v0 W hl fitl (by omega)

theorem packApart_over : Rows.packApartRow.holds Try.pinned (OpenSpec.ofChange Rows.packApartSpec) :=
  OpenClaim.holds_of_wide 7 Try.f7 rfl rfl rfl rfl rfl rfl rfl ⟨rfl, rfl, rfl, rfl, rfl⟩ rfl rfl rfl rfl rfl (by kernel_rfl) Try.func7 (by kernel_rfl)
    (of_decide_eq_true (by kernel_rfl)) (by unfold Func.isWrapper; first | (rw [if_pos (by decide +kernel)]; kernel_rfl) | (rw [if_neg (by decide +kernel)]; exact ⟨rfl, rfl⟩))
    (fun os st H enc _ => packApart_lifted os st H enc)

/-- The statement. -/
theorem packApart_proved : Rows.PackApartSaid := packApart_over
end Go.Proofs.Ytndmimmkjccgmaa.Law
