/- The document's own Table and Left, at every input. -/
import Derived.Test.YtkeghiljolojlaaRefLevel
namespace Go.Proofs.Ytkeghiljolojlaa.RLevel
open Go.ChangeShapes Go.WideShapes Go.ChangeAt Go.RowKit Bits Law Slice Level Money

theorem i64_info : (Try.prog.info? 2).map (fun i => (i.zero, i.size, i.bytes)) = some (some (.int .i64 0), 1, 8) := by kernel_rfl
theorem own_keep {w w' : World} {base n size : Nat} {e : TypeId} {v : Value} {xs : List Value} (h : w.ownsRow base e size v n xs) (hk : ∀ c, v.ownBlock = some c → w'.heap[c]? = w.heap[c]?) : w'.ownsRow base e size v n xs := by
  obtain ⟨hl, ⟨rfl, h0⟩ | ⟨g, cap, cur, rfl, hb, hg, hr⟩⟩ := h
  · exact ⟨hl, Or.inl ⟨rfl, h0⟩⟩
  · exact ⟨hl, Or.inr ⟨g, cap, cur, rfl, hb, (hk g rfl).trans hg, hr⟩⟩
/-- the table ahead of a month: the balances so far, in a row of the call's own. -/
def TRun (w : World) (l : List Int) (u : Value) (wr : World) : Prop :=
  Below w.heap.size w wr ∧ wr.ownsRow w.heap.size 2 1 u l.length (l.map (Value.int .i64))
theorem tRun_below {w wr w1 : World} {l : List Int} {u : Value} (h : TRun w l u wr) (hb : Below wr.heap.size wr w1) : TRun w l u w1 :=
  ⟨h.1.trans (hb.mono h.1.size), own_keep h.2 (fun c hc => hb.block c (h.2.lt c hc).2)⟩
theorem tRun_step {w wr w3 : World} {l : List Int} {d : Int} {u v : Value} (h : TRun w l u wr)
    (ho : w3.ownsRow w.heap.size 2 1 v (l.length + 1) (l.map (Value.int .i64) ++ [.int .i64 d])) (hg : wr.grownBy w3 u.ownBlock) : TRun w (l ++ [d]) v w3 := by
  obtain ⟨hb, hu⟩ := h
  refine ⟨hb.grown hg (by have := hb.size; omega) (fun g hg => (hu.lt g hg).1), ?_⟩
  rw [List.map_append, List.length_append]
  exact ho
theorem tRun_ints {w wr : World} {l : List Int} {u : Value} (h : TRun w l u wr) : Ints wr wr.heap.size .i64 u l := Ints.of_own rfl h.2
/-- what Table tells. -/
def Tabs (b p r n : Int) (w : World) (e : Ending) (w' : World) : Prop :=
  ∃ v, e = .returned (.tuple #[v, .int .i64 (tE b p r n)]) ∧ Ints w' w'.heap.size .i64 v (tL b p r n) ∧ Below w.heap.size w w'
theorem tbF_nil (o : Option (List Int)) : tbF [] o = o := by cases o <;> rfl
theorem r_table_no (b p r n : Int) (w : World) (x y z t s q : Bool) (h : (x && y && !z && !t && !s && !q) = false) (h1 : Hid (monB b = x)) (h2 : Hid (monB p = y)) (h3 : decide (r < 0) = z) (h4 : decide (1000000 < r) = t) (h5 : decide (n < 0) = s) (h6 : decide (360 < n) = q) :
    Calls Try.prog 13 #[.int .i64 b, .int .i64 p, .int .i64 r, .int .i64 n] w fun e w' => e = .returned (.tuple #[.slice none 0 0, .int .i64 1]) ∧ Below w.heap.size w w' := by
  have K1 := Lib.hid (fun W => money_is b x W h1)
  have K2 := Lib.hid (fun W => money_is p y W h2)
  clear h1 h2
  go_enter Try.func13, Try.ntmps13
  cases x with
  | false =>
    go_wp2_with fail
    refine (K1.out _).mono ?_
    rintro e w' ⟨rfl, rfl⟩
    go_wp2_with fail
    go_ret2
    exact ⟨rfl, Below.refl _ _⟩
  | true =>
    cases y with
    | false =>
      go_wp2_with fail
      refine (K1.out _).mono ?_
      rintro e w' ⟨rfl, rfl⟩
      go_wp2_with fail
      refine (K2.out _).mono ?_
      rintro e w' ⟨rfl, rfl⟩
      go_wp2_with fail
      go_ret2
      exact ⟨rfl, Below.refl _ _⟩
    | true =>
      cases z with
      | true =>
        go_wp2_with fail
        refine (K1.out _).mono ?_
        rintro e w' ⟨rfl, rfl⟩
        go_wp2_with fail
        refine (K2.out _).mono ?_
        rintro e w' ⟨rfl, rfl⟩
        go_wp2_with fail
        go_ret2
        exact ⟨rfl, Below.refl _ _⟩
      | false =>
        cases t with
        | true =>
          go_wp2_with fail
          refine (K1.out _).mono ?_
          rintro e w' ⟨rfl, rfl⟩
          go_wp2_with fail
          refine (K2.out _).mono ?_
          rintro e w' ⟨rfl, rfl⟩
          go_wp2_with fail
          go_ret2
          exact ⟨rfl, Below.refl _ _⟩
        | false =>
          cases s with
          | true =>
            go_wp2_with fail
            refine (K1.out _).mono ?_
            rintro e w' ⟨rfl, rfl⟩
            go_wp2_with fail
            refine (K2.out _).mono ?_
            rintro e w' ⟨rfl, rfl⟩
            go_wp2_with fail
            go_ret2
            exact ⟨rfl, Below.refl _ _⟩
          | false =>
            cases q with
            | true =>
              go_wp2_with fail
              refine (K1.out _).mono ?_
              rintro e w' ⟨rfl, rfl⟩
              go_wp2_with fail
              refine (K2.out _).mono ?_
              rintro e w' ⟨rfl, rfl⟩
              go_wp2_with fail
              go_ret2
              exact ⟨rfl, Below.refl _ _⟩
            | false => cases h

set_option maxHeartbeats 400000 in
theorem r_table_yes (b p r : Int) (N : Nat) (w : World) (h : okL b p r = true) (hN : N ≤ 360) :
    Calls Try.prog 13 #[.int .i64 b, .int .i64 p, .int .i64 r, .int .i64 (N : Int)] w fun e w' => ∃ v, e = .returned (.tuple #[v, .int .i64 (errL (tbO p r N b))]) ∧ Ints w' w'.heap.size .i64 v (lstO (tbO p r N b)) ∧ Below w.heap.size w w' := by
  obtain ⟨R, hR⟩ : ∃ R, R = tbO p r N b := ⟨_, rfl⟩
  rw [← hR]
  have HR := Lib.hid hR
  have HO := Lib.hid h
  obtain ⟨b0, b1, p0, p1, r0, r1⟩ := okL_iff.1 h
  have K1 := Lib.hid (fun W => money_is b true W (mon_yes b0 b1))
  have K2 := Lib.hid (fun W => money_is p true W (mon_yes p0 p1))
  have t3 : decide (r < 0) = false := decide_eq_false (by omega)
  have t4 : decide (1000000 < r) = false := decide_eq_false (by omega)
  have t5 : decide ((N : Int) < 0) = false := decide_eq_false (by omega)
  have t6 : decide (360 < (N : Int)) = false := decide_eq_false (by omega)
  obtain ⟨i0, hi0, hz0, hz1, hz2⟩ := info_parts i64_info
  have HI := Lib.hid hi0
  have HZ0 := Lib.hid hz0
  have HZ1 := Lib.hid hz1
  have HZ2 := Lib.hid hz2
  clear hR h hi0 hz0 hz1 hz2 b0 b1 p0 p1 r0 r1
  go_enter Try.func13, Try.ntmps13
  go_wp2_with fail
  refine (K1.out _).mono ?_
  rintro e w' ⟨rfl, rfl⟩
  go_wp2_with fail
  refine (K2.out _).mono ?_
  rintro e w' ⟨rfl, rfl⟩
  go_wp2_with fail
  clear t3 t4 t5 t6
  go_loopw [0, 10, 11] (fun s o t wr => ∃ (c : Int) (l : List Int) (u : Value), l.length ≤ N ∧ t = .int .i64 l.length ∧ s = .int .i64 c ∧ o = u ∧ Hid (okL c p r = true ∧ tbF l (tbO p r (N - l.length) c) = R ∧ TRun w l u wr)) (fun _ _ t _ => N - (intOf t).toNat)
  case atStart => exact ⟨b, [], _, Nat.zero_le _, rfl, rfl, rfl, HO.out, by rw [tbF_nil]; exact HR.out.symm, Below.refl _ _, World.ownsRow_nil _ _ _ _⟩
  case round =>
    obtain ⟨c, l, u, hj, rfl, rfl, rfl, HX⟩ := hrel
    obtain ⟨A0, c0, e0⟩ := own_slice HX.out.2.2.2
    subst e0
    by_cases hlt : l.length < N
    · have HE : Hid (tbF l (tbO p r (N - (l.length + 1) + 1) c) = R) := by
        have := HX.out.2.1
        rw [show N - l.length = N - (l.length + 1) + 1 from by omega] at this
        exact this
      cases hm : moO c p r with
      | none =>
        have K := Lib.hid (fun W => r_month_none c p r W HX.out.1 hm)
        have HV : Hid (R = none) := show R = none by rw [← HE.out, tb_none _ hm]; rfl
        clear hm HE
        go_wp2_with fail
        refine (K.out _).mono ?_
        rintro e w1 ⟨rfl, hb⟩
        have HT := Lib.hid (tRun_below HX.out.2.2 hb)
        clear hb
        go_wp2_with fail
        go_ret2
        exact ⟨_, by rw [HV.out]; rfl, by rw [HV.out]; exact Ints.nil_ _ _ _, HT.out.1⟩
      | some d =>
        have K := Lib.hid (fun W => r_month_some c p r d W HX.out.1 hm)
        have HV : Hid (okL d p r = true ∧ tbF (l ++ [d]) (tbO p r (N - (l.length + 1)) d) = R) := show _ ∧ _ from ⟨okL_next HX.out.1 hm, by rw [← HE.out]; exact (tb_more _ l hm).symm⟩
        clear hm HE
        go_wp2_with fail
        refine (K.out _).mono ?_
        rintro e w1 ⟨rfl, hb⟩
        have HT := Lib.hid (tRun_below HX.out.2.2 hb)
        clear hb HX
        go_wp2_with (first
          | (at_builtin
             refine Slice.wpList_append_one rfl (.tmp 54) (.tmp 56) _ rfl w.heap.size 2 i0 (.int .i64 0) 8 Try.underlying30 HI.out HZ0.out HZ1.out HZ2.out rfl _ _ (.int .i64 d) rfl _ _ _ rfl HT.out.2 _ rfl rfl (by unfold maxLen; omega) (by omega) HT.out.1.size ?_
             intro v3 w3 hown hgrow
             have HS3 := Lib.hid (tRun_step HT.out hown hgrow)
             obtain ⟨A3, c3, rfl⟩ := own_slice hown
             clear hown hgrow)
          | fail)
        go_roundw
        case rel => exact ⟨d, l ++ [d], _, by simp; omega, by simp, rfl, rfl, HV.out.1, by rw [List.length_append]; exact HV.out.2, HS3.out⟩
        case measure => simp [intOf]; omega
    · obtain rfl : l.length = N := by omega
      have HV : Hid (R = some l) := show R = some l by
        have := HX.out.2.1
        rw [Nat.sub_self] at this
        rw [← this]; show some (l ++ []) = _; rw [List.append_nil]
      go_wp2_with fail
      go_ret2
      exact ⟨_, by rw [HV.out]; rfl, by rw [HV.out]; exact tRun_ints HX.out.2.2, HX.out.2.2.1⟩
theorem r_table (b p r n : Int) (w : World) : Calls Try.prog 13 #[.int .i64 b, .int .i64 p, .int .i64 r, .int .i64 n] w (Tabs b p r n w) := by
  cases h : okM b p r n with
  | false =>
    refine (r_table_no b p r n w _ _ _ _ _ _ ?_ (Lib.hid rfl) (Lib.hid rfl) rfl rfl rfl rfl).mono ?_
    · rw [Bool.eq_false_iff]
      intro k
      rw [Bool.and_eq_true, Bool.and_eq_true, ← okL_mon] at k
      simp only [Bool.not_eq_true', decide_eq_false_iff_not] at k
      have : okM b p r n = true := okM_iff.2 ⟨k.1.1, by omega, by omega⟩
      rw [h] at this; cases this
    · rintro e w' ⟨rfl, hb⟩
      exact ⟨_, by rw [(tL_no h).2], by rw [(tL_no h).1]; exact Ints.nil_ _ _ _, hb⟩
  | true =>
    unfold Tabs
    rw [(tL_yes h).1, (tL_yes h).2]
    obtain ⟨h1, h2, h3⟩ := okM_iff.1 h
    obtain ⟨N, rfl⟩ : ∃ N : Nat, n = N := ⟨n.toNat, by omega⟩
    rw [Int.toNat_natCast]
    exact r_table_yes b p r N w h1 (by omega)

/-- what is left, out of the table. -/
theorem r_left (b p r n : Int) (w : World) : Calls Try.prog 11 #[.int .i64 b, .int .i64 p, .int .i64 r, .int .i64 n] w fun e w' => e = .returned (.tuple #[.int .i64 (lV b p r n), .int .i64 (lE b p r n)]) ∧ Below w.heap.size w w' := by
  have K := Lib.hid (fun W => r_table b p r n W)
  cases h : okM b p r n with
  | false =>
    have HV : Hid (lV b p r n = 0 ∧ lE b p r n = 1 ∧ tE b p r n = 1) := ⟨(lV_no h).1, (lV_no h).2, (tL_no h).2⟩
    rw [HV.out.1, HV.out.2.1]
    clear h
    go_enter Try.func11, Try.ntmps11
    go_wp2_with fail
    refine (K.out _).mono ?_
    rintro e w1 ⟨v, rfl, hv, hb⟩
    rw [HV.out.2.2]
    obtain ⟨A, c, rfl, -⟩ := hv
    have HB := Lib.hid hb
    clear hb
    go_wp2_with fail
    go_ret2
    exact ⟨rfl, HB.out⟩
  | true =>
    obtain ⟨t1, t2⟩ := @tb_left p r n.toNat b
    rw [(lV_yes h).1, (lV_yes h).2]
    have e1 := (tL_yes h).1
    have e2 := (tL_yes h).2
    clear h
    cases ht : tbO p r n.toNat b with
    | none =>
      rw [ht] at e1 e2
      rw [t1 ht]
      have HE : Hid (tE b p r n = 14) := e2
      clear t1 t2 e1 e2 ht
      go_enter Try.func11, Try.ntmps11
      go_wp2_with fail
      refine (K.out _).mono ?_
      rintro e w1 ⟨v, rfl, hv, hb⟩
      rw [HE.out]
      obtain ⟨A, c, rfl, -⟩ := hv
      have HB := Lib.hid hb
      clear hb
      go_wp2_with fail
      go_ret2
      exact ⟨rfl, HB.out⟩
    | some l =>
      rw [ht] at e1 e2
      rw [t2 l ht]
      have HE : Hid (tE b p r n = 0) := e2
      have HL : Hid (tL b p r n = l) := e1
      clear t1 t2 e1 e2 ht
      cases l with
      | nil =>
        go_enter Try.func11, Try.ntmps11
        go_wp2_with fail
        refine (K.out _).mono ?_
        rintro e w1 ⟨v, rfl, hv, hb⟩
        rw [HE.out]
        rw [HL.out] at hv
        obtain ⟨A, c, rfl, -⟩ := hv
        have HB := Lib.hid hb
        clear hb
        go_wp2_with fail
        go_ret2
        exact ⟨rfl, HB.out⟩
      | cons x m =>
        obtain ⟨y, hy⟩ : ∃ y, y = (x :: m).getD m.length 0 := ⟨_, rfl⟩
        rw [show Money.valO (some ((b :: x :: m).getD (x :: m).length 0)) = y from hy.symm, show Money.errO (some ((b :: x :: m).getD (x :: m).length 0)) = 0 from rfl]
        have HY := Lib.hid hy
        clear hy
        go_enter Try.func11, Try.ntmps11
        go_wp2_with fail
        refine (K.out _).mono ?_
        rintro e w1 ⟨v, rfl, hv, hb⟩
        rw [HE.out]
        rw [HL.out] at hv
        obtain ⟨A, c, rfl, hl, -, hc⟩ := hv
        obtain ⟨g, off, rfl, hg, hcell⟩ := hc (by simp)
        have hx := hcell m.length (by simp)
        rw [← HY.out] at hx
        have HB := Lib.hid hb
        clear hb hc hcell
        rw [show (x :: m).length = m.length + 1 from rfl]
        have hl' : m.length + 1 ≤ 9223372036854775807 := hl
        clear hl
        have q2 : IntKind.i64.wrap (((m.length + 1 : Nat) : Int) - 1) = m.length := by rw [IntWalk.i64_in _ (by omega)]; omega
        have q3 : IntKind.i64.wrap ((m.length : Int) + 1 - 1) = m.length := by rw [IntWalk.i64_in _ (by omega)]; omega
        have q4 : decide ((0 : Int) < (m.length : Int) + 1) = true := decide_eq_true (by omega)
        go_wp2_with fail
        go_ret2
        exact ⟨rfl, HB.out⟩
end Go.Proofs.Ytkeghiljolojlaa.RLevel
