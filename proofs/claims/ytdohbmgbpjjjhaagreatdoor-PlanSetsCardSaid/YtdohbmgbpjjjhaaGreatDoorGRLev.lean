/- The document's own Month, Table and Left, at every input. The document's own Table and Left, at every input. The document's own Of, at every input: the range is halved. -/
import Derived.Test.YtdohbmgbpjjjhaaGreatDoorGLev
import Derived.Test.YtdohbmgbpjjjhaaGreatDoorGNum
import Derived.Test.YtdohbmgbpjjjhaaGreatDoorGAdd
import Derived.Test.YtdohbmgbpjjjhaaGreatDoorGA
namespace Go.Proofs.YtdohbmgbpjjjhaaGreatDoor.RLevel
open Go.ChangeShapes Go.WideShapes Go.ChangeAt Go.RowKit Bits Law Slice Level Money

def monB (a : Int) : Bool := decide (0 ≤ a ∧ a ≤ 10000000000000)
theorem money_any (a : Int) (w : World) : Calls Tryz.prog 67 #[.int .i64 a] w fun e w' => e = .returned (.bool (monB a)) ∧ w = w' := by
  have K := Lib.hid (fun W => Ref.good_any a W)
  by_cases h : 0 ≤ a
  · have HE : Hid (goodB a = monB a) := show goodB a = monB a by
      unfold monB; rw [Bool.eq_iff_iff, goodB_iff]; simp only [decide_eq_true_eq]; omega
    rw [HE.out] at K
    generalize monB a = x at *
    go_enter Tryz.func67, Tryz.ntmps67
    go_wp2_with fail
    refine (K.out _).mono ?_
    rintro e w' ⟨rfl, rfl⟩
    go_wp2_with fail
    go_ret
    exact ⟨rfl, rfl⟩
  · have HE : Hid (monB a = false) := decide_eq_false (fun k => h k.1)
    go_enter Tryz.func67, Tryz.ntmps67
    go_wp2_with fail
    go_ret
    exact ⟨by rw [HE.out]; rfl, rfl⟩
theorem money_is (a : Int) (x : Bool) (w : World) (h : Hid (monB a = x)) : Calls Tryz.prog 67 #[.int .i64 a] w fun e w' => e = .returned (.bool x) ∧ w = w' := by
  have t := money_any a w
  rw [h.out] at t; exact t
theorem okL_mon {b p r : Int} : okL b p r = (monB b && monB p && !decide (r < 0) && !decide (1000000 < r)) := by
  unfold okL monB
  rw [Bool.eq_iff_iff]
  simp only [Bool.and_eq_true, Bool.not_eq_true', decide_eq_true_eq, decide_eq_false_iff_not]
  omega

theorem r_month_no (b p r : Int) (w : World) (x y z t : Bool) (h : (x && y && !z && !t) = false) (h1 : Hid (monB b = x)) (h2 : Hid (monB p = y)) (h3 : decide (r < 0) = z) (h4 : decide (1000000 < r) = t) :
    Calls Tryz.prog 134 #[.int .i64 b, .int .i64 p, .int .i64 r] w fun e w' => e = .returned (.tuple #[.int .i64 0, .int .i64 1]) ∧ Below w.heap.size w w' := by
  have K1 := Lib.hid (fun W => money_is b x W h1)
  have K2 := Lib.hid (fun W => money_is p y W h2)
  clear h1 h2
  go_enter Tryz.func134, Tryz.ntmps134
  cases x with
  | false =>
    go_wp2_with fail
    refine (K1.out _).mono ?_
    rintro e w' ⟨rfl, rfl⟩
    go_wp2_with fail
    go_ret2
    exact ⟨rfl, Below.refl _ _⟩
  | true =>
    cases y with
    | false =>
      go_wp2_with fail
      refine (K1.out _).mono ?_
      rintro e w' ⟨rfl, rfl⟩
      go_wp2_with fail
      refine (K2.out _).mono ?_
      rintro e w' ⟨rfl, rfl⟩
      go_wp2_with fail
      go_ret2
      exact ⟨rfl, Below.refl _ _⟩
    | true =>
      cases z with
      | true =>
        go_wp2_with fail
        refine (K1.out _).mono ?_
        rintro e w' ⟨rfl, rfl⟩
        go_wp2_with fail
        refine (K2.out _).mono ?_
        rintro e w' ⟨rfl, rfl⟩
        go_wp2_with fail
        go_ret2
        exact ⟨rfl, Below.refl _ _⟩
      | false =>
        cases t with
        | true =>
          go_wp2_with fail
          refine (K1.out _).mono ?_
          rintro e w' ⟨rfl, rfl⟩
          go_wp2_with fail
          refine (K2.out _).mono ?_
          rintro e w' ⟨rfl, rfl⟩
          go_wp2_with fail
          go_ret2
          exact ⟨rfl, Below.refl _ _⟩
        | false => cases h
theorem mon_yes {a : Int} (h0 : 0 ≤ a) (h1 : a ≤ 10000000000000) : monB a = true := decide_eq_true ⟨h0, h1⟩
/-- the interest of a month is money. -/
theorem interest (b r : Int) (w : World) (h : okL b 0 r = true) : Calls Tryz.prog 53 #[.int .i64 b, .int .i64 r, .int .i64 12000000, .int .i64 1] w fun e w' => e = .returned (.tuple #[.int .i64 (rnd b r 12000000 1), .int .i64 0]) ∧ Below w.heap.size w w' := by
  obtain ⟨b0, b1, -, -, r0, r1⟩ := okL_iff.1 h
  have t := Ref.muldiv_any b r 12000000 1 w (by omega) (by omega) (by omega)
  obtain ⟨e1, e2⟩ := md_in (a := b) (b := r) (c := 12000000) (how := 1) (by unfold mdBad; omega) (by have := int_le b1 r0 r1; omega)
  rw [e1, e2] at t
  exact t
theorem okL_less {b p r : Int} (h : okL b p r = true) : okL b 0 r = true := by
  obtain ⟨b0, b1, -, -, r0, r1⟩ := okL_iff.1 h
  exact okL_iff.2 ⟨b0, b1, by omega, by omega, r0, r1⟩
theorem okL_next {b p r c : Int} (h : okL b p r = true) (k : moO b p r = some c) : okL c p r = true := by
  obtain ⟨b0, b1, p0, p1, r0, r1⟩ := okL_iff.1 h
  obtain ⟨c0, c1⟩ := mo_in p0 k
  exact okL_iff.2 ⟨c0, c1, p0, p1, r0, r1⟩
theorem r_month_none (b p r : Int) (w : World) (h : okL b p r = true) (k : moO b p r = none) : Calls Tryz.prog 134 #[.int .i64 b, .int .i64 p, .int .i64 r] w fun e w' => e = .returned (.tuple #[.int .i64 0, .int .i64 14]) ∧ Below w.heap.size w w' := by
  obtain ⟨b0, b1, p0, p1, r0, r1⟩ := okL_iff.1 h
  have k1 : ¬ gr b r ≤ 10000000000000 := fun g => by rw [mo_some g] at k; cases k
  have K1 := Lib.hid (fun W => money_is b true W (mon_yes b0 b1))
  have K2 := Lib.hid (fun W => money_is p true W (mon_yes p0 p1))
  have K3 := Lib.hid (fun W => interest b r W (okL_less h))
  have K4 := Lib.hid (fun W => Ref.radd_none b (rnd b r 12000000 1) W (plusO_none (fun q => k1 ((goodB_iff _).1 q.2.2).2)))
  have t3 : decide (r < 0) = false := decide_eq_false (by omega)
  have t4 : decide (1000000 < r) = false := decide_eq_false (by omega)
  clear h k k1 b0 b1 p0 p1 r0 r1
  generalize rnd b r 12000000 1 = q at *
  go_enter Tryz.func134, Tryz.ntmps134
  go_wp2_with fail
  refine (K1.out _).mono ?_
  rintro e w' ⟨rfl, rfl⟩
  go_wp2_with fail
  refine (K2.out _).mono ?_
  rintro e w' ⟨rfl, rfl⟩
  go_wp2_with fail
  refine (K3.out _).mono ?_
  rintro e w1 ⟨rfl, hb⟩
  have HB := Lib.hid hb
  clear hb
  go_wp2_with fail
  refine (K4.out _).mono ?_
  rintro e w' ⟨rfl, rfl⟩
  go_wp2_with fail
  go_ret2
  exact ⟨rfl, HB.out⟩
theorem r_month_some (b p r c : Int) (w : World) (h : okL b p r = true) (k : moO b p r = some c) : Calls Tryz.prog 134 #[.int .i64 b, .int .i64 p, .int .i64 r] w fun e w' => e = .returned (.tuple #[.int .i64 c, .int .i64 0]) ∧ Below w.heap.size w w' := by
  obtain ⟨b0, b1, p0, p1, r0, r1⟩ := okL_iff.1 h
  obtain ⟨k1, k2⟩ := mo_is k
  have i0 := int_ge b0 r0
  have i1 := int_le b1 r0 r1
  have hs : b + rnd b r 12000000 1 = gr b r := rfl
  have K1 := Lib.hid (fun W => money_is b true W (mon_yes b0 b1))
  have K2 := Lib.hid (fun W => money_is p true W (mon_yes p0 p1))
  have K3 := Lib.hid (fun W => interest b r W (okL_less h))
  have K4 := Lib.hid (fun W => Ref.radd_some b (rnd b r 12000000 1) (gr b r) W (show plusO _ _ = _ from plusO_some ⟨(goodB_iff _).2 (by omega), (goodB_iff _).2 (by omega), (goodB_iff _).2 (by omega)⟩))
  have t3 : decide (r < 0) = false := decide_eq_false (by omega)
  have t4 : decide (1000000 < r) = false := decide_eq_false (by omega)
  have k0 := gr_ge b0 r0
  clear h k hs i0 i1
  generalize rnd b r 12000000 1 = q at *
  generalize gr b r = g at *
  have hw : IntKind.i64.wrap (g - p) = g - p := IntWalk.i64_in _ (by omega)
  by_cases hg : 0 < g - p
  · have hc : g - p = c := by omega
    rw [hc] at hw hg
    clear k1 k2 k0 b0 b1 p0 p1 r0 r1
    go_enter Tryz.func134, Tryz.ntmps134
    go_wp2_with fail
    refine (K1.out _).mono ?_
    rintro e w' ⟨rfl, rfl⟩
    go_wp2_with fail
    refine (K2.out _).mono ?_
    rintro e w' ⟨rfl, rfl⟩
    go_wp2_with fail
    refine (K3.out _).mono ?_
    rintro e w1 ⟨rfl, hb⟩
    have HB := Lib.hid hb
    clear hb
    go_wp2_with fail
    refine (K4.out _).mono ?_
    rintro e w' ⟨rfl, rfl⟩
    go_wp2_with fail
    go_ret2
    exact ⟨rfl, HB.out⟩
  · have hc : c = 0 := by omega
    subst hc
    clear k1 k2 k0 b0 b1 p0 p1 r0 r1
    go_enter Tryz.func134, Tryz.ntmps134
    go_wp2_with fail
    refine (K1.out _).mono ?_
    rintro e w' ⟨rfl, rfl⟩
    go_wp2_with fail
    refine (K2.out _).mono ?_
    rintro e w' ⟨rfl, rfl⟩
    go_wp2_with fail
    refine (K3.out _).mono ?_
    rintro e w1 ⟨rfl, hb⟩
    have HB := Lib.hid hb
    clear hb
    go_wp2_with fail
    refine (K4.out _).mono ?_
    rintro e w' ⟨rfl, rfl⟩
    go_wp2_with fail
    go_ret2
    exact ⟨rfl, HB.out⟩
theorem r_month (b p r : Int) (w : World) : Calls Tryz.prog 134 #[.int .i64 b, .int .i64 p, .int .i64 r] w fun e w' => e = .returned (.tuple #[.int .i64 (mV b p r), .int .i64 (mE b p r)]) ∧ Below w.heap.size w w' := by
  cases h : okL b p r with
  | false =>
    rw [(mV_no h).1, (mV_no h).2]
    exact r_month_no b p r w _ _ _ _ (by rw [← okL_mon]; exact h) (Lib.hid rfl) (Lib.hid rfl) rfl rfl
  | true =>
    rw [(mV_yes h).1, (mV_yes h).2]
    cases k : moO b p r with
    | none => exact r_month_none b p r w h k
    | some c => exact r_month_some b p r c w h k
end Go.Proofs.YtdohbmgbpjjjhaaGreatDoor.RLevel
namespace Go.Proofs.YtdohbmgbpjjjhaaGreatDoor.RLevel
open Go.ChangeShapes Go.WideShapes Go.ChangeAt Go.RowKit Bits Law Slice Level Money

theorem i64_info : (Tryz.prog.info? 2).map (fun i => (i.zero, i.size, i.bytes)) = some (some (.int .i64 0), 1, 8) := by kernel_rfl
theorem own_keep {w w' : World} {base n size : Nat} {e : TypeId} {v : Value} {xs : List Value} (h : w.ownsRow base e size v n xs) (hk : ∀ c, v.ownBlock = some c → w'.heap[c]? = w.heap[c]?) : w'.ownsRow base e size v n xs := by
  obtain ⟨hl, ⟨rfl, h0⟩ | ⟨g, cap, cur, rfl, hb, hg, hr⟩⟩ := h
  · exact ⟨hl, Or.inl ⟨rfl, h0⟩⟩
  · exact ⟨hl, Or.inr ⟨g, cap, cur, rfl, hb, (hk g rfl).trans hg, hr⟩⟩
/-- the table ahead of a month: the balances so far, in a row of the call's own. -/
def TRun (w : World) (l : List Int) (u : Value) (wr : World) : Prop :=
  Below w.heap.size w wr ∧ wr.ownsRow w.heap.size 2 1 u l.length (l.map (Value.int .i64))
theorem tRun_below {w wr w1 : World} {l : List Int} {u : Value} (h : TRun w l u wr) (hb : Below wr.heap.size wr w1) : TRun w l u w1 :=
  ⟨h.1.trans (hb.mono h.1.size), own_keep h.2 (fun c hc => hb.block c (h.2.lt c hc).2)⟩
theorem tRun_step {w wr w3 : World} {l : List Int} {d : Int} {u v : Value} (h : TRun w l u wr)
    (ho : w3.ownsRow w.heap.size 2 1 v (l.length + 1) (l.map (Value.int .i64) ++ [.int .i64 d])) (hg : wr.grownBy w3 u.ownBlock) : TRun w (l ++ [d]) v w3 := by
  obtain ⟨hb, hu⟩ := h
  refine ⟨hb.grown hg (by have := hb.size; omega) (fun g hg => (hu.lt g hg).1), ?_⟩
  rw [List.map_append, List.length_append]
  exact ho
theorem tRun_ints {w wr : World} {l : List Int} {u : Value} (h : TRun w l u wr) : Ints wr wr.heap.size .i64 u l := Ints.of_own rfl h.2
/-- what Table tells. -/
def Tabs (b p r n : Int) (w : World) (e : Ending) (w' : World) : Prop :=
  ∃ v, e = .returned (.tuple #[v, .int .i64 (tE b p r n)]) ∧ Ints w' w'.heap.size .i64 v (tL b p r n) ∧ Below w.heap.size w w'
theorem tbF_nil (o : Option (List Int)) : tbF [] o = o := by cases o <;> rfl
theorem r_table_no (b p r n : Int) (w : World) (x y z t s q : Bool) (h : (x && y && !z && !t && !s && !q) = false) (h1 : Hid (monB b = x)) (h2 : Hid (monB p = y)) (h3 : decide (r < 0) = z) (h4 : decide (1000000 < r) = t) (h5 : decide (n < 0) = s) (h6 : decide (360 < n) = q) :
    Calls Tryz.prog 106 #[.int .i64 b, .int .i64 p, .int .i64 r, .int .i64 n] w fun e w' => e = .returned (.tuple #[.slice none 0 0, .int .i64 1]) ∧ Below w.heap.size w w' := by
  have K1 := Lib.hid (fun W => money_is b x W h1)
  have K2 := Lib.hid (fun W => money_is p y W h2)
  clear h1 h2
  go_enter Tryz.func106, Tryz.ntmps106
  cases x with
  | false =>
    go_wp2_with fail
    refine (K1.out _).mono ?_
    rintro e w' ⟨rfl, rfl⟩
    go_wp2_with fail
    go_ret2
    exact ⟨rfl, Below.refl _ _⟩
  | true =>
    cases y with
    | false =>
      go_wp2_with fail
      refine (K1.out _).mono ?_
      rintro e w' ⟨rfl, rfl⟩
      go_wp2_with fail
      refine (K2.out _).mono ?_
      rintro e w' ⟨rfl, rfl⟩
      go_wp2_with fail
      go_ret2
      exact ⟨rfl, Below.refl _ _⟩
    | true =>
      cases z with
      | true =>
        go_wp2_with fail
        refine (K1.out _).mono ?_
        rintro e w' ⟨rfl, rfl⟩
        go_wp2_with fail
        refine (K2.out _).mono ?_
        rintro e w' ⟨rfl, rfl⟩
        go_wp2_with fail
        go_ret2
        exact ⟨rfl, Below.refl _ _⟩
      | false =>
        cases t with
        | true =>
          go_wp2_with fail
          refine (K1.out _).mono ?_
          rintro e w' ⟨rfl, rfl⟩
          go_wp2_with fail
          refine (K2.out _).mono ?_
          rintro e w' ⟨rfl, rfl⟩
          go_wp2_with fail
          go_ret2
          exact ⟨rfl, Below.refl _ _⟩
        | false =>
          cases s with
          | true =>
            go_wp2_with fail
            refine (K1.out _).mono ?_
            rintro e w' ⟨rfl, rfl⟩
            go_wp2_with fail
            refine (K2.out _).mono ?_
            rintro e w' ⟨rfl, rfl⟩
            go_wp2_with fail
            go_ret2
            exact ⟨rfl, Below.refl _ _⟩
          | false =>
            cases q with
            | true =>
              go_wp2_with fail
              refine (K1.out _).mono ?_
              rintro e w' ⟨rfl, rfl⟩
              go_wp2_with fail
              refine (K2.out _).mono ?_
              rintro e w' ⟨rfl, rfl⟩
              go_wp2_with fail
              go_ret2
              exact ⟨rfl, Below.refl _ _⟩
            | false => cases h

set_option maxHeartbeats 400000 in
theorem r_table_yes (b p r : Int) (N : Nat) (w : World) (h : okL b p r = true) (hN : N ≤ 360) :
    Calls Tryz.prog 106 #[.int .i64 b, .int .i64 p, .int .i64 r, .int .i64 (N : Int)] w fun e w' => ∃ v, e = .returned (.tuple #[v, .int .i64 (errL (tbO p r N b))]) ∧ Ints w' w'.heap.size .i64 v (lstO (tbO p r N b)) ∧ Below w.heap.size w w' := by
  obtain ⟨R, hR⟩ : ∃ R, R = tbO p r N b := ⟨_, rfl⟩
  rw [← hR]
  have HR := Lib.hid hR
  have HO := Lib.hid h
  obtain ⟨b0, b1, p0, p1, r0, r1⟩ := okL_iff.1 h
  have K1 := Lib.hid (fun W => money_is b true W (mon_yes b0 b1))
  have K2 := Lib.hid (fun W => money_is p true W (mon_yes p0 p1))
  have t3 : decide (r < 0) = false := decide_eq_false (by omega)
  have t4 : decide (1000000 < r) = false := decide_eq_false (by omega)
  have t5 : decide ((N : Int) < 0) = false := decide_eq_false (by omega)
  have t6 : decide (360 < (N : Int)) = false := decide_eq_false (by omega)
  obtain ⟨i0, hi0, hz0, hz1, hz2⟩ := info_parts i64_info
  have HI := Lib.hid hi0
  have HZ0 := Lib.hid hz0
  have HZ1 := Lib.hid hz1
  have HZ2 := Lib.hid hz2
  clear hR h hi0 hz0 hz1 hz2 b0 b1 p0 p1 r0 r1
  go_enter Tryz.func106, Tryz.ntmps106
  go_wp2_with fail
  refine (K1.out _).mono ?_
  rintro e w' ⟨rfl, rfl⟩
  go_wp2_with fail
  refine (K2.out _).mono ?_
  rintro e w' ⟨rfl, rfl⟩
  go_wp2_with fail
  clear t3 t4 t5 t6
  go_loopw [0, 10, 11] (fun s o t wr => ∃ (c : Int) (l : List Int) (u : Value), l.length ≤ N ∧ t = .int .i64 l.length ∧ s = .int .i64 c ∧ o = u ∧ Hid (okL c p r = true ∧ tbF l (tbO p r (N - l.length) c) = R ∧ TRun w l u wr)) (fun _ _ t _ => N - (intOf t).toNat)
  case atStart => exact ⟨b, [], _, Nat.zero_le _, rfl, rfl, rfl, HO.out, by rw [tbF_nil]; exact HR.out.symm, Below.refl _ _, World.ownsRow_nil _ _ _ _⟩
  case round =>
    obtain ⟨c, l, u, hj, rfl, rfl, rfl, HX⟩ := hrel
    obtain ⟨A0, c0, e0⟩ := own_slice HX.out.2.2.2
    subst e0
    by_cases hlt : l.length < N
    · have HE : Hid (tbF l (tbO p r (N - (l.length + 1) + 1) c) = R) := by
        have := HX.out.2.1
        rw [show N - l.length = N - (l.length + 1) + 1 from by omega] at this
        exact this
      cases hm : moO c p r with
      | none =>
        have K := Lib.hid (fun W => r_month_none c p r W HX.out.1 hm)
        have HV : Hid (R = none) := show R = none by rw [← HE.out, tb_none _ hm]; rfl
        clear hm HE
        go_wp2_with fail
        refine (K.out _).mono ?_
        rintro e w1 ⟨rfl, hb⟩
        have HT := Lib.hid (tRun_below HX.out.2.2 hb)
        clear hb
        go_wp2_with fail
        go_ret2
        exact ⟨_, by rw [HV.out]; rfl, by rw [HV.out]; exact Ints.nil_ _ _ _, HT.out.1⟩
      | some d =>
        have K := Lib.hid (fun W => r_month_some c p r d W HX.out.1 hm)
        have HV : Hid (okL d p r = true ∧ tbF (l ++ [d]) (tbO p r (N - (l.length + 1)) d) = R) := show _ ∧ _ from ⟨okL_next HX.out.1 hm, by rw [← HE.out]; exact (tb_more _ l hm).symm⟩
        clear hm HE
        go_wp2_with fail
        refine (K.out _).mono ?_
        rintro e w1 ⟨rfl, hb⟩
        have HT := Lib.hid (tRun_below HX.out.2.2 hb)
        clear hb HX
        go_wp2_with (first
          | (at_builtin
             refine Slice.wpList_append_one rfl (.tmp 54) (.tmp 56) _ rfl w.heap.size 2 i0 (.int .i64 0) 8 Tryz.underlying32 HI.out HZ0.out HZ1.out HZ2.out rfl _ _ (.int .i64 d) rfl _ _ _ rfl HT.out.2 _ rfl rfl (by unfold maxLen; omega) (by omega) HT.out.1.size ?_
             intro v3 w3 hown hgrow
             have HS3 := Lib.hid (tRun_step HT.out hown hgrow)
             obtain ⟨A3, c3, rfl⟩ := own_slice hown
             clear hown hgrow)
          | fail)
        go_roundw
        case rel => exact ⟨d, l ++ [d], _, by simp; omega, by simp, rfl, rfl, HV.out.1, by rw [List.length_append]; exact HV.out.2, HS3.out⟩
        case measure => simp [intOf]; omega
    · obtain rfl : l.length = N := by omega
      have HV : Hid (R = some l) := show R = some l by
        have := HX.out.2.1
        rw [Nat.sub_self] at this
        rw [← this]; show some (l ++ []) = _; rw [List.append_nil]
      go_wp2_with fail
      go_ret2
      exact ⟨_, by rw [HV.out]; rfl, by rw [HV.out]; exact tRun_ints HX.out.2.2, HX.out.2.2.1⟩
theorem r_table (b p r n : Int) (w : World) : Calls Tryz.prog 106 #[.int .i64 b, .int .i64 p, .int .i64 r, .int .i64 n] w (Tabs b p r n w) := by
  cases h : okM b p r n with
  | false =>
    refine (r_table_no b p r n w _ _ _ _ _ _ ?_ (Lib.hid rfl) (Lib.hid rfl) rfl rfl rfl rfl).mono ?_
    · rw [Bool.eq_false_iff]
      intro k
      rw [Bool.and_eq_true, Bool.and_eq_true, ← okL_mon] at k
      simp only [Bool.not_eq_true', decide_eq_false_iff_not] at k
      have : okM b p r n = true := okM_iff.2 ⟨k.1.1, by omega, by omega⟩
      rw [h] at this; cases this
    · rintro e w' ⟨rfl, hb⟩
      exact ⟨_, by rw [(tL_no h).2], by rw [(tL_no h).1]; exact Ints.nil_ _ _ _, hb⟩
  | true =>
    unfold Tabs
    rw [(tL_yes h).1, (tL_yes h).2]
    obtain ⟨h1, h2, h3⟩ := okM_iff.1 h
    obtain ⟨N, rfl⟩ : ∃ N : Nat, n = N := ⟨n.toNat, by omega⟩
    rw [Int.toNat_natCast]
    exact r_table_yes b p r N w h1 (by omega)

/-- what is left, out of the table. -/
theorem r_left (b p r n : Int) (w : World) : Calls Tryz.prog 68 #[.int .i64 b, .int .i64 p, .int .i64 r, .int .i64 n] w fun e w' => e = .returned (.tuple #[.int .i64 (lV b p r n), .int .i64 (lE b p r n)]) ∧ Below w.heap.size w w' := by
  have K := Lib.hid (fun W => r_table b p r n W)
  cases h : okM b p r n with
  | false =>
    have HV : Hid (lV b p r n = 0 ∧ lE b p r n = 1 ∧ tE b p r n = 1) := ⟨(lV_no h).1, (lV_no h).2, (tL_no h).2⟩
    rw [HV.out.1, HV.out.2.1]
    clear h
    go_enter Tryz.func68, Tryz.ntmps68
    go_wp2_with fail
    refine (K.out _).mono ?_
    rintro e w1 ⟨v, rfl, hv, hb⟩
    rw [HV.out.2.2]
    obtain ⟨A, c, rfl, -⟩ := hv
    have HB := Lib.hid hb
    clear hb
    go_wp2_with fail
    go_ret2
    exact ⟨rfl, HB.out⟩
  | true =>
    obtain ⟨t1, t2⟩ := @tb_left p r n.toNat b
    rw [(lV_yes h).1, (lV_yes h).2]
    have e1 := (tL_yes h).1
    have e2 := (tL_yes h).2
    clear h
    cases ht : tbO p r n.toNat b with
    | none =>
      rw [ht] at e1 e2
      rw [t1 ht]
      have HE : Hid (tE b p r n = 14) := e2
      clear t1 t2 e1 e2 ht
      go_enter Tryz.func68, Tryz.ntmps68
      go_wp2_with fail
      refine (K.out _).mono ?_
      rintro e w1 ⟨v, rfl, hv, hb⟩
      rw [HE.out]
      obtain ⟨A, c, rfl, -⟩ := hv
      have HB := Lib.hid hb
      clear hb
      go_wp2_with fail
      go_ret2
      exact ⟨rfl, HB.out⟩
    | some l =>
      rw [ht] at e1 e2
      rw [t2 l ht]
      have HE : Hid (tE b p r n = 0) := e2
      have HL : Hid (tL b p r n = l) := e1
      clear t1 t2 e1 e2 ht
      cases l with
      | nil =>
        go_enter Tryz.func68, Tryz.ntmps68
        go_wp2_with fail
        refine (K.out _).mono ?_
        rintro e w1 ⟨v, rfl, hv, hb⟩
        rw [HE.out]
        rw [HL.out] at hv
        obtain ⟨A, c, rfl, -⟩ := hv
        have HB := Lib.hid hb
        clear hb
        go_wp2_with fail
        go_ret2
        exact ⟨rfl, HB.out⟩
      | cons x m =>
        obtain ⟨y, hy⟩ : ∃ y, y = (x :: m).getD m.length 0 := ⟨_, rfl⟩
        rw [show Money.valO (some ((b :: x :: m).getD (x :: m).length 0)) = y from hy.symm, show Money.errO (some ((b :: x :: m).getD (x :: m).length 0)) = 0 from rfl]
        have HY := Lib.hid hy
        clear hy
        go_enter Tryz.func68, Tryz.ntmps68
        go_wp2_with fail
        refine (K.out _).mono ?_
        rintro e w1 ⟨v, rfl, hv, hb⟩
        rw [HE.out]
        rw [HL.out] at hv
        obtain ⟨A, c, rfl, hl, -, hc⟩ := hv
        obtain ⟨g, off, rfl, hg, hcell⟩ := hc (by simp)
        have hx := hcell m.length (by simp)
        rw [← HY.out] at hx
        have HB := Lib.hid hb
        clear hb hc hcell
        rw [show (x :: m).length = m.length + 1 from rfl]
        have hl' : m.length + 1 ≤ 9223372036854775807 := hl
        clear hl
        have q2 : IntKind.i64.wrap (((m.length + 1 : Nat) : Int) - 1) = m.length := by rw [IntWalk.i64_in _ (by omega)]; omega
        have q3 : IntKind.i64.wrap ((m.length : Int) + 1 - 1) = m.length := by rw [IntWalk.i64_in _ (by omega)]; omega
        have q4 : decide ((0 : Int) < (m.length : Int) + 1) = true := decide_eq_true (by omega)
        go_wp2_with fail
        go_ret2
        exact ⟨rfl, HB.out⟩
end Go.Proofs.YtdohbmgbpjjjhaaGreatDoor.RLevel
namespace Go.Proofs.YtdohbmgbpjjjhaaGreatDoor.RLevel
open Go.ChangeShapes Go.WideShapes Go.ChangeAt Go.RowKit Bits Law Slice Level Money

/-- how wide the range is at most ahead of a round. -/
def wide (i : Nat) : Int := 2 ^ (44 - i)
theorem wide_half {i : Nat} {d : Int} (h : d ≤ wide i) (h1 : 1 < d) : i < 44 ∧ d / 2 ≤ wide (i + 1) ∧ d - d / 2 ≤ wide (i + 1) := by
  unfold wide at *
  by_cases hi : i < 44
  · have e : (2 : Int) ^ (44 - i) = 2 ^ (44 - (i + 1)) * 2 := by rw [show 44 - i = 44 - (i + 1) + 1 from by omega, Int.pow_succ]
    rw [e] at h
    generalize (2 : Int) ^ (44 - (i + 1)) = s at *
    omega
  · rw [show 44 - i = 0 from by omega] at h
    have : (2 : Int) ^ 0 = 1 := rfl
    omega
theorem wide_start : (10000000000000 : Int) - -1 ≤ wide 0 := by decide

theorem r_of_no (b r n : Int) (w : World) (x z t s q : Bool) (h : (x && !z && !t && !s && !q) = false) (h1 : Hid (monB b = x)) (h3 : decide (r < 0) = z) (h4 : decide (1000000 < r) = t) (h5 : decide (n < 1) = s) (h6 : decide (360 < n) = q) :
    Calls Tryz.prog 27 #[.int .i64 b, .int .i64 r, .int .i64 n] w fun e w' => e = .returned (.tuple #[.int .i64 0, .int .i64 1]) ∧ Below w.heap.size w w' := by
  have K1 := Lib.hid (fun W => money_is b x W h1)
  clear h1
  go_enter Tryz.func27, Tryz.ntmps27
  cases x with
  | false =>
    go_wp2_with fail
    refine (K1.out _).mono ?_
    rintro e w' ⟨rfl, rfl⟩
    go_wp2_with fail
    go_ret2
    exact ⟨rfl, Below.refl _ _⟩
  | true =>
    cases z with
    | true =>
      go_wp2_with fail
      refine (K1.out _).mono ?_
      rintro e w' ⟨rfl, rfl⟩
      go_wp2_with fail
      go_ret2
      exact ⟨rfl, Below.refl _ _⟩
    | false =>
      cases t with
      | true =>
        go_wp2_with fail
        refine (K1.out _).mono ?_
        rintro e w' ⟨rfl, rfl⟩
        go_wp2_with fail
        go_ret2
        exact ⟨rfl, Below.refl _ _⟩
      | false =>
        cases s with
        | true =>
          go_wp2_with fail
          refine (K1.out _).mono ?_
          rintro e w' ⟨rfl, rfl⟩
          go_wp2_with fail
          go_ret2
          exact ⟨rfl, Below.refl _ _⟩
        | false =>
          cases q with
          | true =>
            go_wp2_with fail
            refine (K1.out _).mono ?_
            rintro e w' ⟨rfl, rfl⟩
            go_wp2_with fail
            go_ret2
            exact ⟨rfl, Below.refl _ _⟩
          | false => cases h

theorem okM_of {b k r n : Int} (h : okOf b r n = true) (k0 : 0 ≤ k) (k1 : k ≤ 10000000000000) : okM b k r n = true := by
  obtain ⟨h1, h2, h3⟩ := okOf_iff.1 h
  obtain ⟨b0, b1, -, -, r0, r1⟩ := okL_iff.1 h1
  exact okM_iff.2 ⟨okL_iff.2 ⟨b0, b1, k0, k1, r0, r1⟩, by omega, h3⟩
/-- what Left tells of a payment, held against the least one. -/
theorem left_of (b r n k : Int) (h : okOf b r n = true) (g : gr b r ≤ 10000000000000) (k0 : 0 ≤ k) (k1 : k ≤ 10000000000000) :
    (ofQ b r n.toNat ≤ k ∧ lV b k r n = 0 ∧ lE b k r n = 0) ∨ (k < ofQ b r n.toNat ∧ (lE b k r n = 14 ∧ lV b k r n = 0 ∨ lE b k r n = 0 ∧ lV b k r n ≠ 0)) := by
  have hm := okM_of h k0 k1
  obtain ⟨h1, h2, h3⟩ := okOf_iff.1 h
  obtain ⟨b0, b1, -, -, r0, r1⟩ := okL_iff.1 h1
  obtain ⟨M, hM⟩ : ∃ M, n.toNat = M + 1 := ⟨n.toNat - 1, by omega⟩
  have hi := of_iff M b0 r0 g k0
  rw [(lV_yes hm).1, (lV_yes hm).2, hM]
  cases hl : lfO k r (M + 1) b with
  | none =>
    rw [hl] at hi
    exact Or.inr ⟨by have : ¬ ofQ b r (M + 1) ≤ k := fun hq => by cases hi.2 hq
                     omega, Or.inl ⟨rfl, rfl⟩⟩
  | some z =>
    rw [hl] at hi
    by_cases hz : z = 0
    · subst hz; exact Or.inl ⟨hi.1 rfl, rfl, rfl⟩
    · exact Or.inr ⟨by have : ¬ ofQ b r (M + 1) ≤ k := fun hq => hz (by have := hi.2 hq; injection this)
                       omega, Or.inr ⟨rfl, hz⟩⟩
/-- the greatest payment of all pays off just where the first month's balance is money. -/
theorem left_top (b r n : Int) (h : okOf b r n = true) (g : ¬ gr b r ≤ 10000000000000) : lV b 10000000000000 r n = 0 ∧ lE b 10000000000000 r n = 14 := by
  have hm := okM_of h (k := 10000000000000) (by omega) (by omega)
  obtain ⟨h1, h2, h3⟩ := okOf_iff.1 h
  obtain ⟨M, hM⟩ : ∃ M, n.toNat = M + 1 := ⟨n.toNat - 1, by omega⟩
  rw [(lV_yes hm).1, (lV_yes hm).2, hM, lf_none M (mo_none g)]
  exact ⟨rfl, rfl⟩
theorem of_top (b r n : Int) (h : okOf b r n = true) (g : gr b r ≤ 10000000000000) : 0 ≤ ofQ b r n.toNat ∧ ofQ b r n.toNat ≤ 10000000000000 := by
  obtain ⟨h1, h2, h3⟩ := okOf_iff.1 h
  obtain ⟨b0, b1, -, -, r0, r1⟩ := okL_iff.1 h1
  have := of_le n.toNat b0 r0
  exact ⟨of_ge _ _ _, by omega⟩

theorem r_of_over (b r n : Int) (w : World) (h : okOf b r n = true) (g : ¬ gr b r ≤ 10000000000000) :
    Calls Tryz.prog 27 #[.int .i64 b, .int .i64 r, .int .i64 n] w fun e w' => e = .returned (.tuple #[.int .i64 0, .int .i64 14]) ∧ Below w.heap.size w w' := by
  have K := Lib.hid (fun W => r_left b 10000000000000 r n W)
  obtain ⟨e1, e2⟩ := left_top b r n h g
  rw [e1, e2] at K
  obtain ⟨h1, h2, h3⟩ := okOf_iff.1 h
  obtain ⟨b0, b1, -, -, r0, r1⟩ := okL_iff.1 h1
  have K1 := Lib.hid (fun W => money_is b true W (mon_yes b0 b1))
  have t3 : decide (r < 0) = false := decide_eq_false (by omega)
  have t4 : decide (1000000 < r) = false := decide_eq_false (by omega)
  have t5 : decide (n < 1) = false := decide_eq_false (by omega)
  have t6 : decide (360 < n) = false := decide_eq_false (by omega)
  clear h g e1 e2 h1 h2 h3 b0 b1 r0 r1
  go_enter Tryz.func27, Tryz.ntmps27
  go_wp2_with fail
  refine (K1.out _).mono ?_
  rintro e w' ⟨rfl, rfl⟩
  go_wp2_with fail
  refine (K.out _).mono ?_
  rintro e w1 ⟨rfl, hb⟩
  have HB := Lib.hid hb
  clear hb
  go_wp2_with fail
  go_ret2
  exact ⟨rfl, HB.out⟩

set_option maxHeartbeats 400000 in
theorem r_of_yes (b r n : Int) (w : World) (h : okOf b r n = true) (g : gr b r ≤ 10000000000000) :
    Calls Tryz.prog 27 #[.int .i64 b, .int .i64 r, .int .i64 n] w fun e w' => e = .returned (.tuple #[.int .i64 (ofQ b r n.toNat), .int .i64 0]) ∧ Below w.heap.size w w' := by
  have HL := Lib.hid (fun k => left_of b r n k h g)
  obtain ⟨q0, q1⟩ := of_top b r n h g
  have K : Hid (∀ k W, Calls Tryz.prog 68 #[.int .i64 b, .int .i64 k, .int .i64 r, .int .i64 n] W fun e w' => e = .returned (.tuple #[.int .i64 (lV b k r n), .int .i64 (lE b k r n)]) ∧ Below W.heap.size W w') := fun k W => r_left b k r n W
  obtain ⟨h1, h2, h3⟩ := okOf_iff.1 h
  obtain ⟨b0, b1, -, -, r0, r1⟩ := okL_iff.1 h1
  have K1 := Lib.hid (fun W => money_is b true W (mon_yes b0 b1))
  have t3 : decide (r < 0) = false := decide_eq_false (by omega)
  have t4 : decide (1000000 < r) = false := decide_eq_false (by omega)
  have t5 : decide (n < 1) = false := decide_eq_false (by omega)
  have t6 : decide (360 < n) = false := decide_eq_false (by omega)
  generalize ofQ b r n.toNat = q at *
  have K0 := Lib.hid (K.out 10000000000000)
  obtain ⟨e1, e2⟩ : lV b 10000000000000 r n = 0 ∧ lE b 10000000000000 r n = 0 := by
    rcases HL.out 10000000000000 (by omega) (by omega) with ⟨-, e⟩ | ⟨h, -⟩
    · exact e
    · omega
  rw [e1, e2] at K0
  clear h g e1 e2 h1 h2 h3 b0 b1 r0 r1
  go_enter Tryz.func27, Tryz.ntmps27
  go_wp2_with fail
  refine (K1.out _).mono ?_
  rintro e w' ⟨rfl, rfl⟩
  go_wp2_with fail
  refine (K0.out _).mono ?_
  rintro e w1 ⟨rfl, hb⟩
  have HB := Lib.hid hb
  clear hb t3 t4 t5 t6
  go_wp2_with fail
  go_loopw [8, 9, 12] (fun a z t wr => ∃ (x y : Int) (i : Nat), -1 ≤ x ∧ x < q ∧ q ≤ y ∧ y ≤ 10000000000000 ∧ i ≤ 44 ∧ a = .int .i64 x ∧ z = .int .i64 y ∧ t = .int .i64 (i : Int) ∧ Hid (y - x ≤ wide i ∧ Below w.heap.size w wr)) (fun _ _ t _ => 44 - (intOf t).toNat)
  case atStart => exact ⟨-1, 10000000000000, 0, by omega, by omega, q1, by omega, by omega, rfl, rfl, rfl, wide_start, HB.out⟩
  case round =>
    obtain ⟨x, y, i, x0, x1, y0, y1, hi, rfl, rfl, rfl, HX⟩ := hrel
    have s1 : decide ((i : Int) < 60) = true := decide_eq_true (by omega)
    have s2 : IntKind.i64.wrap (y - x) = y - x := IntWalk.i64_in _ (by omega)
    by_cases hlt : 1 < y - x
    · obtain ⟨j1, j2, j3⟩ := wide_half HX.out.1 hlt
      obtain ⟨d, hd⟩ : ∃ d, d = (y - x) / 2 := ⟨_, rfl⟩
      rw [← hd] at j2 j3
      have s3 : decide (1 < y - x) = true := decide_eq_true hlt
      have s4 : (y - x).tdiv 2 = d := by rw [Int.tdiv_eq_ediv_of_nonneg (by omega)]; exact hd.symm
      have s5 : IntKind.i64.wrap d = d := IntWalk.i64_in _ (by omega)
      obtain ⟨k, hk⟩ : ∃ k, x + d = k := ⟨_, rfl⟩
      have s6 : IntKind.i64.wrap k = k := IntWalk.i64_in _ (by omega)
      have KK := Lib.hid (K.out k)
      have u1 : x < k := by omega
      have u2 : k < y := by omega
      have J := Lib.hid (And.intro j2 j3)
      have HD : Hid (k - x = d ∧ y - k = y - x - d) := by refine ⟨?_, ?_⟩ <;> omega
      have hl := HL.out k (by omega) (by omega)
      clear hd j2 j3
      generalize lV b k r n = v at *
      generalize lE b k r n = f at *
      rcases hl with ⟨z1, rfl, rfl⟩ | ⟨z1, ⟨rfl, rfl⟩ | ⟨rfl, z2⟩⟩
      · go_wp2_with fail
        refine (KK.out _).mono ?_
        rintro e w2 ⟨rfl, hb⟩
        have HB2 : Hid (Below w.heap.size w w2) := show Below _ _ _ from HX.out.2.trans (hb.mono HX.out.2.size)
        clear hb HB
        go_wp2_with fail
        go_roundw
        case rel => exact ⟨x, k, i + 1, x0, x1, z1, by omega, by omega, rfl, rfl, by go_num, by rw [HD.out.1]; exact J.out.1, HB2.out⟩
        case measure => simp [intOf]; omega
      · go_wp2_with fail
        refine (KK.out _).mono ?_
        rintro e w2 ⟨rfl, hb⟩
        have HB2 : Hid (Below w.heap.size w w2) := show Below _ _ _ from HX.out.2.trans (hb.mono HX.out.2.size)
        clear hb HB
        go_wp2_with fail
        go_roundw
        case rel => exact ⟨k, y, i + 1, by omega, z1, y0, y1, by omega, rfl, rfl, by go_num, by rw [HD.out.2]; exact J.out.2, HB2.out⟩
        case measure => simp [intOf]; omega
      · have s7 : (v == 0) = false := by rw [beq_eq_false_iff_ne]; exact z2
        go_wp2_with fail
        refine (KK.out _).mono ?_
        rintro e w2 ⟨rfl, hb⟩
        have HB2 : Hid (Below w.heap.size w w2) := show Below _ _ _ from HX.out.2.trans (hb.mono HX.out.2.size)
        clear hb HB
        go_wp2_with fail
        go_roundw
        case rel => exact ⟨k, y, i + 1, by omega, z1, y0, y1, by omega, rfl, rfl, by go_num, by rw [HD.out.2]; exact J.out.2, HB2.out⟩
        case measure => simp [intOf]; omega
    · have s3 : decide (1 < y - x) = false := decide_eq_false hlt
      have e : y = q := by omega
      go_wp2_with fail
      go_ret2
      exact ⟨by rw [← e]; rfl, HX.out.2⟩

theorem r_of (b r n : Int) (w : World) : Calls Tryz.prog 27 #[.int .i64 b, .int .i64 r, .int .i64 n] w fun e w' => e = .returned (.tuple #[.int .i64 (oV b r n), .int .i64 (oE b r n)]) ∧ Below w.heap.size w w' := by
  cases h : okOf b r n with
  | false =>
    rw [(oV_no h).1, (oV_no h).2]
    refine r_of_no b r n w _ _ _ _ _ ?_ (Lib.hid rfl) rfl rfl rfl rfl
    rw [Bool.eq_false_iff]
    intro k
    simp only [Bool.and_eq_true, Bool.not_eq_true', decide_eq_false_iff_not] at k
    have k1 := of_decide_eq_true k.1.1.1.1
    have : okOf b r n = true := okOf_iff.2 ⟨okL_iff.2 (by omega), by omega, by omega⟩
    rw [h] at this; cases this
  | true =>
    by_cases g : gr b r ≤ 10000000000000
    · rw [(oV_yes h g).1, (oV_yes h g).2]
      exact r_of_yes b r n w h g
    · rw [(oV_over h g).1, (oV_over h g).2]
      exact r_of_over b r n w h g
end Go.Proofs.YtdohbmgbpjjjhaaGreatDoor.RLevel
