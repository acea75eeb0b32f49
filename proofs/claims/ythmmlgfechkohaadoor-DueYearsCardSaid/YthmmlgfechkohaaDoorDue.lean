/- The program's own package due: Months, InTime, Late, Year, Whole, at every input, where the lengths of the months lie as listed. -/
import Derived.Test.YthmmlgfechkohaaDoorDueMath
import Derived.Test.YthmmlgfechkohaaDoorAppend
import Derived.Test.YthmmlgfechkohaaDoorDate3
namespace Go.Proofs.YthmmlgfechkohaaDoor.Due
open Go.ChangeShapes Go.WideShapes Go.ChangeAt Go.RowKit Cal Date Slice

/-! In time, late. -/
def behB (m d : Int) : Bool := monB m && dayB d
def behV (m d : Int) : Int := if behB m d = true then d - (firV m + 15) else 0
theorem u_behind (m d : Int) (w : World) (L : Laid w) : Calls Tryd.prog 29 #[.int .i64 m, .int .i64 d] w fun e w' => e = .returned (.tuple #[.int .i64 (behV m d), .bool (behB m d)]) ∧ Below w.heap.size w w' := by
  have F := d_first m w L
  obtain ⟨f0, f1⟩ := firV_range m
  cases hm : monB m with
  | false =>
    have H : Hid (behV m d = 0 ∧ behB m d = false) := show _ ∧ _ by unfold behV behB; rw [hm]; exact ⟨rfl, rfl⟩
    rw [show firE m = 15 by rw [firE_mon, hm]; rfl] at F
    generalize firV m = f at *
    clear hm L
    go_enter Tryd.func29, Tryd.ntmps29
    go_wp2_with fail
    refine F.mono ?_
    rintro e w1 ⟨rfl, b1⟩
    go_wp2_with fail
    go_ret2
    exact ⟨by rw [H.out.1, H.out.2]; rfl, b1⟩
  | true =>
    rw [show firE m = 0 by rw [firE_mon, hm]; rfl] at F
    cases hd : dayB d with
    | false =>
      have H : Hid (behV m d = 0 ∧ behB m d = false) := show _ ∧ _ by unfold behV behB; rw [hm, hd]; exact ⟨rfl, rfl⟩
      have G := p_good d
      rw [hd] at G
      generalize firV m = f at *
      clear hm hd L
      go_enter Tryd.func29, Tryd.ntmps29
      go_wp2_with fail
      refine F.mono ?_
      rintro e w1 ⟨rfl, b1⟩
      go_wp2_with fail
      refine (G _).mono ?_
      rintro e w1 ⟨rfl, rfl⟩
      go_wp2_with fail
      go_ret2
      exact ⟨by rw [H.out.1, H.out.2]; rfl, b1⟩
    | true =>
      have H : Hid (behV m d = d - (firV m + 15) ∧ behB m d = true) := show _ ∧ _ by unfold behV behB; rw [hm, hd]; exact ⟨rfl, rfl⟩
      have hn := of_decide_eq_true hd
      have G := p_good d
      rw [hd] at G
      generalize firV m = f at *
      clear hm hd L
      go_enter Tryd.func29, Tryd.ntmps29
      go_wp2_with fail
      refine F.mono ?_
      rintro e w1 ⟨rfl, b1⟩
      go_wp2_with fail
      refine (G _).mono ?_
      rintro e w1 ⟨rfl, rfl⟩
      go_wp2_with fail
      go_ret2
      exact ⟨by rw [H.out.1, H.out.2]; rfl, b1⟩
theorem beh_in (m d : Int) : inB m d = (behB m d && decide (behV m d ≤ 0)) := by
  unfold inB behV behB
  cases monB m <;> cases dayB d <;> try rfl
  simp only [Bool.and_self, if_true, Bool.true_and]
  rw [decide_eq_decide]; omega
theorem beh_late (m d : Int) : lateV m d = max (behV m d) 0 := by
  unfold lateV behV behB
  cases monB m <;> cases dayB d <;> try rfl
  simp only [Bool.and_self, if_true]
  rw [Int.max_comm]; congr 1; omega
theorem u_in (m d : Int) (w : World) (L : Laid w) : Calls Tryd.prog 14 #[.int .i64 m, .int .i64 d] w fun e w' => e = .returned (.bool (inB m d)) ∧ Below w.heap.size w w' := by
  have H := u_behind m d w L
  rw [beh_in]
  generalize behV m d = v at *
  generalize behB m d = b at *
  cases b
  all_goals
    go_enter Tryd.func14, Tryd.ntmps14
    go_wp2_with fail
    refine H.mono ?_
    rintro e w1 ⟨rfl, b1⟩
    go_wp2_with fail
    go_ret
    exact ⟨by simp, b1⟩
theorem u_late (m d : Int) (w : World) (L : Laid w) : Calls Tryd.prog 16 #[.int .i64 m, .int .i64 d] w fun e w' => e = .returned (.int .i64 (lateV m d)) ∧ Below w.heap.size w w' := by
  have H := u_behind m d w L
  have HL := Lib.hid (beh_late m d)
  generalize behV m d = v at *
  generalize behB m d = b at *
  generalize lateV m d = l at *
  by_cases hv : v < 0
  · have hl : l = 0 := by rw [HL.out]; omega
    subst hl
    go_enter Tryd.func16, Tryd.ntmps16
    go_wp2_with fail
    refine H.mono ?_
    rintro e w1 ⟨rfl, b1⟩
    go_wp2_with fail
    go_ret
    exact ⟨rfl, b1⟩
  · have hl : l = v := by rw [HL.out]; omega
    subst hl
    go_enter Tryd.func16, Tryd.ntmps16
    go_wp2_with fail
    refine H.mono ?_
    rintro e w1 ⟨rfl, b1⟩
    go_wp2_with fail
    go_ret
    exact ⟨rfl, b1⟩

/-! Years on, whole months. -/
theorem u_year (d n : Int) (w : World) (L : Laid w) : Calls Tryd.prog 12 #[.int .i64 d, .int .i64 n] w fun e w' => e = .returned (.tuple #[.int .i64 (yrV d n), .int .i64 (yrE d n)]) ∧ Below w.heap.size w w' := by
  by_cases h1 : n < 0
  · have hb : yrB n = false := decide_eq_false (by omega)
    have H : Hid (yrV d n = 0 ∧ yrE d n = 1) := show _ ∧ _ by unfold yrV yrE; rw [hb]; exact ⟨rfl, rfl⟩
    have t1 := decide_eq_true h1
    clear L
    go_enter Tryd.func12, Tryd.ntmps12
    go_wp2_with fail
    go_ret2
    exact ⟨ret_two H.out.1.symm H.out.2.symm, Below.refl _ _⟩
  by_cases h2 : 240 < n
  · have hb : yrB n = false := decide_eq_false (by omega)
    have H : Hid (yrV d n = 0 ∧ yrE d n = 1) := show _ ∧ _ by unfold yrV yrE; rw [hb]; exact ⟨rfl, rfl⟩
    have t1 := decide_eq_false h1
    have t2 := decide_eq_true h2
    clear L
    go_enter Tryd.func12, Tryd.ntmps12
    go_wp2_with fail
    go_ret2
    exact ⟨ret_two H.out.1.symm H.out.2.symm, Below.refl _ _⟩
  have hb : yrB n = true := decide_eq_true (by omega)
  have H : Hid (yrV d n = addV d (12 * n) ∧ yrE d n = addE d (12 * n)) := show _ ∧ _ by unfold yrV yrE; rw [hb]; exact ⟨rfl, rfl⟩
  have t1 := decide_eq_false h1
  have t2 := decide_eq_false h2
  have A := d_add d (12 * n) w L
  clear L
  generalize addV d (12 * n) = a at *
  generalize addE d (12 * n) = x at *
  go_enter Tryd.func12, Tryd.ntmps12
  go_wp2_with fail
  refine A.mono ?_
  rintro e w1 ⟨rfl, b1⟩
  go_wp2_with fail
  go_ret2
  exact ⟨ret_two H.out.1.symm H.out.2.symm, b1⟩
theorem monV_nat {x : Nat} (h : x ≤ 87658) : monV (x : Int) = (mo x : Int) ∧ monE (x : Int) = 0 := by
  have hd : dayB (x : Int) = true := decide_eq_true (by omega)
  unfold monV monE
  rw [hd]
  exact ⟨rfl, rfl⟩
set_option maxHeartbeats 400000 in
theorem u_whole_ok (x y : Nat) (hx : x ≤ y) (hy : y ≤ 87658) (w : World) (L : Laid w) : Calls Tryd.prog 18 #[.int .i64 (x : Int), .int .i64 (y : Int)] w fun e w' => e = .returned (.int .i64 (whoV x y)) ∧ Below w.heap.size w w' := by
  have G1 := p_good (x : Int)
  rw [show dayB (x : Int) = true from decide_eq_true (by omega)] at G1
  have G2 := p_good (y : Int)
  rw [show dayB (y : Int) = true from decide_eq_true (by omega)] at G2
  have t0 : decide (y < x) = false := decide_eq_false (by omega)
  have M1 := fun w L => d_month (x : Int) w L
  have M2 := fun w L => d_month (y : Int) w L
  rw [(monV_nat (show x ≤ 87658 by omega)).1, (monV_nat (show x ≤ 87658 by omega)).2] at M1
  rw [(monV_nat hy).1, (monV_nat hy).2] at M2
  have A := fun w L => d_add (x : Int) ((mo y : Int) - mo x) w L
  have W := who_yes hx hy
  have m1 := mo_lt hy
  have m2 := mo_mono hx
  have HX := Lib.hid hx
  have HY := Lib.hid hy
  clear hx hy
  generalize addV (x : Int) ((mo y : Int) - mo x) = a at *
  generalize addE (x : Int) ((mo y : Int) - mo x) = e0 at *
  generalize mo y = p at *
  generalize mo x = q at *
  have HW := Lib.hid W
  clear W
  by_cases hc : (y : Int) < a
  · have HR : Hid (whoV x y = (p : Int) - q - 1) := show _ = _ by rw [HW.out, if_pos hc]
    have tc := decide_eq_true hc
    go_enter Tryd.func18, Tryd.ntmps18
    go_wp2_with fail
    refine (G1 _).mono ?_
    rintro e w1 ⟨rfl, rfl⟩
    go_wp2_with fail
    refine (G2 _).mono ?_
    rintro e w1 ⟨rfl, rfl⟩
    go_wp2_with fail
    refine (M1 _ L).mono ?_
    rintro e w1 ⟨rfl, b1⟩
    replace L := L.of b1
    go_wp2_with fail
    refine (M2 _ L).mono ?_
    rintro e w2 ⟨rfl, b2⟩
    replace L := L.of b2
    go_wp2_with fail
    refine (A _ L).mono ?_
    rintro e w3 ⟨rfl, b3⟩
    go_wp2_with fail
    go_ret
    exact ⟨ret_int HR.out.symm, below_via (below_via b1 b2) b3⟩
  · have HR : Hid (whoV x y = (p : Int) - q) := show _ = _ by rw [HW.out, if_neg hc]
    have tc := decide_eq_false hc
    go_enter Tryd.func18, Tryd.ntmps18
    go_wp2_with fail
    refine (G1 _).mono ?_
    rintro e w1 ⟨rfl, rfl⟩
    go_wp2_with fail
    refine (G2 _).mono ?_
    rintro e w1 ⟨rfl, rfl⟩
    go_wp2_with fail
    refine (M1 _ L).mono ?_
    rintro e w1 ⟨rfl, b1⟩
    replace L := L.of b1
    go_wp2_with fail
    refine (M2 _ L).mono ?_
    rintro e w2 ⟨rfl, b2⟩
    replace L := L.of b2
    go_wp2_with fail
    refine (A _ L).mono ?_
    rintro e w3 ⟨rfl, b3⟩
    go_wp2_with fail
    go_ret
    exact ⟨ret_int HR.out.symm, below_via (below_via b1 b2) b3⟩
theorem u_whole (a b : Int) (w : World) (L : Laid w) : Calls Tryd.prog 18 #[.int .i64 a, .int .i64 b] w fun e w' => e = .returned (.int .i64 (whoV a b)) ∧ Below w.heap.size w w' := by
  have G1 := p_good a
  have G2 := p_good b
  cases ha : dayB a with
  | false =>
    rw [ha] at G1
    have H := Lib.hid (who_no (a := a) (b := b) (by unfold whoB; rw [ha]; rfl))
    clear ha L
    go_enter Tryd.func18, Tryd.ntmps18
    go_wp2_with fail
    refine (G1 _).mono ?_
    rintro e w1 ⟨rfl, rfl⟩
    go_wp2_with fail
    go_ret
    exact ⟨ret_int H.out.symm, Below.refl _ _⟩
  | true =>
    cases hb : dayB b with
    | false =>
      rw [ha] at G1
      rw [hb] at G2
      have H := Lib.hid (who_no (a := a) (b := b) (by unfold whoB; rw [ha, hb]; rfl))
      clear ha hb L
      go_enter Tryd.func18, Tryd.ntmps18
      go_wp2_with fail
      refine (G1 _).mono ?_
      rintro e w1 ⟨rfl, rfl⟩
      go_wp2_with fail
      refine (G2 _).mono ?_
      rintro e w1 ⟨rfl, rfl⟩
      go_wp2_with fail
      go_ret
      exact ⟨ret_int H.out.symm, Below.refl _ _⟩
    | true =>
      by_cases hlt : b < a
      · rw [ha] at G1
        rw [hb] at G2
        have H := Lib.hid (who_no (a := a) (b := b) (by unfold whoB; rw [ha, hb]; exact decide_eq_false (by omega)))
        have t1 := decide_eq_true hlt
        clear ha hb L
        go_enter Tryd.func18, Tryd.ntmps18
        go_wp2_with fail
        refine (G1 _).mono ?_
        rintro e w1 ⟨rfl, rfl⟩
        go_wp2_with fail
        refine (G2 _).mono ?_
        rintro e w1 ⟨rfl, rfl⟩
        go_wp2_with fail
        go_ret
        exact ⟨ret_int H.out.symm, Below.refl _ _⟩
      · have hna := of_decide_eq_true ha
        have hnb := of_decide_eq_true hb
        obtain ⟨x, rfl⟩ := Int.eq_ofNat_of_zero_le hna.1
        obtain ⟨y, rfl⟩ := Int.eq_ofNat_of_zero_le hnb.1
        exact u_whole_ok x y (by omega) (by omega) w L

/-! The months of a stretch. -/
theorem u_first (a : Int) (h0 : -1 ≤ a) (h1 : a ≤ 87658) (w : World) (L : Laid w) : Calls Tryd.prog 24 #[.int .i64 a] w fun e w' => e = .returned (.int .i64 (cnt a : Nat)) ∧ Below w.heap.size w w' := by
  have M := d_month a w L
  by_cases h : a < 0
  · have hd : dayB a = false := decide_eq_false (by omega)
    rw [show monE a = 15 by unfold monE; rw [hd]; rfl] at M
    have H : Hid (((cnt a : Nat) : Int) = 0) := show _ = _ by unfold cnt; rw [if_pos h]; rfl
    generalize monV a = v at *
    clear L hd
    go_enter Tryd.func24, Tryd.ntmps24
    go_wp2_with fail
    refine M.mono ?_
    rintro e w1 ⟨rfl, b1⟩
    go_wp2_with fail
    go_ret
    exact ⟨ret_int H.out.symm, b1⟩
  · obtain ⟨x, rfl⟩ := Int.eq_ofNat_of_zero_le (show 0 ≤ a by omega)
    rw [(monV_nat (show x ≤ 87658 by omega)).1, (monV_nat (show x ≤ 87658 by omega)).2] at M
    have H : Hid (((cnt (x : Int) : Nat) : Int) = (mo x : Int) + 1) := show _ = _ by rw [cnt_nat]; rfl
    have hl := mo_lt (show x ≤ 87658 by omega)
    generalize mo x = j at *
    clear L h h0 h1
    go_enter Tryd.func24, Tryd.ntmps24
    go_wp2_with fail
    refine M.mono ?_
    rintro e w1 ⟨rfl, b1⟩
    go_wp2_with fail
    go_ret
    exact ⟨ret_int H.out.symm, b1⟩
theorem u_int_info : (Tryd.prog.info? 3).map (fun i => (i.zero, i.size, i.bytes)) = some (some (.int .i64 0), 1, 8) := by kernel_rfl
set_option maxHeartbeats 400000 in
theorem u_months (a b : Int) (w : World) (L : Laid w) : Calls Tryd.prog 9 #[.int .i64 a, .int .i64 b] w fun e w' => ∃ v, e = .returned v ∧ Ints w' w'.heap.size .i64 v (monL a b) ∧ Below w.heap.size w w' := by
  by_cases h1 : a < -1
  · have H := Lib.hid (mon_no (a := a) (b := b) (by omega))
    have t1 := decide_eq_true h1
    clear L
    go_enter Tryd.func9, Tryd.ntmps9
    go_wp2_with fail
    go_ret
    exact ⟨_, rfl, by rw [H.out]; exact Ints.nil_ _ _ _, Below.refl _ _⟩
  by_cases h2 : b < a
  · have H := Lib.hid (mon_no (a := a) (b := b) (by omega))
    have t1 := decide_eq_false h1
    have t2 := decide_eq_true h2
    clear L
    go_enter Tryd.func9, Tryd.ntmps9
    go_wp2_with fail
    go_ret
    exact ⟨_, rfl, by rw [H.out]; exact Ints.nil_ _ _ _, Below.refl _ _⟩
  have G := p_good b
  cases hd : dayB b with
  | false =>
    have H := Lib.hid (mon_no (a := a) (b := b) (by have := of_decide_eq_false hd; omega))
    have t1 := decide_eq_false h1
    have t2 := decide_eq_false h2
    rw [hd] at G
    clear hd L
    go_enter Tryd.func9, Tryd.ntmps9
    go_wp2_with fail
    refine (G _).mono ?_
    rintro e w1 ⟨rfl, rfl⟩
    go_wp2_with fail
    go_ret
    exact ⟨_, rfl, by rw [H.out]; exact Ints.nil_ _ _ _, Below.refl _ _⟩
  | true =>
    have hb := of_decide_eq_true hd
    have H := Lib.hid (mon_yes (a := a) (b := b) (by omega))
    have t1 := decide_eq_false h1
    have t2 := decide_eq_false h2
    rw [hd] at G
    have F := fun w L => u_first a (by omega) (by omega) w L
    obtain ⟨y, rfl⟩ := Int.eq_ofNat_of_zero_le hb.1
    have M := fun w L => d_month (y : Int) w L
    rw [(monV_nat (show y ≤ 87658 by omega)).1, (monV_nat (show y ≤ 87658 by omega)).2] at M
    have hc : cnt a ≤ mo y + 1 := by rw [← cnt_nat]; exact cnt_mono (by omega)
    have hl := mo_lt (show y ≤ 87658 by omega)
    rw [cnt_nat] at H
    obtain ⟨i0, hi0, hz0, hz1, hz2⟩ := info_parts u_int_info
    have HI := Lib.hid hi0
    have HZ0 := Lib.hid hz0
    have HZ1 := Lib.hid hz1
    have HZ2 := Lib.hid hz2
    clear hd hb hi0 hz0 hz1 hz2
    generalize cnt a = p at *
    generalize mo y = q at *
    obtain ⟨n, hn⟩ : ∃ n, q + 1 = p + n := ⟨q + 1 - p, by omega⟩
    rw [show q + 1 - p = n by omega] at H
    have hr : (q : Int) + 1 - p = n := by omega
    go_enter Tryd.func9, Tryd.ntmps9
    go_wp2_with fail
    refine (G _).mono ?_
    rintro e w1 ⟨rfl, rfl⟩
    go_wp2_with fail
    refine (F _ L).mono ?_
    rintro e w1 ⟨rfl, b1⟩
    replace L := L.of b1
    go_wp2_with fail
    refine (M _ L).mono ?_
    rintro e w2 ⟨rfl, b2⟩
    go_wp2_with fail
    clear t1 t2 h1 h2
    have B2 := Lib.hid (below_via b1 b2)
    have HQ := Lib.hid hl
    have HN : Hid (n ≤ 2880 ∧ p + n ≤ 2880) := show _ ∧ _ by omega
    clear hl hc hn hr b1 b2 L G F M
    go_loopw [8, 33] (fun o i wr => ∃ (j : Nat) (u : Value), j ≤ n ∧ o = u ∧ i = .int .i64 (j : Int) ∧ Below w.heap.size w wr ∧ wr.ownsRow w.heap.size 3 1 u j ((seqL p j).map (Value.int .i64))) (fun _ i _ => n - (intOf i).toNat)
    case atStart => exact ⟨0, _, Nat.zero_le _, rfl, rfl, B2.out, World.ownsRow_nil _ _ _ _⟩
    case round =>
      obtain ⟨j, u, j1, rfl, rfl, hbel, hown⟩ := hrel
      have HB := Lib.hid hbel
      have HO := Lib.hid hown
      obtain ⟨A0, c0, e0⟩ := own_slice hown
      subst e0
      clear hbel hown
      have jn : j ≤ 2880 := Nat.le_trans j1 HN.out.1
      have pn : p + j ≤ 2880 := Nat.le_trans (Nat.add_le_add_left j1 _) HN.out.2
      by_cases hlt : j < n
      · have u1 : decide (j < n) = true := decide_eq_true hlt
        go_wp2_with (first
          | (at_builtin
             refine Slice.wpList_append_one rfl (.tmp 36) (.tmp 40) _ rfl w.heap.size 3 i0 (.int .i64 0) 8 Tryd.underlying23 HI.out HZ0.out HZ1.out HZ2.out rfl _ _ (.int .i64 ((p : Int) + (j : Int))) rfl _ _ _ rfl HO.out _ rfl rfl (by unfold maxLen; omega) (by omega) HB.out.size ?_
             intro v3 w3 hown hgrow
             have HO3 := Lib.hid hown
             have HB3 := Lib.hid (below_of hgrow HB.out (fun g hg => (HO.out.lt g hg).1))
             obtain ⟨A3, c3, rfl⟩ := own_slice hown
             clear hown hgrow)
          | fail)
        go_roundw
        case rel =>
          refine ⟨j + 1, _, hlt, rfl, by go_num, HB3.out, ?_⟩
          rw [seq_succ, List.map_append]
          exact HO3.out
        case measure => simp [intOf]; omega
      · obtain rfl : j = n := by omega
        have HE := Lib.hid (Ints.of_own (by rw [seq_len]) HO.out)
        go_wp2_with fail
        go_ret
        exact ⟨_, rfl, by rw [H.out]; exact HE.out, HB.out⟩
end Go.Proofs.YthmmlgfechkohaaDoor.Due
