/- The document's own Months, InTime, Late, Year, Whole, at every input. -/
import Derived.Test.YthmmlgfechkohaaDoorDueMath
import Derived.Test.YthmmlgfechkohaaDoorAppend
namespace Go.Proofs.YthmmlgfechkohaaDoor.Due
open Go.ChangeShapes Go.WideShapes Go.ChangeAt Go.RowKit Cal Date Slice

theorem int_info : (Tryd.prog.info? 3).map (fun i => (i.zero, i.size, i.bytes)) = some (some (.int .i64 0), 1, 8) := by kernel_rfl
/-- The document's Months ahead of month j. -/
def MRun (a : Int) (w : World) (j : Nat) (u : Value) (wr : World) : Prop :=
  Below w.heap.size w wr ∧ wr.ownsRow w.heap.size 3 1 u (j - cnt a) ((seqL (cnt a) (j - cnt a)).map (Value.int .i64))
theorem mRun_skip {a : Int} {w wr : World} {j : Nat} {u : Value} (h : MRun a w j u wr) (hj : j < cnt a) : MRun a w (j + 1) u wr := by
  unfold MRun at *
  rw [show j - cnt a = 0 by omega] at h
  rw [show j + 1 - cnt a = 0 by omega]
  exact h
theorem mRun_step {a : Int} {w wr w3 : World} {j : Nat} {u v : Value} (h : MRun a w j u wr) (hj : ¬ j < cnt a)
    (ho : w3.ownsRow w.heap.size 3 1 v (j - cnt a + 1) ((seqL (cnt a) (j - cnt a)).map (Value.int .i64) ++ [.int .i64 (j : Int)])) (hg : wr.grownBy w3 u.ownBlock) : MRun a w (j + 1) v w3 := by
  unfold MRun at *
  obtain ⟨hb, hu⟩ := h
  refine ⟨hb.grown hg (by have := hb.size; omega) (fun g hg => (hu.lt g hg).1), ?_⟩
  rw [show j + 1 - cnt a = j - cnt a + 1 by omega, seq_succ, List.map_append, show cnt a + (j - cnt a) = j by omega]
  exact ho
theorem mRun_ints {a : Int} {w wr : World} {j : Nat} {u : Value} (h : MRun a w j u wr) : Ints wr wr.heap.size .i64 u (seqL (cnt a) (j - cnt a)) :=
  Ints.of_own (by rw [seq_len]) h.2
set_option maxHeartbeats 400000 in
theorem r_months (a b : Int) (w : World) : Calls Tryd.prog 10 #[.int .i64 a, .int .i64 b] w fun e w' => ∃ v, e = .returned v ∧ Ints w' w'.heap.size .i64 v (monL a b) ∧ Below w.heap.size w w' := by
  by_cases h1 : a < -1
  · have H := Lib.hid (mon_no (a := a) (b := b) (by omega))
    have t1 := decide_eq_true h1
    go_enter Tryd.func10, Tryd.ntmps10
    go_wp2_with fail
    go_ret
    exact ⟨_, rfl, by rw [H.out]; exact Ints.nil_ _ _ _, Below.refl _ _⟩
  by_cases h2 : b < a
  · have H := Lib.hid (mon_no (a := a) (b := b) (by omega))
    have t1 := decide_eq_false h1
    have t2 := decide_eq_true h2
    go_enter Tryd.func10, Tryd.ntmps10
    go_wp2_with fail
    go_ret
    exact ⟨_, rfl, by rw [H.out]; exact Ints.nil_ _ _ _, Below.refl _ _⟩
  cases hd : dayB b with
  | false =>
    have H := Lib.hid (mon_no (a := a) (b := b) (by have := of_decide_eq_false hd; omega))
    have t1 := decide_eq_false h1
    have t2 := decide_eq_false h2
    have D := Lib.hid hd
    clear hd
    go_enter Tryd.func10, Tryd.ntmps10
    go_wp2_with fail
    refine (rday_any _ _).mono ?_
    rw [D.out]
    rintro e w1 ⟨rfl, rfl⟩
    go_wp2_with fail
    go_ret
    exact ⟨_, rfl, by rw [H.out]; exact Ints.nil_ _ _ _, Below.refl _ _⟩
  | true =>
    have hb := of_decide_eq_true hd
    have H := Lib.hid (mon_yes (a := a) (b := b) (by omega))
    have t1 := decide_eq_false h1
    have t2 := decide_eq_false h2
    have D := Lib.hid hd
    have HA := Lib.hid (lt_cnt a)
    have HB := Lib.hid (lt_cnt b)
    have HC := Lib.hid (cnt_le hb.2)
    obtain ⟨i0, hi0, hz0, hz1, hz2⟩ := info_parts int_info
    have HI := Lib.hid hi0
    have HZ0 := Lib.hid hz0
    have HZ1 := Lib.hid hz1
    have HZ2 := Lib.hid hz2
    clear hd hb hi0 hz0 hz1 hz2
    go_enter Tryd.func10, Tryd.ntmps10
    go_wp2_with fail
    refine (rday_any _ _).mono ?_
    rw [D.out]
    rintro e w1 ⟨rfl, rfl⟩
    go_wp2_with fail
    clear t1 t2 h1 h2
    go_loopw [5, 6, 7] (fun o f m wr => ∃ (j : Nat) (u : Value), j ≤ cnt b ∧ o = u ∧ f = .int .i64 ((st j : Nat) : Int) ∧ m = .int .i64 (j : Int) ∧ MRun a w j u wr) (fun _ _ m _ => 2880 - (intOf m).toNat)
    case atStart => exact ⟨0, _, Nat.zero_le _, rfl, rfl, rfl, Below.refl _ _, by rw [show 0 - cnt a = 0 by omega]; exact World.ownsRow_nil _ _ _ _⟩
    case round =>
      obtain ⟨j, u, j1, rfl, rfl, rfl, hst⟩ := hrel
      have HS := Lib.hid hst
      have b1 := st_mono (Nat.le_trans j1 HC.out)
      rw [st_all] at b1
      obtain ⟨A0, c0, e0⟩ := own_slice hst.2
      subst e0
      clear hst
      by_cases hlt : j < cnt b
      · have q1 := (HB.out j).1 hlt
        have HJ : Hid (j ≤ 2879) := show j ≤ 2879 by have := HC.out; omega
        have u1 : decide ((j : Int) ≤ 2879) = true := decide_eq_true (by have := HJ.out; omega)
        have u1' : (j : Int) ≤ 2879 := of_decide_eq_true u1
        have u2 : decide (b < ((st j : Nat) : Int)) = false := decide_eq_false (by omega)
        have HLT := Lib.hid hlt
        have HT := Lib.hid (st_succ j)
        have HD := Lib.hid (rdays_at j)
        have b2 := st_mono (show j + 1 ≤ 2880 by have := HJ.out; omega)
        rw [st_all, st_succ] at b2
        by_cases ha : j < cnt a
        · have q2 := (HA.out j).1 ha
          have u3 : decide (a < ((st j : Nat) : Int)) = false := decide_eq_false (by omega)
          have HN := Lib.hid (mRun_skip HS.out ha)
          clear hlt ha
          generalize st j = s at *
          generalize lenM j = l at *
          go_wp2_with fail
          refine (HD.out _).mono ?_
          rintro e w1 ⟨rfl, rfl⟩
          go_wp2_with fail
          go_roundw
          case rel => exact ⟨j + 1, _, HLT.out, rfl, by rw [HT.out]; rfl, rfl, HN.out⟩
          case measure => simp [intOf]; have := HJ.out; omega
        · have q2 : ¬ ((st j : Nat) : Int) ≤ a := fun h => ha ((HA.out j).2 h)
          have u3 : decide (a < ((st j : Nat) : Int)) = true := decide_eq_true (by omega)
          have HN := Lib.hid ha
          have HL : Hid (j - cnt a ≤ 2880) := show _ ≤ _ by have := HJ.out; omega
          clear hlt ha
          generalize st j = s at *
          generalize lenM j = l at *
          go_wp2_with (first
            | (at_builtin
               refine Slice.wpList_append_one rfl (.tmp 30) (.tmp 32) _ rfl w.heap.size 3 i0 (.int .i64 0) 8 Tryd.underlying23 HI.out HZ0.out HZ1.out HZ2.out rfl _ _ (.int .i64 (j : Int)) rfl _ _ _ rfl HS.out.2 _ rfl rfl (by have := HL.out; unfold maxLen; omega) (by have := HL.out; omega) HS.out.1.size ?_
               intro v3 w3 hown hgrow
               have HS3 := Lib.hid (mRun_step HS.out HN.out hown hgrow)
               obtain ⟨A3, c3, rfl⟩ := own_slice hown
               clear hown hgrow)
            | fail)
          refine (HD.out _).mono ?_
          rintro e w1 ⟨rfl, rfl⟩
          go_wp2_with fail
          go_roundw
          case rel => exact ⟨j + 1, _, HLT.out, rfl, by rw [HT.out]; rfl, rfl, HS3.out⟩
          case measure => simp [intOf]; have := HJ.out; omega
      · obtain rfl : j = cnt b := by omega
        have q1 : ¬ ((st (cnt b) : Nat) : Int) ≤ b := fun h => hlt ((HB.out _).2 h)
        have u2 : decide (b < ((st (cnt b) : Nat) : Int)) = true := decide_eq_true (by omega)
        have HE := Lib.hid (mRun_ints HS.out)
        have HBb := Lib.hid HS.out.1
        clear hlt
        generalize st (cnt b) = s at *
        by_cases hj : cnt b ≤ 2879
        · have u1 : decide (((cnt b : Nat) : Int) ≤ 2879) = true := decide_eq_true (by omega)
          have u1' : ((cnt b : Nat) : Int) ≤ 2879 := of_decide_eq_true u1
          have HJ := Lib.hid hj
          clear hj j1
          generalize cnt b = j at *
          go_wp2_with fail
          go_ret
          exact ⟨_, rfl, by rw [H.out]; exact HE.out, HBb.out⟩
        · have u1 : decide (((cnt b : Nat) : Int) ≤ 2879) = false := decide_eq_false (by omega)
          have u1' : ¬ ((cnt b : Nat) : Int) ≤ 2879 := of_decide_eq_false u1
          have HJ := Lib.hid hj
          clear hj j1
          generalize cnt b = j at *
          go_wp2_with fail
          go_ret
          exact ⟨_, rfl, by rw [H.out]; exact HE.out, HBb.out⟩
end Go.Proofs.YthmmlgfechkohaaDoor.Due
