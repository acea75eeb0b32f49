/- Behind so many months: what is left, and whether nothing is. -/
import Derived.Test.YtkeghiljolojlaaLevelC1
namespace Go.Proofs.Ytkeghiljolojlaa.Level
open Go.ChangeShapes Go.WideShapes Go.ChangeAt Go.RowKit Bits Law

theorem month_err (b p r : Int) (w : World) (h : okL b p r = true) : Calls Try.prog 19 #[.int .i64 b, .int .i64 p, .int .i64 r] w fun e w' => e = .returned (.tuple #[.int .i64 (Money.valO (moO b p r)), .int .i64 (Money.errO (moO b p r))]) ∧ Below w.heap.size w w' := by
  cases k : moO b p r with
  | none => exact month_none b p r w h k
  | some c => exact month_some b p r c w h k

set_option maxHeartbeats 400000 in
theorem c_left (b p r : Int) (N : Nat) (w : World) (h : okL b p r = true) (hN : N ≤ 360) :
    Calls Try.prog 24 #[.int .i64 b, .int .i64 p, .int .i64 r, .int .i64 (N : Int)] w fun e w' => e = .returned (.tuple #[.int .i64 (Money.valO (lfO p r N b)), .int .i64 (Money.errO (lfO p r N b))]) ∧ Below w.heap.size w w' := by
  obtain ⟨R, hR⟩ : ∃ R, R = lfO p r N b := ⟨_, rfl⟩
  rw [← hR]
  have HR := Lib.hid hR
  have HO := Lib.hid h
  clear hR h
  go_enter Try.func24, Try.ntmps24
  go_wp2_with fail
  go_loopw [0, 13] (fun s t wr => ∃ (j : Nat) (c : Int), j ≤ N ∧ t = .int .i64 j ∧ s = .int .i64 c ∧ Hid (okL c p r = true ∧ lfO p r (N - j) c = R ∧ Below w.heap.size w wr)) (fun _ t _ => N - (intOf t).toNat)
  case atStart => exact ⟨0, b, Nat.zero_le _, rfl, rfl, HO.out, HR.out.symm, Below.refl _ _⟩
  case round =>
    obtain ⟨j, c, hj, rfl, rfl, HX⟩ := hrel
    by_cases hlt : j < N
    · have HE : Hid (lfO p r (N - (j + 1) + 1) c = R) := by
        have := HX.out.2.1
        rw [show N - j = N - (j + 1) + 1 from by omega] at this
        exact this
      cases hm : moO c p r with
      | none =>
        have K := Lib.hid (fun W => month_none c p r W HX.out.1 hm)
        have HV : Hid (R = none) := show R = none by rw [← HE.out]; exact lf_none _ hm
        clear hm HE
        go_wp2_with fail
        refine (K.out _).mono ?_
        rintro e w1 ⟨rfl, hb⟩
        have HB : Hid (Below w.heap.size w w1) := show Below _ _ _ from HX.out.2.2.trans (hb.mono HX.out.2.2.size)
        clear hb
        go_wp2_with fail
        go_ret2
        exact ⟨by rw [HV.out]; rfl, HB.out⟩
      | some d =>
        have K := Lib.hid (fun W => month_some c p r d W HX.out.1 hm)
        have HV : Hid (okL d p r = true ∧ lfO p r (N - (j + 1)) d = R) := show _ ∧ _ from ⟨okL_next HX.out.1 hm, by rw [← HE.out]; exact (lf_some _ hm).symm⟩
        clear hm HE
        go_wp2_with fail
        refine (K.out _).mono ?_
        rintro e w1 ⟨rfl, hb⟩
        have HB : Hid (Below w.heap.size w w1) := show Below _ _ _ from HX.out.2.2.trans (hb.mono HX.out.2.2.size)
        clear hb HX
        go_wp2_with fail
        go_roundw
        case rel => exact ⟨j + 1, d, by omega, by go_num, rfl, HV.out.1, HV.out.2, HB.out⟩
        case measure => simp [intOf]; omega
    · have HV : Hid (R = some c) := show R = some c by
        have := HX.out.2.1
        rw [show N - j = 0 from by omega] at this
        exact this.symm
      go_wp2_with fail
      go_ret2
      exact ⟨by rw [HV.out]; rfl, HX.out.2.2⟩

set_option maxHeartbeats 400000 in
theorem c_pays (b p r : Int) (N : Nat) (w : World) (h : okL b p r = true) (hN : N ≤ 360) :
    Calls Try.prog 29 #[.int .i64 b, .int .i64 p, .int .i64 r, .int .i64 (N : Int)] w fun e w' => e = .returned (.bool (pays b p r N)) ∧ Below w.heap.size w w' := by
  obtain ⟨R, hR⟩ : ∃ R, R = pays b p r N := ⟨_, rfl⟩
  rw [← hR]
  have HR := Lib.hid hR
  have HO := Lib.hid h
  clear hR h
  go_enter Try.func29, Try.ntmps29
  go_wp2_with fail
  go_loopw [0, 12] (fun s t wr => ∃ (j : Nat) (c : Int), j ≤ N ∧ t = .int .i64 j ∧ s = .int .i64 c ∧ Hid (okL c p r = true ∧ pays c p r (N - j) = R ∧ Below w.heap.size w wr)) (fun _ t _ => N - (intOf t).toNat)
  case atStart => exact ⟨0, b, Nat.zero_le _, rfl, rfl, HO.out, HR.out.symm, Below.refl _ _⟩
  case round =>
    obtain ⟨j, c, hj, rfl, rfl, HX⟩ := hrel
    by_cases hlt : j < N
    · have HE : Hid (pays c p r (N - (j + 1) + 1) = R) := by
        have := HX.out.2.1
        rw [show N - j = N - (j + 1) + 1 from by omega] at this
        exact this
      obtain ⟨c0, c1, p0, p1, r0, r1⟩ := okL_iff.1 HX.out.1
      cases hm : moO c p r with
      | none =>
        have K := Lib.hid (fun W => month_none c p r W HX.out.1 hm)
        have HV : Hid (R = (c == 0)) := show R = _ by
          rw [← HE.out, pays_stuck p0 r0 c0 (fun d hd => by rw [hm] at hd; cases hd)]; rfl
        clear hm HE c0 c1 p0 p1 r0 r1
        go_wp2_with fail
        refine (K.out _).mono ?_
        rintro e w1 ⟨rfl, hb⟩
        have HB : Hid (Below w.heap.size w w1) := show Below _ _ _ from HX.out.2.2.trans (hb.mono HX.out.2.2.size)
        clear hb
        go_wp2_with fail
        go_ret
        exact ⟨by rw [HV.out]; rfl, HB.out⟩
      | some d =>
        have K := Lib.hid (fun W => month_some c p r d W HX.out.1 hm)
        by_cases hd : c ≤ d
        · have HV : Hid (R = (c == 0)) := show R = _ by
            rw [← HE.out, pays_stuck p0 r0 c0 (fun d' hd' => by rw [hm] at hd'; cases hd'; exact hd)]; rfl
          clear hm HE c0 c1 p0 p1 r0 r1
          go_wp2_with fail
          refine (K.out _).mono ?_
          rintro e w1 ⟨rfl, hb⟩
          have HB : Hid (Below w.heap.size w w1) := show Below _ _ _ from HX.out.2.2.trans (hb.mono HX.out.2.2.size)
          clear hb
          go_wp2_with fail
          go_ret
          exact ⟨by rw [HV.out]; rfl, HB.out⟩
        · have HV : Hid (okL d p r = true ∧ pays d p r (N - (j + 1)) = R) := show _ ∧ _ from ⟨okL_next HX.out.1 hm, by rw [← HE.out]; exact (pays_step _ hm).symm⟩
          clear hm HE c0 c1 p0 p1 r0 r1
          go_wp2_with fail
          refine (K.out _).mono ?_
          rintro e w1 ⟨rfl, hb⟩
          have HB : Hid (Below w.heap.size w w1) := show Below _ _ _ from HX.out.2.2.trans (hb.mono HX.out.2.2.size)
          clear hb HX
          go_wp2_with fail
          go_roundw
          case rel => exact ⟨j + 1, d, by omega, by go_num, rfl, HV.out.1, HV.out.2, HB.out⟩
          case measure => simp [intOf]; omega
    · have HV : Hid (R = (c == 0)) := show R = _ by
        have := HX.out.2.1
        rw [show N - j = 0 from by omega] at this
        rw [← this]; unfold pays; rw [lf_zero]
        rw [Bool.eq_iff_iff]; simp
      go_wp2_with fail
      go_ret
      exact ⟨by rw [HV.out]; rfl, HX.out.2.2⟩
end Go.Proofs.Ytkeghiljolojlaa.Level
