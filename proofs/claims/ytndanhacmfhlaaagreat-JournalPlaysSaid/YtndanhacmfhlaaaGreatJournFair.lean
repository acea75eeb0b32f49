/- annuitylaw12's Fair and Raw. -/
import Derived.Test.YtndanhacmfhlaaaGreatJournTwo
import Derived.Test.YtndanhacmfhlaaaGreatGDk
import Derived.Test.YtndanhacmfhlaaaGreatGA
import Derived.Test.YtndanhacmfhlaaaGreatDiskTwo
namespace Go.Proofs.YtndanhacmfhlaaaGreat.Jour
open Go.ChangeShapes Go.WideShapes Go.ChangeAt Go.RowKit Go.Deep Els Go.Proofs.YtndanhacmfhlaaaGreat.Frame Disk Slice Stp Nul

/-- Fair tells some Bool: if it is true, no step is too long, and there are not too many. -/
def FairJ (l : List St) (w : World) (e : Ending) (w' : World) : Prop := ∃ B : Bool, e = .returned (.bool B) ∧ (B = true → (∀ i, i < l.length → (l.getD i st0).s.size ≤ 61000) ∧ l.length ≤ 60) ∧ w = w'
theorem fair_no {l : List St} {w : World} : FairJ l w (.returned (.bool false)) w := ⟨false, rfl, fun e => (by cases e), rfl⟩
theorem fair_some {l : List St} {w : World} {B : Bool} (h : (∀ i, i < l.length → (l.getD i st0).s.size ≤ 61000) ∧ l.length ≤ 60) : FairJ l w (.returned (.bool B)) w := ⟨B, rfl, fun _ => h, rfl⟩
set_option maxHeartbeats 2000000 in
theorem j_fair (l : List St) (v : Value) (B : Nat) (w : World) (hv : Sts w B v l) : Calls Tryz.prog 4 #[v] w (FairJ l w) := by
  obtain ⟨A, c, rfl, hn, -, hc⟩ := hv
  have HC := Lib.hid hc
  clear hc
  go_enter Tryz.func4, Tryz.ntmps4
  go_wp2_with fail
  go_loop [3, 4] (fun s t => ∃ (j : Nat) (m : Int), j ≤ l.length ∧ s = .int .i64 m ∧ t = .int .i64 j ∧ Hid (∀ i, i < j → (l.getD i st0).s.size ≤ 61000)) (fun _ t => l.length - (intOf t).toNat)
  case atStart => exact ⟨0, 0, Nat.zero_le _, rfl, rfl, fun i hi => absurd hi (Nat.not_lt_zero _)⟩
  case round =>
    obtain ⟨j, m, hj, rfl, rfl, HA⟩ := hrel
    by_cases hlt : j < l.length
    · obtain ⟨b, off, rfl, -, hx⟩ := HC.out (by omega)
      have x3 := (hx j hlt).2.2.2
      have t1 : decide (j < l.length) = true := decide_eq_true hlt
      have HN : Hid (∀ i, i < j + 1 → i = j ∨ i < j) := show _ from fun i hi => by omega
      obtain ⟨z, hz⟩ : ∃ z, z = l.getD j st0 := ⟨_, rfl⟩
      rw [← hz] at x3
      have HZ := Lib.hid hz
      have j0 : (0 : Int) ≤ j := by omega
      clear hx hz
      by_cases h6 : z.s.size ≤ 61000
      · have t2 : decide ((61000 : Int) < z.s.size) = false := decide_eq_false (by omega)
        have HL := Lib.hid h6
        clear h6
        go_wp2_with fail
        go_round
        case rel => exact ⟨j + 1, _, by omega, rfl, by go_num, fun i hi => by
          rcases HN.out i hi with rfl | h
          · rw [← HZ.out]; exact HL.out
          · exact HA.out i h⟩
        case measure => simp [intOf]; omega
      · have t2 : decide ((61000 : Int) < z.s.size) = true := decide_eq_true (by omega)
        go_wp2_with fail
        go_ret
        exact fair_no
    · obtain rfl : j = l.length := by omega
      have t1 : decide (l.length < l.length) = false := decide_eq_false (by omega)
      by_cases h6 : l.length ≤ 60
      · have t2 : decide ((l.length : Int) ≤ 60) = true := decide_eq_true (by omega)
        obtain ⟨y, hy⟩ : ∃ y, decide (m ≤ 200000) = y := ⟨_, rfl⟩
        go_wp2_with fail
        go_ret
        exact fair_some ⟨HA.out, h6⟩
      · have t2 : decide ((l.length : Int) ≤ 60) = false := decide_eq_false (by omega)
        go_wp2_with fail
        go_ret
        exact fair_no
/-- Raw: some text. -/
theorem j_raw (s : ByteArray) (hs : s.size ≤ 61000) : ∃ t : ByteArray, ∀ w, Calls Tryz.prog 22 #[.string s] w fun e w' => e = .returned (.string t) ∧ Below w.heap.size w w' := by
  have hz : (nul 256).size = 256 := nul_size 256
  have K0 : Hid (∀ w, Calls Tryz.prog 58 #[.int .i64 256] w fun e w' => e = .returned (.string (nul 256)) ∧ Below w.heap.size w w') := fun w => k_zeros 256 w (by decide)
  generalize nul 256 = z at *
  refine ⟨(s ++ z).extract 0 256, fun w => ?_⟩
  have hc : ∀ W : World, (Instr.slice 9 (.string (s ++ z)) none (some (.int .i64 256)) none).run Tryz.prog W = .ok (.string ((s ++ z).extract 0 256)) W := fun W => by
    have h1 : (s ++ z).size = s.size + 256 := by rw [ByteArray.size_append, hz]
    have h2 : (256 : Int) ≤ (s ++ z).size := by omega
    go_simp
    intro h
    exact absurd h (by omega)
  have ha : ¬ (9223372036854775807 < s.size + z.size) := by omega
  have KZ := Lib.hid (K0.out w)
  go_enter Tryz.func22, Tryz.ntmps22
  go_wp2_with fail
  refine KZ.out.mono ?_
  rintro e w1 ⟨rfl, hb⟩
  have HB := Lib.hid hb
  clear hb
  go_wp2_with fail
  go_ret
  exact ⟨rfl, HB.out⟩
end Go.Proofs.YtndanhacmfhlaaaGreat.Jour
