/- The document's own Add, at every input. -/
import Derived.Test.YthmmlgfechkohaaDoorRefDate2
import Derived.Deep.QuietTactic
import Derived.BigQuiet
namespace Go.Proofs.YthmmlgfechkohaaDoor.Date
open Go.ChangeShapes Go.WideShapes Go.ChangeAt Go.RowKit Cal

def addB (n k : Int) : Bool := dayB n && decide (0 ≤ (mo n.toNat : Int) + k ∧ (mo n.toNat : Int) + k ≤ 2879)
def addE (n k : Int) : Int := if addB n k = true then 0 else 15
def addV (n k : Int) : Int := if addB n k = true then ((st ((mo n.toNat : Int) + k).toNat : Nat) : Int) + min (dy n.toNat) (lenM ((mo n.toNat : Int) + k).toNat : Nat) - 1 else 0
theorem add_none {n k : Int} (h : addB n k = false) : addV n k = 0 ∧ addE n k = 15 := by unfold addV addE; rw [h]; exact ⟨rfl, rfl⟩
theorem add_some {n k : Int} (h : addB n k = true) : addV n k = ((st ((mo n.toNat : Int) + k).toNat : Nat) : Int) + min (dy n.toNat) (lenM ((mo n.toNat : Int) + k).toNat : Nat) - 1 ∧ addE n k = 0 := by unfold addV addE; rw [h]; exact ⟨rfl, rfl⟩
theorem dy_range {n : Nat} : 1 ≤ dy n ∧ dy n ≤ 31 := by
  have h1 := day_lt n
  have h2 := (mo_in n).1
  have h3 := (lenM_range (mo n)).2
  unfold dy; omega

theorem below_drewN {B : Nat} {a w : World} (h : Below B a w) (n : Nat) : Below B a (w.drewN n) := ⟨h.os, h.tape, h.output, h.size, h.block⟩
theorem below_new {a b : World} (h : Below a.heap.size a b) (o : Obj) : Below a.heap.size a (b.alloc o) := h.alloc h.size o
theorem below_via {a b c : World} (h : Below a.heap.size a b) (k : Below b.heap.size b c) : Below a.heap.size a c := h.trans (k.mono h.size)
theorem quiet_left {P : Program} {f : FuncId} {args : Array Value} {w : World} {n : Nat} {v : Value} (h : Calls P f args (w.drewN n) fun e w' => e = .returned v ∧ w.drewN n = w') :
    Calls P f args (w.drewN n) fun e w'' => e = .returned v ∧ ∃ m, w'' = w.drewN m :=
  h.mono fun _ _ ⟨he, hm⟩ => ⟨he, n, hm.symm⟩
theorem rdays_at (T : Nat) (w : World) : Calls Tryd.prog 27 #[.int .i64 (1960 + (T : Int) / 12), .int .i64 (1 + (T : Int) % 12)] w fun e w' => e = .returned (.int .i64 (lenM T : Nat)) ∧ w = w' := by
  rw [← lenI T]
  exact rdays_any _ _ w
theorem radd_any (n k : Int) (w : World) : Calls Tryd.prog 21 #[.int .i64 n, .int .i64 k] w fun e w' => e = .returned (.tuple #[.int .i64 (addV n k), .int .i64 (addE n k)]) ∧ Below w.heap.size w w' := by
  cases hd : dayB n with
  | false =>
    have H := Lib.hid (add_none (n := n) (k := k) (by unfold addB; rw [hd]; rfl))
    have D := Lib.hid hd
    clear hd
    go_enter Tryd.func21, Tryd.ntmps21
    go_wp2_with fail
    refine (rcivil_no n _ D.out).mono ?_
    rintro e w1 ⟨rfl, hb⟩
    go_wp2_with fail
    go_ret2
    exact ⟨ret_two H.out.1.symm H.out.2.symm, by have := hb.size; go_grown; try omega⟩
  | true =>
    have hn := of_decide_eq_true hd
    obtain ⟨x, rfl⟩ := Int.eq_ofNat_of_zero_le hn.1
    have hx := Lib.hid (show x ≤ 87658 by omega)
    obtain ⟨c1, c2, c3, c4, c5⟩ := civ_month x hx.out
    have hm := mo_lt hx.out
    by_cases h1 : 2879 < k
    · have H := Lib.hid (add_none (n := (x : Int)) (k := k) (by unfold addB; rw [hd, Bool.true_and, Int.toNat_natCast]; exact decide_eq_false (by omega)))
      have t1 := decide_eq_true h1
      clear hd hn hm
      go_enter Tryd.func21, Tryd.ntmps21
      go_wp2_with fail
      refine (rcivil_ok x _ hx.out).mono ?_
      rintro e w1 ⟨rfl, hb⟩
      go_wp2_with fail
      go_ret2
      exact ⟨ret_two H.out.1.symm H.out.2.symm, by have := hb.size; go_grown; try omega⟩
    · have t1 := decide_eq_false h1
      by_cases h2 : k < -2879
      · have H := Lib.hid (add_none (n := (x : Int)) (k := k) (by unfold addB; rw [hd, Bool.true_and, Int.toNat_natCast]; exact decide_eq_false (by omega)))
        have t2 := decide_eq_true h2
        clear hd hn hm
        go_enter Tryd.func21, Tryd.ntmps21
        go_wp2_with fail
        refine (rcivil_ok x _ hx.out).mono ?_
        rintro e w1 ⟨rfl, hb⟩
        go_wp2_with fail
        go_ret2
        exact ⟨ret_two H.out.1.symm H.out.2.symm, by have := hb.size; go_grown; try omega⟩
      · have t2 := decide_eq_false h2
        have W1 : Hid (12 * (yr x - 1960) + mn x - 1 = (mo x : Int)) := c1
        have dd := @dy_range x
        by_cases h3 : (mo x : Int) + k < 0
        · have H := Lib.hid (add_none (n := (x : Int)) (k := k) (by unfold addB; rw [hd, Bool.true_and, Int.toNat_natCast]; exact decide_eq_false (by omega)))
          have t3 := decide_eq_true h3
          clear hd hn
          generalize mo x = j at *
          go_enter Tryd.func21, Tryd.ntmps21
          go_wp2_with fail
          refine (rcivil_ok x _ hx.out).mono ?_
          rintro e w1 ⟨rfl, hb⟩
          generalize yr x = y at *
          generalize mn x = m at *
          generalize dy x = d at *
          go_wp2_with fail
          go_ret2
          exact ⟨ret_two H.out.1.symm H.out.2.symm, by have := hb.size; go_grown; try omega⟩
        · have t3 := decide_eq_false h3
          by_cases h4 : 2879 < (mo x : Int) + k
          · have H := Lib.hid (add_none (n := (x : Int)) (k := k) (by unfold addB; rw [hd, Bool.true_and, Int.toNat_natCast]; exact decide_eq_false (by omega)))
            have t4 := decide_eq_true h4
            clear hd hn
            generalize mo x = j at *
            go_enter Tryd.func21, Tryd.ntmps21
            go_wp2_with fail
            refine (rcivil_ok x _ hx.out).mono ?_
            rintro e w1 ⟨rfl, hb⟩
            generalize yr x = y at *
            generalize mn x = m at *
            generalize dy x = d at *
            go_wp2_with fail
            go_ret2
            exact ⟨ret_two H.out.1.symm H.out.2.symm, by have := hb.size; go_grown; try omega⟩
          · have t4 := decide_eq_false h4
            obtain ⟨T, hT⟩ := Int.eq_ofNat_of_zero_le (show 0 ≤ (mo x : Int) + k by omega)
            have hT2 : T ≤ 2879 := by omega
            obtain ⟨q1, q2⟩ := add_some (n := (x : Int)) (k := k) (by unfold addB; rw [hd, Bool.true_and, Int.toNat_natCast]; exact decide_eq_true (by omega))
            rw [Int.toNat_natCast, hT, Int.toNat_natCast] at q1
            have hs := st_in hT2
            have hl := (lenM_range T).2
            have WL := lenI T
            have HT2 := Lib.hid hT2
            by_cases hmin : (lenM T : Int) < dy x
            · rw [Int.min_eq_right (by omega)] at q1
              have H := Lib.hid (And.intro q1 q2)
              clear hd hn q1 q2 hT2
              generalize mo x = j at *
              go_enter Tryd.func21, Tryd.ntmps21
              go_wp2_with fail
              refine (rcivil_ok x _ hx.out).mono ?_
              rintro e w1 ⟨rfl, hb⟩
              generalize yr x = y at *
              generalize mn x = m at *
              generalize dy x = d at *
              go_wp2_with fail
              go_quiet (first | exact quiet_left (rstart_any T _ (Nat.le_succ_of_le HT2.out)) | exact quiet_left (rdays_at T _))
              go_wp2_with fail
              go_ret2
              exact ⟨ret_two H.out.1.symm H.out.2.symm, below_drewN (below_new hb _) _⟩
            · rw [Int.min_eq_left (by omega)] at q1
              have H := Lib.hid (And.intro q1 q2)
              clear hd hn q1 q2 hT2
              generalize mo x = j at *
              go_enter Tryd.func21, Tryd.ntmps21
              go_wp2_with fail
              refine (rcivil_ok x _ hx.out).mono ?_
              rintro e w1 ⟨rfl, hb⟩
              generalize yr x = y at *
              generalize mn x = m at *
              generalize dy x = d at *
              go_wp2_with fail
              go_quiet (first | exact quiet_left (rstart_any T _ (Nat.le_succ_of_le HT2.out)) | exact quiet_left (rdays_at T _))
              go_wp2_with fail
              go_ret2
              exact ⟨ret_two H.out.1.symm H.out.2.symm, below_drewN (below_new hb _) _⟩
end Go.Proofs.YthmmlgfechkohaaDoor.Date
