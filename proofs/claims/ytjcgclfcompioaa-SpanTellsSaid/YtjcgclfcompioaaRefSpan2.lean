/- The document's own Has, Days, at any stretches; the laws' own copies, and that two lists that are one are told alike. -/
import Derived.Test.YtjcgclfcompioaaRefSpan
namespace Go.Proofs.Ytjcgclfcompioaa.Span
open Go.ChangeShapes Go.WideShapes Go.ChangeAt Go.RowKit Pairs

def hasV (zs : List (Int × Int)) (d : Int) : Bool := goodB zs && hasB zs d
def daysV (zs : List (Int × Int)) : Int := if goodB zs = true then daysL zs else 0
theorem good_norm {zs : List (Int × Int)} (h : goodB zs = true) : normB (-1) zs = true ∧ zs.length ≤ 1000 := by
  unfold goodB at h
  rw [Bool.and_eq_true, decide_eq_true_eq] at h
  exact h
theorem r_has (zs : List (Int × Int)) (d : Int) (v : Value) (B : Nat) (w : World) (hv : Prs w B v zs) :
    Calls Try.prog 13 #[v, .int .i64 d] w fun e w' => e = .returned (.bool (hasV zs d)) ∧ ∃ n, w' = w.drewN n := by
  obtain ⟨A, c, rfl⟩ := hv.shape
  have G := r_good zs _ B w hv
  have HV := Lib.hid hv
  clear hv
  cases hg : goodB zs with
  | false =>
    have H : Hid (hasV zs d = false) := show _ = _ by unfold hasV; rw [hg]; rfl
    rw [hg] at G
    clear hg
    go_enter Try.func13, Try.ntmps13
    go_wp2_with fail
    refine G.mono ?_
    rintro e w1 ⟨rfl, n, rfl⟩
    go_wp2_with fail
    go_ret
    exact ⟨ret_bool H.out.symm, _, rfl⟩
  | true =>
    have H : Hid (hasV zs d = hasB zs d) := show _ = _ by unfold hasV; rw [hg]; rfl
    rw [hg] at G
    clear hg
    go_enter Try.func13, Try.ntmps13
    go_wp2_with fail
    refine G.mono ?_
    rintro e w1 ⟨rfl, n, rfl⟩
    go_wp2_with fail
    refine (r_in zs d _ B _ (HV.out.drewN n)).mono ?_
    rintro e w1 ⟨rfl, rfl⟩
    go_wp2_with fail
    go_ret
    exact ⟨ret_bool H.out.symm, _, rfl⟩
theorem days_range : ∀ {lo : Int} {zs : List (Int × Int)}, normB lo zs = true → 0 ≤ daysL zs ∧ daysL zs ≤ lastTo lo zs - lo
  | lo, [], _ => by show (0 : Int) ≤ 0 ∧ (0 : Int) ≤ lo - lo; omega
  | lo, p :: r, h => by
    rw [normB_cons] at h
    have := days_range h.2
    have := last_ge h.2
    show 0 ≤ (p.2 - p.1) + daysL r ∧ (p.2 - p.1) + daysL r ≤ lastTo p.2 r - lo
    omega
theorem days_step {zs : List (Int × Int)} (hn : normB (-1) zs = true) {j : Nat} (h : j < zs.length) :
    daysL (zs.take (j + 1)) = daysL (zs.take j) + ((zs.getD j (0, 0)).2 - (zs.getD j (0, 0)).1) ∧ 0 ≤ daysL (zs.take j) ∧ daysL (zs.take (j + 1)) ≤ 87660 ∧ 0 ≤ (zs.getD j (0, 0)).1 ∧ (zs.getD j (0, 0)).1 < (zs.getD j (0, 0)).2 ∧ (zs.getD j (0, 0)).2 ≤ 87659 := by
  have e := take_next zs j h
  have n1 := norm_take j hn
  have n2 := norm_take (j + 1) hn
  have r1 := days_range n1
  have r2 := days_range n2
  have l2 := last_le n2 (by omega)
  have g1 := last_ge n1
  rw [e, normB_end] at n2
  refine ⟨by rw [e, days_end], r1.1, by omega, by omega, n2.2.2.1, n2.2.2.2⟩
theorem r_days (zs : List (Int × Int)) (v : Value) (B : Nat) (w : World) (hv : Prs w B v zs) :
    Calls Try.prog 15 #[v] w fun e w' => e = .returned (.int .i64 (daysV zs)) ∧ ∃ n, w' = w.drewN n := by
  have G := r_good zs _ B w hv
  obtain ⟨A, c, rfl, hl, -, hcell⟩ := hv
  have HC := Lib.hid hcell
  clear hcell
  cases hg : goodB zs with
  | false =>
    have H : Hid (daysV zs = 0) := show _ = _ by unfold daysV; rw [hg]; rfl
    rw [hg] at G
    clear hg
    go_enter Try.func15, Try.ntmps15
    go_wp2_with fail
    refine G.mono ?_
    rintro e w1 ⟨rfl, n, rfl⟩
    go_wp2_with fail
    go_ret
    exact ⟨ret_int H.out.symm, _, rfl⟩
  | true =>
    have H : Hid (daysV zs = daysL zs) := show _ = _ by unfold daysV; rw [hg]; rfl
    rw [hg] at G
    have HN := Lib.hid (good_norm hg).1
    clear hg
    go_enter Try.func15, Try.ntmps15
    go_wp2_with fail
    refine G.mono ?_
    rintro e w1 ⟨rfl, n, rfl⟩
    go_wp2_with fail
    go_loopw [3, 4] (fun s t wr => ∃ j : Nat, j ≤ zs.length ∧ t = .int .i64 j ∧ s = .int .i64 (daysL (zs.take j)) ∧ ∃ n, wr = w.drewN n) (fun _ t _ => zs.length - (intOf t).toNat)
    case atStart => exact ⟨0, Nat.zero_le _, rfl, rfl, n, rfl⟩
    case round =>
      obtain ⟨j, hj, rfl, rfl, m, rfl⟩ := hrel
      by_cases hlt : j < zs.length
      · obtain ⟨b, off, rfl, hb, hcell⟩ := HC.out (by omega)
        obtain ⟨hx, hy⟩ := hcell j hlt
        obtain ⟨e1, e2, e3, e4, e5, e6⟩ := days_step HN.out hlt
        have HE := Lib.hid e1
        rw [e1] at e3
        clear hcell e1
        generalize daysL (zs.take j) = s at *
        generalize zs.getD j (0, 0) = p at *
        obtain ⟨p0, p1⟩ := p
        have h0 : (0 : Int) ≤ j := by omega
        have f3 : s + (p1 - p0) ≤ 87660 := e3
        have f4 : 0 ≤ p0 := e4
        have f5 : p0 < p1 := e5
        have f6 : p1 ≤ 87659 := e6
        clear e3 e4 e5 e6
        go_wp2_with fail
        go_quiet (fail)
        go_wp2_with fail
        go_roundw
        case rel => exact ⟨j + 1, by omega, by go_num, by rw [HE.out], _, rfl⟩
        case measure => simp [intOf]; omega
      · obtain rfl : j = zs.length := by omega
        rw [List.take_length]
        go_wp2_with fail
        go_ret
        exact ⟨ret_int H.out.symm, _, rfl⟩
end Go.Proofs.Ytjcgclfcompioaa.Span
