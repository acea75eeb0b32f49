/- An event with a field that its kind does not have has no form; without it it has one; no condition. -/
import Derived.Test.YtcmdonckilajjaaShell
import Derived.Test.YtcmdonckilajjaaEventWakes
import Derived.Test.YtcmdonckilajjaaOpenEv
import Derived.ChangeMaps5
import Derived.Test.YtcmdonckilajjaaEventOthersMath
import Derived.Deep.CutBlock
namespace Go.Proofs.Ytcmdonckilajjaa.Law
open Go.ChangeShapes Go.WideShapes Go.ChangeAt Go.RowKit Go.Proofs.Ytcmdonckilajjaa.Event Fl Date Cal Pack

attribute [local go_sem] run_store_float'
theorem others_no (e : Ev) (n : Nat) (w : World) (he : e.Fit) (hg : goodE e = false) :
    Calls Try.prog 6 #[.agg e.cells, .int .u8 (n : Nat)] w fun e w' => e = .returned (.bool true) ∧ Below w.heap.size w w' := by
  have HG : Hid (∀ W, Calls Try.prog 14 #[.agg e.cells] W fun z w' => z = .returned (.bool false) ∧ Below W.heap.size W w') := fun W => hg ▸ r_good e W he
  have HS := Lib.hid (ev_info e)
  obtain ⟨g, wb, e1, e2, hB, hb⟩ := boxd_new w e.cells 25
  have HB := Lib.hid hB
  have HW := Lib.hid hb
  clear hB hb he hg
  generalize e.cells = C at *
  go_enter Try.func6, Try.ntmps6
  go_upto_region 1 with fail
  rw [← e2, ← e1]
  clear e1 e2
  go_wp2_with (first
    | (refine load_want (by rfl) 25 _ rfl _ rfl _ _ _ HB.out Try.underlying25 rfl HS.out ?_)
    | (go_at_call 14
       with_reducible refine (HG.out wb).mono ?_
       rintro e y1 ⟨rfl, hb⟩
       have HW1 := Lib.hid (below_via HW.out hb)
       clear hb)
    | (go_at_call 8
       with_reducible refine (wakes_event y1).mono ?_
       rintro e y2 ⟨rfl, hb⟩
       have HW2 := Lib.hid (below_via HW1.out hb)
       clear hb))
  go_ret
  exact ⟨rfl, HW2.out⟩
set_option maxRecDepth 20000 in
set_option maxHeartbeats 4000000 in
theorem others_yes (e : Ev) (n : Nat) (w : World) (he : e.Fit) (hg : goodE e = true) (hn : n < 256) :
    Calls Try.prog 6 #[.agg e.cells, .int .u8 (n : Nat)] w fun e w' => e = .returned (.bool true) ∧ Below w.heap.size w w' := by
  have HG : Hid (∀ W, Calls Try.prog 14 #[.agg e.cells] W fun z w' => z = .returned (.bool true) ∧ Below W.heap.size W w') := fun W => hg ▸ r_good e W he
  have HR := Lib.hid (ranged_of he hg)
  have HF := Lib.hid he
  have HGE := Lib.hid hg
  have HON := Lib.hid (only_of hg)
  have HS := Lib.hid (ev_info e)
  have HO := Lib.hid (ev_one e)
  have HL : e.cells.size = 11 := rfl
  obtain ⟨g, wb, e1, e2, hB, hb⟩ := boxd_new w e.cells 25
  have HB := Lib.hid hB
  have HW := Lib.hid hb
  clear hB hb he hg
  obtain ⟨C, hC⟩ : ∃ C, e.cells = C := ⟨_, rfl⟩
  rw [hC] at HG HS HO HL HB e2 ⊢
  have HC := Lib.hid hC
  clear hC
  go_enter Try.func6, Try.ntmps6
  go_upto_region 1 with fail
  rw [← e2, ← e1]
  clear e1 e2
  go_upto_block 0 with (first
    | (refine load_want (by rfl) 25 _ rfl _ rfl _ _ _ HB1.out Try.underlying25 rfl HS.out ?_)
    | (refine load_want (by rfl) 25 _ rfl _ rfl _ _ _ HB.out Try.underlying25 rfl HS.out ?_)
    | (refine store_row rfl 25 _ _ rfl rfl _ _ rfl rfl _ _ (heap_alloc_last _ _) HS.out (by rw [HL]; rfl) HO.out ?_; rw [World.setRow_alloc_new])
    | (go_at_call 14
       with_reducible refine (HG.out wb).mono ?_
       rintro e y1 ⟨rfl, hb⟩
       have HB1 := Lib.hid (HB.out.below hb)
       have HW1 := Lib.hid (below_via HW.out hb)
       clear hb))
  obtain ⟨g5, w5, e1, e2, hB, hb⟩ := boxd_new y1 C 25
  rw [← e2, ← e1]
  have HX := Lib.hid (HC.out ▸ hB : Boxd w5 g5 e.cells 25)
  have HW5 := Lib.hid (below_via HW1.out hb)
  have hg5 : w.heap.size ≤ g5 := by rw [e1]; exact HW1.out.size
  clear e1 e2 hB hb HB1 HB HG HO HL HS HC HW HW1
  go_cut [] (fun wx => Hid (Turn e wx g5) ∧ Hid (Below w.heap.size w wx))
  case first =>
    have h7 : n % 7 = 0 ∨ n % 7 = 1 ∨ n % 7 = 2 ∨ n % 7 = 3 ∨ n % 7 = 4 ∨ n % 7 = 5 ∨ n % 7 = 6 := by omega
    have hmod : Int.tmod (n : Int) 7 = ((n % 7 : Nat) : Int) := by rw [Int.tmod_eq_emod_of_nonneg (by omega)]; omega
    have hmod2 : (n : Int) % 7 = ((n % 7 : Nat) : Int) := by omega
    generalize n % 7 = k at *
    rcases h7 with rfl | h7
    · have HQ := HR.out
      have hr := HQ.loan
      have hw1 : wrap64 (e.loan + 1) = e.loan + 1 := by unfold wrap64; omega
      have c0 : w5.cell? ⟨g5, 3, none⟩ = some (.int .i64 e.loan) := HX.out.cell
      have fz : w5.frozen? ⟨g5, 3, none⟩ = false := boxd_free HX.out
      have HT : Hid (Turn e (w5.setCell ⟨g5, 3, none⟩ (.int .i64 (e.loan + 1))) g5) := show Turn _ _ _ from ⟨{ e with loan := e.loan + 1 }, boxd_set HX.out rfl, ?fit, other_loan e HON.out _⟩
      case fit =>
        have hF := HF.out
        exact ⟨hF.kind, hF.day, hF.key, by dsimp only; omega, hF.amount, hF.rate, hF.income, hF.status, hF.plan, hF.family⟩
      have HZ := Lib.hid (HW5.out.setCell (p := ⟨g5, 3, none⟩) hg5 (.int .i64 (e.loan + 1)))
      clear HQ
      go_wp2_with fail
      go_meet
      exact ⟨HT, HZ⟩
    rcases h7 with rfl | h7
    · have HQ := HR.out
      have hr := HQ.amount
      have hw1 : wrap64 (e.amount + 1) = e.amount + 1 := by unfold wrap64; omega
      have c0 : w5.cell? ⟨g5, 4, none⟩ = some (.int .i64 e.amount) := HX.out.cell
      have fz : w5.frozen? ⟨g5, 4, none⟩ = false := boxd_free HX.out
      have HT : Hid (Turn e (w5.setCell ⟨g5, 4, none⟩ (.int .i64 (e.amount + 1))) g5) := show Turn _ _ _ from ⟨{ e with amount := e.amount + 1 }, boxd_set HX.out rfl, ?fit, other_amount e HON.out _⟩
      case fit =>
        have hF := HF.out
        exact ⟨hF.kind, hF.day, hF.key, hF.loan, by dsimp only; omega, hF.rate, hF.income, hF.status, hF.plan, hF.family⟩
      have HZ := Lib.hid (HW5.out.setCell (p := ⟨g5, 4, none⟩) hg5 (.int .i64 (e.amount + 1)))
      clear HQ
      go_wp2_with fail
      go_meet
      exact ⟨HT, HZ⟩
    rcases h7 with rfl | h7
    · have HQ := HR.out
      obtain ⟨r, hr, hr2⟩ := one_more HQ.rate
      have hadd := fun W => add_run (t := 23) W hr
      have c0 : w5.cell? ⟨g5, 5, none⟩ = some (.float .f64 e.rate) := HX.out.cell
      have fz : w5.frozen? ⟨g5, 5, none⟩ = false := boxd_free HX.out
      have HT : Hid (Turn e (w5.setCell ⟨g5, 5, none⟩ (.float .f64 r)) g5) := show Turn _ _ _ from ⟨{ e with rate := r }, boxd_set HX.out rfl, ?fit, other_rate e HON.out _⟩
      case fit =>
        have hF := HF.out
        exact ⟨hF.kind, hF.day, hF.key, hF.loan, hF.amount, hr2, hF.income, hF.status, hF.plan, hF.family⟩
      have HZ := Lib.hid (HW5.out.setCell (p := ⟨g5, 5, none⟩) hg5 (.float .f64 r))
      clear HQ
      go_wp2_with fail
      go_meet
      exact ⟨HT, HZ⟩
    rcases h7 with rfl | h7
    · have HQ := HR.out
      obtain ⟨r, hr, hr2⟩ := one_more HQ.income
      have hadd := fun W => add_run (t := 23) W hr
      have c0 : w5.cell? ⟨g5, 6, none⟩ = some (.float .f64 e.income) := HX.out.cell
      have fz : w5.frozen? ⟨g5, 6, none⟩ = false := boxd_free HX.out
      have HT : Hid (Turn e (w5.setCell ⟨g5, 6, none⟩ (.float .f64 r)) g5) := show Turn _ _ _ from ⟨{ e with income := r }, boxd_set HX.out rfl, ?fit, other_income e HON.out _⟩
      case fit =>
        have hF := HF.out
        exact ⟨hF.kind, hF.day, hF.key, hF.loan, hF.amount, hF.rate, hr2, hF.status, hF.plan, hF.family⟩
      have HZ := Lib.hid (HW5.out.setCell (p := ⟨g5, 6, none⟩) hg5 (.float .f64 r))
      clear HQ
      go_wp2_with fail
      go_meet
      exact ⟨HT, HZ⟩
    rcases h7 with rfl | h7
    · have HQ := HR.out
      have c0 : w5.cell? ⟨g5, 7, none⟩ = some (.bool e.sub) := HX.out.cell
      have fz : w5.frozen? ⟨g5, 7, none⟩ = false := boxd_free HX.out
      have HT : Hid (Turn e (w5.setCell ⟨g5, 7, none⟩ (.bool (!e.sub))) g5) := show Turn _ _ _ from ⟨{ e with sub := !e.sub }, boxd_set HX.out rfl, ?fit, other_sub e HON.out _⟩
      case fit =>
        have hF := HF.out
        exact ⟨hF.kind, hF.day, hF.key, hF.loan, hF.amount, hF.rate, hF.income, hF.status, hF.plan, hF.family⟩
      have HZ := Lib.hid (HW5.out.setCell (p := ⟨g5, 7, none⟩) hg5 (.bool (!e.sub)))
      clear HQ
      go_wp2_with fail
      go_meet
      exact ⟨HT, HZ⟩
    rcases h7 with rfl | h7
    · have HQ := HR.out
      have hr := HQ.status
      have hw1 : wrap64 (e.status + 1) = e.status + 1 := by unfold wrap64; omega
      have c0 : w5.cell? ⟨g5, 8, none⟩ = some (.int .i64 e.status) := HX.out.cell
      have fz : w5.frozen? ⟨g5, 8, none⟩ = false := boxd_free HX.out
      have HT : Hid (Turn e (w5.setCell ⟨g5, 8, none⟩ (.int .i64 (e.status + 1))) g5) := show Turn _ _ _ from ⟨{ e with status := e.status + 1 }, boxd_set HX.out rfl, ?fit, other_status e HON.out _⟩
      case fit =>
        have hF := HF.out
        exact ⟨hF.kind, hF.day, hF.key, hF.loan, hF.amount, hF.rate, hF.income, by dsimp only; omega, hF.plan, hF.family⟩
      have HZ := Lib.hid (HW5.out.setCell (p := ⟨g5, 8, none⟩) hg5 (.int .i64 (e.status + 1)))
      clear HQ
      go_wp2_with fail
      go_meet
      exact ⟨HT, HZ⟩
    subst h7
    have HQ := HR.out
    have hr := HQ.family
    have hw1 : wrap64 (e.family + 1) = e.family + 1 := by unfold wrap64; omega
    have c0 : w5.cell? ⟨g5, 10, none⟩ = some (.int .i64 e.family) := HX.out.cell
    have fz : w5.frozen? ⟨g5, 10, none⟩ = false := boxd_free HX.out
    have HT : Hid (Turn e (w5.setCell ⟨g5, 10, none⟩ (.int .i64 (e.family + 1))) g5) := show Turn _ _ _ from ⟨{ e with family := e.family + 1 }, boxd_set HX.out rfl, ?fit, other_family e HON.out _⟩
    case fit =>
      have hF := HF.out
      exact ⟨hF.kind, hF.day, hF.key, hF.loan, hF.amount, hF.rate, hF.income, hF.status, hF.plan, by dsimp only; omega⟩
    have HZ := Lib.hid (HW5.out.setCell (p := ⟨g5, 10, none⟩) hg5 (.int .i64 (e.family + 1)))
    clear HQ
    go_wp2_with fail
    go_meet
    exact ⟨HT, HZ⟩
  case rest =>
  obtain ⟨HT, HW6⟩ := hcut
  obtain ⟨x, hX, hfx, hor⟩ := HT.out
  have HSX := Lib.hid (ev_info x)
  have HB6 := Lib.hid hX
  have HE : Hid (∀ W, Calls Try.prog 9 #[.agg x.cells] W fun z w' => z = .returned (.tuple #[.string (encT x), .int .i64 (encX x)]) ∧ Below W.heap.size W w') := fun W => c_encode x W hfx
  have HN : Hid (∀ W, Calls Try.prog 24 #[.agg x.cells] W fun z w' => z = .returned (.agg (onlyE x).cells) ∧ Below W.heap.size W w') := fun W => r_only x W
  have HK : Hid (∀ W, Calls Try.prog 15 #[.agg x.cells, .agg (onlyE x).cells] W fun z w' => z = .returned (.bool (eqE x (onlyE x))) ∧ Below W.heap.size W w') := fun W => k_event x (onlyE x) W
  have hlt := World.block_lt_of_cell? wc ⟨g5, 0, none⟩ hX.cell
  clear hX HT HX
  cases ho : eqE x (onlyE x) with
  | false =>
    have hne : onlyE x = e := hor.resolve_left fun h => by rw [h, eqE_self] at ho; cases ho
    have hgx : goodE x = false := by unfold goodE headB; rw [ho]; simp
    have HV : Hid (∀ W, Calls Try.prog 13 #[.agg (onlyE x).cells] W fun z w' => z = .returned (.bool true) ∧ Below W.heap.size W w') := fun W => by
      have := c_good (onlyE x) W (hne ▸ HF.out)
      rwa [hne, HGE.out, ← hne] at this
    rw [show encT x = ⟨#[]⟩ by unfold encT; simp [hgx], show encX x = 11 by unfold encX; simp [hgx]] at HE
    rw [ho] at HK
    clear hne hgx ho hor hfx HF HGE HON HR
    generalize x.cells = X at *
    generalize (onlyE x).cells = Y at *
    go_upto_region 20 with (first
        | (refine load_want (by rfl) 25 _ rfl _ rfl _ _ _ HB6.out Try.underlying25 rfl HSX.out ?_)
        | (go_at_call 9
           with_reducible refine (HE.out wc).mono ?_
           rintro e y7 ⟨rfl, hb⟩
           have HB7 := Lib.hid (HB6.out.below hb)
           have HW7 := Lib.hid (below_via HW6.out hb)
           clear hb))
    have hS0 : Boxd y7.drew g5 X 25 ∧ Below w.heap.size w y7.drew := ⟨HB7.out, below_drew HW7.out⟩
    refine wp_region_held_drew (S := (fun w' => Boxd w' g5 X 25 ∧ Below w.heap.size w w')) (by kernel_rfl) hS0 (fun hHeld => ?_)
    refine take_row 0 62 rfl rfl (by kernel_rfl) (by kernel_rfl) (by kernel_rfl) 25 _ rfl g5 rfl X _ Try.underlying25 rfl HSX.out (fun _ h => h.1) (fun _ _ _ h => h) (by rfl) (by assumption) ?_
    (try simp only [Act.put, List.setIfInBounds_toArray, List.set_cons_zero, List.set_cons_succ])
    refine take_row 1 63 rfl rfl (by kernel_rfl) (by kernel_rfl) (by kernel_rfl) 25 _ rfl g5 rfl X _ Try.underlying25 rfl HSX.out (fun _ h => h.1) (fun _ _ _ h => h) (by rfl) (by assumption) ?_
    (try simp only [Act.put, List.setIfInBounds_toArray, List.set_cons_zero, List.set_cons_succ])
    refine wpAnyH_ready (rs := [2]) (by kernel_rfl) (by simp) (AllReadyH.cons rfl (fun K hK => ?_) AllReadyH.nil)
    go_simp
    (go_at_call 24; with_reducible refine (held_row (by assumption) (HN.out _)).mono ?_; rintro e y8 ⟨rfl, hS1⟩)
    go_wp2_with fail
    refine hK.out _ _ ?_ (fun hHeld => ?_)
    · exact hS1
    clear hK K
    (try simp only [Act.put, List.setIfInBounds_toArray, List.set_cons_zero, List.set_cons_succ])
    refine wpAnyH_ready (rs := [3]) (by kernel_rfl) (by simp) (AllReadyH.cons rfl (fun K hK => ?_) AllReadyH.nil)
    go_simp
    (go_at_call 15; with_reducible refine (held_row (by assumption) (HK.out _)).mono ?_; rintro e y9 ⟨rfl, hS2⟩)
    go_wp2_with fail
    refine hK.out _ _ ?_ (fun hHeld => ?_)
    · exact hS2
    clear hK K
    (try simp only [Act.put, List.setIfInBounds_toArray, List.set_cons_zero, List.set_cons_succ])
    refine ByHand.take_yes (v := ?_) 4 66 rfl rfl (by kernel_rfl) (by kernel_rfl) (by kernel_rfl) (fun _ _ _ h => h) (by rfl) ?_ (by assumption) ?_
    rotate_left
    · intro w' hSw
      (try dsimp only at hSw)
      go_simp
      all_goals with_reducible rfl
    (try simp only [Act.put, List.setIfInBounds_toArray, List.set_cons_zero, List.set_cons_succ])
    refine wpAnyH_done (by kernel_rfl) ?_ _
    have HB9 := Lib.hid hS2.1
    have HW9 := Lib.hid hS2.2
    clear hS0 hS1 hS2
    go_wp2_with (first
        | (refine load_want (by rfl) 25 _ rfl _ rfl _ _ _ HB9.out Try.underlying25 rfl HSX.out ?_)
        | (go_at_call 24
           with_reducible refine (HN.out y9).mono ?_
           rintro e y10 ⟨rfl, hb⟩
           have HW10 := Lib.hid (below_via HW9.out hb)
           clear hb)
        | (go_at_call 13
           with_reducible refine (HV.out y10).mono ?_
           rintro e y11 ⟨rfl, hb⟩
           have HW11 := Lib.hid (below_via HW10.out hb)
           clear hb)
        | (go_at_call 8
           with_reducible refine (wakes_event y11).mono ?_
           rintro e y12 ⟨rfl, hb⟩
           have HW12 := Lib.hid (below_via HW11.out hb)
           clear hb))
    go_ret
    exact ⟨rfl, HW12.out⟩
  | true =>
    rw [ho] at HK
    have HV : Hid (∀ W, Calls Try.prog 14 #[.agg x.cells] W fun z w' => z = .returned (.bool (goodE x)) ∧ Below W.heap.size W w') := fun W => r_good x W hfx
    have hq : (encX x == 0) = goodE x := by unfold encX; cases goodE x <;> rfl
    have hq2 : (goodE x == goodE x) = true := by cases goodE x <;> rfl
    clear ho hor hfx HF HGE HON HR
    generalize x.cells = X at *
    generalize (onlyE x).cells = Y at *
    generalize encX x = z at *
    generalize encT x = s at *
    generalize goodE x = q at *
    go_upto_region 20 with (first
        | (refine load_want (by rfl) 25 _ rfl _ rfl _ _ _ HB6.out Try.underlying25 rfl HSX.out ?_)
        | (go_at_call 9
           with_reducible refine (HE.out wc).mono ?_
           rintro e y7 ⟨rfl, hb⟩
           have HB7 := Lib.hid (HB6.out.below hb)
           have HW7 := Lib.hid (below_via HW6.out hb)
           clear hb))
    have hS0 : Boxd y7.drew g5 X 25 ∧ Below w.heap.size w y7.drew := ⟨HB7.out, below_drew HW7.out⟩
    refine wp_region_held_drew (S := (fun w' => Boxd w' g5 X 25 ∧ Below w.heap.size w w')) (by kernel_rfl) hS0 (fun hHeld => ?_)
    refine take_row 0 62 rfl rfl (by kernel_rfl) (by kernel_rfl) (by kernel_rfl) 25 _ rfl g5 rfl X _ Try.underlying25 rfl HSX.out (fun _ h => h.1) (fun _ _ _ h => h) (by rfl) (by assumption) ?_
    (try simp only [Act.put, List.setIfInBounds_toArray, List.set_cons_zero, List.set_cons_succ])
    refine take_row 1 63 rfl rfl (by kernel_rfl) (by kernel_rfl) (by kernel_rfl) 25 _ rfl g5 rfl X _ Try.underlying25 rfl HSX.out (fun _ h => h.1) (fun _ _ _ h => h) (by rfl) (by assumption) ?_
    (try simp only [Act.put, List.setIfInBounds_toArray, List.set_cons_zero, List.set_cons_succ])
    refine wpAnyH_ready (rs := [2]) (by kernel_rfl) (by simp) (AllReadyH.cons rfl (fun K hK => ?_) AllReadyH.nil)
    go_simp
    (go_at_call 24; with_reducible refine (held_row (by assumption) (HN.out _)).mono ?_; rintro e y8 ⟨rfl, hS1⟩)
    go_wp2_with fail
    refine hK.out _ _ ?_ (fun hHeld => ?_)
    · exact hS1
    clear hK K
    (try simp only [Act.put, List.setIfInBounds_toArray, List.set_cons_zero, List.set_cons_succ])
    refine wpAnyH_ready (rs := [3]) (by kernel_rfl) (by simp) (AllReadyH.cons rfl (fun K hK => ?_) AllReadyH.nil)
    go_simp
    (go_at_call 15; with_reducible refine (held_row (by assumption) (HK.out _)).mono ?_; rintro e y9 ⟨rfl, hS2⟩)
    go_wp2_with fail
    refine hK.out _ _ ?_ (fun hHeld => ?_)
    · exact hS2
    clear hK K
    (try simp only [Act.put, List.setIfInBounds_toArray, List.set_cons_zero, List.set_cons_succ])
    refine ByHand.take_yes (v := ?_) 4 66 rfl rfl (by kernel_rfl) (by kernel_rfl) (by kernel_rfl) (fun _ _ _ h => h) (by rfl) ?_ (by assumption) ?_
    rotate_left
    · intro w' hSw
      (try dsimp only at hSw)
      go_simp
      all_goals with_reducible rfl
    (try simp only [Act.put, List.setIfInBounds_toArray, List.set_cons_zero, List.set_cons_succ])
    refine wpAnyH_done (by kernel_rfl) ?_ _
    have HB9 := Lib.hid hS2.1
    have HW9 := Lib.hid hS2.2
    clear hS0 hS1 hS2
    go_wp2_with (first
        | (refine load_want (by rfl) 25 _ rfl _ rfl _ _ _ HB9.out Try.underlying25 rfl HSX.out ?_)
        | (go_at_call 14
           with_reducible refine (HV.out y9).mono ?_
           rintro e y11 ⟨rfl, hb⟩
           have HW11 := Lib.hid (below_via HW9.out hb)
           clear hb)
        | (go_at_call 8
           with_reducible refine (wakes_event y11).mono ?_
           rintro e y12 ⟨rfl, hb⟩
           have HW12 := Lib.hid (below_via HW11.out hb)
           clear hb))
    go_ret
    exact ⟨rfl, HW12.out⟩
theorem others_walk (e : Ev) (n : Nat) (w : World) (he : e.Fit) (hn : n < 256) :
    Calls Try.prog 6 #[.agg e.cells, .int .u8 (n : Nat)] w fun e w' => e = .returned (.bool true) ∧ Below w.heap.size w w' := by
  cases hg : goodE e with
  | false => exact others_no e n w he hg
  | true => exact others_yes e n w he hg hn

set_option maxRecDepth 100000 in
theorem eventOthers_lifted (os : Os) (started : os.Started) (H : Type) (enc : TypeId × Value → H) :
    ReturnsInHanded {} Try.checked os 6 .any (Rows.eventOthersSpec.pre6 enc Try.prog Try.f6 Rows.eventOthersRow.domain false) (Rows.eventOthersSpec.post enc Try.prog Try.f6 false true false false) := by
  refine Shell.law_lifted (C := Try.checked) (tb := 4) (by kernel_rfl) started (by kernel_rfl) Try.func6
    (ChangeSpec.witness6 (enc := enc) (C := Try.checked) false ⟨#[], #[.agg #[.int .i64 0, .int .i64 0, .int .u32 0, .int .i64 0, .int .i64 0, .float .f64 0, .float .f64 0, .bool false, .int .i64 0, .int .i64 0, .int .i64 0], .int .u8 0], []⟩ 8 (by kernel_rfl) (by kernel_rfl) (by kernel_rfl) (by kernel_rfl))
    (by kernel_rfl) (by kernel_rfl) rfl rfl Try.underlying4 ?_
  intro W base args ds p hval0 hA0
  have hval : ∀ (j : Nat) t v, Try.f6.params[j]? = some t → args[j]? = some v → Value.okWide Try.prog W .any base t v := hval0
  have hA : DataW.TrodAll enc Try.prog W 0 (fun _ => true) true Try.f6.params.toList args.toList ds p := hA0
  clear hval0 hA0
  rw [Try.params6] at hA hval
  obtain ⟨v0, vs0, d0, ds0, p0, q0, hargs, rfl, rfl, h0, r0⟩ := trodAll_cons hA
  obtain ⟨v1, vs1, d1, ds1, p1, q1, rfl, rfl, rfl, h1, r1⟩ := trodAll_cons r0
  obtain ⟨rfl, rfl, rfl⟩ := trodAll_nil r1
  obtain rfl : args = #[v0, v1] := by cases args; simp_all
  refine ⟨rfl, ?_⟩
  obtain ⟨e, rfl, he⟩ := open_ev (hval 0 25 v0 rfl rfl) h0
  obtain ⟨z1, rfl, -, -, wz1⟩ := open_int Try.underlying5 (hval 1 5 v1 rfl rfl) h1
  obtain ⟨n, rfl, ln⟩ := u8_nat wz1
  exact others_walk e n W he ln

theorem eventOthers_over : Rows.eventOthersRow.holds Try.pinned (OpenSpec.ofChange Rows.eventOthersSpec) :=
  OpenClaim.holds_of_wide 6 Try.f6 rfl rfl rfl rfl rfl rfl rfl ⟨rfl, rfl, rfl, rfl, rfl⟩ rfl rfl rfl rfl rfl (by kernel_rfl) Try.func6 (by kernel_rfl)
    (of_decide_eq_true (by kernel_rfl)) (by unfold Func.isWrapper; first | (rw [if_pos (by decide +kernel)]; kernel_rfl) | (rw [if_neg (by decide +kernel)]; exact ⟨rfl, rfl⟩))
    (fun os st H enc _ => eventOthers_lifted os st H enc)

/-- The statement. -/
theorem eventOthers_proved : Rows.EventOthersSaid := eventOthers_over
end Go.Proofs.Ytcmdonckilajjaa.Law
