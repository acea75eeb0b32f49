/- So many years on are just twelve times as many whole months; no years on is the day itself; a month's bill falls due on its first day and is in time up to fifteen days behind it, at any three numbers; no condition. -/
import Derived.Test.YthmmlgfechkohaaDoorCards
import Derived.Test.YthmmlgfechkohaaDoorTie
import Derived.Test.YthmmlgfechkohaaDoorDoor
import Derived.Test.YthmmlgfechkohaaDoorDueWakes
import Derived.Test.YthmmlgfechkohaaDoorMod
namespace Go.Proofs.YthmmlgfechkohaaDoor.Law
open Go.ChangeShapes Go.WideShapes Go.ChangeAt Go.RowKit Cal Date Due Slice

theorem small2 {k : Nat} (h : (k : Int) < 87659) : k ≤ 87658 := by omega
theorem small3 {k : Nat} (h : (k : Int) < 241) : k ≤ 240 := by omega
theorem edge_facts (i : Nat) (h : (i : Int) < 2879) : inB i ((st i : Nat) + 15) = true ∧ inB i ((st i : Nat) + 16) = false ∧ lateV i ((st i : Nat) + 15) = 0 ∧ lateV i ((st i : Nat) + 18) = 3 ∧ firE i = 0 ∧ firV i = (st i : Nat) ∧
    monL ((st i : Nat) - 1) (st i : Nat) = [(i : Int)] ∧ st i ≤ 87658 ∧ True := by
  obtain ⟨h1, h2, h3, h4, h5, h6⟩ := due_edge i (by omega)
  exact ⟨h1, h2, h3, h4, h5, h6, mon_one i (by omega), st_in (by omega), trivial⟩
theorem year_facts {x k : Nat} (hx : x ≤ 87658) (hk : k ≤ 240) : yrV x 0 = x ∧ yrE x 0 = 0 ∧ yrV x k = addV x (12 * (k : Int)) ∧ yrE x k = addE x (12 * (k : Int)) ∧ (addE x (12 * (k : Int)) = 0 ∨ addE x (12 * (k : Int)) = 15) ∧ wrap64 (12 * (k : Int)) = 12 * (k : Int) := by
  have h0 := add_zero' x hx
  refine ⟨h0.1, h0.2, ?_, ?_, ?_, ?_⟩
  · unfold yrV; rw [show yrB (k : Int) = true from decide_eq_true (by omega)]; rfl
  · unfold yrE; rw [show yrB (k : Int) = true from decide_eq_true (by omega)]; rfl
  · unfold addE; split <;> simp
  · unfold wrap64; omega
set_option maxHeartbeats 4000000 in
theorem years_walk (d n m : Int) (w : World) (LD : Laid w) :
    Calls Tryd.prog 7 #[.int .i64 d, .int .i64 n, .int .i64 m] w fun e w' => e = .returned (.bool true) ∧ Below w.heap.size w w' := by
  go_enter Tryd.func7, Tryd.ntmps7
  go_wp2_with fail
  refine (Mod.mod_any _ 87659 _ (by decide) (by decide)).mono ?_
  rintro e w0 ⟨⟨x, x0, rfl⟩, rfl⟩
  have hx := small2 x0
  clear x0
  go_wp2_with fail
  refine (Mod.mod_any _ 241 _ (by decide) (by decide)).mono ?_
  rintro e w0 ⟨⟨k, k0, rfl⟩, rfl⟩
  have hk := small3 k0
  clear k0
  obtain ⟨y1, y2, y3, y4, y5, y6⟩ := year_facts hx hk
  have HY := who_years (k := k) hx
  have U1 := u_year (x : Int) 0
  have U2 := u_year (x : Int) (k : Int)
  rw [y1, y2] at U1
  rw [y3, y4] at U2
  generalize addV (x : Int) (12 * (k : Int)) = a at *
  generalize addE (x : Int) (12 * (k : Int)) = f at *
  have HY := Lib.hid HY
  have W6 := Lib.hid y6
  clear y1 y2 y3 y4 y6
  have xx : ((x : Int) == (x : Int)) = true := by simp
  go_wp2_with fail
  refine (U1 _ LD).mono ?_
  rintro e w1 ⟨rfl, b1⟩
  replace LD := LD.of b1
  go_wp2_with fail
  refine (U2 _ LD).mono ?_
  rintro e w2 ⟨rfl, b2⟩
  replace LD := LD.of b2
  rcases y5 with rfl | rfl
  · have hw := HY.out rfl
    go_wp2_with fail
    refine (u_whole _ _ _ LD).mono ?_
    rw [hw]
    rintro e w3 ⟨rfl, b3⟩
    replace LD := LD.of b3
    have B3 := Lib.hid (below_via (below_via b1 b2) b3)
    have kk : (12 * (k : Int) == 12 * (k : Int)) = true := by simp
    clear b1 b2 b3 hw
    go_wp2_with fail
    refine (Mod.mod_any _ 2879 _ (by decide) (by decide)).mono ?_
    rintro e w0 ⟨⟨i, i0, rfl⟩, rfl⟩
    obtain ⟨d1, d2, d3, d4, d5, d6, d7, d8, d9⟩ := edge_facts i i0
    have F := rfirst_any (i : Int)
    rw [d5, d6] at F
    have D1 := Lib.hid d1
    have D2 := Lib.hid d2
    have D3 := Lib.hid d3
    have D4 := Lib.hid d4
    have D7 := Lib.hid d7
    have WI := Lib.hid d9
    clear d1 d2 d3 d4 d5 d6 d7 d9 i0
    generalize st i = s at *
    go_wp2_with fail
    refine (F _).mono ?_
    rintro e w0 ⟨rfl, rfl⟩
    go_wp2_with fail
    refine (u_in _ _ _ LD).mono ?_
    rw [D1.out]
    rintro e w4 ⟨rfl, b4⟩
    replace LD := LD.of b4
    go_wp2_with fail
    refine (u_in _ _ _ LD).mono ?_
    rw [D2.out]
    rintro e w5 ⟨rfl, b5⟩
    replace LD := LD.of b5
    go_wp2_with fail
    refine (u_late _ _ _ LD).mono ?_
    rw [D3.out]
    rintro e w6 ⟨rfl, b6⟩
    replace LD := LD.of b6
    go_wp2_with fail
    refine (u_late _ _ _ LD).mono ?_
    rw [D4.out]
    rintro e w7 ⟨rfl, b7⟩
    replace LD := LD.of b7
    have B7 := Lib.hid (below_via (below_via (below_via (below_via B3.out b4) b5) b6) b7)
    clear b4 b5 b6 b7
    go_wp2_with fail
    refine (u_months _ _ _ LD).mono ?_
    rw [D7.out]
    rintro e w8 ⟨v, rfl, i8, b8⟩
    replace LD := LD.of b8
    obtain ⟨A, c, rfl, -, -, -⟩ := id i8
    have I8 := Lib.hid i8
    have B8 := Lib.hid (below_via B7.out b8)
    clear i8 b8
    go_wp2_with fail
    refine (ints_same [(i : Int)] _ _ (w8.alloc (.cells #[.int .i64 (i : Int)] 3)).heap.size _ ((I8.out.alloc (Nat.le_refl _) _).more (by simp)) (lit_one w8 _ _)).mono ?_
    rintro e w9 ⟨rfl, n9, rfl⟩
    replace LD := (LD.alloc (.cells #[.int .i64 (i : Int)] 3)).drewN n9
    go_wp2_with fail
    refine (wakes_due _ LD).mono ?_
    rintro e wk ⟨rfl, bk⟩
    go_wp2_with fail
    go_ret
    exact ⟨rfl, below_via (below_drewN (below_new B8.out _) n9) bk⟩
  · have B3 := Lib.hid (below_via b1 b2)
    clear b1 b2
    go_wp2_with fail
    refine (Mod.mod_any _ 2879 _ (by decide) (by decide)).mono ?_
    rintro e w0 ⟨⟨i, i0, rfl⟩, rfl⟩
    obtain ⟨d1, d2, d3, d4, d5, d6, d7, d8, d9⟩ := edge_facts i i0
    have F := rfirst_any (i : Int)
    rw [d5, d6] at F
    have D1 := Lib.hid d1
    have D2 := Lib.hid d2
    have D3 := Lib.hid d3
    have D4 := Lib.hid d4
    have D7 := Lib.hid d7
    have WI := Lib.hid d9
    clear d1 d2 d3 d4 d5 d6 d7 d9 i0
    generalize st i = s at *
    go_wp2_with fail
    refine (F _).mono ?_
    rintro e w0 ⟨rfl, rfl⟩
    go_wp2_with fail
    refine (u_in _ _ _ LD).mono ?_
    rw [D1.out]
    rintro e w4 ⟨rfl, b4⟩
    replace LD := LD.of b4
    go_wp2_with fail
    refine (u_in _ _ _ LD).mono ?_
    rw [D2.out]
    rintro e w5 ⟨rfl, b5⟩
    replace LD := LD.of b5
    go_wp2_with fail
    refine (u_late _ _ _ LD).mono ?_
    rw [D3.out]
    rintro e w6 ⟨rfl, b6⟩
    replace LD := LD.of b6
    go_wp2_with fail
    refine (u_late _ _ _ LD).mono ?_
    rw [D4.out]
    rintro e w7 ⟨rfl, b7⟩
    replace LD := LD.of b7
    have B7 := Lib.hid (below_via (below_via (below_via (below_via B3.out b4) b5) b6) b7)
    clear b4 b5 b6 b7
    go_wp2_with fail
    refine (u_months _ _ _ LD).mono ?_
    rw [D7.out]
    rintro e w8 ⟨v, rfl, i8, b8⟩
    replace LD := LD.of b8
    obtain ⟨A, c, rfl, -, -, -⟩ := id i8
    have I8 := Lib.hid i8
    have B8 := Lib.hid (below_via B7.out b8)
    clear i8 b8
    go_wp2_with fail
    refine (ints_same [(i : Int)] _ _ (w8.alloc (.cells #[.int .i64 (i : Int)] 3)).heap.size _ ((I8.out.alloc (Nat.le_refl _) _).more (by simp)) (lit_one w8 _ _)).mono ?_
    rintro e w9 ⟨rfl, n9, rfl⟩
    replace LD := (LD.alloc (.cells #[.int .i64 (i : Int)] 3)).drewN n9
    go_wp2_with fail
    refine (wakes_due _ LD).mono ?_
    rintro e wk ⟨rfl, bk⟩
    go_wp2_with fail
    go_ret
    exact ⟨rfl, below_via (below_drewN (below_new B8.out _) n9) bk⟩

set_option maxRecDepth 100000 in
theorem dueYears_lifted (os : Os) (started : os.Started) (H : Type) (enc : TypeId × Value → H) :
    ReturnsInHanded {} Tryd.checked os 7 .any (fun w args => (Rows.dueYearsSpec.pre enc Tryd.prog Tryd.f7 Rows.dueYearsRow.domain false w args ∧ laidMetH Tryd.prog Rows.dueYearsRow.laid w) ∧ sizedMet enc Tryd.prog Tryd.f7 (OpenSpec.ofChange Rows.dueYearsSpec) false w args) (Rows.dueYearsSpec.post enc Tryd.prog Tryd.f7 false true false false) := by
  refine Door.law_lifted (C := Tryd.checked) (tb := 4) (by kernel_rfl) started (by kernel_rfl) Tryd.func7
    (ChangeSpec.witness_shaped (enc := enc) (C := Tryd.checked) (os := os) (X := fun w _ => laidMetH Tryd.prog Rows.dueYearsRow.laid w) false (World.laidAll Tryd.prog os Rows.dueYearsRow.laid) #[.int .i64 0, .int .i64 0, .int .i64 0] 8 (World.laidAll_os _ _ _)
      (World.shaped_of_ZipB (by kernel_rfl) (by kernel_rfl)) (by kernel_rfl) (by kernel_rfl) (by kernel_rfl)
      (by rw [MakeChecks.laidMetH_plain _ _ _ (by kernel_rfl)]; exact laidMet_laidAll _ (by kernel_rfl) (by kernel_rfl)))
    (by kernel_rfl) (by kernel_rfl) rfl rfl Tryd.underlying4 ?_
  intro W base args ds p hval0 hA0 hL
  have hval : ∀ (j : Nat) t v, Tryd.f7.params[j]? = some t → args[j]? = some v → Value.okWide Tryd.prog W .any base t v := hval0
  have hA : DataW.TrodAll enc Tryd.prog W 0 (fun _ => true) true Tryd.f7.params.toList args.toList ds p := hA0
  clear hval0 hA0
  rw [MakeChecks.laidMetH_plain _ _ _ (by kernel_rfl)] at hL
  rw [Tryd.params7] at hA hval
  obtain ⟨v0, vs0, d0, ds0, p0, q0, hargs, rfl, rfl, h0, r0⟩ := trodAll_cons hA
  obtain ⟨v1, vs1, d1, ds1, p1, q1, rfl, rfl, rfl, h1, r1⟩ := trodAll_cons r0
  obtain ⟨v2, vs2, d2, ds2, p2, q2, rfl, rfl, rfl, h2, r2⟩ := trodAll_cons r1
  obtain ⟨rfl, rfl, rfl⟩ := trodAll_nil r2
  obtain rfl : args = #[v0, v1, v2] := by cases args; simp_all
  refine ⟨rfl, ?_⟩
  obtain ⟨d, rfl, -, -, hd⟩ := open_int Tryd.underlying3 (hval 0 3 v0 rfl rfl) h0
  obtain ⟨n, rfl, -, -, hn⟩ := open_int Tryd.underlying3 (hval 1 3 v1 rfl rfl) h1
  obtain ⟨m, rfl, -, -, hm⟩ := open_int Tryd.underlying3 (hval 2 3 v2 rfl rfl) h2
  have LD := Date.laid_of hL (by exact List.mem_cons_self ..)
  exact years_walk d n m W LD

theorem dueYears_over : Rows.dueYearsRow.holds Tryd.pinned (OpenSpec.ofChange Rows.dueYearsSpec) :=
  OpenClaim.holds_of_wide 7 Tryd.f7 rfl rfl rfl rfl rfl rfl rfl ⟨rfl, rfl, rfl, rfl, rfl⟩ rfl rfl rfl rfl rfl (by kernel_rfl) Tryd.func7 (by kernel_rfl)
    (of_decide_eq_true (by kernel_rfl)) (by unfold Func.isWrapper; first | (rw [if_pos (by decide +kernel)]; kernel_rfl) | (rw [if_neg (by decide +kernel)]; exact ⟨rfl, rfl⟩))
    (fun os st H enc _ => dueYears_lifted os st H enc)

/-- The statement: the card. -/
theorem dueYears_proved : Rows.DueYearsCardSaid :=
  Claim7.holds_tied_plain_at .later [] [.data] true Rows.dueYearsCard.stood.harness false
    dueYears_over (fun _ h => by cases h) (by kernel_rfl) (fun _ h => by cases h) dueYears_row_tie rfl ⟨rfl, rfl⟩ (by kernel_rfl) rfl
    (fun f fn hf hfn => by
      obtain rfl : f = 7 := Option.some.inj ((show Tryd.prog.funcNamed "annuity/annuitylaw05.DueYears" = some 7 by kernel_rfl).symm.trans hf) |>.symm
      obtain rfl : fn = Tryd.f7 := (Option.some.inj (Tryd.func7.symm.trans hfn)).symm
      exact ⟨by kernel_rfl, fun j t ht => by
        have hall : (Tryd.f7.params.toList.all fun u => !Tryd.prog.wantsStandIn u) = true := by kernel_rfl
        exact (show Tryd.prog.wantsStandIn t = false by simpa using List.all_eq_true.1 hall t (Array.mem_def.1 (Array.mem_of_getElem? ht)))⟩)
    (by kernel_rfl)
end Go.Proofs.YthmmlgfechkohaaDoor.Law
