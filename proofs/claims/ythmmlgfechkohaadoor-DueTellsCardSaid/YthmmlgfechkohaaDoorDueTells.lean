/- InTime, Late, Year and Whole answer what the document's own answer, at any numbers; no condition. -/
import Derived.Test.YthmmlgfechkohaaDoorCards
import Derived.Test.YthmmlgfechkohaaDoorTie
import Derived.Test.YthmmlgfechkohaaDoorDoor
import Derived.Test.YthmmlgfechkohaaDoorDueWakes
namespace Go.Proofs.YthmmlgfechkohaaDoor.Law
open Go.ChangeShapes Go.WideShapes Go.ChangeAt Go.RowKit Cal Date Due Slice

theorem tells_walk (m d n : Int) (w : World) (LD : Laid w) :
    Calls Tryd.prog 4 #[.int .i64 m, .int .i64 d, .int .i64 n] w fun e w' => e = .returned (.bool true) ∧ Below w.heap.size w w' := by
  have h1 := u_year d n
  have h2 := r_year d n
  have h3 := u_in m d
  have h4 := r_in m d
  have h5 := u_late m d
  have h6 := r_late m d
  have h7 := u_whole d n
  have h8 := r_whole d n
  have h9 := u_whole n d
  have h0 := r_whole n d
  generalize yrV d n = a at *
  generalize yrE d n = x at *
  generalize inB m d = g at *
  generalize lateV m d = l at *
  generalize whoV d n = p at *
  generalize whoV n d = q at *
  have s : ∀ x : Int, (x == x) = true := fun x => by simp
  have sg : (g == g) = true := by cases g <;> rfl
  have s1 := s a
  have s2 := s x
  have s3 := s l
  have s4 := s p
  have s5 := s q
  clear s
  go_enter Tryd.func4, Tryd.ntmps4
  go_wp2_with fail
  refine (h1 _ LD).mono ?_
  rintro e w1 ⟨rfl, b1⟩
  replace LD := LD.of b1
  go_wp2_with fail
  refine (h2 _).mono ?_
  rintro e w2 ⟨rfl, b2⟩
  replace LD := LD.of b2
  go_wp2_with fail
  refine (h3 _ LD).mono ?_
  rintro e w3 ⟨rfl, b3⟩
  replace LD := LD.of b3
  go_wp2_with fail
  refine (h4 _).mono ?_
  rintro e w0 ⟨rfl, rfl⟩
  go_wp2_with fail
  refine (h5 _ LD).mono ?_
  rintro e w5 ⟨rfl, b5⟩
  replace LD := LD.of b5
  go_wp2_with fail
  refine (h6 _).mono ?_
  rintro e w0 ⟨rfl, rfl⟩
  go_wp2_with fail
  refine (h7 _ LD).mono ?_
  rintro e w7 ⟨rfl, b7⟩
  replace LD := LD.of b7
  go_wp2_with fail
  refine (h8 _).mono ?_
  rintro e w8 ⟨rfl, b8⟩
  replace LD := LD.of b8
  go_wp2_with fail
  refine (h9 _ LD).mono ?_
  rintro e w9 ⟨rfl, b9⟩
  replace LD := LD.of b9
  go_wp2_with fail
  refine (h0 _).mono ?_
  rintro e wa ⟨rfl, ba⟩
  replace LD := LD.of ba
  go_wp2_with fail
  refine (wakes_due _ LD).mono ?_
  rintro e wk ⟨rfl, bk⟩
  go_wp2_with fail
  go_ret
  exact ⟨rfl, below_via (below_via (below_via (below_via (below_via (below_via (below_via (below_via b1 b2) b3) b5) b7) b8) b9) ba) bk⟩

set_option maxRecDepth 100000 in
theorem dueTells_lifted (os : Os) (started : os.Started) (H : Type) (enc : TypeId × Value → H) :
    ReturnsInHanded {} Tryd.checked os 4 .any (fun w args => (Rows.dueTellsSpec.pre enc Tryd.prog Tryd.f4 Rows.dueTellsRow.domain false w args ∧ laidMetH Tryd.prog Rows.dueTellsRow.laid w) ∧ sizedMet enc Tryd.prog Tryd.f4 (OpenSpec.ofChange Rows.dueTellsSpec) false w args) (Rows.dueTellsSpec.post enc Tryd.prog Tryd.f4 false true false false) := by
  refine Door.law_lifted (C := Tryd.checked) (tb := 4) (by kernel_rfl) started (by kernel_rfl) Tryd.func4
    (ChangeSpec.witness_shaped (enc := enc) (C := Tryd.checked) (os := os) (X := fun w _ => laidMetH Tryd.prog Rows.dueTellsRow.laid w) false (World.laidAll Tryd.prog os Rows.dueTellsRow.laid) #[.int .i64 0, .int .i64 0, .int .i64 0] 8 (World.laidAll_os _ _ _)
      (World.shaped_of_ZipB (by kernel_rfl) (by kernel_rfl)) (by kernel_rfl) (by kernel_rfl) (by kernel_rfl)
      (by rw [MakeChecks.laidMetH_plain _ _ _ (by kernel_rfl)]; exact laidMet_laidAll _ (by kernel_rfl) (by kernel_rfl)))
    (by kernel_rfl) (by kernel_rfl) rfl rfl Tryd.underlying4 ?_
  intro W base args ds p hval0 hA0 hL
  have hval : ∀ (j : Nat) t v, Tryd.f4.params[j]? = some t → args[j]? = some v → Value.okWide Tryd.prog W .any base t v := hval0
  have hA : DataW.TrodAll enc Tryd.prog W 0 (fun _ => true) true Tryd.f4.params.toList args.toList ds p := hA0
  clear hval0 hA0
  rw [MakeChecks.laidMetH_plain _ _ _ (by kernel_rfl)] at hL
  rw [Tryd.params4] at hA hval
  obtain ⟨v0, vs0, d0, ds0, p0, q0, hargs, rfl, rfl, h0, r0⟩ := trodAll_cons hA
  obtain ⟨v1, vs1, d1, ds1, p1, q1, rfl, rfl, rfl, h1, r1⟩ := trodAll_cons r0
  obtain ⟨v2, vs2, d2, ds2, p2, q2, rfl, rfl, rfl, h2, r2⟩ := trodAll_cons r1
  obtain ⟨rfl, rfl, rfl⟩ := trodAll_nil r2
  obtain rfl : args = #[v0, v1, v2] := by cases args; simp_all
  refine ⟨rfl, ?_⟩
  obtain ⟨m, rfl, -, -, hm⟩ := open_int Tryd.underlying3 (hval 0 3 v0 rfl rfl) h0
  obtain ⟨d, rfl, -, -, hd⟩ := open_int Tryd.underlying3 (hval 1 3 v1 rfl rfl) h1
  obtain ⟨n, rfl, -, -, hn⟩ := open_int Tryd.underlying3 (hval 2 3 v2 rfl rfl) h2
  have LD := Date.laid_of hL (by exact List.mem_cons_self ..)
  exact tells_walk m d n W LD

theorem dueTells_over : Rows.dueTellsRow.holds Tryd.pinned (OpenSpec.ofChange Rows.dueTellsSpec) :=
  OpenClaim.holds_of_wide 4 Tryd.f4 rfl rfl rfl rfl rfl rfl rfl ⟨rfl, rfl, rfl, rfl, rfl⟩ rfl rfl rfl rfl rfl (by kernel_rfl) Tryd.func4 (by kernel_rfl)
    (of_decide_eq_true (by kernel_rfl)) (by unfold Func.isWrapper; first | (rw [if_pos (by decide +kernel)]; kernel_rfl) | (rw [if_neg (by decide +kernel)]; exact ⟨rfl, rfl⟩))
    (fun os st H enc _ => dueTells_lifted os st H enc)

/-- The statement: the card. -/
theorem dueTells_proved : Rows.DueTellsCardSaid :=
  Claim7.holds_tied_plain_at .later [] [.data] true Rows.dueTellsCard.stood.harness false
    dueTells_over (fun _ h => by cases h) (by kernel_rfl) (fun _ h => by cases h) dueTells_row_tie rfl ⟨rfl, rfl⟩ (by kernel_rfl) rfl
    (fun f fn hf hfn => by
      obtain rfl : f = 4 := Option.some.inj ((show Tryd.prog.funcNamed "annuity/annuitylaw05.DueTells" = some 4 by kernel_rfl).symm.trans hf) |>.symm
      obtain rfl : fn = Tryd.f4 := (Option.some.inj (Tryd.func4.symm.trans hfn)).symm
      exact ⟨by kernel_rfl, fun j t ht => by
        have hall : (Tryd.f4.params.toList.all fun u => !Tryd.prog.wantsStandIn u) = true := by kernel_rfl
        exact (show Tryd.prog.wantsStandIn t = false by simpa using List.all_eq_true.1 hall t (Array.mem_def.1 (Array.mem_of_getElem? ht)))⟩)
    (by kernel_rfl)
end Go.Proofs.YthmmlgfechkohaaDoor.Law
