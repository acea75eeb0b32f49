/- Add answers what the document's own Add answers, at any number and any months; no condition. -/
import Derived.Test.YtkhimogdkcibmaaDoorCards
import Derived.Test.YtkhimogdkcibmaaDoorTie
import Derived.Test.YtkhimogdkcibmaaDoorDoor
import Derived.Test.YtkhimogdkcibmaaDoorDateWakes
namespace Go.Proofs.YtkhimogdkcibmaaDoor.Law
open Go.ChangeShapes Go.WideShapes Go.ChangeAt Go.RowKit Cal Date

theorem adds_walk (n k : Int) (w : World) (LD : Laid w) :
    Calls Tryd.prog 5 #[.int .i64 n, .int .i64 k] w fun e w' => e = .returned (.bool true) ∧ Below w.heap.size w w' := by
  have h1 := d_add n k
  have h2 := radd_any n k
  generalize addV n k = a at *
  generalize addE n k = x at *
  have e1 : (a == a) = true := by simp
  have e2 : (x == x) = true := by simp
  go_enter Tryd.func5, Tryd.ntmps5
  go_wp2_with fail
  refine (h1 _ LD).mono ?_
  rintro e w1 ⟨rfl, b1⟩
  replace LD := LD.of b1
  go_wp2_with fail
  refine (h2 _).mono ?_
  rintro e w2 ⟨rfl, b2⟩
  replace LD := LD.of b2
  go_wp2_with fail
  refine (wakes_date _ LD).mono ?_
  rintro e w3 ⟨rfl, b3⟩
  replace LD := LD.of b3
  go_wp2_with fail
  go_ret
  exact ⟨rfl, below_via (below_via b1 b2) b3⟩

set_option maxRecDepth 100000 in
theorem dateAdds_lifted (os : Os) (started : os.Started) (H : Type) (enc : TypeId × Value → H) :
    ReturnsInHanded {} Tryd.checked os 5 .any (fun w args => (Rows.dateAddsSpec.pre enc Tryd.prog Tryd.f5 Rows.dateAddsRow.domain false w args ∧ laidMetH Tryd.prog Rows.dateAddsRow.laid w) ∧ sizedMet enc Tryd.prog Tryd.f5 (OpenSpec.ofChange Rows.dateAddsSpec) false w args) (Rows.dateAddsSpec.post enc Tryd.prog Tryd.f5 false true false false) := by
  refine Door.law_lifted (C := Tryd.checked) (tb := 4) (by kernel_rfl) started (by kernel_rfl) Tryd.func5
    (ChangeSpec.witness_shaped (enc := enc) (C := Tryd.checked) (os := os) (X := fun w _ => laidMetH Tryd.prog Rows.dateAddsRow.laid w) false (World.laidAll Tryd.prog os Rows.dateAddsRow.laid) #[.int .i64 0, .int .i64 0] 8 (World.laidAll_os _ _ _)
      (World.shaped_of_ZipB (by kernel_rfl) (by kernel_rfl)) (by kernel_rfl) (by kernel_rfl) (by kernel_rfl)
      (by rw [MakeChecks.laidMetH_plain _ _ _ (by kernel_rfl)]; exact laidMet_laidAll _ (by kernel_rfl) (by kernel_rfl)))
    (by kernel_rfl) (by kernel_rfl) rfl rfl Tryd.underlying4 ?_
  intro W base args ds p hval0 hA0 hL
  have hval : ∀ (j : Nat) t v, Tryd.f5.params[j]? = some t → args[j]? = some v → Value.okWide Tryd.prog W .any base t v := hval0
  have hA : DataW.TrodAll enc Tryd.prog W 0 (fun _ => true) true Tryd.f5.params.toList args.toList ds p := hA0
  clear hval0 hA0
  rw [MakeChecks.laidMetH_plain _ _ _ (by kernel_rfl)] at hL
  rw [Tryd.params5] at hA hval
  obtain ⟨v0, vs0, d0, ds0, p0, q0, hargs, rfl, rfl, h0, r0⟩ := trodAll_cons hA
  obtain ⟨v1, vs1, d1, ds1, p1, q1, rfl, rfl, rfl, h1, r1⟩ := trodAll_cons r0
  obtain ⟨rfl, rfl, rfl⟩ := trodAll_nil r1
  obtain rfl : args = #[v0, v1] := by cases args; simp_all
  refine ⟨rfl, ?_⟩
  obtain ⟨n, rfl, -, -, hn⟩ := open_int Tryd.underlying3 (hval 0 3 v0 rfl rfl) h0
  obtain ⟨k, rfl, -, -, hk⟩ := open_int Tryd.underlying3 (hval 1 3 v1 rfl rfl) h1
  have LD := Date.laid_of hL (by exact List.mem_cons_self ..)
  exact adds_walk n k W LD

theorem dateAdds_over : Rows.dateAddsRow.holds Tryd.pinned (OpenSpec.ofChange Rows.dateAddsSpec) :=
  OpenClaim.holds_of_wide 5 Tryd.f5 rfl rfl rfl rfl rfl rfl rfl ⟨rfl, rfl, rfl, rfl, rfl⟩ rfl rfl rfl rfl rfl (by kernel_rfl) Tryd.func5 (by kernel_rfl)
    (of_decide_eq_true (by kernel_rfl)) (by unfold Func.isWrapper; first | (rw [if_pos (by decide +kernel)]; kernel_rfl) | (rw [if_neg (by decide +kernel)]; exact ⟨rfl, rfl⟩))
    (fun os st H enc _ => dateAdds_lifted os st H enc)

/-- The statement: the card. -/
theorem dateAdds_proved : Rows.DateAddsCardSaid :=
  Claim7.holds_tied_plain_at .later [] [.data] true Rows.dateAddsCard.stood.harness false
    dateAdds_over (fun _ h => by cases h) (by kernel_rfl) (fun _ h => by cases h) dateAdds_row_tie rfl ⟨rfl, rfl⟩ (by kernel_rfl) rfl
    (fun f fn hf hfn => by
      obtain rfl : f = 5 := Option.some.inj ((show Tryd.prog.funcNamed "annuity/annuitylaw04.DateAdds" = some 5 by kernel_rfl).symm.trans hf) |>.symm
      obtain rfl : fn = Tryd.f5 := (Option.some.inj (Tryd.func5.symm.trans hfn)).symm
      exact ⟨by kernel_rfl, fun j t ht => by
        have hall : (Tryd.f5.params.toList.all fun u => !Tryd.prog.wantsStandIn u) = true := by kernel_rfl
        exact (show Tryd.prog.wantsStandIn t = false by simpa using List.all_eq_true.1 hall t (Array.mem_def.1 (Array.mem_of_getElem? ht)))⟩)
    (by kernel_rfl)
end Go.Proofs.YtkhimogdkcibmaaDoor.Law
