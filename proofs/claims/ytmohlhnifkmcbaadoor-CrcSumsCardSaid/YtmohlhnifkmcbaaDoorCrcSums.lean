/- Sum and Again answer what the document's own do, at any text and any sum; no condition. -/
import Derived.Test.YtmohlhnifkmcbaaDoorCards
import Derived.Test.YtmohlhnifkmcbaaDoorTie
import Derived.Test.YtmohlhnifkmcbaaDoorDoor
import Derived.Test.YtmohlhnifkmcbaaDoorCrcWakes
import Derived.ChangeMaps5
namespace Go.Proofs.YtmohlhnifkmcbaaDoor.Law
open Go.ChangeShapes Go.WideShapes Go.ChangeAt Go.RowKit Crc

theorem crcSums_long (s : ByteArray) (c : Nat) (w : World) (LD : Hid (Laid w)) (hs : 20000 < s.size) :
    Calls Tryd.prog 3 #[.string s, .int .u32 c] w fun e w' => e = .returned (.bool true) ∧ Below w.heap.size w w' := by
  have t0 : decide ((20000 : Int) < (s.size : Int)) = true := decide_eq_true (by omega)
  have BB := Lib.hid (Below.refl w.heap.size w)
  go_enter Tryd.func3, Tryd.ntmps3
  go_wp2_with fail
  refine (wakes_crc _ (LD.out.of BB.out)).mono ?_
  rintro e wk ⟨rfl, hb⟩
  have BB := Lib.hid (below_via BB.out hb)
  clear hb
  go_wp2_with fail
  go_ret
  exact ⟨rfl, BB.out⟩
theorem crcSums_short (s : ByteArray) (c : Nat) (w : World) (LD : Hid (Laid w)) (hs : s.size ≤ 20000) (hc : c < 4294967296) :
    Calls Tryd.prog 3 #[.string s, .int .u32 c] w fun e w' => e = .returned (.bool true) ∧ Below w.heap.size w w' := by
  have t0 : decide ((20000 : Int) < (s.size : Int)) = false := decide_eq_false (by omega)
  have HS := Lib.hid hs
  have BB := Lib.hid (Below.refl w.heap.size w)
  go_enter Tryd.func3, Tryd.ntmps3
  go_wp2_with fail
  have hcc := c_sum s w (by have := HS.out; omega)
  refine hcc.mono ?_
  clear hcc
  rintro e x1 ⟨rfl, hb⟩
  have BB := Lib.hid (below_via BB.out hb)
  clear hb
  go_wp2_with fail
  have hcc := r_sum s x1 (by have := HS.out; omega)
  refine hcc.mono ?_
  clear hcc
  rintro e y2 ⟨rfl, rfl⟩
  go_wp2_with fail
  have hcc := c_again c s x1 hc (by have := HS.out; omega)
  refine hcc.mono ?_
  clear hcc
  rintro e x3 ⟨rfl, hb⟩
  have BB := Lib.hid (below_via BB.out hb)
  clear hb
  go_wp2_with fail
  have hcc := r_again c s x3 hc (by have := HS.out; omega)
  refine hcc.mono ?_
  clear hcc
  rintro e y4 ⟨rfl, rfl⟩
  go_wp2_with fail
  refine (wakes_crc _ (LD.out.of BB.out)).mono ?_
  rintro e wk ⟨rfl, hb⟩
  have BB := Lib.hid (below_via BB.out hb)
  clear hb
  go_wp2_with fail
  go_ret
  exact ⟨rfl, BB.out⟩
theorem crcSums_walk (s : ByteArray) (c : Nat) (w : World) (LD : Hid (Laid w)) (hc : c < 4294967296) :
    Calls Tryd.prog 3 #[.string s, .int .u32 c] w fun e w' => e = .returned (.bool true) ∧ Below w.heap.size w w' := by
  by_cases h : 20000 < s.size
  · exact crcSums_long s c w LD h
  · exact crcSums_short s c w LD (by omega) hc

set_option maxRecDepth 100000 in
theorem crcSums_lifted (os : Os) (started : os.Started) (H : Type) (enc : TypeId × Value → H) :
    ReturnsInHanded {} Tryd.checked os 3 .any (fun w args => (Rows.crcSumsSpec.pre enc Tryd.prog Tryd.f3 Rows.crcSumsRow.domain false w args ∧ laidMetH Tryd.prog Rows.crcSumsRow.laid w) ∧ sizedMet enc Tryd.prog Tryd.f3 (OpenSpec.ofChange Rows.crcSumsSpec) false w args) (Rows.crcSumsSpec.post enc Tryd.prog Tryd.f3 false true false false) := by
  refine Door.law_lifted (C := Tryd.checked) (tb := 4) (by kernel_rfl) started (by kernel_rfl) Tryd.func3
    (ChangeSpec.witness_shaped (enc := enc) (C := Tryd.checked) (os := os) (X := fun w _ => laidMetH Tryd.prog Rows.crcSumsRow.laid w) false (World.laidAll Tryd.prog os Rows.crcSumsRow.laid) #[.string ⟨#[]⟩, .int .u32 0] 8 (World.laidAll_os _ _ _)
      (World.shaped_of_ZipB (by kernel_rfl) (by kernel_rfl)) (by kernel_rfl) (by kernel_rfl) (by kernel_rfl)
      (by rw [MakeChecks.laidMetH_plain _ _ _ (by kernel_rfl)]; exact laidMet_laidAll _ (by kernel_rfl) (by kernel_rfl)))
    (by kernel_rfl) (by kernel_rfl) rfl rfl Tryd.underlying4 ?_
  intro W base args ds p hval0 hA0 hL
  have hval : ∀ (j : Nat) t v, Tryd.f3.params[j]? = some t → args[j]? = some v → Value.okWide Tryd.prog W .any base t v := hval0
  have hA : DataW.TrodAll enc Tryd.prog W 0 (fun _ => true) true Tryd.f3.params.toList args.toList ds p := hA0
  clear hval0 hA0
  rw [MakeChecks.laidMetH_plain _ _ _ (by kernel_rfl)] at hL
  rw [Tryd.params3] at hA hval
  obtain ⟨v0, vs0, d0, ds0, p0, q0, hargs, rfl, rfl, h0, r0⟩ := trodAll_cons hA
  obtain ⟨v1, vs1, d1, ds1, p1, q1, rfl, rfl, rfl, h1, r1⟩ := trodAll_cons r0
  obtain ⟨rfl, rfl, rfl⟩ := trodAll_nil r1
  obtain rfl : args = #[v0, v1] := by cases args; simp_all
  refine ⟨rfl, ?_⟩
  obtain ⟨s, rfl, -, -, hs⟩ := ChangeMaps.open_string Tryd.underlying9 (hval 0 9 v0 rfl rfl) h0
  obtain ⟨z1, rfl, -, -, wz1⟩ := open_int Tryd.underlying22 (hval 1 22 v1 rfl rfl) h1
  obtain ⟨c, rfl, lc⟩ := u32_nat wz1
  have LD := Lib.hid (laid_of hL (by exact List.mem_cons_self ..))
  exact crcSums_walk s c W LD lc

theorem crcSums_over : Rows.crcSumsRow.holds Tryd.pinned (OpenSpec.ofChange Rows.crcSumsSpec) :=
  OpenClaim.holds_of_wide 3 Tryd.f3 rfl rfl rfl rfl rfl rfl rfl ⟨rfl, rfl, rfl, rfl, rfl⟩ rfl rfl rfl rfl rfl (by kernel_rfl) Tryd.func3 (by kernel_rfl)
    (of_decide_eq_true (by kernel_rfl)) (by unfold Func.isWrapper; first | (rw [if_pos (by decide +kernel)]; kernel_rfl) | (rw [if_neg (by decide +kernel)]; exact ⟨rfl, rfl⟩))
    (fun os st H enc _ => crcSums_lifted os st H enc)

/-- The statement: the card. -/
theorem crcSums_proved : Rows.CrcSumsCardSaid :=
  Claim7.holds_tied_plain_at .later [] [.data] true Rows.crcSumsCard.stood.harness false
    crcSums_over (fun _ h => by cases h) (by kernel_rfl) (fun _ h => by cases h) crcSums_row_tie rfl ⟨rfl, rfl⟩ (by kernel_rfl) rfl
    (fun f fn hf hfn => by
      obtain rfl : f = 3 := Option.some.inj ((show Tryd.prog.funcNamed "annuity/annuitylaw07.CrcSums" = some 3 by kernel_rfl).symm.trans hf) |>.symm
      obtain rfl : fn = Tryd.f3 := (Option.some.inj (Tryd.func3.symm.trans hfn)).symm
      exact ⟨by kernel_rfl, fun j t ht => by
        have hall : (Tryd.f3.params.toList.all fun u => !Tryd.prog.wantsStandIn u) = true := by kernel_rfl
        exact (show Tryd.prog.wantsStandIn t = false by simpa using List.all_eq_true.1 hall t (Array.mem_def.1 (Array.mem_of_getElem? ht)))⟩)
    (by kernel_rfl)
end Go.Proofs.YtmohlhnifkmcbaaDoor.Law
