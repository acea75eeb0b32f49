/- The sum of two texts is what Join tells of theirs, and Again of the first one's; of a length below 0 Join tells 0; no condition. -/
import Derived.Test.YtmohlhnifkmcbaaDoorCards
import Derived.Test.YtmohlhnifkmcbaaDoorTie
import Derived.Test.YtmohlhnifkmcbaaDoorDoor
import Derived.Test.YtmohlhnifkmcbaaDoorCrcWakes
import Derived.ChangeMaps5
namespace Go.Proofs.YtmohlhnifkmcbaaDoor.Law
open Go.ChangeShapes Go.WideShapes Go.ChangeAt Go.RowKit Crc

theorem crcJoins_long (s t : ByteArray) (k : Int) (w : World) (LD : Hid (Laid w)) (hs : 20000 < s.size) :
    Calls Tryd.prog 4 #[.string s, .string t, .int .i64 k] w fun e w' => e = .returned (.bool true) ∧ Below w.heap.size w w' := by
  have t0 : decide ((20000 : Int) < (s.size : Int)) = true := decide_eq_true (by omega)
  have BB := Lib.hid (Below.refl w.heap.size w)
  go_enter Tryd.func4, Tryd.ntmps4
  go_wp2_with fail
  refine (wakes_crc _ (LD.out.of BB.out)).mono ?_
  rintro e wk ⟨rfl, hb⟩
  have BB := Lib.hid (below_via BB.out hb)
  clear hb
  go_wp2_with fail
  go_ret
  exact ⟨rfl, BB.out⟩
theorem crcJoins_long2 (s t : ByteArray) (k : Int) (w : World) (LD : Hid (Laid w)) (hs : ¬ 20000 < s.size) (ht : 20000 < t.size) :
    Calls Tryd.prog 4 #[.string s, .string t, .int .i64 k] w fun e w' => e = .returned (.bool true) ∧ Below w.heap.size w w' := by
  have t0 : decide ((20000 : Int) < (s.size : Int)) = false := decide_eq_false (by omega)
  have t1 : decide ((20000 : Int) < (t.size : Int)) = true := decide_eq_true (by omega)
  have BB := Lib.hid (Below.refl w.heap.size w)
  go_enter Tryd.func4, Tryd.ntmps4
  go_wp2_with fail
  refine (wakes_crc _ (LD.out.of BB.out)).mono ?_
  rintro e wk ⟨rfl, hb⟩
  have BB := Lib.hid (below_via BB.out hb)
  clear hb
  go_wp2_with fail
  go_ret
  exact ⟨rfl, BB.out⟩
set_option maxHeartbeats 1000000 in
theorem crcJoins_up (s t : ByteArray) (k : Int) (w : World) (LD : Hid (Laid w)) (hs : s.size ≤ 20000) (ht : t.size ≤ 20000) (hk : 0 < k) (hk2 : k ≤ 9223372036854775807) :
    Calls Tryd.prog 4 #[.string s, .string t, .int .i64 k] w fun e w' => e = .returned (.bool true) ∧ Below w.heap.size w w' := by
  have t0 : decide ((20000 : Int) < (s.size : Int)) = false := decide_eq_false (by omega)
  have t1 : decide ((20000 : Int) < (t.size : Int)) = false := decide_eq_false (by omega)
  have HS := Lib.hid hs
  have HT := Lib.hid ht
  have EJ := Lib.hid (joinV_sum s t)
  have EA := Lib.hid (again_both s t)
  have HK := Lib.hid (And.intro hk hk2)
  have E0 := Lib.hid (joinV_none (sum (bs s)) (sum (bs t)) (n := -k) (by omega))
  have k1 : wrap64 (-k) = -k := by unfold wrap64; omega
  have k2 : (-k == 0) = false := by rw [beq_eq_false_iff_ne]; omega
  have k3 : ¬ k = 0 := by omega
  have BB := Lib.hid (Below.refl w.heap.size w)
  go_enter Tryd.func4, Tryd.ntmps4
  go_wp2_with fail
  have hcc := c_sum s w (by have := HS.out; omega)
  refine hcc.mono ?_
  clear hcc
  rintro e x1 ⟨rfl, hb⟩
  have BB := Lib.hid (below_via BB.out hb)
  clear hb
  go_wp2_with fail
  have hcc := c_sum t x1 (by have := HT.out; omega)
  refine hcc.mono ?_
  clear hcc
  rintro e x2 ⟨rfl, hb⟩
  have BB := Lib.hid (below_via BB.out hb)
  clear hb
  go_wp2_with fail
  have hcc := c_join (sum (bs s)) (sum (bs t)) t.size x2 (sum_lt (bs_lt s)) (sum_lt (bs_lt t)) (by have := HT.out; omega) (LD.out.of BB.out)
  refine hcc.mono ?_
  clear hcc
  rintro e x3 ⟨rfl, hb⟩
  have BB := Lib.hid (below_via BB.out hb)
  clear hb
  rw [EJ.out]
  go_wp2_with fail
  have hcc := r_sum (s ++ t) x3 (by rw [ByteArray.size_append]; have := HS.out; have := HT.out; omega)
  refine hcc.mono ?_
  clear hcc
  rintro e y4 ⟨rfl, rfl⟩
  go_wp2_with fail
  have hcc := c_sum s x3 (by have := HS.out; omega)
  refine hcc.mono ?_
  clear hcc
  rintro e x5 ⟨rfl, hb⟩
  have BB := Lib.hid (below_via BB.out hb)
  clear hb
  go_wp2_with fail
  have hcc := c_again (sum (bs s)) t x5 (sum_lt (bs_lt s)) (by have := HT.out; omega)
  refine hcc.mono ?_
  clear hcc
  rintro e x6 ⟨rfl, hb⟩
  have BB := Lib.hid (below_via BB.out hb)
  clear hb
  rw [EA.out]
  go_wp2_with fail
  have hcc := r_sum (s ++ t) x6 (by rw [ByteArray.size_append]; have := HS.out; have := HT.out; omega)
  refine hcc.mono ?_
  clear hcc
  rintro e y7 ⟨rfl, rfl⟩
  go_wp2_with fail
  have hcc := c_sum s x6 (by have := HS.out; omega)
  refine hcc.mono ?_
  clear hcc
  rintro e x8 ⟨rfl, hb⟩
  have BB := Lib.hid (below_via BB.out hb)
  clear hb
  go_wp2_with fail
  have hcc := c_sum t x8 (by have := HT.out; omega)
  refine hcc.mono ?_
  clear hcc
  rintro e x9 ⟨rfl, hb⟩
  have BB := Lib.hid (below_via BB.out hb)
  clear hb
  go_wp2_with fail
  have hcc := c_join (sum (bs s)) (sum (bs t)) (-k) x9 (sum_lt (bs_lt s)) (sum_lt (bs_lt t)) (by have := HK.out; omega) (LD.out.of BB.out)
  refine hcc.mono ?_
  clear hcc
  rintro e x10 ⟨rfl, hb⟩
  have BB := Lib.hid (below_via BB.out hb)
  clear hb
  rw [E0.out]
  go_wp2_with fail
  refine (wakes_crc _ (LD.out.of BB.out)).mono ?_
  rintro e wk ⟨rfl, hb⟩
  have BB := Lib.hid (below_via BB.out hb)
  clear hb
  go_wp2_with fail
  go_ret
  exact ⟨rfl, BB.out⟩
set_option maxHeartbeats 1000000 in
theorem crcJoins_down (s t : ByteArray) (k : Int) (w : World) (LD : Hid (Laid w)) (hs : s.size ≤ 20000) (ht : t.size ≤ 20000) (hk : k < 0) (hk2 : -9223372036854775808 ≤ k) :
    Calls Tryd.prog 4 #[.string s, .string t, .int .i64 k] w fun e w' => e = .returned (.bool true) ∧ Below w.heap.size w w' := by
  have t0 : decide ((20000 : Int) < (s.size : Int)) = false := decide_eq_false (by omega)
  have t1 : decide ((20000 : Int) < (t.size : Int)) = false := decide_eq_false (by omega)
  have HS := Lib.hid hs
  have HT := Lib.hid ht
  have EJ := Lib.hid (joinV_sum s t)
  have EA := Lib.hid (again_both s t)
  have HK := Lib.hid (And.intro hk hk2)
  have E0 := Lib.hid (joinV_none (sum (bs s)) (sum (bs t)) (n := k) (by omega))
  have k1 : decide (0 < k) = false := decide_eq_false (by omega)
  have k2 : (k == 0) = false := by rw [beq_eq_false_iff_ne]; omega
  have k3 : ¬ k = 0 := by omega
  have BB := Lib.hid (Below.refl w.heap.size w)
  go_enter Tryd.func4, Tryd.ntmps4
  go_wp2_with fail
  have hcc := c_sum s w (by have := HS.out; omega)
  refine hcc.mono ?_
  clear hcc
  rintro e x1 ⟨rfl, hb⟩
  have BB := Lib.hid (below_via BB.out hb)
  clear hb
  go_wp2_with fail
  have hcc := c_sum t x1 (by have := HT.out; omega)
  refine hcc.mono ?_
  clear hcc
  rintro e x2 ⟨rfl, hb⟩
  have BB := Lib.hid (below_via BB.out hb)
  clear hb
  go_wp2_with fail
  have hcc := c_join (sum (bs s)) (sum (bs t)) t.size x2 (sum_lt (bs_lt s)) (sum_lt (bs_lt t)) (by have := HT.out; omega) (LD.out.of BB.out)
  refine hcc.mono ?_
  clear hcc
  rintro e x3 ⟨rfl, hb⟩
  have BB := Lib.hid (below_via BB.out hb)
  clear hb
  rw [EJ.out]
  go_wp2_with fail
  have hcc := r_sum (s ++ t) x3 (by rw [ByteArray.size_append]; have := HS.out; have := HT.out; omega)
  refine hcc.mono ?_
  clear hcc
  rintro e y4 ⟨rfl, rfl⟩
  go_wp2_with fail
  have hcc := c_sum s x3 (by have := HS.out; omega)
  refine hcc.mono ?_
  clear hcc
  rintro e x5 ⟨rfl, hb⟩
  have BB := Lib.hid (below_via BB.out hb)
  clear hb
  go_wp2_with fail
  have hcc := c_again (sum (bs s)) t x5 (sum_lt (bs_lt s)) (by have := HT.out; omega)
  refine hcc.mono ?_
  clear hcc
  rintro e x6 ⟨rfl, hb⟩
  have BB := Lib.hid (below_via BB.out hb)
  clear hb
  rw [EA.out]
  go_wp2_with fail
  have hcc := r_sum (s ++ t) x6 (by rw [ByteArray.size_append]; have := HS.out; have := HT.out; omega)
  refine hcc.mono ?_
  clear hcc
  rintro e y7 ⟨rfl, rfl⟩
  go_wp2_with fail
  have hcc := c_sum s x6 (by have := HS.out; omega)
  refine hcc.mono ?_
  clear hcc
  rintro e x8 ⟨rfl, hb⟩
  have BB := Lib.hid (below_via BB.out hb)
  clear hb
  go_wp2_with fail
  have hcc := c_sum t x8 (by have := HT.out; omega)
  refine hcc.mono ?_
  clear hcc
  rintro e x9 ⟨rfl, hb⟩
  have BB := Lib.hid (below_via BB.out hb)
  clear hb
  go_wp2_with fail
  have hcc := c_join (sum (bs s)) (sum (bs t)) k x9 (sum_lt (bs_lt s)) (sum_lt (bs_lt t)) (by have := HK.out; omega) (LD.out.of BB.out)
  refine hcc.mono ?_
  clear hcc
  rintro e x10 ⟨rfl, hb⟩
  have BB := Lib.hid (below_via BB.out hb)
  clear hb
  rw [E0.out]
  go_wp2_with fail
  refine (wakes_crc _ (LD.out.of BB.out)).mono ?_
  rintro e wk ⟨rfl, hb⟩
  have BB := Lib.hid (below_via BB.out hb)
  clear hb
  go_wp2_with fail
  go_ret
  exact ⟨rfl, BB.out⟩
set_option maxHeartbeats 1000000 in
theorem crcJoins_none (s t : ByteArray) (k : Int) (w : World) (LD : Hid (Laid w)) (hs : s.size ≤ 20000) (ht : t.size ≤ 20000) (hk : k = 0) :
    Calls Tryd.prog 4 #[.string s, .string t, .int .i64 k] w fun e w' => e = .returned (.bool true) ∧ Below w.heap.size w w' := by
  have t0 : decide ((20000 : Int) < (s.size : Int)) = false := decide_eq_false (by omega)
  have t1 : decide ((20000 : Int) < (t.size : Int)) = false := decide_eq_false (by omega)
  have HS := Lib.hid hs
  have HT := Lib.hid ht
  have EJ := Lib.hid (joinV_sum s t)
  have EA := Lib.hid (again_both s t)
  subst hk
  have BB := Lib.hid (Below.refl w.heap.size w)
  go_enter Tryd.func4, Tryd.ntmps4
  go_wp2_with fail
  have hcc := c_sum s w (by have := HS.out; omega)
  refine hcc.mono ?_
  clear hcc
  rintro e x1 ⟨rfl, hb⟩
  have BB := Lib.hid (below_via BB.out hb)
  clear hb
  go_wp2_with fail
  have hcc := c_sum t x1 (by have := HT.out; omega)
  refine hcc.mono ?_
  clear hcc
  rintro e x2 ⟨rfl, hb⟩
  have BB := Lib.hid (below_via BB.out hb)
  clear hb
  go_wp2_with fail
  have hcc := c_join (sum (bs s)) (sum (bs t)) t.size x2 (sum_lt (bs_lt s)) (sum_lt (bs_lt t)) (by have := HT.out; omega) (LD.out.of BB.out)
  refine hcc.mono ?_
  clear hcc
  rintro e x3 ⟨rfl, hb⟩
  have BB := Lib.hid (below_via BB.out hb)
  clear hb
  rw [EJ.out]
  go_wp2_with fail
  have hcc := r_sum (s ++ t) x3 (by rw [ByteArray.size_append]; have := HS.out; have := HT.out; omega)
  refine hcc.mono ?_
  clear hcc
  rintro e y4 ⟨rfl, rfl⟩
  go_wp2_with fail
  have hcc := c_sum s x3 (by have := HS.out; omega)
  refine hcc.mono ?_
  clear hcc
  rintro e x5 ⟨rfl, hb⟩
  have BB := Lib.hid (below_via BB.out hb)
  clear hb
  go_wp2_with fail
  have hcc := c_again (sum (bs s)) t x5 (sum_lt (bs_lt s)) (by have := HT.out; omega)
  refine hcc.mono ?_
  clear hcc
  rintro e x6 ⟨rfl, hb⟩
  have BB := Lib.hid (below_via BB.out hb)
  clear hb
  rw [EA.out]
  go_wp2_with fail
  have hcc := r_sum (s ++ t) x6 (by rw [ByteArray.size_append]; have := HS.out; have := HT.out; omega)
  refine hcc.mono ?_
  clear hcc
  rintro e y7 ⟨rfl, rfl⟩
  go_wp2_with fail
  refine (wakes_crc _ (LD.out.of BB.out)).mono ?_
  rintro e wk ⟨rfl, hb⟩
  have BB := Lib.hid (below_via BB.out hb)
  clear hb
  go_wp2_with fail
  go_ret
  exact ⟨rfl, BB.out⟩
theorem crcJoins_walk (s t : ByteArray) (k : Int) (w : World) (LD : Hid (Laid w)) (hk : -9223372036854775808 ≤ k ∧ k ≤ 9223372036854775807) :
    Calls Tryd.prog 4 #[.string s, .string t, .int .i64 k] w fun e w' => e = .returned (.bool true) ∧ Below w.heap.size w w' := by
  by_cases h : 20000 < s.size
  · exact crcJoins_long s t k w LD h
  · by_cases h2 : 20000 < t.size
    · exact crcJoins_long2 s t k w LD h h2
    · by_cases h3 : 0 < k
      · exact crcJoins_up s t k w LD (by omega) (by omega) h3 hk.2
      · by_cases h4 : k < 0
        · exact crcJoins_down s t k w LD (by omega) (by omega) h4 hk.1
        · exact crcJoins_none s t k w LD (by omega) (by omega) (by omega)

set_option maxRecDepth 100000 in
theorem crcJoins_lifted (os : Os) (started : os.Started) (H : Type) (enc : TypeId × Value → H) :
    ReturnsInHanded {} Tryd.checked os 4 .any (fun w args => (Rows.crcJoinsSpec.pre enc Tryd.prog Tryd.f4 Rows.crcJoinsRow.domain false w args ∧ laidMetH Tryd.prog Rows.crcJoinsRow.laid w) ∧ sizedMet enc Tryd.prog Tryd.f4 (OpenSpec.ofChange Rows.crcJoinsSpec) false w args) (Rows.crcJoinsSpec.post enc Tryd.prog Tryd.f4 false true false false) := by
  refine Door.law_lifted (C := Tryd.checked) (tb := 4) (by kernel_rfl) started (by kernel_rfl) Tryd.func4
    (ChangeSpec.witness_shaped (enc := enc) (C := Tryd.checked) (os := os) (X := fun w _ => laidMetH Tryd.prog Rows.crcJoinsRow.laid w) false (World.laidAll Tryd.prog os Rows.crcJoinsRow.laid) #[.string ⟨#[]⟩, .string ⟨#[]⟩, .int .i64 0] 8 (World.laidAll_os _ _ _)
      (World.shaped_of_ZipB (by kernel_rfl) (by kernel_rfl)) (by kernel_rfl) (by kernel_rfl) (by kernel_rfl)
      (by rw [MakeChecks.laidMetH_plain _ _ _ (by kernel_rfl)]; exact laidMet_laidAll _ (by kernel_rfl) (by kernel_rfl)))
    (by kernel_rfl) (by kernel_rfl) rfl rfl Tryd.underlying4 ?_
  intro W base args ds p hval0 hA0 hL
  have hval : ∀ (j : Nat) t v, Tryd.f4.params[j]? = some t → args[j]? = some v → Value.okWide Tryd.prog W .any base t v := hval0
  have hA : DataW.TrodAll enc Tryd.prog W 0 (fun _ => true) true Tryd.f4.params.toList args.toList ds p := hA0
  clear hval0 hA0
  rw [MakeChecks.laidMetH_plain _ _ _ (by kernel_rfl)] at hL
  rw [Tryd.params4] at hA hval
  obtain ⟨v0, vs0, d0, ds0, p0, q0, hargs, rfl, rfl, h0, r0⟩ := trodAll_cons hA
  obtain ⟨v1, vs1, d1, ds1, p1, q1, rfl, rfl, rfl, h1, r1⟩ := trodAll_cons r0
  obtain ⟨v2, vs2, d2, ds2, p2, q2, rfl, rfl, rfl, h2, r2⟩ := trodAll_cons r1
  obtain ⟨rfl, rfl, rfl⟩ := trodAll_nil r2
  obtain rfl : args = #[v0, v1, v2] := by cases args; simp_all
  refine ⟨rfl, ?_⟩
  obtain ⟨s, rfl, -, -, hs⟩ := ChangeMaps.open_string Tryd.underlying9 (hval 0 9 v0 rfl rfl) h0
  obtain ⟨t, rfl, -, -, ht⟩ := ChangeMaps.open_string Tryd.underlying9 (hval 1 9 v1 rfl rfl) h1
  obtain ⟨k, rfl, -, -, wk⟩ := open_int Tryd.underlying3 (hval 2 3 v2 rfl rfl) h2
  have LD := Lib.hid (laid_of hL (by exact List.mem_cons_self ..))
  exact crcJoins_walk s t k W LD (i64_range wk)

theorem crcJoins_over : Rows.crcJoinsRow.holds Tryd.pinned (OpenSpec.ofChange Rows.crcJoinsSpec) :=
  OpenClaim.holds_of_wide 4 Tryd.f4 rfl rfl rfl rfl rfl rfl rfl ⟨rfl, rfl, rfl, rfl, rfl⟩ rfl rfl rfl rfl rfl (by kernel_rfl) Tryd.func4 (by kernel_rfl)
    (of_decide_eq_true (by kernel_rfl)) (by unfold Func.isWrapper; first | (rw [if_pos (by decide +kernel)]; kernel_rfl) | (rw [if_neg (by decide +kernel)]; exact ⟨rfl, rfl⟩))
    (fun os st H enc _ => crcJoins_lifted os st H enc)

/-- The statement: the card. -/
theorem crcJoins_proved : Rows.CrcJoinsCardSaid :=
  Claim7.holds_tied_plain_at .later [] [.data] true Rows.crcJoinsCard.stood.harness false
    crcJoins_over (fun _ h => by cases h) (by kernel_rfl) (fun _ h => by cases h) crcJoins_row_tie rfl ⟨rfl, rfl⟩ (by kernel_rfl) rfl
    (fun f fn hf hfn => by
      obtain rfl : f = 4 := Option.some.inj ((show Tryd.prog.funcNamed "annuity/annuitylaw07.CrcJoins" = some 4 by kernel_rfl).symm.trans hf) |>.symm
      obtain rfl : fn = Tryd.f4 := (Option.some.inj (Tryd.func4.symm.trans hfn)).symm
      exact ⟨by kernel_rfl, fun j t ht => by
        have hall : (Tryd.f4.params.toList.all fun u => !Tryd.prog.wantsStandIn u) = true := by kernel_rfl
        exact (show Tryd.prog.wantsStandIn t = false by simpa using List.all_eq_true.1 hall t (Array.mem_def.1 (Array.mem_of_getElem? ht)))⟩)
    (by kernel_rfl)
end Go.Proofs.YtmohlhnifkmcbaaDoor.Law
