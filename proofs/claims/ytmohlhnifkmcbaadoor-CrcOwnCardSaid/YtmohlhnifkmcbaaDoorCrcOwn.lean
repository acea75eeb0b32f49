/- A text with its own sum behind it has one sum, whatever the text; three texts are joined in either order; no condition. -/
import Derived.Test.YtmohlhnifkmcbaaDoorCards
import Derived.Test.YtmohlhnifkmcbaaDoorTie
import Derived.Test.YtmohlhnifkmcbaaDoorDoor
import Derived.Test.YtmohlhnifkmcbaaDoorCrcWakes
import Derived.ChangeMaps5
import Derived.Laws.BytesArg
namespace Go.Proofs.YtmohlhnifkmcbaaDoor.Law
open Go.ChangeShapes Go.WideShapes Go.ChangeAt Go.RowKit Crc

/-- The numbers of a sum's four bytes, the lowest first. -/
def nums (n : Nat) : List Int := [(n : Int) % 256, (n : Int) / 256 % 256, (n : Int) / 65536 % 256, (n : Int) / 16777216 % 256]
theorem bs_nums (n : Nat) : bs (strOfNums (nums n)) = four n := by
  unfold bs nums four
  rw [strOfNums_data]
  have e : ∀ m : Nat, (UInt8.ofNat ((m : Int) % 256).toNat).toNat = m % 256 := fun m => by
    rw [UInt8.toNat_ofNat']
    omega
  simp only [List.map_cons, List.map_nil]
  rw [show (n : Int) / 256 = ((n / 256 : Nat) : Int) by omega, show (n : Int) / 65536 = ((n / 65536 : Nat) : Int) by omega, show (n : Int) / 16777216 = ((n / 16777216 : Nat) : Int) by omega, e, e, e, e]
theorem sum_behind (s : ByteArray) : sum (bs (s ++ strOfNums (nums (sum (bs s))))) = 558161692 := by
  rw [bs_append, bs_nums, sum_own (bs_lt s)]
theorem joinV_two (s t u : ByteArray) : joinV (sum (bs s)) (sum (bs (t ++ u))) ((t.size : Int) + u.size) = sum (bs (s ++ (t ++ u))) := by
  have := joinV_sum s (t ++ u)
  rw [ByteArray.size_append] at this
  rw [← this]
  norm_cast
theorem joinV_zero (a : Nat) : joinV a 0 0 = a := by
  unfold joinV
  rw [if_neg (by decide)]
  exact join_none a
theorem convert_four (W : World) (a b c d : Int) : (convert 29 9 (.slice (some ⟨W.heap.size, 0, none⟩) 4 4)).run Tryd.prog (W.alloc (.cells #[.int .u8 a, .int .u8 b, .int .u8 c, .int .u8 d] 5)) = .ok (.string (strOfNums [a, b, c, d])) (W.alloc (.cells #[.int .u8 a, .int .u8 b, .int .u8 c, .int .u8 d] 5)) :=
  run_convert_bytes_arg _ 29 5 Tryd.underlying29 Tryd.underlying5 W.heap.size 0 4 4 [a, b, c, d] rfl (fun i hi => by
    rw [Nat.zero_add, World.cell?_alloc_new]
    match i, hi with
    | 0, _ => rfl
    | 1, _ => rfl
    | 2, _ => rfl
    | 3, _ => rfl) _ Tryd.underlying9
theorem crcOwn_long (s t u : ByteArray) (w : World) (LD : Hid (Laid w)) (hs : 20000 < s.size) :
    Calls Tryd.prog 6 #[.string s, .string t, .string u] w fun e w' => e = .returned (.bool true) ∧ Below w.heap.size w w' := by
  have t0 : decide ((20000 : Int) < (s.size : Int)) = true := decide_eq_true (by omega)
  have BB := Lib.hid (Below.refl w.heap.size w)
  go_enter Tryd.func6, Tryd.ntmps6
  go_wp2_with fail
  refine (wakes_crc _ (LD.out.of BB.out)).mono ?_
  rintro e wk ⟨rfl, hb⟩
  have BB := Lib.hid (below_via BB.out hb)
  clear hb
  go_wp2_with fail
  go_ret
  exact ⟨rfl, BB.out⟩
theorem crcOwn_long2 (s t u : ByteArray) (w : World) (LD : Hid (Laid w)) (hs : ¬ 20000 < s.size) (ht : 20000 < t.size) :
    Calls Tryd.prog 6 #[.string s, .string t, .string u] w fun e w' => e = .returned (.bool true) ∧ Below w.heap.size w w' := by
  have t0 : decide ((20000 : Int) < (s.size : Int)) = false := decide_eq_false (by omega)
  have t1 : decide ((20000 : Int) < (t.size : Int)) = true := decide_eq_true (by omega)
  have BB := Lib.hid (Below.refl w.heap.size w)
  go_enter Tryd.func6, Tryd.ntmps6
  go_wp2_with fail
  refine (wakes_crc _ (LD.out.of BB.out)).mono ?_
  rintro e wk ⟨rfl, hb⟩
  have BB := Lib.hid (below_via BB.out hb)
  clear hb
  go_wp2_with fail
  go_ret
  exact ⟨rfl, BB.out⟩
theorem crcOwn_long3 (s t u : ByteArray) (w : World) (LD : Hid (Laid w)) (hs : ¬ 20000 < s.size) (ht : ¬ 20000 < t.size) (hu : 20000 < u.size) :
    Calls Tryd.prog 6 #[.string s, .string t, .string u] w fun e w' => e = .returned (.bool true) ∧ Below w.heap.size w w' := by
  have t0 : decide ((20000 : Int) < (s.size : Int)) = false := decide_eq_false (by omega)
  have t1 : decide ((20000 : Int) < (t.size : Int)) = false := decide_eq_false (by omega)
  have t2 : decide ((20000 : Int) < (u.size : Int)) = true := decide_eq_true (by omega)
  have BB := Lib.hid (Below.refl w.heap.size w)
  go_enter Tryd.func6, Tryd.ntmps6
  go_wp2_with fail
  refine (wakes_crc _ (LD.out.of BB.out)).mono ?_
  rintro e wk ⟨rfl, hb⟩
  have BB := Lib.hid (below_via BB.out hb)
  clear hb
  go_wp2_with fail
  go_ret
  exact ⟨rfl, BB.out⟩
set_option maxHeartbeats 1000000 in
theorem crcOwn_short (s t u : ByteArray) (w : World) (LD : Hid (Laid w)) (hs : s.size ≤ 20000) (ht : t.size ≤ 20000) (hu : u.size ≤ 20000) :
    Calls Tryd.prog 6 #[.string s, .string t, .string u] w fun e w' => e = .returned (.bool true) ∧ Below w.heap.size w w' := by
  have t0 : decide ((20000 : Int) < (s.size : Int)) = false := decide_eq_false (by omega)
  have t1 : decide ((20000 : Int) < (t.size : Int)) = false := decide_eq_false (by omega)
  have t2 : decide ((20000 : Int) < (u.size : Int)) = false := decide_eq_false (by omega)
  have HS := Lib.hid hs
  have HT := Lib.hid ht
  have HU := Lib.hid hu
  have E1 := Lib.hid (joinV_sum s t)
  have E2 := Lib.hid ((joinV_sum (s ++ t) u).trans (by rw [ByteArray.append_assoc]))
  have E3 := Lib.hid (joinV_sum t u)
  have E4 := Lib.hid (joinV_two s t u)
  have E5 := Lib.hid (sum_behind s)
  have E6 := Lib.hid (joinV_zero (sum (bs s)))
  have z5 : ∀ a b c d : Int, ¬ (9223372036854775807 < s.size + (strOfNums [a, b, c, d]).size) := fun a b c d => by rw [strOfNums_size]; simp; omega
  have cv := fun W a b c d => convert_four W a b c d
  have r1 : wrap64 ((t.size : Int) + u.size) = t.size + u.size := by unfold wrap64; omega
  have BB := Lib.hid (Below.refl w.heap.size w)
  go_enter Tryd.func6, Tryd.ntmps6
  go_wp2_with fail
  have hcc := c_sum s w (by have := HS.out; omega)
  refine hcc.mono ?_
  clear hcc
  rintro e x1 ⟨rfl, hb⟩
  have BB := Lib.hid (below_via BB.out hb)
  clear hb
  go_wp2_with fail
  have BB := Lib.hid (below_new BB.out (.cells #[.int .u8 ((sum (bs s) : Int) % 256), .int .u8 ((sum (bs s) : Int) / 256 % 256), .int .u8 ((sum (bs s) : Int) / 65536 % 256), .int .u8 ((sum (bs s) : Int) / 16777216 % 256)] 5))
  have hcc := c_sum s (x1.alloc (.cells #[.int .u8 ((sum (bs s) : Int) % 256), .int .u8 ((sum (bs s) : Int) / 256 % 256), .int .u8 ((sum (bs s) : Int) / 65536 % 256), .int .u8 ((sum (bs s) : Int) / 16777216 % 256)] 5)) (by have := HS.out; omega)
  refine hcc.mono ?_
  clear hcc
  rintro e x2 ⟨rfl, hb⟩
  have BB := Lib.hid (below_via BB.out hb)
  clear hb
  go_wp2_with fail
  have hcc := c_sum t x2 (by have := HT.out; omega)
  refine hcc.mono ?_
  clear hcc
  rintro e x3 ⟨rfl, hb⟩
  have BB := Lib.hid (below_via BB.out hb)
  clear hb
  go_wp2_with fail
  have hcc := c_join (sum (bs s)) (sum (bs t)) t.size x3 (sum_lt (bs_lt _)) (sum_lt (bs_lt _)) (by have := HT.out; omega) (LD.out.of BB.out)
  refine hcc.mono ?_
  clear hcc
  rintro e x4 ⟨rfl, hb⟩
  have BB := Lib.hid (below_via BB.out hb)
  clear hb
  rw [E1.out]
  go_wp2_with fail
  have hcc := c_sum u x4 (by have := HU.out; omega)
  refine hcc.mono ?_
  clear hcc
  rintro e x5 ⟨rfl, hb⟩
  have BB := Lib.hid (below_via BB.out hb)
  clear hb
  go_wp2_with fail
  have hcc := c_join (sum (bs (s ++ t))) (sum (bs u)) u.size x5 (sum_lt (bs_lt _)) (sum_lt (bs_lt _)) (by have := HU.out; omega) (LD.out.of BB.out)
  refine hcc.mono ?_
  clear hcc
  rintro e x6 ⟨rfl, hb⟩
  have BB := Lib.hid (below_via BB.out hb)
  clear hb
  rw [E2.out]
  go_wp2_with fail
  have hcc := c_sum s x6 (by have := HS.out; omega)
  refine hcc.mono ?_
  clear hcc
  rintro e x7 ⟨rfl, hb⟩
  have BB := Lib.hid (below_via BB.out hb)
  clear hb
  go_wp2_with fail
  have hcc := c_sum t x7 (by have := HT.out; omega)
  refine hcc.mono ?_
  clear hcc
  rintro e x8 ⟨rfl, hb⟩
  have BB := Lib.hid (below_via BB.out hb)
  clear hb
  go_wp2_with fail
  have hcc := c_sum u x8 (by have := HU.out; omega)
  refine hcc.mono ?_
  clear hcc
  rintro e x9 ⟨rfl, hb⟩
  have BB := Lib.hid (below_via BB.out hb)
  clear hb
  go_wp2_with fail
  have hcc := c_join (sum (bs t)) (sum (bs u)) u.size x9 (sum_lt (bs_lt _)) (sum_lt (bs_lt _)) (by have := HU.out; omega) (LD.out.of BB.out)
  refine hcc.mono ?_
  clear hcc
  rintro e x10 ⟨rfl, hb⟩
  have BB := Lib.hid (below_via BB.out hb)
  clear hb
  rw [E3.out]
  go_wp2_with fail
  have hcc := c_join (sum (bs s)) (sum (bs (t ++ u))) ((t.size : Int) + u.size) x10 (sum_lt (bs_lt _)) (sum_lt (bs_lt _)) (by have := HT.out; have := HU.out; omega) (LD.out.of BB.out)
  refine hcc.mono ?_
  clear hcc
  rintro e x11 ⟨rfl, hb⟩
  have BB := Lib.hid (below_via BB.out hb)
  clear hb
  rw [E4.out]
  go_wp2_with fail
  have hcc := c_sum (s ++ strOfNums (nums (sum (bs s)))) x11 (by rw [ByteArray.size_append, strOfNums_size]; have := HS.out; simp [nums]; omega)
  refine hcc.mono ?_
  clear hcc
  rintro e x12 ⟨rfl, hb⟩
  have BB := Lib.hid (below_via BB.out hb)
  clear hb
  rw [E5.out]
  go_wp2_with fail
  have hcc := c_join (sum (bs s)) 0 0 x12 (sum_lt (bs_lt _)) (by decide) (by decide) (LD.out.of BB.out)
  refine hcc.mono ?_
  clear hcc
  rintro e x13 ⟨rfl, hb⟩
  have BB := Lib.hid (below_via BB.out hb)
  clear hb
  rw [E6.out]
  go_wp2_with fail
  refine (wakes_crc _ (LD.out.of BB.out)).mono ?_
  rintro e wk ⟨rfl, hb⟩
  have BB := Lib.hid (below_via BB.out hb)
  clear hb
  go_wp2_with fail
  go_ret
  exact ⟨rfl, BB.out⟩
theorem crcOwn_walk (s t u : ByteArray) (w : World) (LD : Hid (Laid w)) :
    Calls Tryd.prog 6 #[.string s, .string t, .string u] w fun e w' => e = .returned (.bool true) ∧ Below w.heap.size w w' := by
  by_cases h : 20000 < s.size
  · exact crcOwn_long s t u w LD h
  · by_cases h2 : 20000 < t.size
    · exact crcOwn_long2 s t u w LD h h2
    · by_cases h3 : 20000 < u.size
      · exact crcOwn_long3 s t u w LD h h2 h3
      · exact crcOwn_short s t u w LD (by omega) (by omega) (by omega)

set_option maxRecDepth 100000 in
theorem crcOwn_lifted (os : Os) (started : os.Started) (H : Type) (enc : TypeId × Value → H) :
    ReturnsInHanded {} Tryd.checked os 6 .any (fun w args => (Rows.crcOwnSpec.pre enc Tryd.prog Tryd.f6 Rows.crcOwnRow.domain false w args ∧ laidMetH Tryd.prog Rows.crcOwnRow.laid w) ∧ sizedMet enc Tryd.prog Tryd.f6 (OpenSpec.ofChange Rows.crcOwnSpec) false w args) (Rows.crcOwnSpec.post enc Tryd.prog Tryd.f6 false true false false) := by
  refine Door.law_lifted (C := Tryd.checked) (tb := 4) (by kernel_rfl) started (by kernel_rfl) Tryd.func6
    (ChangeSpec.witness_shaped (enc := enc) (C := Tryd.checked) (os := os) (X := fun w _ => laidMetH Tryd.prog Rows.crcOwnRow.laid w) false (World.laidAll Tryd.prog os Rows.crcOwnRow.laid) #[.string ⟨#[]⟩, .string ⟨#[]⟩, .string ⟨#[]⟩] 8 (World.laidAll_os _ _ _)
      (World.shaped_of_ZipB (by kernel_rfl) (by kernel_rfl)) (by kernel_rfl) (by kernel_rfl) (by kernel_rfl)
      (by rw [MakeChecks.laidMetH_plain _ _ _ (by kernel_rfl)]; exact laidMet_laidAll _ (by kernel_rfl) (by kernel_rfl)))
    (by kernel_rfl) (by kernel_rfl) rfl rfl Tryd.underlying4 ?_
  intro W base args ds p hval0 hA0 hL
  have hval : ∀ (j : Nat) t v, Tryd.f6.params[j]? = some t → args[j]? = some v → Value.okWide Tryd.prog W .any base t v := hval0
  have hA : DataW.TrodAll enc Tryd.prog W 0 (fun _ => true) true Tryd.f6.params.toList args.toList ds p := hA0
  clear hval0 hA0
  rw [MakeChecks.laidMetH_plain _ _ _ (by kernel_rfl)] at hL
  rw [Tryd.params6] at hA hval
  obtain ⟨v0, vs0, d0, ds0, p0, q0, hargs, rfl, rfl, h0, r0⟩ := trodAll_cons hA
  obtain ⟨v1, vs1, d1, ds1, p1, q1, rfl, rfl, rfl, h1, r1⟩ := trodAll_cons r0
  obtain ⟨v2, vs2, d2, ds2, p2, q2, rfl, rfl, rfl, h2, r2⟩ := trodAll_cons r1
  obtain ⟨rfl, rfl, rfl⟩ := trodAll_nil r2
  obtain rfl : args = #[v0, v1, v2] := by cases args; simp_all
  refine ⟨rfl, ?_⟩
  obtain ⟨s, rfl, -, -, hs⟩ := ChangeMaps.open_string Tryd.underlying9 (hval 0 9 v0 rfl rfl) h0
  obtain ⟨t, rfl, -, -, ht⟩ := ChangeMaps.open_string Tryd.underlying9 (hval 1 9 v1 rfl rfl) h1
  obtain ⟨u, rfl, -, -, hu⟩ := ChangeMaps.open_string Tryd.underlying9 (hval 2 9 v2 rfl rfl) h2
  have LD := Lib.hid (laid_of hL (by exact List.mem_cons_self ..))
  exact crcOwn_walk s t u W LD

theorem crcOwn_over : Rows.crcOwnRow.holds Tryd.pinned (OpenSpec.ofChange Rows.crcOwnSpec) :=
  OpenClaim.holds_of_wide 6 Tryd.f6 rfl rfl rfl rfl rfl rfl rfl ⟨rfl, rfl, rfl, rfl, rfl⟩ rfl rfl rfl rfl rfl (by kernel_rfl) Tryd.func6 (by kernel_rfl)
    (of_decide_eq_true (by kernel_rfl)) (by unfold Func.isWrapper; first | (rw [if_pos (by decide +kernel)]; kernel_rfl) | (rw [if_neg (by decide +kernel)]; exact ⟨rfl, rfl⟩))
    (fun os st H enc _ => crcOwn_lifted os st H enc)

/-- The statement: the card. -/
theorem crcOwn_proved : Rows.CrcOwnCardSaid :=
  Claim7.holds_tied_plain_at .later [] [.data] true Rows.crcOwnCard.stood.harness false
    crcOwn_over (fun _ h => by cases h) (by kernel_rfl) (fun _ h => by cases h) crcOwn_row_tie rfl ⟨rfl, rfl⟩ (by kernel_rfl) rfl
    (fun f fn hf hfn => by
      obtain rfl : f = 6 := Option.some.inj ((show Tryd.prog.funcNamed "annuity/annuitylaw07.CrcOwn" = some 6 by kernel_rfl).symm.trans hf) |>.symm
      obtain rfl : fn = Tryd.f6 := (Option.some.inj (Tryd.func6.symm.trans hfn)).symm
      exact ⟨by kernel_rfl, fun j t ht => by
        have hall : (Tryd.f6.params.toList.all fun u => !Tryd.prog.wantsStandIn u) = true := by kernel_rfl
        exact (show Tryd.prog.wantsStandIn t = false by simpa using List.all_eq_true.1 hall t (Array.mem_def.1 (Array.mem_of_getElem? ht)))⟩)
    (by kernel_rfl)
end Go.Proofs.YtmohlhnifkmcbaaDoor.Law
