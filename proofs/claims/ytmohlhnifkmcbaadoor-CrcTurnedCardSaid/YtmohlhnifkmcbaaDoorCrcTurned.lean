/- Two texts of one length that differ in some bits of one stretch of 32 have unlike sums; no condition. -/
import Derived.Test.YtmohlhnifkmcbaaDoorCards
import Derived.Test.YtmohlhnifkmcbaaDoorTie
import Derived.Test.YtmohlhnifkmcbaaDoorDoor
import Derived.Test.YtmohlhnifkmcbaaDoorCrcWakes
import Derived.ChangeMaps5
import Derived.Test.YtmohlhnifkmcbaaDoorByteRow
import Derived.Test.YtmohlhnifkmcbaaDoorModFixed
namespace Go.Proofs.YtmohlhnifkmcbaaDoor.Law
open Go.ChangeShapes Go.WideShapes Go.ChangeAt Go.RowKit Crc

/-- The bytes behind i rounds. -/
structure Turned (s : ByteArray) (first f i : Nat) (l : List Nat) : Prop where
  len : l.length = s.size
  lt : ∀ b ∈ l, b < 256
  tot : T l = T (bs s) ^^^ (2 ^ first * (f % 2 ^ i))
theorem turned_none (s : ByteArray) (first f : Nat) : Turned s first f 0 (bs s) := ⟨bs_length s, bs_lt s, by rw [Nat.pow_zero, Nat.mod_one, Nat.mul_zero, Nat.xor_zero]⟩
theorem turned_same_flag {f i : Nat} (h : ¬ f / 2 ^ i % 2 = 1) : Value.bool (!decide (f % 2 ^ i = 0)) = Value.bool (decide (f % 2 ^ (i + 1) ≠ 0)) := by
  have h2 := Nat.mod_lt (f / 2 ^ i) (show 0 < 2 by decide)
  rw [low_next, show f / 2 ^ i % 2 = 0 by omega, Nat.mul_zero, Nat.xor_zero]
  simp
theorem turned_same_flag' {f i : Nat} (h : ¬ f / 2 ^ i % 2 = 1) : Value.bool (decide (f % 2 ^ i ≠ 0)) = Value.bool (decide (f % 2 ^ (i + 1) ≠ 0)) := by
  have h2 := Nat.mod_lt (f / 2 ^ i) (show 0 < 2 by decide)
  rw [low_next, show f / 2 ^ i % 2 = 0 by omega, Nat.mul_zero, Nat.xor_zero]
theorem turned_flag {f i : Nat} (h : f / 2 ^ i % 2 = 1) : Value.bool true = Value.bool (decide (f % 2 ^ (i + 1) ≠ 0)) := by
  have e : f % 2 ^ (i + 1) ≠ 0 := by
    intro h0
    have := congrArg (fun x => x / 2 ^ i) h0
    have hd : f % 2 ^ (i + 1) / 2 ^ i = f / 2 ^ i % 2 := by rw [Nat.pow_succ, Nat.mod_mul_right_div_self]
    rw [h0, h] at hd
    simp at hd
  rw [decide_eq_true e]
section
variable {s : ByteArray} {first f i : Nat} {l : List Nat}
theorem turned_same (h : Turned s first f i l) (hb : ¬ f / 2 ^ i % 2 = 1) : Turned s first f (i + 1) l :=
  ⟨h.len, h.lt, by
    have h2 := Nat.mod_lt (f / 2 ^ i) (show 0 < 2 by decide)
    rw [low_next, show f / 2 ^ i % 2 = 0 by omega, Nat.mul_zero, Nat.xor_zero]
    exact h.tot⟩
theorem turned_set {r : Nat} (h : Turned s first f i l) (hq : (first + i) / 8 < l.length) (hb : f / 2 ^ i % 2 = 1) (hr : r = (first + i) % 8) : Turned s first f (i + 1) (l.set ((first + i) / 8) (l.getD ((first + i) / 8) 0 ^^^ 2 ^ r)) := by
  have hr8 : r < 8 := by omega
  refine ⟨by rw [List.length_set]; exact h.len, fun b hb => ?_, ?_⟩
  · rcases List.mem_or_eq_of_mem_set hb with hb | hb
    · exact h.lt b hb
    · rw [hb]
      refine Nat.xor_lt_two_pow (n := 8) ?_ (Nat.pow_lt_pow_right (by decide) hr8)
      refine h.lt _ ?_
      rw [List.getD_eq_getElem?_getD, List.getElem?_eq_getElem hq]
      exact List.getElem_mem _
  · rw [T_set l _ _ hq, h.tot, low_next, hb, Nat.mul_one, up_xor, Nat.xor_assoc]
    congr 2
    rw [show (256 : Nat) = 2 ^ 8 from rfl, ← Nat.pow_mul, ← Nat.pow_add, ← Nat.pow_add]
    congr 1
    omega
theorem turned_val {q r : Nat} (hl : ∀ b ∈ l, b < 256) (hq : q < l.length) (hr : r < 8 := by omega) : bits .xor .u8 (l[q] : Nat) (2 ^ r % 256) = ((l.getD q 0 ^^^ 2 ^ r : Nat) : Int) := by
  have h1 : (2 : Nat) ^ r < 256 := Nat.pow_lt_pow_right (a := 2) (n := 8) (by decide) hr
  have e : ((2 : Int) ^ r % 256) = ((2 ^ r : Nat) : Int) := by
    have : ((2 ^ r : Nat) : Int) = (2 : Int) ^ r := by norm_cast
    rw [← this]
    generalize 2 ^ r = m at *
    omega
  have h2 : l.getD q 0 = l[q] := by rw [List.getD_eq_getElem?_getD, List.getElem?_eq_getElem hq]; rfl
  rw [e, u8_xor_nat _ _ (hl _ (List.getElem_mem _)) h1, h2]
theorem turned_sum (h : Turned s first f i l) (hf : first ≤ 8 * s.size) (hff : f < 4294967296) : sum l = sum (bs s) ↔ f % 2 ^ i = 0 :=
  sum_turned (by rw [h.len, bs_length]) h.tot (by rw [bs_length]; exact hf) (Nat.lt_of_le_of_lt (Nat.mod_le _ _) hff)
end
theorem below_set {a b : World} {n : Nat} (h : Below n a b) {g : Nat} (hg : n ≤ g) (o : Nat) (v : Value) : Below n a (b.setCell ⟨g, o, none⟩ v) :=
  ⟨h.os, h.tape, h.output, by simpa [World.setCell] using h.size, fun i hi => (Below.heap_setCell b ⟨g, o, none⟩ v i (by intro e; subst e; exact absurd hi (Nat.not_lt.2 hg))).trans (h.block i hi)⟩
theorem crcTurned_long (s : ByteArray) (at_ : Int) (f : Nat) (w : World) (LD : Hid (Laid w)) (hs : 20000 < s.size) :
    Calls Tryd.prog 5 #[.string s, .int .i64 at_, .int .u32 f] w fun e w' => e = .returned (.bool true) ∧ Below w.heap.size w w' := by
  have t0 : decide ((20000 : Int) < (s.size : Int)) = true := decide_eq_true (by omega)
  have BB := Lib.hid (Below.refl w.heap.size w)
  go_enter Tryd.func5, Tryd.ntmps5
  go_wp2_with fail
  refine (wakes_crc _ (LD.out.of BB.out)).mono ?_
  rintro e wk ⟨rfl, hb⟩
  have BB := Lib.hid (below_via BB.out hb)
  clear hb
  go_wp2_with fail
  go_ret
  exact ⟨rfl, BB.out⟩
theorem crcTurned_none (s : ByteArray) (at_ : Int) (f : Nat) (w : World) (LD : Hid (Laid w)) (hs : s.size = 0) :
    Calls Tryd.prog 5 #[.string s, .int .i64 at_, .int .u32 f] w fun e w' => e = .returned (.bool true) ∧ Below w.heap.size w w' := by
  have t0 : decide ((20000 : Int) < (s.size : Int)) = false := decide_eq_false (by omega)
  have t1 : ((s.size : Int) == 0) = true := by rw [beq_iff_eq]; omega
  have BB := Lib.hid (Below.refl w.heap.size w)
  go_enter Tryd.func5, Tryd.ntmps5
  go_wp2_with fail
  refine (wakes_crc _ (LD.out.of BB.out)).mono ?_
  rintro e wk ⟨rfl, hb⟩
  have BB := Lib.hid (below_via BB.out hb)
  clear hb
  go_wp2_with fail
  go_ret
  exact ⟨rfl, BB.out⟩
set_option maxHeartbeats 1000000 in
theorem crcTurned_short (s : ByteArray) (at_ : Int) (f : Nat) (w : World) (LD : Hid (Laid w)) (hs : s.size ≤ 20000) (h0 : 0 < s.size) (hf : f < 4294967296) :
    Calls Tryd.prog 5 #[.string s, .int .i64 at_, .int .u32 f] w fun e w' => e = .returned (.bool true) ∧ Below w.heap.size w w' := by
  have t0 : decide ((20000 : Int) < (s.size : Int)) = false := decide_eq_false (by omega)
  have t1 : ((s.size : Int) == 0) = false := by rw [beq_eq_false_iff_ne]; omega
  have t2 : ¬ s.size = 0 := by omega
  have HS := Lib.hid hs
  have hbl := bs_length s
  obtain ⟨first, hfl, M⟩ := Mod.mod_fixed at_ (8 * s.size) (by omega) (by omega)
  have M := Lib.hid M
  have cv := Lib.run_convert_string_bytes (P := Tryd.prog) w 9 29 5 s (u := .string) Tryd.underlying9 Tryd.underlying29 Tryd.underlying5
  obtain ⟨wb, hwb⟩ : ∃ wb, wb = Lib.bytesWorld w 5 s := ⟨_, rfl⟩
  have RB := Lib.hid (show BRow wb w.heap.size 5 (bs s) by rw [hwb]; exact row_made w _ s)
  have BB := Lib.hid (show Below w.heap.size w wb by rw [hwb]; exact below_row w _ s)
  rw [← hwb] at cv
  have w1 : wrap64 (8 * (s.size : Int)) = 8 * s.size := by unfold wrap64; omega
  clear hwb
  go_enter Tryd.func5, Tryd.ntmps5
  go_wp2_with fail
  refine (M.out wb).mono ?_
  rintro e wb' ⟨rfl, rfl⟩
  go_wp2_with fail
  clear cv
  go_loopw [9, 10] (fun u t wr => ∃ (i : Nat) (l : List Nat), i ≤ 32 ∧ first + i ≤ 8 * s.size ∧ t = .int .i64 i ∧ u = .bool (decide (f % 2 ^ i ≠ 0)) ∧ Hid (Turned s first f i l) ∧ Hid (BRow wr w.heap.size 5 l) ∧ Hid (Below w.heap.size w wr)) (fun _ t _ => 32 - (intOf t).toNat)
  case atStart => exact ⟨0, bs s, by omega, by omega, rfl, by simp [Nat.mod_one], turned_none s first f, RB, BB⟩
  case round =>
    obtain ⟨i, l, hi, hfi, rfl, rfl, ht, hr, hb⟩ := hrel
    by_cases h32 : i < 32
    · have u0 : decide ((i : Int) < 32) = true := decide_eq_true (by omega)
      by_cases hlt : first + i < 8 * s.size
      · have u1 : decide ((first : Int) + i < 8 * s.size) = true := decide_eq_true (by omega)
        have i0 : (0 : Int) ≤ i := by omega
        have f0 : (0 : Int) ≤ first := by omega
        have r2 : wrap64 ((first : Int) + i) = first + i := by unfold wrap64; omega
        have hq : (first + i) / 8 < l.length := by rw [ht.out.len]; omega
        have c0 := hr.out.cell hq
        have fz := hr.out.frozen hq
        by_cases hbit : f / 2 ^ i % 2 = 1
        · have b1 := bit_set hf hbit
          go_wp2_with fail
          go_roundw
          case rel => exact ⟨i + 1, _, by omega, by omega, by go_num, turned_flag hbit, turned_set ht.out hq hbit rfl, (by have := hr.out.set (x := l.getD ((first + i) / 8) 0 ^^^ 2 ^ ((first + i) % 8)) hq; rw [← turned_val ht.out.lt hq] at this; exact this), below_set hb.out (Nat.le_refl _) _ _⟩
          case measure => simp [intOf]; omega
        · have b1 := bit_not hf hbit
          go_wp2_with fail
          go_roundw
          case rel => exact ⟨i + 1, l, by omega, by omega, by go_num, by first | exact turned_same_flag hbit | exact turned_same_flag' hbit, turned_same ht.out hbit, hr, hb⟩
          case measure => simp [intOf]; omega
      · have u1 : decide ((first : Int) + i < 8 * s.size) = false := decide_eq_false (by omega)
        have r2 : wrap64 ((first : Int) + i) = first + i := by unfold wrap64; omega
        have cvb := row_text hr.out ht.out.lt (P := Tryd.prog) 29 9 (grownCap w s.size 0 5) Tryd.underlying29 Tryd.underlying5 Tryd.underlying9
        rw [ht.out.len] at cvb
        have BB := hb
        have EB := Lib.hid (bs_strN ht.out.lt)
        have ZL := Lib.hid (show (strN l).size ≤ 20000 by rw [strN_size, ht.out.len]; exact HS.out)
        have EQ := turned_sum ht.out (by omega) hf
        have LB := Lib.hid (sum_lt ht.out.lt)
        by_cases hd : f % 2 ^ i = 0
        · have e0 := EQ.2 hd
          have e1 : ((sum l : Int) != (sum (bs s) : Int)) = false := by rw [e0]; exact bne_self_eq_false _
          have E1 := Lib.hid e1
          clear e0 e1 EQ
          go_wp2_with fail
          have hcc := c_sum (strN l) wr (Nat.le_trans ZL.out (by decide))
          refine hcc.mono ?_
          clear hcc
          rintro e x1 ⟨rfl, hb⟩
          have BB := Lib.hid (below_via BB.out hb)
          clear hb
          rw [EB.out]
          go_wp2_with fail
          have hcc := c_sum s x1 (Nat.le_trans HS.out (by decide))
          refine hcc.mono ?_
          clear hcc
          rintro e x2 ⟨rfl, hb⟩
          have BB := Lib.hid (below_via BB.out hb)
          clear hb
          have e1 := E1.out
          go_wp2_with fail
          refine (wakes_crc _ (LD.out.of BB.out)).mono ?_
          rintro e wk ⟨rfl, hb⟩
          have BB := Lib.hid (below_via BB.out hb)
          clear hb
          go_wp2_with fail
          go_ret
          exact ⟨rfl, BB.out⟩
        · have e0 := fun e => hd (EQ.1 e)
          have e1 : ((sum l : Int) != (sum (bs s) : Int)) = true := by rw [bne_iff_ne]; omega
          have E1 := Lib.hid e1
          clear e0 e1 EQ
          go_wp2_with fail
          have hcc := c_sum (strN l) wr (Nat.le_trans ZL.out (by decide))
          refine hcc.mono ?_
          clear hcc
          rintro e x1 ⟨rfl, hb⟩
          have BB := Lib.hid (below_via BB.out hb)
          clear hb
          rw [EB.out]
          go_wp2_with fail
          have hcc := c_sum s x1 (Nat.le_trans HS.out (by decide))
          refine hcc.mono ?_
          clear hcc
          rintro e x2 ⟨rfl, hb⟩
          have BB := Lib.hid (below_via BB.out hb)
          clear hb
          have e1 := E1.out
          go_wp2_with fail
          refine (wakes_crc _ (LD.out.of BB.out)).mono ?_
          rintro e wk ⟨rfl, hb⟩
          have BB := Lib.hid (below_via BB.out hb)
          clear hb
          go_wp2_with fail
          go_ret
          exact ⟨rfl, BB.out⟩
    · have u0 : decide ((i : Int) < 32) = false := decide_eq_false (by omega)
      have cvb := row_text hr.out ht.out.lt (P := Tryd.prog) 29 9 (grownCap w s.size 0 5) Tryd.underlying29 Tryd.underlying5 Tryd.underlying9
      rw [ht.out.len] at cvb
      have BB := hb
      have EB := Lib.hid (bs_strN ht.out.lt)
      have ZL := Lib.hid (show (strN l).size ≤ 20000 by rw [strN_size, ht.out.len]; exact HS.out)
      have EQ := turned_sum ht.out (by omega) hf
      have LB := Lib.hid (sum_lt ht.out.lt)
      by_cases hd : f % 2 ^ i = 0
      · have e0 := EQ.2 hd
        have e1 : ((sum l : Int) != (sum (bs s) : Int)) = false := by rw [e0]; exact bne_self_eq_false _
        have E1 := Lib.hid e1
        clear e0 e1 EQ
        go_wp2_with fail
        have hcc := c_sum (strN l) wr (Nat.le_trans ZL.out (by decide))
        refine hcc.mono ?_
        clear hcc
        rintro e x1 ⟨rfl, hb⟩
        have BB := Lib.hid (below_via BB.out hb)
        clear hb
        rw [EB.out]
        go_wp2_with fail
        have hcc := c_sum s x1 (Nat.le_trans HS.out (by decide))
        refine hcc.mono ?_
        clear hcc
        rintro e x2 ⟨rfl, hb⟩
        have BB := Lib.hid (below_via BB.out hb)
        clear hb
        have e1 := E1.out
        go_wp2_with fail
        refine (wakes_crc _ (LD.out.of BB.out)).mono ?_
        rintro e wk ⟨rfl, hb⟩
        have BB := Lib.hid (below_via BB.out hb)
        clear hb
        go_wp2_with fail
        go_ret
        exact ⟨rfl, BB.out⟩
      · have e0 := fun e => hd (EQ.1 e)
        have e1 : ((sum l : Int) != (sum (bs s) : Int)) = true := by rw [bne_iff_ne]; omega
        have E1 := Lib.hid e1
        clear e0 e1 EQ
        go_wp2_with fail
        have hcc := c_sum (strN l) wr (Nat.le_trans ZL.out (by decide))
        refine hcc.mono ?_
        clear hcc
        rintro e x1 ⟨rfl, hb⟩
        have BB := Lib.hid (below_via BB.out hb)
        clear hb
        rw [EB.out]
        go_wp2_with fail
        have hcc := c_sum s x1 (Nat.le_trans HS.out (by decide))
        refine hcc.mono ?_
        clear hcc
        rintro e x2 ⟨rfl, hb⟩
        have BB := Lib.hid (below_via BB.out hb)
        clear hb
        have e1 := E1.out
        go_wp2_with fail
        refine (wakes_crc _ (LD.out.of BB.out)).mono ?_
        rintro e wk ⟨rfl, hb⟩
        have BB := Lib.hid (below_via BB.out hb)
        clear hb
        go_wp2_with fail
        go_ret
        exact ⟨rfl, BB.out⟩
theorem crcTurned_walk (s : ByteArray) (at_ : Int) (f : Nat) (w : World) (LD : Hid (Laid w)) (hf : f < 4294967296) :
    Calls Tryd.prog 5 #[.string s, .int .i64 at_, .int .u32 f] w fun e w' => e = .returned (.bool true) ∧ Below w.heap.size w w' := by
  by_cases h : 20000 < s.size
  · exact crcTurned_long s at_ f w LD h
  · by_cases h2 : s.size = 0
    · exact crcTurned_none s at_ f w LD h2
    · exact crcTurned_short s at_ f w LD (by omega) (by omega) hf

set_option maxRecDepth 100000 in
theorem crcTurned_lifted (os : Os) (started : os.Started) (H : Type) (enc : TypeId × Value → H) :
    ReturnsInHanded {} Tryd.checked os 5 .any (fun w args => (Rows.crcTurnedSpec.pre enc Tryd.prog Tryd.f5 Rows.crcTurnedRow.domain false w args ∧ laidMetH Tryd.prog Rows.crcTurnedRow.laid w) ∧ sizedMet enc Tryd.prog Tryd.f5 (OpenSpec.ofChange Rows.crcTurnedSpec) false w args) (Rows.crcTurnedSpec.post enc Tryd.prog Tryd.f5 false true false false) := by
  refine Door.law_lifted (C := Tryd.checked) (tb := 4) (by kernel_rfl) started (by kernel_rfl) Tryd.func5
    (ChangeSpec.witness_shaped (enc := enc) (C := Tryd.checked) (os := os) (X := fun w _ => laidMetH Tryd.prog Rows.crcTurnedRow.laid w) false (World.laidAll Tryd.prog os Rows.crcTurnedRow.laid) #[.string ⟨#[]⟩, .int .i64 0, .int .u32 0] 8 (World.laidAll_os _ _ _)
      (World.shaped_of_ZipB (by kernel_rfl) (by kernel_rfl)) (by kernel_rfl) (by kernel_rfl) (by kernel_rfl)
      (by rw [MakeChecks.laidMetH_plain _ _ _ (by kernel_rfl)]; exact laidMet_laidAll _ (by kernel_rfl) (by kernel_rfl)))
    (by kernel_rfl) (by kernel_rfl) rfl rfl Tryd.underlying4 ?_
  intro W base args ds p hval0 hA0 hL
  have hval : ∀ (j : Nat) t v, Tryd.f5.params[j]? = some t → args[j]? = some v → Value.okWide Tryd.prog W .any base t v := hval0
  have hA : DataW.TrodAll enc Tryd.prog W 0 (fun _ => true) true Tryd.f5.params.toList args.toList ds p := hA0
  clear hval0 hA0
  rw [MakeChecks.laidMetH_plain _ _ _ (by kernel_rfl)] at hL
  rw [Tryd.params5] at hA hval
  obtain ⟨v0, vs0, d0, ds0, p0, q0, hargs, rfl, rfl, h0, r0⟩ := trodAll_cons hA
  obtain ⟨v1, vs1, d1, ds1, p1, q1, rfl, rfl, rfl, h1, r1⟩ := trodAll_cons r0
  obtain ⟨v2, vs2, d2, ds2, p2, q2, rfl, rfl, rfl, h2, r2⟩ := trodAll_cons r1
  obtain ⟨rfl, rfl, rfl⟩ := trodAll_nil r2
  obtain rfl : args = #[v0, v1, v2] := by cases args; simp_all
  refine ⟨rfl, ?_⟩
  obtain ⟨s, rfl, -, -, hs⟩ := ChangeMaps.open_string Tryd.underlying9 (hval 0 9 v0 rfl rfl) h0
  obtain ⟨k, rfl, -, -, wk⟩ := open_int Tryd.underlying3 (hval 1 3 v1 rfl rfl) h1
  obtain ⟨z2, rfl, -, -, wz2⟩ := open_int Tryd.underlying22 (hval 2 22 v2 rfl rfl) h2
  obtain ⟨f, rfl, lf⟩ := u32_nat wz2
  have LD := Lib.hid (laid_of hL (by exact List.mem_cons_self ..))
  exact crcTurned_walk s k f W LD lf

theorem crcTurned_over : Rows.crcTurnedRow.holds Tryd.pinned (OpenSpec.ofChange Rows.crcTurnedSpec) :=
  OpenClaim.holds_of_wide 5 Tryd.f5 rfl rfl rfl rfl rfl rfl rfl ⟨rfl, rfl, rfl, rfl, rfl⟩ rfl rfl rfl rfl rfl (by kernel_rfl) Tryd.func5 (by kernel_rfl)
    (of_decide_eq_true (by kernel_rfl)) (by unfold Func.isWrapper; first | (rw [if_pos (by decide +kernel)]; kernel_rfl) | (rw [if_neg (by decide +kernel)]; exact ⟨rfl, rfl⟩))
    (fun os st H enc _ => crcTurned_lifted os st H enc)

/-- The statement: the card. -/
theorem crcTurned_proved : Rows.CrcTurnedCardSaid :=
  Claim7.holds_tied_plain_at .later [] [.data] true Rows.crcTurnedCard.stood.harness false
    crcTurned_over (fun _ h => by cases h) (by kernel_rfl) (fun _ h => by cases h) crcTurned_row_tie rfl ⟨rfl, rfl⟩ (by kernel_rfl) rfl
    (fun f fn hf hfn => by
      obtain rfl : f = 5 := Option.some.inj ((show Tryd.prog.funcNamed "annuity/annuitylaw07.CrcTurned" = some 5 by kernel_rfl).symm.trans hf) |>.symm
      obtain rfl : fn = Tryd.f5 := (Option.some.inj (Tryd.func5.symm.trans hfn)).symm
      exact ⟨by kernel_rfl, fun j t ht => by
        have hall : (Tryd.f5.params.toList.all fun u => !Tryd.prog.wantsStandIn u) = true := by kernel_rfl
        exact (show Tryd.prog.wantsStandIn t = false by simpa using List.all_eq_true.1 hall t (Array.mem_def.1 (Array.mem_of_getElem? ht)))⟩)
    (by kernel_rfl)
end Go.Proofs.YtmohlhnifkmcbaaDoor.Law
