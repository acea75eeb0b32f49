/- By share.Fill what is filled and what is left are together the total, no room is more than full, and one behind another gets something just if that is full, at any total and any rooms; no condition. -/
import Derived.Test.YtbdcinecdigjgaaShell
import Derived.Test.YtbdcinecdigjgaaShareWakes
import Derived.Deep.QuietTactic
import Derived.BigQuiet
namespace Go.Proofs.Ytbdcinecdigjgaa.Law
open Go.ChangeShapes Go.WideShapes Go.ChangeAt Go.RowKit Bits Money Slice Stable Share Law2

theorem fRest_mono {t : Int} {zs : List Int} (ht : okB t = true) (h : allB zs = true) : ∀ d j, j + d ≤ zs.length → fRest t zs (j + d) ≤ fRest t zs j
  | 0, j, _ => Int.le_refl _
  | d + 1, j, hj => by
    have ih := fRest_mono ht h d j (by omega)
    have b := fRest_bd ht h (j + d) (by omega)
    have z := ok_at h (j := j + d) (by omega)
    have e := fRest_succ t zs (j + d)
    have d' : fPart t zs (j + d) = min (zs.getD (j + d) 0) (fRest t zs (j + d)) := rfl
    rw [show j + (d + 1) = j + d + 1 from rfl, e, d']
    omega
/-- What the law asks of each place. -/
structure Place (t : Int) (zs : List Int) (j : Nat) (p x r : Int) : Prop where
  p0 : 0 ≤ p
  p1 : p ≤ x
  full : 0 < r → p = x
  bd : p ≤ 10000000000000
theorem place_of {t : Int} {zs : List Int} (ht : okB t = true) (h : allB zs = true) {j : Nat} (hj : j < zs.length) : Place t zs j (fPart t zs j) (zs.getD j 0) (fRest t zs zs.length) := by
  have b := fRest_bd ht h j (by omega)
  have z := ok_at h hj
  have e := fRest_succ t zs j
  have d : fPart t zs j = min (zs.getD j 0) (fRest t zs j) := rfl
  have m := fRest_mono ht h (zs.length - (j + 1)) (j + 1) (by omega)
  rw [show j + 1 + (zs.length - (j + 1)) = zs.length from by omega] at m
  exact ⟨by omega, by omega, fun h => by omega, by omega⟩
theorem prev_full {t : Int} {zs : List Int} (ht : okB t = true) (h : allB zs = true) {k : Nat} (hj : k + 1 < zs.length) (hp : 0 < fPart t zs (k + 1)) : fPart t zs k = zs.getD k 0 := by
  have b := fRest_bd ht h k (by omega)
  have e := fRest_succ t zs k
  have d : fPart t zs k = min (zs.getD k 0) (fRest t zs k) := rfl
  have d' : fPart t zs (k + 1) = min (zs.getD (k + 1) 0) (fRest t zs (k + 1)) := rfl
  omega

theorem full_long (t : Int) (zs : List Int) (v : Value) (w : World) (hv : Ints w w.heap.size .i64 v zs) (hlong : 1200 < zs.length) :
    Calls Try.prog 6 #[.int .i64 t, v] w fun e w' => e = .returned (.bool true) ∧ Below w.heap.size w w' := by
  obtain ⟨A, c, rfl, hl, -, -⟩ := hv
  go_enter Try.func6, Try.ntmps6
  go_wp2_with fail
  refine (Law2.wakes_any _).mono ?_
  rintro e w5 ⟨rfl, hb⟩
  have HB := Lib.hid hb
  clear hb
  go_wp2_with fail
  go_ret
  exact ⟨rfl, HB.out⟩

set_option maxHeartbeats 1000000 in
theorem full_not (t : Int) (zs : List Int) (v : Value) (w : World) (hv : Ints w w.heap.size .i64 v zs) (hshort : zs.length ≤ 1200) (h : fitB t zs = false) :
    Calls Try.prog 6 #[.int .i64 t, v] w fun e w' => e = .returned (.bool true) ∧ Below w.heap.size w w' := by
  have HN := Lib.hid (fillOff h)
  clear h
  obtain ⟨i0, hi0, hz0, hz1, hz2⟩ := info_parts i64_info
  obtain ⟨A, c, rfl, hl, hn, hc⟩ := hv
  have HV : Hid (Ints w w.heap.size .i64 (.slice A zs.length c) zs) := ⟨A, c, rfl, hl, hn, hc⟩
  have HI := Lib.hid hi0
  have HZ0 := Lib.hid hz0
  have HZ1 := Lib.hid hz1
  have HZ2 := Lib.hid hz2
  clear hc hn hi0 hz0 hz1 hz2
  go_enter Try.func6, Try.ntmps6
  go_wp2_with (at_builtin
               refine Slice.wpList_append_ints rfl (.tmp 16) (.tmp 17) _ rfl w.heap.size 2 i0 (.int .i64 0) 8 Try.underlying22 HI.out HZ0.out HZ1.out HZ2.out rfl (.slice (some ⟨w.heap.size, 0, none⟩) 0 0) 0 [] rfl
                 (World.ownsRow_made w #[] 0 (Nat.le_refl _) (by simp) (by simp)) w.heap.size .i64 (.slice A zs.length c) zs rfl (HV.out.alloc (Nat.le_refl _) _) (by unfold maxLen; omega) (by omega) (by simp) ?_
               intro v3 w3 hown hgrow
               have IN : Hid (Ints w3 w3.heap.size .i64 v3 zs) := Slice.Ints.of_own (base := w.heap.size) (e := 2) (n := 0 + zs.length) (Nat.zero_add _) hown
               have HB3 : Hid (Below w.heap.size w w3) := (below_new (Below.refl _ _) _).grown hgrow (below_new (Below.refl _ _) _).size (fun g hg => by
                 have e : w.heap.size = g := by simpa [Value.ownBlock] using hg
                 omega)
               clear hown hgrow)
  refine (fill_any t zs v3 w3.heap.size _ (Nat.le_refl _) IN.out).mono ?_
  unfold Fills
  rw [HN.out.1, HN.out.2.1, HN.out.2.2]
  rintro e w4 ⟨u4, rfl, hi4, hb4⟩
  obtain ⟨A4, c4, rfl, -, -, -⟩ := id hi4
  have HB4 := Lib.hid (below_via HB3.out hb4)
  clear hb4 hi4
  go_wp2_with fail
  refine (Law2.wakes_any _).mono ?_
  rintro e w9 ⟨rfl, hb9⟩
  have HB9 := Lib.hid hb9
  clear hb9
  go_wp2_with fail
  go_ret
  exact ⟨rfl, below_via HB4.out HB9.out⟩

set_option maxRecDepth 100000 in
set_option maxHeartbeats 1600000 in
theorem full_yes (t : Int) (zs : List Int) (v : Value) (w : World) (hv : Ints w w.heap.size .i64 v zs) (hshort : zs.length ≤ 1200) (h : fitB t zs = true) :
    Calls Try.prog 6 #[.int .i64 t, v] w fun e w' => e = .returned (.bool true) ∧ Below w.heap.size w w' := by
  obtain ⟨hlen, ht, hall⟩ := (fitB_iff t zs).1 h
  obtain ⟨t0, t1⟩ := (okB_iff t).1 ht
  have hr := fRest_bd ht hall zs.length (Nat.le_refl _)
  have HN := Lib.hid (fillOn h)
  have HT := Lib.hid ht
  have HA := Lib.hid hall
  clear h ht hall
  obtain ⟨i0, hi0, hz0, hz1, hz2⟩ := info_parts i64_info
  obtain ⟨A, c, rfl, hl, hn, hc⟩ := hv
  have HV : Hid (Ints w w.heap.size .i64 (.slice A zs.length c) zs) := ⟨A, c, rfl, hl, hn, hc⟩
  have HI := Lib.hid hi0
  have HZ0 := Lib.hid hz0
  have HZ1 := Lib.hid hz1
  have HZ2 := Lib.hid hz2
  clear hc hn hi0 hz0 hz1 hz2
  go_enter Try.func6, Try.ntmps6
  go_wp2_with (at_builtin
               refine Slice.wpList_append_ints rfl (.tmp 16) (.tmp 17) _ rfl w.heap.size 2 i0 (.int .i64 0) 8 Try.underlying22 HI.out HZ0.out HZ1.out HZ2.out rfl (.slice (some ⟨w.heap.size, 0, none⟩) 0 0) 0 [] rfl
                 (World.ownsRow_made w #[] 0 (Nat.le_refl _) (by simp) (by simp)) w.heap.size .i64 (.slice A zs.length c) zs rfl (HV.out.alloc (Nat.le_refl _) _) (by unfold maxLen; omega) (by omega) (by simp) ?_
               intro v3 w3 hown hgrow
               have IN : Hid (Ints w3 w3.heap.size .i64 v3 zs) := Slice.Ints.of_own (base := w.heap.size) (e := 2) (n := 0 + zs.length) (Nat.zero_add _) hown
               have HB3 : Hid (Below w.heap.size w w3) := (below_new (Below.refl _ _) _).grown hgrow (below_new (Below.refl _ _) _).size (fun g hg => by
                 have e : w.heap.size = g := by simpa [Value.ownBlock] using hg
                 omega)
               clear hown hgrow)
  refine (fill_any t zs v3 w3.heap.size _ (Nat.le_refl _) IN.out).mono ?_
  unfold Fills
  rw [HN.out.1, HN.out.2.1, HN.out.2.2]
  rintro e w4 ⟨u4, rfl, hi4, hb4⟩
  have hlp : (fParts t zs).length = zs.length := by simp [fParts]
  obtain ⟨A4, c4, rfl, -, -, hc4⟩ := id hi4
  rw [hlp] at hi4 hc4
  have HC4 := Lib.hid hc4
  have H4 := Lib.hid hi4
  have HB4 := Lib.hid (below_via HB3.out hb4)
  have HV4 := Lib.hid (HV.out.below HB4.out)
  have hat : ∀ i, i < zs.length → (fParts t zs).getD i 0 = fPart t zs i := fun i hi => by simp [fParts, List.getD_eq_getElem?_getD, hi]
  have HAT := Lib.hid hat
  rw [hlp]
  obtain ⟨R, hR⟩ : ∃ R, fRest t zs zs.length = R := ⟨_, rfl⟩
  rw [hR] at hr ⊢
  have HR := Lib.hid hR
  clear hb4 hi4 hc4 hlp hat hR
  go_wp2_with fail
  go_loopw [8, 9] (fun x y wr => ∃ j : Nat, j ≤ zs.length ∧ y = .int .i64 j ∧ x = .int .i64 (R + (t - fRest t zs j)) ∧ Below w4.heap.size w4 wr) (fun _ y _ => zs.length - (intOf y).toNat)
  case atStart => exact ⟨0, Nat.zero_le _, rfl, congrArg (Value.int IntKind.i64) (by show R = R + (t - t); omega), Below.refl _ _⟩
  case round =>
    obtain ⟨j, hj, rfl, rfl, hb⟩ := hrel
    have HBR := Lib.hid hb
    obtain ⟨y0, y1⟩ := fRest_bd HT.out HA.out j hj
    by_cases hlt : j < zs.length
    · obtain ⟨b, off, rfl, hb4, hc⟩ := HC4.out (by omega)
      obtain ⟨A', c', e1, -, -, hv⟩ := HV4.out
      injection e1 with e1 e2 e3
      subst e1
      subst e3
      obtain ⟨b', off', rfl, hbv, hv⟩ := hv (by omega)
      have hsz := HB4.out.size
      have ca := (hb.cell (p := ⟨b, off + j, none⟩) hb4).trans (hc j hlt)
      rw [HAT.out j hlt] at ca
      have cr := (hb.cell (p := ⟨b', off' + j, none⟩) (by show b' < _; omega)).trans (hv j hlt)
      obtain ⟨g0, g1, g2, g3⟩ := place_of HT.out HA.out hlt
      rw [HR.out] at g2
      have hs := fRest_succ t zs j
      have hxp : decide (zs.getD j 0 < fPart t zs j) = false := decide_eq_false (by omega)
      have hp0 : decide (fPart t zs j < 0) = false := decide_eq_false (by omega)
      have j1 : (j : Int) < zs.length := by omega
      have j0 : (0 : Int) ≤ j := by omega
      have hrr : (0 < R ∧ fPart t zs j = zs.getD j 0 ∧ decide (0 < R) = true) ∨ decide (0 < R) = false := by
        by_cases h : 0 < R
        · exact Or.inl ⟨h, g2 h, decide_eq_true h⟩
        · exact Or.inr (decide_eq_false h)
      match j, hlt with
      | 0, hlt =>
        have HS := Lib.hid hs
        have HBR' := Lib.hid hb
        clear hs hb hc hv
        rw [Nat.add_zero] at ca cr
        have j2 : (0 : Int) < (zs.length : Int) := by omega
        clear j0 j1
        generalize hq : fPart t zs 0 = q at *
        generalize hf : fRest t zs 0 = f at *
        have HQ := Lib.hid hq
        have HF := Lib.hid hf
        clear hq hf
        generalize zs.getD 0 0 = x at *
        rcases hrr with ⟨h1, h2, h3⟩ | h3
        · subst h2
          go_wp2_with fail
          go_quiet (fail)
          go_wp2_with fail
          go_roundw
          case rel => exact ⟨0 + 1, hlt, by go_num, congrArg (Value.int IntKind.i64) (by rw [HS.out]; omega), below_drewN HBR'.out _⟩
          case measure => simp [intOf]; omega
        · skip
          go_wp2_with fail
          go_quiet (fail)
          go_wp2_with fail
          go_roundw
          case rel => exact ⟨0 + 1, hlt, by go_num, congrArg (Value.int IntKind.i64) (by rw [HS.out]; omega), below_drewN HBR'.out _⟩
          case measure => simp [intOf]; omega
      | k + 1, hlt =>
        have cb := (hb.cell (p := ⟨b, off + k, none⟩) hb4).trans (hc k (by omega))
        rw [HAT.out k (by omega)] at cb
        have cq := (hb.cell (p := ⟨b', off' + k, none⟩) (by show b' < _; omega)).trans (hv k (by omega))
        have hpk : (decide (0 < fPart t zs (k + 1)) = true ∧ fPart t zs k = zs.getD k 0) ∨ decide (0 < fPart t zs (k + 1)) = false := by
          by_cases h : 0 < fPart t zs (k + 1)
          · exact Or.inl ⟨decide_eq_true h, prev_full HT.out HA.out hlt h⟩
          · exact Or.inr (decide_eq_false h)
        have w1 : IntKind.i64.wrap ((k : Int) + 1 - 1) = k := by rw [IntWalk.i64_in _ (by omega)]; omega
        have w2 : IntKind.i64.wrap (k : Int) = k := IntWalk.i64_in _ (by omega)
        have p0 : (0 : Int) ≤ (k : Int) + 1 := by omega
        have p1 : ((k : Int) + 1).toNat = k + 1 := by omega
        have p2 : (k : Int) + 1 < zs.length := by omega
        have p3 : (0 : Int) ≤ (k : Int) := by omega
        have p4 : (k : Int) < zs.length := by omega
        have p5 : (0 : Int) < (k : Int) + 1 := by omega
        have p6 : decide ((0 : Int) < (k : Int) + 1) = true := decide_eq_true p5
        have HS := Lib.hid hs
        have HBR' := Lib.hid hb
        clear hs hb hc hv
        generalize hq : fPart t zs (k + 1) = q at *
        generalize hf : fRest t zs (k + 1) = f at *
        have HQ := Lib.hid hq
        have HF := Lib.hid hf
        clear hq hf
        generalize zs.getD (k + 1) 0 = x at *
        generalize fPart t zs k = q' at *
        generalize zs.getD k 0 = x' at *
        rcases hrr with ⟨h1, h2, h3⟩ | h3
        · subst h2
          rcases hpk with ⟨h4, h5⟩ | h4
          · subst h5
            go_wp2_with fail
            go_quiet (fail)
            go_wp2_with fail
            go_roundw
            case rel => exact ⟨k + 1 + 1, hlt, by go_num, congrArg (Value.int IntKind.i64) (by rw [HS.out]; omega), below_drewN HBR'.out _⟩
            case measure => simp [intOf]; omega
          · skip
            go_wp2_with fail
            go_quiet (fail)
            go_wp2_with fail
            go_roundw
            case rel => exact ⟨k + 1 + 1, hlt, by go_num, congrArg (Value.int IntKind.i64) (by rw [HS.out]; omega), below_drewN HBR'.out _⟩
            case measure => simp [intOf]; omega
        · skip
          rcases hpk with ⟨h4, h5⟩ | h4
          · subst h5
            go_wp2_with fail
            go_quiet (fail)
            go_wp2_with fail
            go_roundw
            case rel => exact ⟨k + 1 + 1, hlt, by go_num, congrArg (Value.int IntKind.i64) (by rw [HS.out]; omega), below_drewN HBR'.out _⟩
            case measure => simp [intOf]; omega
          · skip
            go_wp2_with fail
            go_quiet (fail)
            go_wp2_with fail
            go_roundw
            case rel => exact ⟨k + 1 + 1, hlt, by go_num, congrArg (Value.int IntKind.i64) (by rw [HS.out]; omega), below_drewN HBR'.out _⟩
            case measure => simp [intOf]; omega
    · obtain rfl : j = zs.length := by omega
      have hz : R + (t - fRest t zs zs.length) = t := by rw [HR.out]; omega
      have hbt : (t == t) = true := by simp
      rw [hz]
      clear hz y0 y1
      go_wp2_with fail
      refine (Law2.wakes_any _).mono ?_
      rintro e w9 ⟨rfl, hb9⟩
      have HB9 := Lib.hid hb9
      clear hb9
      go_wp2_with fail
      go_ret
      exact ⟨rfl, below_via (below_via HB4.out HBR.out) HB9.out⟩

theorem full_walk (t : Int) (zs : List Int) (v : Value) (w : World) (hv : Ints w w.heap.size .i64 v zs) :
    Calls Try.prog 6 #[.int .i64 t, v] w fun e w' => e = .returned (.bool true) ∧ Below w.heap.size w w' := by
  by_cases hl : 1200 < zs.length
  · exact full_long t zs v w hv hl
  · cases h : fitB t zs with
    | false => exact full_not t zs v w hv (by omega) h
    | true => exact full_yes t zs v w hv (by omega) h

set_option maxRecDepth 100000 in
theorem shareFull_lifted (os : Os) (started : os.Started) (H : Type) (enc : TypeId × Value → H) :
    ReturnsInHanded {} Try.checked os 6 .any (Rows.shareFullSpec.pre6 enc Try.prog Try.f6 Rows.shareFullRow.domain false) (Rows.shareFullSpec.post enc Try.prog Try.f6 false true false false) := by
  refine Shell.law_lifted (C := Try.checked) (tb := 4) (by kernel_rfl) started (by kernel_rfl) Try.func6
    (ChangeSpec.witness6 (enc := enc) (C := Try.checked) false ⟨#[], #[Value.int .i64 0, Value.slice none 0 0], []⟩ 8 (by kernel_rfl) (by kernel_rfl) (by kernel_rfl) (by kernel_rfl))
    (by kernel_rfl) (by kernel_rfl) rfl rfl Try.underlying4 ?_
  intro W base args ds p hval0 hA0
  have hval : ∀ (j : Nat) t v, Try.f6.params[j]? = some t → args[j]? = some v → Value.okWide Try.prog W .any base t v := hval0
  have hA : DataW.TrodAll enc Try.prog W 0 (fun _ => true) true Try.f6.params.toList args.toList ds p := hA0
  clear hval0 hA0
  rw [Try.params6] at hA hval
  obtain ⟨v0, vs0, d0, ds0, p0, q0, hargs, rfl, rfl, h0, r0⟩ := trodAll_cons hA
  obtain ⟨v1, vs1, d1, ds1, p1, q1, rfl, rfl, rfl, h1, r1⟩ := trodAll_cons r0
  obtain ⟨rfl, rfl, rfl⟩ := trodAll_nil r1
  obtain rfl : args = #[v0, v1] := by cases args; simp_all
  refine ⟨rfl, ?_⟩
  obtain ⟨t, rfl, -, -, -⟩ := open_int Try.underlying2 (hval 0 2 v0 rfl rfl) h0
  obtain ⟨zs, hzs, -⟩ := Slice.open_slice Try.underlying22 Try.underlying2 (by kernel_rfl) (hval 1 22 v1 rfl rfl) h1
  exact full_walk t zs v1 W hzs

theorem shareFull_over : Rows.shareFullRow.holds Try.pinned (OpenSpec.ofChange Rows.shareFullSpec) :=
  OpenClaim.holds_of_wide 6 Try.f6 rfl rfl rfl rfl rfl rfl rfl ⟨rfl, rfl, rfl, rfl, rfl⟩ rfl rfl rfl rfl rfl (by kernel_rfl) Try.func6 (by kernel_rfl)
    (of_decide_eq_true (by kernel_rfl)) (by unfold Func.isWrapper; first | (rw [if_pos (by decide +kernel)]; kernel_rfl) | (rw [if_neg (by decide +kernel)]; exact ⟨rfl, rfl⟩))
    (fun os st H enc _ => shareFull_lifted os st H enc)

/-- The statement. -/
theorem shareFull_proved : Rows.ShareFullSaid := shareFull_over
end Go.Proofs.Ytbdcinecdigjgaa.Law
