/- The months of two stretches that follow each other are those of both, at any three numbers; no condition. -/
import Derived.Test.YthmmlgfechkohaaDoorCards
import Derived.Test.YthmmlgfechkohaaDoorTie
import Derived.Test.YthmmlgfechkohaaDoorDoor
import Derived.Test.YthmmlgfechkohaaDoorDueWakes
import Derived.Test.YthmmlgfechkohaaDoorMod
import Derived.Laws.OwnMore
namespace Go.Proofs.YthmmlgfechkohaaDoor.Law
open Go.ChangeShapes Go.WideShapes Go.ChangeAt Go.RowKit Cal Date Due Slice

def min3 (x y z : Int) : Int := if z < (if y < x then y else x) then z else (if y < x then y else x)
def max3 (x y z : Int) : Int := if z > (if y > x then y else x) then z else (if y > x then y else x)
@[go_sem] theorem min3_run (P : Program) (w : World) (ts : Array TypeId) (t : TypeId) (x y z : Int) : Sem.run P (Builtin.min_ ts t #[.int .i64 x, .int .i64 y, .int .i64 z]) w = .ok (.int .i64 (min3 x y z)) w := rfl
@[go_sem] theorem max3_run (P : Program) (w : World) (ts : Array TypeId) (t : TypeId) (x y z : Int) : Sem.run P (Builtin.max_ ts t #[.int .i64 x, .int .i64 y, .int .i64 z]) w = .ok (.int .i64 (max3 x y z)) w := rfl
theorem three (x y z : Nat) (hx : x ≤ 87658) (hy : y ≤ 87658) (hz : z ≤ 87658) : ∃ lo mid hi : Nat, min3 x y z = lo ∧ max3 x y z = hi ∧ (x : Int) + y + z - lo - hi = mid ∧ lo ≤ mid ∧ mid ≤ hi ∧ hi ≤ 87658 := by
  unfold min3 max3
  refine ⟨min (min x y) z, x + y + z - min (min x y) z - max (max x y) z, max (max x y) z, ?_, ?_, ?_, ?_, ?_, ?_⟩
  · split <;> split <;> omega
  · split <;> split <;> omega
  all_goals omega

theorem small {k : Nat} (h : (k : Int) < 87659) : k ≤ 87658 := by omega
theorem parts_facts {lo mid hi : Nat} (h1 : lo ≤ mid) (h2 : mid ≤ hi) (h3 : hi ≤ 87658) : monL lo hi = monL lo mid ++ monL mid hi ∧ (monL lo mid).length ≤ 2880 ∧ (monL mid hi).length ≤ 2880 :=
  ⟨mon_parts (by omega) (by omega) (by omega) (by omega) (by omega), mon_len _ _, mon_len _ _⟩
theorem below_append {a w w' : World} {v : Value} {base n : Nat} {e : TypeId} {xs : List Value} (h : Below a.heap.size a w) (hb : a.heap.size ≤ base) (ho : w.ownsRow base e 1 v n xs) (hg : w.grownBy w' v.ownBlock) : Below a.heap.size a w' :=
  h.grown hg h.size (fun g hg => Nat.le_trans hb (ho.lt g hg).1)
set_option maxHeartbeats 4000000 in
theorem parts_walk (a b c : Int) (w : World) (LD : Laid w) :
    Calls Tryd.prog 5 #[.int .i64 a, .int .i64 b, .int .i64 c] w fun e w' => e = .returned (.bool true) ∧ Below w.heap.size w w' := by
  obtain ⟨i0, hi0, hz0, hz1, hz2⟩ := info_parts int_info
  have HI := Lib.hid hi0
  have HZ0 := Lib.hid hz0
  have HZ1 := Lib.hid hz1
  have HZ2 := Lib.hid hz2
  clear hi0 hz0 hz1 hz2
  go_enter Tryd.func5, Tryd.ntmps5
  go_wp2_with fail
  refine (Mod.mod_any _ 87659 _ (by decide) (by decide)).mono ?_
  rintro e w0 ⟨⟨x, hx0, rfl⟩, rfl⟩
  have hx := small hx0
  clear hx0
  go_wp2_with fail
  refine (Mod.mod_any _ 87659 _ (by decide) (by decide)).mono ?_
  rintro e w0 ⟨⟨y, hy0, rfl⟩, rfl⟩
  have hy := small hy0
  clear hy0
  go_wp2_with fail
  refine (Mod.mod_any _ 87659 _ (by decide) (by decide)).mono ?_
  rintro e w0 ⟨⟨z, hz0, rfl⟩, rfl⟩
  have hz := small hz0
  clear hz0
  obtain ⟨lo, mid, hi, m1, m2, m3, m4, m5, m6⟩ := three x y z hx hy hz
  have M3 := Lib.hid m3
  have hlo : lo ≤ 87658 := Nat.le_trans m4 (Nat.le_trans m5 m6)
  obtain ⟨p1, p2, p3⟩ := parts_facts m4 m5 m6
  have h1 := u_months lo hi
  have h2 := u_months lo mid
  have h3 := u_months mid hi
  rw [p1] at h1
  generalize monL lo mid = p at *
  generalize monL mid hi = q at *
  have P2 := Lib.hid p2
  have P3 := Lib.hid p3
  clear m3 m4 m5 p1 p2 p3
  go_wp2_with fail
  refine (h1 _ LD).mono ?_
  rintro e w1 ⟨v1, rfl, i1, b1⟩
  replace LD := LD.of b1
  obtain ⟨A1, c1, rfl, -, -, -⟩ := id i1
  rw [List.length_append] at i1 ⊢
  have I1 := Lib.hid i1
  have B1 := Lib.hid b1
  clear i1 b1
  go_wp2_with fail
  rw [M3.out]
  refine (h2 _ (LD.alloc _)).mono ?_
  rintro e w2 ⟨v2, rfl, i2, b2⟩
  obtain ⟨A2, c2, rfl, -, -, -⟩ := id i2
  have I2 := Lib.hid i2
  have B2 : Hid (Below w1.heap.size w1 w2) := below_via (below_new (Below.refl _ _) _) b2
  have O2 := Lib.hid ((World.ownsRow_made (e := 3) (size := 1) w1 #[] 0 (Nat.le_refl _) (by simp) (by simp)).kept (Slice.grown_below b2 none) (Or.inr (by simp [Value.ownBlock])))
  clear i2 b2
  go_wp2_with (first
    | (at_builtin
       refine Slice.wpList_append_ints rfl (.tmp 39) (.tmp 42) _ rfl w1.heap.size 3 i0 (.int .i64 0) 8 Tryd.underlying23 HI.out HZ0.out HZ1.out HZ2.out rfl _ _ _ rfl O2.out w2.heap.size .i64 _ p rfl I2.out (by have := P2.out; unfold maxLen; omega) (by have := P2.out; omega) B2.out.size ?_
       intro v3 w3 hown hgrow
       rw [Nat.zero_add, List.nil_append] at hown
       have O3 := Lib.hid hown
       have B3 := Lib.hid (below_append B2.out (Nat.le_refl _) O2.out hgrow)
       have G3 : Hid (Laid w3) := LD.of B3.out
       obtain ⟨A3, c3, rfl⟩ := Slice.own_slice hown
       clear hown hgrow)
    | fail)
  refine (h3 _ G3.out).mono ?_
  rintro e w4 ⟨v4, rfl, i4, b4⟩
  obtain ⟨A4, c4, rfl, -, -, -⟩ := id i4
  have I4 := Lib.hid i4
  have B4 : Hid (Below w1.heap.size w1 w4) := below_via B3.out b4
  have O4 := Lib.hid (O3.out.kept (Slice.grown_below b4 none) (by rcases O3.out.2 with ⟨h, -⟩ | ⟨g, cap, cur, h, -⟩ <;> rw [h] <;> simp [Value.ownBlock]))
  clear i4 b4
  go_wp2_with (first
    | (at_builtin
       refine Slice.wpList_append_ints rfl (.tmp 43) (.tmp 46) _ rfl w1.heap.size 3 i0 (.int .i64 0) 8 Tryd.underlying23 HI.out HZ0.out HZ1.out HZ2.out rfl _ _ _ rfl O4.out w4.heap.size .i64 _ q rfl I4.out (by have := P2.out; have := P3.out; unfold maxLen; omega) (by have := P2.out; have := P3.out; omega) B4.out.size ?_
       intro v5 w5 hown hgrow
       have I5 : Hid (Ints w5 w5.heap.size .i64 v5 (p ++ q)) := by
         refine Ints.of_own (n := p.length + q.length) (by simp) (base := w1.heap.size) (e := 3) ?_
         rw [List.map_append]
         exact hown
       have B5 := Lib.hid (below_append B4.out (Nat.le_refl _) O4.out hgrow)
       obtain ⟨A5, c5, rfl⟩ := Slice.own_slice hown
       clear hown hgrow)
    | fail)
  have hcc := ints_same (p ++ q) (.slice A1 (p.length + q.length) c1) (.slice A5 (p.length + q.length) c5) w5.heap.size w5 ((I1.out.below B5.out).more B5.out.size) I5.out
  refine hcc.mono ?_
  clear hcc
  rintro e w6 ⟨rfl, n, rfl⟩
  replace LD := (LD.of B5.out).drewN n
  go_wp2_with fail
  refine (wakes_due _ LD).mono ?_
  rintro e wk ⟨rfl, bk⟩
  go_wp2_with fail
  go_ret
  exact ⟨rfl, below_via (below_drewN (below_via B1.out B5.out) n) bk⟩

set_option maxRecDepth 100000 in
theorem dueParts_lifted (os : Os) (started : os.Started) (H : Type) (enc : TypeId × Value → H) :
    ReturnsInHanded {} Tryd.checked os 5 .any (fun w args => (Rows.duePartsSpec.pre enc Tryd.prog Tryd.f5 Rows.duePartsRow.domain false w args ∧ laidMetH Tryd.prog Rows.duePartsRow.laid w) ∧ sizedMet enc Tryd.prog Tryd.f5 (OpenSpec.ofChange Rows.duePartsSpec) false w args) (Rows.duePartsSpec.post enc Tryd.prog Tryd.f5 false true false false) := by
  refine Door.law_lifted (C := Tryd.checked) (tb := 4) (by kernel_rfl) started (by kernel_rfl) Tryd.func5
    (ChangeSpec.witness_shaped (enc := enc) (C := Tryd.checked) (os := os) (X := fun w _ => laidMetH Tryd.prog Rows.duePartsRow.laid w) false (World.laidAll Tryd.prog os Rows.duePartsRow.laid) #[.int .i64 0, .int .i64 0, .int .i64 0] 8 (World.laidAll_os _ _ _)
      (World.shaped_of_ZipB (by kernel_rfl) (by kernel_rfl)) (by kernel_rfl) (by kernel_rfl) (by kernel_rfl)
      (by rw [MakeChecks.laidMetH_plain _ _ _ (by kernel_rfl)]; exact laidMet_laidAll _ (by kernel_rfl) (by kernel_rfl)))
    (by kernel_rfl) (by kernel_rfl) rfl rfl Tryd.underlying4 ?_
  intro W base args ds p hval0 hA0 hL
  have hval : ∀ (j : Nat) t v, Tryd.f5.params[j]? = some t → args[j]? = some v → Value.okWide Tryd.prog W .any base t v := hval0
  have hA : DataW.TrodAll enc Tryd.prog W 0 (fun _ => true) true Tryd.f5.params.toList args.toList ds p := hA0
  clear hval0 hA0
  rw [MakeChecks.laidMetH_plain _ _ _ (by kernel_rfl)] at hL
  rw [Tryd.params5] at hA hval
  obtain ⟨v0, vs0, d0, ds0, p0, q0, hargs, rfl, rfl, h0, r0⟩ := trodAll_cons hA
  obtain ⟨v1, vs1, d1, ds1, p1, q1, rfl, rfl, rfl, h1, r1⟩ := trodAll_cons r0
  obtain ⟨v2, vs2, d2, ds2, p2, q2, rfl, rfl, rfl, h2, r2⟩ := trodAll_cons r1
  obtain ⟨rfl, rfl, rfl⟩ := trodAll_nil r2
  obtain rfl : args = #[v0, v1, v2] := by cases args; simp_all
  refine ⟨rfl, ?_⟩
  obtain ⟨a, rfl, -, -, ha⟩ := open_int Tryd.underlying3 (hval 0 3 v0 rfl rfl) h0
  obtain ⟨b, rfl, -, -, hb⟩ := open_int Tryd.underlying3 (hval 1 3 v1 rfl rfl) h1
  obtain ⟨c, rfl, -, -, hc⟩ := open_int Tryd.underlying3 (hval 2 3 v2 rfl rfl) h2
  have LD := Date.laid_of hL (by exact List.mem_cons_self ..)
  exact parts_walk a b c W LD

theorem dueParts_over : Rows.duePartsRow.holds Tryd.pinned (OpenSpec.ofChange Rows.duePartsSpec) :=
  OpenClaim.holds_of_wide 5 Tryd.f5 rfl rfl rfl rfl rfl rfl rfl ⟨rfl, rfl, rfl, rfl, rfl⟩ rfl rfl rfl rfl rfl (by kernel_rfl) Tryd.func5 (by kernel_rfl)
    (of_decide_eq_true (by kernel_rfl)) (by unfold Func.isWrapper; first | (rw [if_pos (by decide +kernel)]; kernel_rfl) | (rw [if_neg (by decide +kernel)]; exact ⟨rfl, rfl⟩))
    (fun os st H enc _ => dueParts_lifted os st H enc)

/-- The statement: the card. -/
theorem dueParts_proved : Rows.DuePartsCardSaid :=
  Claim7.holds_tied_plain_at .later [] [.data] true Rows.duePartsCard.stood.harness false
    dueParts_over (fun _ h => by cases h) (by kernel_rfl) (fun _ h => by cases h) dueParts_row_tie rfl ⟨rfl, rfl⟩ (by kernel_rfl) rfl
    (fun f fn hf hfn => by
      obtain rfl : f = 5 := Option.some.inj ((show Tryd.prog.funcNamed "annuity/annuitylaw05.DueParts" = some 5 by kernel_rfl).symm.trans hf) |>.symm
      obtain rfl : fn = Tryd.f5 := (Option.some.inj (Tryd.func5.symm.trans hfn)).symm
      exact ⟨by kernel_rfl, fun j t ht => by
        have hall : (Tryd.f5.params.toList.all fun u => !Tryd.prog.wantsStandIn u) = true := by kernel_rfl
        exact (show Tryd.prog.wantsStandIn t = false by simpa using List.all_eq_true.1 hall t (Array.mem_def.1 (Array.mem_of_getElem? ht)))⟩)
    (by kernel_rfl)
end Go.Proofs.YthmmlgfechkohaaDoor.Law
