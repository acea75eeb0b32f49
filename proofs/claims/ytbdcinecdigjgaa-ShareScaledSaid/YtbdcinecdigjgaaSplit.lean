/- What share.Split tells, at any total and any weights. -/
import Derived.Test.YtbdcinecdigjgaaSplitMath
import Derived.Test.YtbdcinecdigjgaaGreatest
import Derived.Test.YtbdcinecdigjgaaFill
import Derived.Test.YtbdcinecdigjgaaSum
namespace Go.Proofs.Ytbdcinecdigjgaa.Share
open Go.ChangeShapes Go.WideShapes Go.ChangeAt Go.RowKit Bits Money Slice Law Stable

def wt (zs : List Int) (i : Nat) : Int := zs.getD i 0
def rsL (t s : Int) (zs : List Int) : List Int := (List.range zs.length).map (rst t s (wt zs))
def outL (t s : Int) (zs : List Int) (Q : Nat → Nat) : List Int := (List.range zs.length).map (outS t s (wt zs) zs.length Q)
theorem rsL_len (t s : Int) (zs : List Int) : (rsL t s zs).length = zs.length := by simp [rsL]
theorem rsL_at (t s : Int) (zs : List Int) {i : Nat} (hi : i < zs.length) : (rsL t s zs).getD i 0 = rst t s (wt zs) i := by simp [rsL, List.getD_eq_getElem?_getD, hi]
/-- The places of the rests, those of the greatest first. -/
structure Places (t s : Int) (zs : List Int) (Q : Nat → Nat) : Prop where
  re : Re 0 zs.length (fun i => i) Q
  srt : Srt (ordR (rsL t s zs)) Q 0 zs.length

theorem psum_pre (zs : List Int) : ∀ j x, j ≤ zs.length → psum (zs.take j) = some x → x = pre (wt zs) j
  | 0, x, _, h => by
    have : psum (zs.take 0) = some 0 := rfl
    rw [this] at h
    injection h with h
    rw [← h]; rfl
  | j + 1, x, hj, h => by
    rw [psum_succ (by omega)] at h
    cases hp : psum (zs.take j) with
    | none => rw [hp] at h; cases h
    | some y =>
      rw [hp] at h
      have ih := psum_pre zs j y (by omega) hp
      rcases plusO_cases y (zs.getD j 0) with ⟨e, -⟩ | ⟨e, -⟩
      · have h' : plusO y (zs.getD j 0) = some x := h
        rw [e] at h'
        injection h' with h'
        rw [pre_succ, ← h', ih]; rfl
      · have h' : plusO y (zs.getD j 0) = some x := h
        rw [e] at h'; cases h'
theorem psum_good {zs : List Int} {s : Int} (h : psum zs = some s) (hs : s ≠ 0) : goodB s = true := by
  have hn : 0 < zs.length := by
    rcases Nat.eq_zero_or_pos zs.length with h0 | h0
    · have : zs = [] := List.eq_nil_of_length_eq_zero h0
      subst this
      have : psum [] = some 0 := rfl
      rw [this] at h
      injection h with h
      exact absurd h.symm hs
    · exact h0
  have h1 := psum_succ (zs := zs) (j := zs.length - 1) (by omega)
  rw [show zs.length - 1 + 1 = zs.length from by omega, List.take_length, h] at h1
  cases hp : psum (zs.take (zs.length - 1)) with
  | none => rw [hp] at h1; cases h1
  | some y =>
    rw [hp] at h1
    have h2 : some s = plusO y (zs.getD (zs.length - 1) 0) := h1
    rcases plusO_cases y (zs.getD (zs.length - 1) 0) with ⟨e, -, -, g⟩ | ⟨e, -⟩
    · rw [e] at h2
      injection h2 with h2
      rw [h2]; exact g
    · rw [e] at h2; cases h2
theorem weights_of {t s : Int} {zs : List Int} (hf : fitB t zs = true) (hp : psum zs = some s) (hs : s ≠ 0) : Weights t s (wt zs) zs.length ∧ s ≤ 10000000000000 := by
  obtain ⟨-, ht, ha⟩ := (fitB_iff t zs).1 hf
  have hw : ∀ i, i < zs.length → 0 ≤ wt zs i := fun i hi => (ok_at ha hi).1
  have e : s = pre (wt zs) zs.length := psum_pre zs _ s (Nat.le_refl _) (by rw [List.take_length]; exact hp)
  have h0 := pre_nonneg hw
  exact ⟨⟨((okB_iff t).1 ht).1, by omega, hw, e.symm⟩, ((goodB_iff s).1 (psum_good hp hs)).2⟩

theorem quotient_any (t w s : Int) (W : World) (t0 : 0 ≤ t) (t1 : t ≤ 10000000000000) (w0 : 0 ≤ w) (w1 : w ≤ s) (s0 : 0 < s) (s1 : s ≤ 10000000000000) :
    Calls Try.prog 17 #[.int .i64 t, .int .i64 w, .int .i64 s] W fun e W' => e = .returned (.tuple #[.int .i64 (t * w / s), .int .u64 (t * w % s)]) ∧ ∃ n, W' = W.drewN n := by
  have p0 : 0 ≤ t * w := Int.mul_nonneg t0 w0
  have p1 : t * w ≤ t * s := Int.mul_le_mul_of_nonneg_left w1 t0
  have p2 : t * s ≤ 10000000000000 * s := Int.mul_le_mul_of_nonneg_right t1 (by omega)
  have q0 : 0 ≤ t * w / s := Int.ediv_nonneg p0 (by omega)
  have q1 : t * w / s ≤ t := by
    have h2 := Int.ediv_le_ediv s0 p1
    rwa [Int.mul_ediv_cancel _ (by omega)] at h2
  have r0 : 0 ≤ t * w % s := Int.emod_nonneg _ (by omega)
  have r1 : t * w % s < s := Int.emod_lt_of_pos _ s0
  have h0 : 0 ≤ t * w / 18446744073709551616 := Int.ediv_nonneg p0 (by omega)
  have h1 : t * w / 18446744073709551616 < s := by omega
  have l0 : 0 ≤ t * w % 18446744073709551616 := by omega
  have l1 : t * w % 18446744073709551616 ≤ 18446744073709551615 := by omega
  have HE : Hid (t * w / 18446744073709551616 * 18446744073709551616 + t * w % 18446744073709551616 = t * w) := by show _ = _; omega
  generalize hq : t * w / s = q at *
  generalize hr : t * w % s = r at *
  generalize hhi : t * w / 18446744073709551616 = hi at *
  generalize hlo : t * w % 18446744073709551616 = lo at *
  have HHI := Lib.hid hhi
  have HLO := Lib.hid hlo
  clear hhi hlo
  have HQ' := Lib.hid hq
  have HR' := Lib.hid hr
  clear hq hr p0 p1 p2
  go_enter Try.func17, Try.ntmps17
  go_wp2_with fail
  refine (Money.mul_any _ _ _ (by omega) (by omega) (by omega) (by omega)).mono ?_
  rw [HHI.out, HLO.out]
  rintro e w' ⟨rfl, rfl⟩
  go_wp2_with fail
  refine (Money.div_ok hi lo s _ h0 h1 (by omega) l0 l1).mono ?_
  rw [HE.out, HQ'.out, HR'.out]
  rintro e w' ⟨rfl, n, rfl⟩
  go_wp2_with fail
  go_ret2
  exact ⟨rfl, n, rfl⟩

def SplitNot (w : World) (e : Ending) (w' : World) : Prop := e = .returned (.tuple #[.slice none 0 0, .int .i64 1]) ∧ Below w.heap.size w w'
def SplitYes (t s : Int) (zs : List Int) (w : World) (e : Ending) (w' : World) : Prop :=
  ∃ Q v, e = .returned (.tuple #[v, .int .i64 0]) ∧ Places t s zs Q ∧ Ints w' w'.heap.size .i64 v (outL t s zs Q) ∧ Below w.heap.size w w'

theorem split_unfit (t : Int) (zs : List Int) (v : Value) (B : Nat) (w : World) (hv : Ints w B .i64 v zs) (h : fitB t zs = false) :
    Calls Try.prog 9 #[.int .i64 t, v] w (SplitNot w) := by
  have HV := Lib.hid hv
  have H := Lib.hid h
  clear hv h
  go_enter Try.func9, Try.ntmps9
  go_wp2_with fail
  refine (fit_any t zs v B _ HV.out).mono ?_
  rw [H.out]
  rintro e w' ⟨rfl, rfl⟩
  go_wp2_with fail
  go_ret2
  exact ⟨rfl, Below.refl _ _⟩

theorem split_none (t : Int) (zs : List Int) (v : Value) (w : World) (hv : Ints w w.heap.size .i64 v zs) (h : fitB t zs = true) (hp : psum zs = none) :
    Calls Try.prog 9 #[.int .i64 t, v] w (SplitNot w) := by
  have HV := Lib.hid hv
  have H := Lib.hid h
  have HP := Lib.hid hp
  clear hv h hp
  go_enter Try.func9, Try.ntmps9
  go_wp2_with fail
  refine (fit_any t zs v _ _ HV.out).mono ?_
  rw [H.out]
  rintro e w' ⟨rfl, rfl⟩
  go_wp2_with fail
  refine (Money.sum_tells zs v _ HV.out).mono ?_
  rw [HP.out]
  rintro e w1 ⟨rfl, hb⟩
  have HB := Lib.hid hb
  clear hb
  have e1 : valO (none : Option Int) = 0 := rfl
  have e2 : errO (none : Option Int) = 14 := rfl
  rw [e1, e2]
  clear e1 e2
  go_wp2_with fail
  go_ret2
  exact ⟨rfl, HB.out⟩

theorem split_zero (t : Int) (zs : List Int) (v : Value) (w : World) (hv : Ints w w.heap.size .i64 v zs) (h : fitB t zs = true) (hp : psum zs = some 0) :
    Calls Try.prog 9 #[.int .i64 t, v] w (SplitNot w) := by
  have HV := Lib.hid hv
  have H := Lib.hid h
  have HP := Lib.hid hp
  clear hv h hp
  go_enter Try.func9, Try.ntmps9
  go_wp2_with fail
  refine (fit_any t zs v _ _ HV.out).mono ?_
  rw [H.out]
  rintro e w' ⟨rfl, rfl⟩
  go_wp2_with fail
  refine (Money.sum_tells zs v _ HV.out).mono ?_
  rw [HP.out]
  rintro e w1 ⟨rfl, hb⟩
  have HB := Lib.hid hb
  clear hb
  have e1 : valO (some 0 : Option Int) = 0 := rfl
  have e2 : errO (some 0 : Option Int) = 0 := rfl
  rw [e1, e2]
  clear e1 e2
  go_wp2_with fail
  go_ret2
  exact ⟨rfl, HB.out⟩

theorem u64_info : (Try.prog.info? 46).map (fun i => (i.zero, i.size, i.bytes)) = some (some (.int .u64 0), 1, 8) := by kernel_rfl
def restRow (f : Nat → Int) (j : Nat) (i : Nat) : Value := .int .u64 (if i < j then f i else 0)
def bumpRow (q : Nat → Int) (Q : Nat → Nat) (k : Nat) (i : Nat) : Value := .int .i64 (q i + bump Q k i)

/-- Ahead of round j of the quotients. -/
structure QState (t s : Int) (zs : List Int) (w : World) (j : Nat) (wr : World) : Prop where
  below : Below w.heap.size w wr
  parts : wr.rowIs w.heap.size 2 zs.length (partRow (quo t s (wt zs)) j)
  rests : wr.rowIs (w.heap.size + 1) 46 zs.length (restRow (rst t s (wt zs)) j)
theorem qState_start (t s : Int) (zs : List Int) (w : World) : QState t s zs w 0 ((w.alloc (.cells (madeCells #[.int .i64 0] zs.length) 2)).alloc (.cells (madeCells #[.int .u64 0] zs.length) 46)) := by
  refine ⟨((Below.refl _ _).alloc (Nat.le_refl _) _).alloc (by simp) _, ?_, ?_⟩
  · exact ((World.rowIs_made w (.int .i64 0) zs.length 2).alloc _).congr fun i _ => rfl
  · have h := World.rowIs_made (w.alloc (.cells (madeCells #[.int .i64 0] zs.length) 2)) (.int .u64 0) zs.length 46
    simp only [World.size_alloc] at h
    exact h.congr fun i _ => rfl
theorem qState_drewN {t s : Int} {zs : List Int} {w wr : World} {j : Nat} (h : QState t s zs w j wr) (m : Nat) : QState t s zs w j (wr.drewN m) := ⟨below_drewN h.below m, h.parts, h.rests⟩
theorem qState_step {t s : Int} {zs : List Int} {w wr : World} {j : Nat} (h : QState t s zs w j wr) {q r : Int} (hq : quo t s (wt zs) j = q) (hr : rst t s (wt zs) j = r) :
    QState t s zs w (j + 1) ((wr.setCell ⟨w.heap.size, j, none⟩ (.int .i64 q)).setCell ⟨w.heap.size + 1, j, none⟩ (.int .u64 r)) := by
  subst hq hr
  refine ⟨(h.below.setCell (Nat.le_refl _) _).setCell (by show w.heap.size ≤ w.heap.size + 1; omega) _, ?_, ?_⟩
  · exact (partRow_step (h.parts.set j _)).setOther (by show w.heap.size ≠ w.heap.size + 1; omega) _
  · refine ((h.rests.setOther (a := ⟨w.heap.size, j, none⟩) (by show w.heap.size + 1 ≠ w.heap.size; omega) _).set j (.int .u64 (rst t s (wt zs) j))).congr fun i _ => ?_
    unfold restRow
    by_cases e : i = j
    · subst e; rw [if_pos rfl, if_pos (by omega)]
    · rw [if_neg e]
      by_cases h1 : i < j
      · rw [if_pos h1, if_pos (by omega)]
      · rw [if_neg h1, if_neg (by omega)]

/-- Ahead of round k of the cents that are left over. -/
structure BState (t s : Int) (zs : List Int) (Q : Nat → Nat) (w : World) (g k : Nat) (wr : World) : Prop where
  below : Below w.heap.size w wr
  parts : wr.rowIs w.heap.size 2 zs.length (bumpRow (quo t s (wt zs)) Q k)
  places : wr.rowIs g 3 zs.length (rowE (fun i => (i : Int)) Q)
  apart : w.heap.size < g
theorem bState_start {t s : Int} {zs : List Int} {Q : Nat → Nat} {w wq w2 : World} {g : Nat} (h : QState t s zs w zs.length wq) (hr : w2.rowIs g 3 zs.length (rowE (fun i => (i : Int)) Q)) (hb : Below wq.heap.size wq w2) (hg : wq.heap.size ≤ g) :
    BState t s zs Q w g 0 w2 := by
  have hl := h.parts.lt
  refine ⟨h.below.trans (hb.mono h.below.size), (h.parts.of_block (hb.block _ hl)).congr fun i hi => ?_, hr, by omega⟩
  unfold partRow bumpRow
  rw [if_pos hi, bump_zero, Int.add_zero]
theorem bState_step {t s : Int} {zs : List Int} {Q : Nat → Nat} {w wr : World} {g k p : Nat} {q : Int} (h : BState t s zs Q w g k wr) (hp : Q k = p) (hq : quo t s (wt zs) p = q) :
    BState t s zs Q w g (k + 1) (wr.setCell ⟨w.heap.size, p, none⟩ (.int .i64 (q + 1))) := by
  subst hp hq
  refine ⟨h.below.setCell (Nat.le_refl _) _, (h.parts.set (Q k) _).congr fun i _ => ?_, h.places.setOther (by show g ≠ w.heap.size; have := h.apart; omega) _, h.apart⟩
  unfold bumpRow
  by_cases e : i = Q k
  · subst e
    rw [if_pos rfl, bump_here]
  · rw [if_neg e, bump_other e]
theorem bState_end {t s : Int} {zs : List Int} {Q : Nat → Nat} {w wr : World} {g L : Nat} (h : BState t s zs Q w g L wr) (hL : lft t s (wt zs) zs.length = L) (hm : zs.length ≤ 9223372036854775807) :
    Ints wr wr.heap.size .i64 (.slice (some ⟨w.heap.size, 0, none⟩) zs.length zs.length) (outL t s zs Q) :=
  ints_of_row (by simp [outL]) hm h.parts (fun i hi => by
    have e : (outL t s zs Q).getD i 0 = outS t s (wt zs) zs.length Q i := by simp [outL, List.getD_eq_getElem?_getD, hi]
    rw [e]
    unfold bumpRow outS
    rw [hL]
    rfl) _

def MergeLaw : Prop := ∀ (E : Nat → Int) (lt : Nat → Nat → Bool) (c : Nat → Nat → Int) (R : Nat → Nat → Prop) (F : FuncId) (cap : Array Value) (g n : Nat) (W : World), Ord R lt → Cmp E lt c F cap g n W → n ≤ 1152921504606846976 → ∀ d, MergeTo E R F cap g n W d

set_option maxRecDepth 100000 in
set_option maxHeartbeats 1000000 in
theorem split_yes (hm : MergeLaw) (t s : Int) (zs : List Int) (v : Value) (w : World) (hv : Ints w w.heap.size .i64 v zs) (h : fitB t zs = true) (hp : psum zs = some s) (hs : s ≠ 0) :
    Calls Try.prog 9 #[.int .i64 t, v] w (SplitYes t s zs w) := by
  obtain ⟨hlen, ht, hall⟩ := (fitB_iff t zs).1 h
  obtain ⟨hw, s1⟩ := weights_of h hp hs
  have s0 := hw.s0
  obtain ⟨t0, t1⟩ := (okB_iff t).1 ht
  obtain ⟨A, c, rfl, hl, hn, hc⟩ := hv
  have HV : Hid (Ints w w.heap.size .i64 (.slice A zs.length c) zs) := ⟨A, c, rfl, hl, hn, hc⟩
  have hmk := fun W : World => run_make_row' (P := Try.prog) 22 2 (.int .i64 0) 8 Try.underlying22 i64_info rfl .i64 .i64 zs.length (by omega) (by omega) W
  have hmk2 := fun W : World => run_make_row' (P := Try.prog) 45 46 (.int .u64 0) 8 Try.underlying45 u64_info rfl .i64 .i64 zs.length (by omega) (by omega) W
  have H := Lib.hid h
  have HP := Lib.hid hp
  have HW := Lib.hid hw
  have HM := Lib.hid hm
  have hsb : (s == 0) = false := by rw [beq_eq_false_iff_ne]; exact hs
  clear hn hc h ht hall hp hw hm hs
  go_enter Try.func9, Try.ntmps9
  go_wp2_with fail
  refine (fit_any t zs _ _ _ HV.out).mono ?_
  rw [H.out]
  rintro e w' ⟨rfl, rfl⟩
  go_wp2_with fail
  refine (Money.sum_tells zs _ _ HV.out).mono ?_
  rw [HP.out]
  rintro e w1 ⟨rfl, hb⟩
  have HB := Lib.hid hb
  clear hb
  have e1 : valO (some s) = s := rfl
  have e2 : errO (some s) = 0 := rfl
  rw [e1, e2]
  clear e1 e2
  go_wp2_with fail
  clear hmk hmk2
  go_loopw [10, 39] (fun x y wr => ∃ j : Nat, j ≤ zs.length ∧ y = .int .i64 j ∧ x = .int .i64 (t - pre (quo t s (wt zs)) j) ∧ Hid (QState t s zs w1 j wr)) (fun _ y _ => zs.length - (intOf y).toNat)
  case atStart => exact ⟨0, Nat.zero_le _, rfl, congrArg (Value.int IntKind.i64) (by rw [pre_zero]; omega), qState_start t s zs w1⟩
  case round =>
    obtain ⟨j, hj, rfl, rfl, HS⟩ := hrel
    obtain ⟨b0, b1⟩ := HW.out.pq hj
    by_cases hlt : j < zs.length
    · obtain ⟨A', c', e1, -, -, hc⟩ := HV.out
      injection e1 with e1 e2 e3
      subst e1
      subst e3
      obtain ⟨b, off, rfl, hbB, hc⟩ := hc (by omega)
      have hbw : Below w.heap.size w wr := below_via HB.out HS.out.below
      have hx := (hbw.cell (p := ⟨b, off + j, none⟩) hbB).trans (hc j hlt)
      have ca := HS.out.parts.cell hlt
      have fa := HS.out.parts.frozen j
      have la := HS.out.parts.lt
      have cb := HS.out.rests.cell hlt
      have fb := HS.out.rests.frozen j
      have lb := HS.out.rests.lt
      have x0 : 0 ≤ zs.getD j 0 := HW.out.w0 j hlt
      have x1 : zs.getD j 0 ≤ s := HW.out.le hlt
      have q0 := HW.out.q0 hlt
      have q1 := HW.out.q1 hlt
      have hps := pre_succ (quo t s (wt zs)) j
      have pa : partRow (quo t s (wt zs)) j j = .int .i64 0 := by unfold partRow; rw [if_neg (by omega)]
      have pb : restRow (rst t s (wt zs)) j j = .int .u64 0 := by unfold restRow; rw [if_neg (by omega)]
      rw [pa] at ca
      rw [pb] at cb
      have hqd : t * zs.getD j 0 / s = quo t s (wt zs) j := rfl
      have hrd : t * zs.getD j 0 % s = rst t s (wt zs) j := rfl
      have HQD := Lib.hid hqd
      have HRD := Lib.hid hrd
      clear hc hbw pa pb hqd hrd e2
      generalize hq : quo t s (wt zs) j = q at *
      generalize hr : rst t s (wt zs) j = r at *
      have HQ := Lib.hid hq
      have HR := Lib.hid hr
      have HPS := Lib.hid hps
      clear hq hr hps
      generalize zs.getD j 0 = x at *
      generalize pre (quo t s (wt zs)) j = y at *
      go_wp2_with fail
      refine (quotient_any t x s _ t0 t1 x0 x1 s0 s1).mono ?_
      rw [HQD.out, HRD.out]
      rintro e w' ⟨rfl, m, rfl⟩
      go_wp2_with fail
      go_roundw
      case rel => exact ⟨j + 1, hlt, by go_num, congrArg (Value.int IntKind.i64) (by rw [HPS.out]; omega), qState_step (qState_drewN HS.out m) HQ.out HR.out⟩
      case measure => simp [intOf]; omega
    · obtain rfl : j = zs.length := by omega
      obtain ⟨wq, rfl⟩ : ∃ wq : World, wq = wr := ⟨_, rfl⟩
      obtain ⟨l0, l1⟩ := HW.out.left_bd
      obtain ⟨L, hL⟩ : ∃ L : Nat, lft t s (wt zs) zs.length = L := ⟨(lft t s (wt zs) zs.length).toNat, by omega⟩
      have hL' : t - pre (quo t s (wt zs)) zs.length = L := hL
      have HL := Lib.hid hL
      have Ln : L ≤ zs.length := by omega
      have HRS : Hid (Ints wq wq.heap.size .u64 (.slice (some ⟨w1.heap.size + 1, 0, none⟩) zs.length zs.length) (rsL t s zs)) :=
        ints_of_row (rsL_len t s zs) (by omega) HS.out.rests (fun i hi => by unfold restRow; rw [if_pos hi, rsL_at t s zs hi]) _
      have HCall := Lib.hid (greatest_n HM.out (rsL t s zs) _ wq.heap.size wq (Nat.le_refl _) HRS.out (by rw [rsL_len]; exact hlen) zs.length (rsL_len t s zs))
      clear l0 l1 hL b0 b1
      go_wp2_with fail
      have hcc := HCall.out
      refine hcc.mono ?_
      clear hcc HCall
      rintro e w2 ⟨g, Q, rfl, hr1, hq1, hs1, hb1, hg1⟩
      have HPL : Hid (Places t s zs Q) := ⟨hq1, hs1⟩
      have hst : Hid (BState t s zs Q w1 g 0 w2) := bState_start HS.out hr1 hb1 hg1
      clear hr1 hq1 hs1 hb1 hg1 HS HRS
      go_wp2_with fail
      go_loopw [69] (fun x wr => ∃ k : Nat, k ≤ L ∧ x = .int .i64 k ∧ Hid (BState t s zs Q w1 g k wr)) (fun x _ => L - (intOf x).toNat)
      case atStart => exact ⟨0, Nat.zero_le _, rfl, hst.out⟩
      case round =>
        obtain ⟨k, hk, rfl, HS⟩ := hrel
        clear hL' hst
        by_cases hkl : k < L
        · have hpl : Q k < zs.length := place_lt HPL.out.re (by omega)
          have cp := HS.out.places.cell (i := k) (by omega)
          have ca := HS.out.parts.cell hpl
          have fa := HS.out.parts.frozen (Q k)
          have la := HS.out.parts.lt
          have q0 := HW.out.q0 hpl
          have q1 := HW.out.q1 hpl
          have hbn := bump_new HPL.out.re k
          unfold rowE at cp
          unfold bumpRow at ca
          rw [hbn, Int.add_zero] at ca
          have p0 : (0 : Int) ≤ (Q k : Nat) := by omega
          clear hbn
          generalize hp : Q k = p at *
          generalize hq : quo t s (wt zs) p = q at *
          have HP' := Lib.hid hp
          have HQ' := Lib.hid hq
          clear hp hq
          go_wp2_with fail
          go_roundw
          case rel => exact ⟨k + 1, hkl, by go_num, bState_step HS.out HP'.out HQ'.out⟩
          case measure => simp [intOf]; omega
        · obtain rfl : k = L := by omega
          go_wp2_with fail
          go_ret2
          exact ⟨Q, _, rfl, HPL.out, bState_end HS.out HL.out hl, below_via HB.out HS.out.below⟩
end Go.Proofs.Ytbdcinecdigjgaa.Share
