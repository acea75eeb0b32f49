/- What share.Fill and the document's own Fill tell, at any total and any rooms. -/
import Derived.Test.YtbdcinecdigjgaaFit
import Derived.Test.YtbdcinecdigjgaaWakes
import Derived.Deep.OwnRows
import Derived.Lib.Hide
namespace Go.Proofs.Ytbdcinecdigjgaa.Share
open Go.ChangeShapes Go.WideShapes Go.ChangeAt Go.RowKit Bits Money Slice Law

/-- What is left ahead of room j. -/
def fRest (t : Int) (zs : List Int) : Nat → Int
  | 0 => t
  | j + 1 => fRest t zs j - min (zs.getD j 0) (fRest t zs j)
/-- What goes into room j. -/
def fPart (t : Int) (zs : List Int) (j : Nat) : Int := min (zs.getD j 0) (fRest t zs j)
theorem fRest_succ (t : Int) (zs : List Int) (j : Nat) : fRest t zs (j + 1) = fRest t zs j - fPart t zs j := rfl
def fParts (t : Int) (zs : List Int) : List Int := (List.range zs.length).map (fPart t zs)

theorem ok_at {zs : List Int} (h : allB zs = true) {j : Nat} (hj : j < zs.length) : 0 ≤ zs.getD j 0 ∧ zs.getD j 0 ≤ 10000000000000 := by
  rw [← okB_iff]; exact (allB_to zs).1 h j hj
theorem fRest_bd {t : Int} {zs : List Int} (ht : okB t = true) (h : allB zs = true) : ∀ j, j ≤ zs.length → 0 ≤ fRest t zs j ∧ fRest t zs j ≤ 10000000000000
  | 0, _ => (okB_iff t).1 ht
  | j + 1, hj => by
    have ih := fRest_bd ht h j (by omega)
    have hz := ok_at h (j := j) (by omega)
    rw [fRest_succ]
    unfold fPart
    omega

/-- A row of parts, filled up to j. -/
def partRow (f : Nat → Int) (j : Nat) (i : Nat) : Value := .int .i64 (if i < j then f i else 0)
theorem partRow_step {w : World} {b : Nat} {t : TypeId} {n j : Nat} {f : Nat → Int} (h : (w.setCell ⟨b, j, none⟩ (.int .i64 (f j))).rowIs b t n (fun i => if i = j then .int .i64 (f j) else partRow f j i)) :
    (w.setCell ⟨b, j, none⟩ (.int .i64 (f j))).rowIs b t n (partRow f (j + 1)) :=
  h.congr fun i _ => by
    unfold partRow
    by_cases e : i = j
    · subst e; rw [if_pos rfl, if_pos (by omega)]
    · rw [if_neg e]
      by_cases h1 : i < j
      · rw [if_pos h1, if_pos (by omega)]
      · rw [if_neg h1, if_neg (by omega)]

theorem i64_info : (Try.prog.info? 2).map (fun i => (i.zero, i.size, i.bytes)) = some (some (.int .i64 0), 1, 8) := by kernel_rfl

theorem ints_of_row {w : World} {g : Nat} {t : TypeId} {n : Nat} {k : IntKind} {f : Nat → Value} {zs : List Int} (hn : zs.length = n) (hm : n ≤ 9223372036854775807) (h : w.rowIs g t n f) (hf : ∀ i, i < n → f i = .int k (zs.getD i 0)) (c : Nat) :
    Ints w w.heap.size k (.slice (some ⟨g, 0, none⟩) n c) zs := by
  subst hn
  refine ⟨some ⟨g, 0, none⟩, c, rfl, hm, fun h => (by cases h), fun h0 => ⟨g, 0, rfl, h.lt, fun i hi => ?_⟩⟩
  rw [Nat.zero_add, h.cell hi, hf i hi]

theorem parts_row {w : World} {g : Nat} {t : TypeId} {zs : List Int} {f : Nat → Int} (hm : zs.length ≤ 9223372036854775807) (h : w.rowIs g t zs.length (partRow f zs.length)) :
    Ints w w.heap.size .i64 (.slice (some ⟨g, 0, none⟩) zs.length zs.length) ((List.range zs.length).map f) :=
  ints_of_row (by simp) hm h (fun i hi => by simp [partRow, hi, List.getD_eq_getElem?_getD]) _

def Filled (t : Int) (zs : List Int) (w : World) (e : Ending) (w' : World) : Prop :=
  ∃ v, e = .returned (.tuple #[v, .int .i64 (fRest t zs zs.length), .int .i64 0]) ∧ Ints w' w'.heap.size .i64 v (fParts t zs) ∧ Below w.heap.size w w'
def FillNot (w : World) (e : Ending) (w' : World) : Prop := e = .returned (.tuple #[.slice none 0 0, .int .i64 0, .int .i64 1]) ∧ w = w'

theorem fill_not (t : Int) (zs : List Int) (v : Value) (B : Nat) (w : World) (hv : Ints w B .i64 v zs) (h : fitB t zs = false) :
    Calls Try.prog 12 #[.int .i64 t, v] w (FillNot w) := by
  have HV := Lib.hid hv
  have H := Lib.hid h
  clear hv h
  go_enter Try.func12, Try.ntmps12
  go_wp2_with fail
  refine (fit_any t zs v B _ HV.out).mono ?_
  rw [H.out]
  rintro e w' ⟨rfl, rfl⟩
  go_wp2_with fail
  go_ret3
  exact ⟨rfl, rfl⟩

set_option maxHeartbeats 400000 in
theorem fill_yes (t : Int) (zs : List Int) (v : Value) (B : Nat) (w : World) (hB : B ≤ w.heap.size) (hv : Ints w B .i64 v zs) (h : fitB t zs = true) :
    Calls Try.prog 12 #[.int .i64 t, v] w (Filled t zs w) := by
  obtain ⟨hlen, ht, hall⟩ := (fitB_iff t zs).1 h
  obtain ⟨A, c, rfl, hl, hn, hc⟩ := hv
  have HV : Hid (Ints w B .i64 (.slice A zs.length c) zs) := ⟨A, c, rfl, hl, hn, hc⟩
  have hmk := fun W : World => run_make_row' (P := Try.prog) 22 2 (.int .i64 0) 8 Try.underlying22 i64_info rfl .i64 .i64 zs.length (by omega) (by omega) W
  have H := Lib.hid h
  have HT := Lib.hid ht
  have HA := Lib.hid hall
  clear hn hc h ht hall
  go_enter Try.func12, Try.ntmps12
  go_wp2_with fail
  refine (fit_any t zs _ B _ HV.out).mono ?_
  rw [H.out]
  rintro e w' ⟨rfl, rfl⟩
  go_wp2_with fail
  go_loopw [5, 19] (fun s5 s19 wr => ∃ j : Nat, j ≤ zs.length ∧ s19 = .int .i64 j ∧ s5 = .int .i64 (fRest t zs j) ∧ wr.rowIs w.heap.size 2 zs.length (partRow (fPart t zs) j) ∧ Below w.heap.size w wr) (fun _ s19 _ => zs.length - (intOf s19).toNat)
  case atStart => exact ⟨0, Nat.zero_le _, rfl, rfl, (World.rowIs_made w (.int .i64 0) zs.length 2).congr fun i _ => rfl, (Below.refl _ _).alloc (Nat.le_refl _) _⟩
  case round =>
    obtain ⟨j, hj, rfl, rfl, hrow, hb⟩ := hrel
    clear hmk
    have HROW := Lib.hid hrow
    have HB := Lib.hid hb
    obtain ⟨r0, r1⟩ := fRest_bd HT.out HA.out j hj
    by_cases hlt : j < zs.length
    · obtain ⟨A', c', e1, -, -, hc⟩ := HV.out
      injection e1 with e1 e2 e3
      subst e1
      subst e3
      obtain ⟨b, off, rfl, hbB, hc⟩ := hc (by omega)
      have hx := (hb.cell (p := ⟨b, off + j, none⟩) (by show b < _; omega)).trans (hc j hlt)
      have hp := hrow.cell hlt
      have hf := hrow.frozen j
      obtain ⟨x0, x1⟩ := ok_at HA.out hlt
      have hs := fRest_succ t zs j
      have hd : fPart t zs j = min (zs.getD j 0) (fRest t zs j) := rfl
      have ho := hrow.lt
      have hpv : partRow (fPart t zs) j j = .int .i64 0 := by unfold partRow; rw [if_neg (by omega)]
      rw [hpv] at hp
      clear hrow hb hc hpv
      generalize zs.getD j 0 = x at *
      generalize fRest t zs j = r at *
      generalize hq : fPart t zs j = q at *
      have HS := Lib.hid hs
      have HQ := Lib.hid hq
      clear hs hq
      by_cases hm : x ≤ r
      · obtain rfl : q = x := by omega
        clear hd
        go_wp2_with fail
        go_roundw
        case rel =>
          have h := (HROW.out.set j (.int .i64 q))
          rw [← HQ.out] at h ⊢
          exact ⟨j + 1, by omega, by go_num, by rw [HS.out, HQ.out], partRow_step h, HB.out.setCell (Nat.le_refl _) _⟩
        case measure => simp [intOf]; omega
      · obtain rfl : q = r := by omega
        clear hd
        go_wp2_with fail
        go_roundw
        case rel =>
          have h := (HROW.out.set j (.int .i64 q))
          rw [← HQ.out] at h ⊢
          exact ⟨j + 1, by omega, by go_num, by rw [HS.out]; exact congrArg (Value.int IntKind.i64) (by omega), partRow_step h, HB.out.setCell (Nat.le_refl _) _⟩
        case measure => simp [intOf]; omega
    · obtain rfl : j = zs.length := by omega
      clear hrow hb
      go_wp2_with fail
      go_ret3
      exact ⟨_, rfl, parts_row (by omega) HROW.out, HB.out⟩

def fillV (t : Int) (zs : List Int) : Int := if fitB t zs = true then fRest t zs zs.length else 0
def fillE (t : Int) (zs : List Int) : Int := if fitB t zs = true then 0 else 1
def fillL (t : Int) (zs : List Int) : List Int := if fitB t zs = true then fParts t zs else []
theorem fillL_len {t : Int} {zs : List Int} (h : fitB t zs = true) : (fillL t zs).length = zs.length := by unfold fillL; rw [if_pos h]; simp [fParts]
/-- Whatever Fill is given. -/
def Fills (t : Int) (zs : List Int) (w : World) (e : Ending) (w' : World) : Prop :=
  ∃ v, e = .returned (.tuple #[v, .int .i64 (fillV t zs), .int .i64 (fillE t zs)]) ∧ Ints w' w'.heap.size .i64 v (fillL t zs) ∧ Below w.heap.size w w'

theorem fill_any (t : Int) (zs : List Int) (v : Value) (B : Nat) (w : World) (hB : B ≤ w.heap.size) (hv : Ints w B .i64 v zs) :
    Calls Try.prog 12 #[.int .i64 t, v] w (Fills t zs w) := by
  unfold Fills fillV fillE fillL
  cases h : fitB t zs with
  | true => exact (fill_yes t zs v B w hB hv h).mono fun _ _ h => h
  | false =>
    refine (fill_not t zs v B w hv h).mono fun e w' h => ?_
    obtain ⟨rfl, rfl⟩ := h
    exact ⟨_, rfl, Ints.nil_ _ _ _, Below.refl _ _⟩
end Go.Proofs.Ytbdcinecdigjgaa.Share
