/- The program's own package pack: what it does, whatever is put and asked. -/
import Derived.Test.YtndmimmkjccgmaaPackOwn7
namespace Go.Proofs.Ytndmimmkjccgmaa.Pack
open Go.ChangeShapes Go.WideShapes Go.ChangeAt Go.RowKit

/-- At v stands an opener of these blocks that holds o. -/
def OpAt (w : World) (F : Nat → Prop) (v : Value) (o : OSt) : Prop :=
  ∃ k : Nat, v = .pointer (some ⟨k, 0, none⟩) ∧ F k ∧ (∀ i, F i → i < w.heap.size) ∧ (∃ r, Left w k r o.bad ∧ (o.bad = false → r = o.s.extract o.at_ o.s.size)) ∧ o.at_ ≤ o.s.size ∧ o.s.size ≤ 200000
theorem OpAt.lt {w : World} {F : Nat → Prop} {v : Value} {o : OSt} (h : OpAt w F v o) : ∀ i, F i → i < w.heap.size := by
  obtain ⟨k, -, -, h, -⟩ := h
  exact h
theorem OpAt.keep {w w' : World} {F : Nat → Prop} {v : Value} {o : OSt} (h : OpAt w F v o) (hs : w.heap.size ≤ w'.heap.size) (hk : ∀ i, F i → w'.heap[i]? = w.heap[i]?) : OpAt w' F v o := by
  obtain ⟨k, h1, h2, h3, ⟨r, h4, h5⟩, h6⟩ := h
  exact ⟨k, h1, h2, fun i hi => Nat.lt_of_lt_of_le (h3 i hi) hs, ⟨r, h4.of_block (hk k h2), h5⟩, h6⟩
/-- What becomes of an opener that is asked. -/
theorem op_next {w w' : World} {F : Nat → Prop} {k : Nat} {o' : OSt} {r : ByteArray} (h2 : F k) (h3 : ∀ i, F i → i < w.heap.size) (hO : Only (fun i => i = k) w w') (hL : Left w' k r o'.bad) (hr : o'.bad = false → r = o'.s.extract o'.at_ o'.s.size) (ha : o'.at_ ≤ o'.s.size ∧ o'.s.size ≤ 200000) :
    ∃ F', OpAt w' F' (.pointer (some ⟨k, 0, none⟩)) o' ∧ Only F w w' ∧ (∀ i, F' i → F i ∨ w.heap.size ≤ i) :=
  ⟨F, ⟨k, rfl, h2, fun i hi => Nat.lt_of_lt_of_le (h3 i hi) hO.size, ⟨r, hL, hr⟩, ha⟩, ⟨hO.os, hO.tape, hO.output, hO.size, fun i hi hf => hO.block i hi (fun e => hf (by rw [show i = k from e]; exact h2))⟩, fun i hi => Or.inl hi⟩
theorem enter_onum (args : Array Value) (w : World) : (callFunc 36 args).run Try.prog w = .ok (.enter 36 args) w := by simp [go_sem]
theorem enter_otext (args : Array Value) (w : World) : (callFunc 33 args).run Try.prog w = .ok (.enter 33 args) w := by simp [go_sem]
theorem take_num {k a b : Nat} {n : Int} {w : World} {R : Ending → World → Prop} (ha : w.cell? ⟨a, 0, none⟩ = some (.pointer (some ⟨k, 0, none⟩))) (hb : w.cell? ⟨b, 0, none⟩ = some (.int .i64 n))
    (h : Calls Try.prog 37 #[.pointer (some ⟨k, 0, none⟩), .int .i64 n] w R) (hR : ∀ e w', R e w' → ∃ x y, e = .returned (.int .u64 x) ∨ e = .panicked y) :
    Calls Try.prog 36 #[.pointer (some ⟨a, 0, none⟩), .pointer (some ⟨b, 0, none⟩)] w R := by
  have HR := Lib.hid hR
  clear hR
  go_enter Try.func36, Try.ntmps36
  go_wp2_with fail
  refine h.mono ?_
  intro e w' hr
  obtain ⟨x, y, he⟩ := HR.out _ _ hr
  rcases he with rfl | rfl
  · go_wp2_with fail
    exact hr
  · go_wp2_with fail
    exact ⟨rfl, hr⟩
theorem take_text {k a b : Nat} {n : Int} {w : World} {R : Ending → World → Prop} (ha : w.cell? ⟨a, 0, none⟩ = some (.pointer (some ⟨k, 0, none⟩))) (hb : w.cell? ⟨b, 0, none⟩ = some (.int .i64 n))
    (h : Calls Try.prog 34 #[.pointer (some ⟨k, 0, none⟩), .int .i64 n] w R) (hR : ∀ e w', R e w' → ∃ x y, e = .returned (.string x) ∨ e = .panicked y) :
    Calls Try.prog 33 #[.pointer (some ⟨a, 0, none⟩), .pointer (some ⟨b, 0, none⟩)] w R := by
  have HR := Lib.hid hR
  clear hR
  go_enter Try.func33, Try.ntmps33
  go_wp2_with fail
  refine h.mono ?_
  intro e w' hr
  obtain ⟨x, y, he⟩ := HR.out _ _ hr
  rcases he with rfl | rfl
  · go_wp2_with fail
    exact hr
  · go_wp2_with fail
    exact ⟨rfl, hr⟩
theorem op_open (s : ByteArray) (w : World) (hs : s.size ≤ 200000) :
    Calls Try.prog 16 #[.string s] w fun e w' => ∃ a, e = .returned (.pointer (some a)) ∧ ∃ F, OpAt w' F (.pointer (some a)) ⟨s, 0, false⟩ ∧ Below w.heap.size w w' ∧ (∀ i, F i → w.heap.size ≤ i) := by
  have R := Lib.hid (World.rowIs_alloc w #[.string s, .bool false] 63 (opcell s false) (fun i hi => by
      match i, hi with
      | 0, _ | 1, _ => rfl))
  go_enter Try.func16, Try.ntmps16
  go_wp2_with fail
  go_ret
  refine ⟨_, rfl, fun i => i = w.heap.size, ⟨w.heap.size, rfl, rfl, fun i hi => by simp [hi], ⟨s, R.out, fun _ => ?_⟩, Nat.zero_le _, hs⟩, below_one w _, fun i hi => by rw [hi]; exact Nat.le_refl _⟩
  apply ByteArray.ext
  simp
theorem op_done (o : OSt) (a : Addr) (F : Nat → Prop) (w : World) (hp : OpAt w F (.pointer (some a)) o) :
    Calls Try.prog 21 #[.pointer (some a)] w fun e w' => e = .returned (.bool (!o.bad && decide (o.at_ = o.s.size))) ∧ ∃ F', OpAt w' F' (.pointer (some a)) o ∧ Only F w w' ∧ (∀ i, F' i → F i ∨ w.heap.size ≤ i) := by
  have HP := Lib.hid hp
  obtain ⟨k, h1, h2, h3, ⟨r, h4, h5⟩, h6, h7⟩ := hp
  obtain rfl : a = ⟨k, 0, none⟩ := by injection h1 with h1; injection h1
  have c0 : w.cell? ⟨k, 0, none⟩ = some (.string r) := h4.cell (i := 0) (by omega)
  have c1 : w.cell? ⟨k, 1, none⟩ = some (.bool o.bad) := h4.cell (i := 1) (by omega)
  have END : ∃ F', OpAt w F' (.pointer (some ⟨k, 0, none⟩)) o ∧ Only F w w ∧ (∀ i, F' i → F i ∨ w.heap.size ≤ i) := ⟨F, HP.out, Only.refl _ _, fun i hi => Or.inl hi⟩
  have END := Lib.hid END
  cases hb : o.bad
  · have hr := h5 hb
    have hsz : r.size = o.s.size - o.at_ := by rw [hr, ByteArray.size_extract]; omega
    have H : Hid ((!false && decide (o.at_ = o.s.size)) = r.toList.isEmpty) := show _ = _ by
      rw [Bool.not_false, Bool.true_and]
      by_cases h0 : o.at_ = o.s.size
      · have : r = ⟨#[]⟩ := by
          apply ByteArray.ext
          exact Array.eq_empty_of_size_eq_zero (by show r.size = 0; omega)
        rw [decide_eq_true h0, this, ByteArray.toList_eq]; rfl
      · rw [decide_eq_false h0]
        symm
        rw [ByteArray.toList_eq, List.isEmpty_eq_false_iff]
        intro e
        have : r.data.toList.length = 0 := by rw [e]; rfl
        rw [Array.length_toList] at this
        exact h0 (by have : r.size = 0 := this; omega)
    rw [H.out]
    rw [hb] at c1
    clear h1 h2 h3 h4 h5 h6 h7 hr hsz HP
    go_enter Try.func21, Try.ntmps21
    go_wp2_with fail
    go_ret
    exact ⟨rfl, END.out⟩
  · rw [hb] at c1
    clear h1 h2 h3 h4 h5 h6 h7 HP
    go_enter Try.func21, Try.ntmps21
    go_wp2_with fail
    go_ret
    exact ⟨rfl, END.out⟩
theorem op_nil_done (w : World) : Calls Try.prog 21 #[.pointer none] w fun e w' => e = .returned (.bool false) ∧ Below w.heap.size w w' := by
  go_enter Try.func21, Try.ntmps21
  go_wp2_with fail
  go_ret
  exact ⟨rfl, Below.refl _ _⟩
theorem op_nil_num (n : Int) (w : World) (_ : -9223372036854775808 ≤ n ∧ n ≤ 9223372036854775807) : Calls Try.prog 19 #[.pointer none, .int .i64 n] w fun e w' => e = .returned (.int .u64 0) ∧ Below w.heap.size w w' := by
  have hmf := make_fn
  go_enter Try.func19, Try.ntmps19
  go_wp2_with fail
  refine (next_nil_num _ _).mono ?_
  rintro e w' ⟨rfl, hb⟩
  have R : Hid (Below w.heap.size w w') := show Below _ _ _ from ((below_one w _).alloc (by simp) _).trans (hb.mono (by simp; omega))
  clear hb
  go_wp2_with fail
  go_ret
  exact ⟨rfl, R.out⟩
theorem op_nil_text (n : Int) (w : World) (_ : -9223372036854775808 ≤ n ∧ n ≤ 9223372036854775807) : Calls Try.prog 17 #[.pointer none, .int .i64 n] w fun e w' => e = .returned (.string ⟨#[]⟩) ∧ Below w.heap.size w w' := by
  have hmf := make_fn
  go_enter Try.func17, Try.ntmps17
  go_wp2_with fail
  refine (next_nil_text _ _).mono ?_
  rintro e w' ⟨rfl, hb⟩
  have R : Hid (Below w.heap.size w w') := show Below _ _ _ from ((below_one w _).alloc (by simp) _).trans (hb.mono (by simp; omega))
  clear hb
  go_wp2_with fail
  go_ret
  exact ⟨rfl, R.out⟩
/-- The world in which next is called: two boxes behind all. -/
def twoBoxes (w : World) (k : Nat) (n : Int) : World := (w.alloc (.cells #[.pointer (some ⟨k, 0, none⟩)] 42)).alloc (.cells #[.int .i64 n] 3)
theorem two_below (w : World) (k : Nat) (n : Int) : Below w.heap.size w (twoBoxes w k n) := (below_one w _).alloc (by simp) _
theorem two_a (w : World) (k : Nat) (n : Int) : (boxed (twoBoxes w k n) k).cell? ⟨w.heap.size, 0, none⟩ = some (.pointer (some ⟨k, 0, none⟩)) := by unfold boxed twoBoxes; simp [go_sem]
theorem two_b (w : World) (k : Nat) (n : Int) : (boxed (twoBoxes w k n) k).cell? ⟨w.heap.size + 1, 0, none⟩ = some (.int .i64 n) := by unfold boxed twoBoxes; simp [go_sem]
theorem two_size (w : World) (k : Nat) (n : Int) : (boxed (twoBoxes w k n) k).heap.size = w.heap.size + 3 := by unfold boxed twoBoxes; simp
theorem Only.inner {k : Nat} {w W w' : World} (h : Only (fun i => i = k) W w') (hb : Below w.heap.size w W) : Only (fun i => i = k) w w' := h.after hb
theorem ext_ext (s : ByteArray) (a i j : Nat) (ha : a ≤ s.size) (hj : j ≤ s.size - a) : (s.extract a s.size).extract i j = s.extract (a + i) (a + j) := by
  apply ByteArray.ext
  rw [ByteArray.data_extract, ByteArray.data_extract, ByteArray.data_extract, Array.extract_extract]
  congr 1
  have : s.data.size = s.size := rfl
  omega
theorem byteN_ext {s : ByteArray} {a j i : Nat} (hj : j ≤ s.size) (hi : a + i < j) : byteN (s.extract a j) i = byteN s (a + i) := by
  have h1 : i < (s.extract a j).size := by rw [ByteArray.size_extract]; omega
  have h2 : a + i < s.size := by omega
  rw [← byteN_at h1, ← byteN_at h2]
  simp [ByteArray.getElem_extract]
theorem valN_ext {s : ByteArray} {a j : Nat} (hj : j ≤ s.size) : ∀ (n i : Nat), a + i + n ≤ j → valN (s.extract a j) i n = valN s (a + i) n
  | 0, _, _ => rfl
  | n + 1, i, h => by
    show byteN (s.extract a j) i + 256 * valN (s.extract a j) (i + 1) n = byteN s (a + i) + 256 * valN s (a + i + 1) n
    rw [byteN_ext hj (by omega), valN_ext hj n (i + 1) (by omega), show a + (i + 1) = a + i + 1 by omega]
theorem op_num (o : OSt) (n : Int) (a : Addr) (F : Nat → Prop) (w : World) (hp : OpAt w F (.pointer (some a)) o) (_ : -9223372036854775808 ≤ n ∧ n ≤ 9223372036854775807) :
    Calls Try.prog 19 #[.pointer (some a), .int .i64 n] w fun e w' => e = .returned (.int .u64 ((o.num n).1 : Int)) ∧ ∃ F', OpAt w' F' (.pointer (some a)) (o.num n).2 ∧ Only F w w' ∧ (∀ i, F' i → F i ∨ w.heap.size ≤ i) := by
  obtain ⟨k, h1, h2, h3, ⟨r, h4, h5⟩, h6, h7⟩ := hp
  obtain rfl : a = ⟨k, 0, none⟩ := by injection h1 with h1; injection h1
  have hmf := make_fn
  have X : Calls Try.prog 35 #[.pointer (some ⟨k, 0, none⟩), .func (.func 36) #[] #[.pointer (some ⟨w.heap.size, 0, none⟩), .pointer (some ⟨w.heap.size + 1, 0, none⟩)]] (twoBoxes w k n) fun e w' =>
      e = .returned (.int .u64 ((o.num n).1 : Int)) ∧ ∃ F', OpAt w' F' (.pointer (some ⟨k, 0, none⟩)) (o.num n).2 ∧ Only F w w' ∧ (∀ i, F' i → F i ∨ w.heap.size ≤ i) := by
    have hL2 : Left (twoBoxes w k n) k r o.bad := h4.new (two_below w k n)
    have hB : Below w.heap.size w (boxed (twoBoxes w k n) k) := (two_below w k n).trans ((boxed_below _ k).mono (two_below w k n).size)
    have hL3 : Left (boxed (twoBoxes w k n) k) k r o.bad := h4.new hB
    cases hb : o.bad
    · have hr := h5 hb
      rw [hb] at hL2 hL3 h4
      have hsz : r.size = o.s.size - o.at_ := by rw [hr, ByteArray.size_extract]; omega
      cases hs : o.hasNum n
      · have H : o.num n = (0, o.spoil) := by unfold OSt.num; rw [hs]; rfl
        rw [H]
        have hbad : sizedB n = false ∨ (r.size : Int) < n := by
          unfold OSt.hasNum at hs
          rw [hb, Bool.not_false, Bool.true_and] at hs
          cases h8 : sizedB n
          · exact Or.inl rfl
          · rw [h8, Bool.true_and] at hs
            have := of_decide_eq_false hs
            right; omega
        refine (next_bad_num _ _ k r _ enter_onum hL2 (take_num (two_a w k n) (two_b w k n) ((p_onumber_bad k n r _ hL3 hbad).mono fun e w' h => ⟨11, r, h.1, h.2 ▸ hL3, h.2 ▸ Only.refl _ _⟩) (fun e w' h => by
          obtain ⟨x, r', he, -⟩ := h
          exact ⟨0, _, Or.inr he⟩))).mono ?_
        rintro e w' ⟨rfl, hL, hO⟩
        exact ⟨rfl, op_next h2 h3 (hO.after (two_below w k n)) hL (fun h => by simp [OSt.spoil] at h) ⟨h6, h7⟩⟩
      · have hs' : sizedB n = true ∧ n ≤ (o.s.size : Int) - o.at_ := by
          unfold OSt.hasNum at hs
          simp only [Bool.and_eq_true] at hs
          exact ⟨hs.1.2, of_decide_eq_true hs.2⟩
        have hm : ∃ m : Nat, n = m := by
          rcases (of_decide_eq_true hs'.1 : n = 1 ∨ n = 2 ∨ n = 4 ∨ n = 8) with rfl | rfl | rfl | rfl
          · exact ⟨1, rfl⟩
          · exact ⟨2, rfl⟩
          · exact ⟨4, rfl⟩
          · exact ⟨8, rfl⟩
        obtain ⟨m, rfl⟩ := hm
        have H : o.num m = (valN o.s o.at_ m, ⟨o.s, o.at_ + m, false⟩) := by unfold OSt.num; rw [hs]; rfl
        rw [H]
        have hmr : m ≤ r.size := by omega
        have hv : valN (r.extract 0 m) 0 m = valN o.s o.at_ m := by
          rw [hr, ext_ext _ _ _ _ h6 (by omega), valN_ext (by omega) m 0 (by omega)]
          simp
        have hrest : r.extract m r.size = o.s.extract (o.at_ + m) o.s.size := by
          rw [hsz, hr, ext_ext _ _ _ _ h6 (by omega)]
          congr 1
          omega
        refine (next_ok_num _ _ _ (fun w' => Left w' k (r.extract m r.size) false ∧ Only (fun i => i = k) (boxed (twoBoxes w k m) k) w') k r _ enter_onum hL2 (take_num (two_a w k m) (two_b w k m) (p_onumber k m r _ hL3 hs'.1 hmr) (fun e w' h => ⟨_, [], Or.inl h.1⟩))).mono ?_
        rintro e w' ⟨rfl, hL, hO⟩
        rw [hv]
        exact ⟨rfl, op_next h2 h3 (hO.after hB) hL (fun _ => hrest) ⟨by show o.at_ + m ≤ o.s.size; omega, h7⟩⟩
    · have H : o.num n = (0, o.spoil) := by unfold OSt.num OSt.hasNum; rw [hb]; rfl
      rw [H]
      rw [hb] at hL2
      refine (next_spoilt_num _ k r _ hL2).mono ?_
      rintro e w' ⟨rfl, hb2⟩
      have hb3 : Below w.heap.size w w' := (two_below w k n).trans (hb2.mono (two_below w k n).size)
      rw [hb] at h4
      exact ⟨rfl, op_next h2 h3 (only_new hb3) (h4.new hb3) (fun h => by simp [OSt.spoil] at h) ⟨h6, h7⟩⟩
  have X := Lib.hid X
  unfold twoBoxes at X
  clear h1 h2 h3 h4 h5 h6 h7
  go_enter Try.func19, Try.ntmps19
  go_wp2_with fail
  refine X.out.mono ?_
  rintro e w' ⟨rfl, R⟩
  have R := Lib.hid R
  clear X
  go_wp2_with fail
  go_ret
  exact ⟨rfl, R.out⟩
set_option maxHeartbeats 1000000 in
theorem op_text (o : OSt) (n : Int) (a : Addr) (F : Nat → Prop) (w : World) (hp : OpAt w F (.pointer (some a)) o) (_ : -9223372036854775808 ≤ n ∧ n ≤ 9223372036854775807) :
    Calls Try.prog 17 #[.pointer (some a), .int .i64 n] w fun e w' => e = .returned (.string (o.text n).1) ∧ ∃ F', OpAt w' F' (.pointer (some a)) (o.text n).2 ∧ Only F w w' ∧ (∀ i, F' i → F i ∨ w.heap.size ≤ i) := by
  obtain ⟨k, h1, h2, h3, ⟨r, h4, h5⟩, h6, h7⟩ := hp
  obtain rfl : a = ⟨k, 0, none⟩ := by injection h1 with h1; injection h1
  have hmf := make_fn
  have X : Calls Try.prog 32 #[.pointer (some ⟨k, 0, none⟩), .func (.func 33) #[] #[.pointer (some ⟨w.heap.size, 0, none⟩), .pointer (some ⟨w.heap.size + 1, 0, none⟩)]] (twoBoxes w k n) fun e w' =>
      e = .returned (.string (o.text n).1) ∧ ∃ F', OpAt w' F' (.pointer (some ⟨k, 0, none⟩)) (o.text n).2 ∧ Only F w w' ∧ (∀ i, F' i → F i ∨ w.heap.size ≤ i) := by
    have hL2 : Left (twoBoxes w k n) k r o.bad := h4.new (two_below w k n)
    have hB : Below w.heap.size w (boxed (twoBoxes w k n) k) := (two_below w k n).trans ((boxed_below _ k).mono (two_below w k n).size)
    have hL3 : Left (boxed (twoBoxes w k n) k) k r o.bad := h4.new hB
    cases hb : o.bad
    · have hr := h5 hb
      rw [hb] at hL2 hL3 h4
      have hsz : r.size = o.s.size - o.at_ := by rw [hr, ByteArray.size_extract]; omega
      have hlen : 2 ≤ r.size → valN (r.extract 0 2) 0 2 = o.len := fun h => by
        rw [hr, ext_ext _ _ _ _ h6 (by omega), valN_ext (by omega) 2 0 (by omega)]
        show byteN o.s (o.at_ + 0 + 0) + 256 * (byteN o.s (o.at_ + 0 + 0 + 1) + 256 * 0) = byteN o.s o.at_ + 256 * byteN o.s (o.at_ + 1)
        simp
      have hsz2 : (r.extract 2 r.size).size = r.size - 2 := by rw [ByteArray.size_extract]; omega
      by_cases hs : o.at_ + 2 ≤ o.s.size ∧ (o.len : Int) ≤ n ∧ o.at_ + 2 + o.len ≤ o.s.size
      · have H := text_yes (most := n) hb hs
        rw [H]
        have hl := hlen (by omega)
        have O := p_otext k n r _ hL3 (by omega) (by rw [hl]; exact hs.2.1) (by rw [hl, hsz2]; omega) (by omega)
        rw [hl] at O
        have hv : (r.extract 2 r.size).extract 0 o.len = o.s.extract (o.at_ + 2) (o.at_ + 2 + o.len) := by
          rw [ext_ext _ _ _ _ (by omega) (by omega), hr, ext_ext _ _ _ _ h6 (by omega)]
          congr 1 <;> omega
        have hrest : (r.extract 2 r.size).extract o.len (r.extract 2 r.size).size = o.s.extract (o.at_ + 2 + o.len) o.s.size := by
          rw [hsz2, ext_ext _ _ _ _ (by omega) (by omega), show 2 + (r.size - 2) = o.s.size - o.at_ by omega, hr, ext_ext _ _ _ _ h6 (by omega)]
          congr 1 <;> omega
        refine (next_ok_text _ _ _ (fun w' => Left w' k ((r.extract 2 r.size).extract o.len (r.extract 2 r.size).size) false ∧ Only (fun i => i = k) (boxed (twoBoxes w k n) k) w') k r _ enter_otext hL2 (take_text (two_a w k n) (two_b w k n) O (fun e w' h => ⟨_, [], Or.inl h.1⟩))).mono ?_
        rintro e w' ⟨rfl, hL, hO⟩
        rw [hv]
        exact ⟨rfl, op_next h2 h3 (hO.after hB) hL (fun _ => hrest) ⟨by show o.at_ + 2 + o.len ≤ o.s.size; omega, h7⟩⟩
      · have H := text_not (most := n) (o := o) (Or.inr (by omega))
        rw [H]
        have O' : ¬ (2 ≤ r.size ∧ ((valN (r.extract 0 2) 0 2 : Nat) : Int) ≤ n ∧ valN (r.extract 0 2) 0 2 ≤ (r.extract 2 r.size).size) := by
          rintro ⟨a1, a2, a3⟩
          rw [hlen a1] at a2 a3
          rw [hsz2] at a3
          exact hs ⟨by omega, a2, by omega⟩
        have O := p_otext_bad k n r (boxed (twoBoxes w k n) k) hL3 O'
        refine (next_bad_text _ _ k r _ enter_otext hL2 (take_text (two_a w k n) (two_b w k n) O (fun e w' h => by
          obtain ⟨x, r', he, -⟩ := h
          exact ⟨⟨#[]⟩, _, Or.inr he⟩))).mono ?_
        rintro e w' ⟨rfl, hL, hO⟩
        exact ⟨rfl, op_next h2 h3 (hO.after (two_below w k n)) hL (fun h => by simp [OSt.spoil] at h) ⟨h6, h7⟩⟩
    · have H := text_not (most := n) (o := o) (Or.inl hb)
      rw [H]
      rw [hb] at hL2
      refine (next_spoilt_text _ k r _ hL2).mono ?_
      rintro e w' ⟨rfl, hb2⟩
      have hb3 : Below w.heap.size w w' := (two_below w k n).trans (hb2.mono (two_below w k n).size)
      rw [hb] at h4
      exact ⟨rfl, op_next h2 h3 (only_new hb3) (h4.new hb3) (fun h => by simp [OSt.spoil] at h) ⟨h6, h7⟩⟩
  have X := Lib.hid X
  unfold twoBoxes at X
  clear h1 h2 h3 h4 h5 h6 h7
  go_enter Try.func17, Try.ntmps17
  go_wp2_with fail
  refine X.out.mono ?_
  rintro e w' ⟨rfl, R⟩
  have R := Lib.hid R
  clear X
  go_wp2_with fail
  go_ret
  exact ⟨rfl, R.out⟩
end Go.Proofs.Ytndmimmkjccgmaa.Pack
