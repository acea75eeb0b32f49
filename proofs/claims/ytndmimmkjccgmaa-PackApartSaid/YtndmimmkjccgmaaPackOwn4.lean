/- The program's own Packer: Num, Text, at whatever is put. -/
import Derived.Test.YtndmimmkjccgmaaPackOwn3
namespace Go.Proofs.Ytndmimmkjccgmaa.Pack
open Go.ChangeShapes Go.WideShapes Go.ChangeAt Go.RowKit

theorem num_tells {v : Nat} {n : Int} {w : World} {k j : Nat} (hv : v < 18446744073709551616) (h : goesB v n = true) (hk : w.cell? ⟨k, 0, none⟩ = some (.int .u64 v)) (hj : w.cell? ⟨j, 0, none⟩ = some (.int .i64 n)) :
    Tells 29 #[.pointer (some ⟨k, 0, none⟩), .pointer (some ⟨j, 0, none⟩)] w (lowS v n.toNat) := by
  intro W hb
  have ck : W.cell? ⟨k, 0, none⟩ = some (.int .u64 v) := (hb.cell (p := ⟨k, 0, none⟩) (World.block_lt_of_cell? _ _ hk)).trans hk
  have cj : W.cell? ⟨j, 0, none⟩ = some (.int .i64 n) := (hb.cell (p := ⟨j, 0, none⟩) (World.block_lt_of_cell? _ _ hj)).trans hj
  have N := p_number v n W hv h
  clear hk hj hb h
  go_enter Try.func29, Try.ntmps29
  go_wp2_with fail
  refine N.mono ?_
  rintro e w' ⟨rfl, hb⟩
  go_wp2_with fail
  go_ret
  exact ⟨rfl, hb⟩
theorem num_fails {v : Nat} {n : Int} {w : World} {k j : Nat} (h : goesB v n = false) (hk : w.cell? ⟨k, 0, none⟩ = some (.int .u64 v)) (hj : w.cell? ⟨j, 0, none⟩ = some (.int .i64 n)) :
    Fails 29 #[.pointer (some ⟨k, 0, none⟩), .pointer (some ⟨j, 0, none⟩)] w 11 := by
  intro W hb
  have ck : W.cell? ⟨k, 0, none⟩ = some (.int .u64 v) := (hb.cell (p := ⟨k, 0, none⟩) (World.block_lt_of_cell? _ _ hk)).trans hk
  have cj : W.cell? ⟨j, 0, none⟩ = some (.int .i64 n) := (hb.cell (p := ⟨j, 0, none⟩) (World.block_lt_of_cell? _ _ hj)).trans hj
  have N := p_number_bad v n W h
  clear hk hj hb h
  go_enter Try.func29, Try.ntmps29
  go_wp2_with fail
  refine N.mono ?_
  rintro e w' ⟨rfl, rfl⟩
  go_wp2_with fail
  exact ⟨rfl, rfl, Below.refl _ _⟩
theorem text_tells {s : ByteArray} {w : World} {k : Nat} (h : s.size ≤ 65535) (hk : w.cell? ⟨k, 0, none⟩ = some (.string s)) :
    Tells 25 #[.pointer (some ⟨k, 0, none⟩)] w (lowS s.size 2 ++ s) := by
  intro W hb
  have ck : W.cell? ⟨k, 0, none⟩ = some (.string s) := (hb.cell (p := ⟨k, 0, none⟩) (World.block_lt_of_cell? _ _ hk)).trans hk
  have N := p_text s W h
  clear hk hb h
  go_enter Try.func25, Try.ntmps25
  go_wp2_with fail
  refine N.mono ?_
  rintro e w' ⟨rfl, hb⟩
  go_wp2_with fail
  go_ret
  exact ⟨rfl, hb⟩
theorem text_fails {s : ByteArray} {w : World} {k : Nat} (h : 65535 < s.size) (hk : w.cell? ⟨k, 0, none⟩ = some (.string s)) :
    Fails 25 #[.pointer (some ⟨k, 0, none⟩)] w 2 := by
  intro W hb
  have ck : W.cell? ⟨k, 0, none⟩ = some (.string s) := (hb.cell (p := ⟨k, 0, none⟩) (World.block_lt_of_cell? _ _ hk)).trans hk
  have N := p_text_bad s W h
  clear hk hb h
  go_enter Try.func25, Try.ntmps25
  go_wp2_with fail
  refine N.mono ?_
  rintro e w' ⟨rfl, rfl⟩
  go_wp2_with fail
  exact ⟨rfl, rfl, Below.refl _ _⟩
/-- What becomes of put: the packer p became q. -/
def Became (F : Nat → Prop) (g : Nat) (q : PSt) (w : World) (e : Ending) (w' : World) : Prop :=
  e = .returned (.tuple #[]) ∧ ∃ F', PkAt w' F' g q ∧ Only F w w' ∧ (∀ i, F' i → F i ∨ w.heap.size ≤ i)
/-- put, whatever the closure is. -/
theorem put_tells (Fn : FuncId) (cap : Array Value) (b : ByteArray) (p : PSt) (g : Nat) (F : Nat → Prop) (w : World) (hF : ∀ (args : Array Value) (w : World), (callFunc Fn args).run Try.prog w = .ok (.enter Fn args) w)
    (H : Tells Fn cap w b) (hp : PkAt w F g p) (hb0 : 0 < b.size) (hb : b.size ≤ 200000) :
    Calls Try.prog 24 #[.pointer (some ⟨g, 0, none⟩), .func (.func Fn) #[] cap] w (Became F g (p.put b) w) := by
  by_cases he : p.e = 0
  · by_cases hl : 60000 < p.s.size + b.size
    · have : p.put b = ⟨p.s, 2⟩ := by unfold PSt.put; rw [if_neg (by omega), if_pos hl]
      rw [this]
      exact put_long Fn cap b p g F w hF H hp he hb hl
    · have : p.put b = ⟨p.s ++ b, 0⟩ := by unfold PSt.put; rw [if_neg (by omega), if_neg hl]
      rw [this]
      exact p_put_ok Fn cap b p g F w hF H hp he hb0 (by omega)
  · have : p.put b = p := by unfold PSt.put; rw [if_pos he]
    rw [this]
    exact put_spoilt _ p g F w hp he
theorem put_fail (Fn : FuncId) (cap : Array Value) (x : Int) (p : PSt) (g : Nat) (F : Nat → Prop) (w : World) (hF : ∀ (args : Array Value) (w : World), (callFunc Fn args).run Try.prog w = .ok (.enter Fn args) w)
    (H : Fails Fn cap w x) (hx : x ≠ 0) (hp : PkAt w F g p) :
    Calls Try.prog 24 #[.pointer (some ⟨g, 0, none⟩), .func (.func Fn) #[] cap] w (Became F g (if p.e ≠ 0 then p else ⟨p.s, x⟩) w) := by
  by_cases he : p.e = 0
  · rw [if_neg (by omega)]
    exact put_fails Fn cap x p g F w hF H hx hp he
  · rw [if_pos he]
    exact put_spoilt _ p g F w hp he
theorem enter_num (args : Array Value) (w : World) : (callFunc 29 args).run Try.prog w = .ok (.enter 29 args) w := by simp [go_sem]
theorem enter_text (args : Array Value) (w : World) : (callFunc 25 args).run Try.prog w = .ok (.enter 25 args) w := by simp [go_sem]
theorem Became.after {F : Nat → Prop} {g : Nat} {q : PSt} {w w1 w2 : World} {e : Ending} (h : Became F g q w1 e w2) (hb : Below w.heap.size w w1) : Became F g q w e w2 := by
  obtain ⟨rfl, F', h1, h2, h3⟩ := h
  exact ⟨rfl, F', h1, h2.after hb, fun i hi => (h3 i hi).imp id (Nat.le_trans hb.size)⟩
theorem num_yes {v : Nat} {n : Int} (p : PSt) (h : goesB v n = true) : p.num v n = p.put (lowS v n.toNat) := by
  unfold PSt.num
  rw [if_pos h]
  by_cases he : p.e ≠ 0
  · rw [if_pos he]; unfold PSt.put; rw [if_pos he]
  · rw [if_neg he]
theorem num_no {v : Nat} {n : Int} (p : PSt) (h : goesB v n = false) : p.num v n = if p.e ≠ 0 then p else ⟨p.s, 11⟩ := by
  unfold PSt.num
  rw [h]; rfl
theorem text_yes' {t : ByteArray} (p : PSt) (h : t.size ≤ 65535) : p.text t = p.put (lowS t.size 2 ++ t) := by
  unfold PSt.text
  rw [if_neg (by omega : ¬ 65535 < t.size)]
  by_cases he : p.e ≠ 0
  · rw [if_pos he]; unfold PSt.put; rw [if_pos he]
  · rw [if_neg he]
theorem text_no {t : ByteArray} (p : PSt) (h : 65535 < t.size) : p.text t = if p.e ≠ 0 then p else ⟨p.s, 2⟩ := by
  unfold PSt.text
  rw [if_pos h]
theorem pk_num (p : PSt) (v : Nat) (n : Int) (g : Nat) (F : Nat → Prop) (w : World) (hp : PkAt w F g p) (hv : v < 18446744073709551616) (_ : -9223372036854775808 ≤ n ∧ n ≤ 9223372036854775807) :
    Calls Try.prog 12 #[.pointer (some ⟨g, 0, none⟩), .int .u64 v, .int .i64 n] w fun e w' => e = .returned (.tuple #[]) ∧ ∃ F', PkAt w' F' g (p.num v n) ∧ Only F w w' ∧ (∀ i, F' i → F i ∨ w.heap.size ≤ i) := by
  have hmf := make_fn
  have HP := Lib.hid hp
  clear hp
  obtain ⟨W, hW⟩ : ∃ W, W = (w.alloc (.cells #[.int .u64 v] 33)).alloc (.cells #[.int .i64 n] 3) := ⟨_, rfl⟩
  have B : Hid (Below w.heap.size w W) := show Below _ _ _ by rw [hW]; exact (below_one w _).alloc (by simp) _
  have ck : W.cell? ⟨w.heap.size, 0, none⟩ = some (.int .u64 v) := by rw [hW]; simp [go_sem]
  have cj : W.cell? ⟨w.heap.size + 1, 0, none⟩ = some (.int .i64 n) := by rw [hW]; simp [go_sem]
  have X : Calls Try.prog 24 #[.pointer (some ⟨g, 0, none⟩), .func (.func 29) #[] #[.pointer (some ⟨w.heap.size, 0, none⟩), .pointer (some ⟨w.heap.size + 1, 0, none⟩)]] W (Became F g (p.num v n) W) := by
    cases h : goesB v n
    · rw [num_no p h]
      exact put_fail _ _ 11 p g F W enter_num (num_fails h ck cj) (by decide) (pk_new HP.out B.out)
    · rw [num_yes p h]
      refine put_tells _ _ _ p g F W enter_num (num_tells hv h ck cj) (pk_new HP.out B.out) ?_ ?_
      all_goals
       rw [low_size]
       have := (of_decide_eq_true (by unfold goesB at h; rw [Bool.and_eq_true] at h; exact h.1) : n = 1 ∨ n = 2 ∨ n = 4 ∨ n = 8)
       omega
  rw [hW] at X
  have X := Lib.hid X
  rw [hW] at B
  clear ck cj hW
  go_enter Try.func12, Try.ntmps12
  go_wp2_with fail
  refine X.out.mono ?_
  intro e w' h
  have h := h.after B.out
  clear X B
  obtain ⟨rfl, R⟩ := h
  have R := Lib.hid R
  go_wp2_with fail
  go_returns
  exact ⟨rfl, R.out⟩
theorem pk_text (p : PSt) (t : ByteArray) (g : Nat) (F : Nat → Prop) (w : World) (hp : PkAt w F g p) (ht : t.size ≤ 200000) :
    Calls Try.prog 10 #[.pointer (some ⟨g, 0, none⟩), .string t] w fun e w' => e = .returned (.tuple #[]) ∧ ∃ F', PkAt w' F' g (p.text t) ∧ Only F w w' ∧ (∀ i, F' i → F i ∨ w.heap.size ≤ i) := by
  have hmf := make_fn
  have HP := Lib.hid hp
  clear hp
  obtain ⟨W, hW⟩ : ∃ W, W = w.alloc (.cells #[.string t] 9) := ⟨_, rfl⟩
  have B : Hid (Below w.heap.size w W) := show Below _ _ _ by rw [hW]; exact below_one w _
  have ck : W.cell? ⟨w.heap.size, 0, none⟩ = some (.string t) := by rw [hW]; simp [go_sem]
  have X : Calls Try.prog 24 #[.pointer (some ⟨g, 0, none⟩), .func (.func 25) #[] #[.pointer (some ⟨w.heap.size, 0, none⟩)]] W (Became F g (p.text t) W) := by
    by_cases h : 65535 < t.size
    · rw [text_no p h]
      exact put_fail _ _ 2 p g F W enter_text (text_fails h ck) (by decide) (pk_new HP.out B.out)
    · rw [text_yes' p (by omega)]
      refine put_tells _ _ _ p g F W enter_text (text_tells (by omega) ck) (pk_new HP.out B.out) ?_ ?_
      all_goals
       rw [ByteArray.size_append, low_size]
       omega
  rw [hW] at X
  have X := Lib.hid X
  rw [hW] at B
  clear ck hW
  go_enter Try.func10, Try.ntmps10
  go_wp2_with fail
  refine X.out.mono ?_
  intro e w' h
  have h := h.after B.out
  clear X B
  obtain ⟨rfl, R⟩ := h
  have R := Lib.hid R
  go_wp2_with fail
  go_returns
  exact ⟨rfl, R.out⟩
theorem pk_nil_num (v : Nat) (n : Int) (w : World) (_ : v < 18446744073709551616) (_ : -9223372036854775808 ≤ n ∧ n ≤ 9223372036854775807) : Calls Try.prog 12 #[.pointer none, .int .u64 v, .int .i64 n] w fun e w' => e = .returned (.tuple #[]) ∧ Below w.heap.size w w' := by
  have hmf := make_fn
  go_enter Try.func12, Try.ntmps12
  go_wp2_with fail
  refine (put_nil _ _).mono ?_
  rintro e w' ⟨rfl, hb⟩
  have R : Hid (Below w.heap.size w w') := show Below _ _ _ from ((below_one w _).alloc (by simp) _).trans (hb.mono (by simp; omega))
  clear hb
  go_wp2_with fail
  go_returns
  exact ⟨rfl, R.out⟩
theorem pk_nil_text (t : ByteArray) (w : World) (_ : t.size ≤ 200000) : Calls Try.prog 10 #[.pointer none, .string t] w fun e w' => e = .returned (.tuple #[]) ∧ Below w.heap.size w w' := by
  have hmf := make_fn
  go_enter Try.func10, Try.ntmps10
  go_wp2_with fail
  refine (put_nil _ _).mono ?_
  rintro e w' ⟨rfl, hb⟩
  have R : Hid (Below w.heap.size w w') := show Below _ _ _ from (below_one w _).trans (hb.mono (by simp))
  clear hb
  go_wp2_with fail
  go_returns
  exact ⟨rfl, R.out⟩
end Go.Proofs.Ytndmimmkjccgmaa.Pack
