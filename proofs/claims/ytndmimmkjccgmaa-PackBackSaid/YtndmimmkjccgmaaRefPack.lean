/- The document's own Bytes, Packer, at whatever is put. -/
import Derived.Test.YtndmimmkjccgmaaChecked
import Derived.Test.YtndmimmkjccgmaaPackMath
import Derived.WalkKit
import Derived.ProofKit
import Derived.OpenShut
import Derived.Handy
import Derived.Lib.Hide
import Derived.Deep.OwnRows
import Derived.Deep.QuietTactic
import Derived.BigQuiet
import Derived.Laws.IdiomStrings
import Derived.Laws.Concat
namespace Go.Proofs.Ytndmimmkjccgmaa.Pack
open Go.ChangeShapes Go.WideShapes Go.ChangeAt Go.RowKit

theorem u8_info : (Try.prog.info? 5).map (fun i => (i.zero, i.size, i.bytes)) = some (some (.int .u8 0), 1, 1) := by kernel_rfl
def byteAt (v j i : Nat) : Value := if i < j then .int .u8 ((v / 256 ^ i % 256 : Nat) : Int) else .int .u8 0
theorem byte_next (v i : Nat) : v / 256 ^ i / 256 = v / 256 ^ (i + 1) := by rw [Nat.div_div_eq_div_mul, Nat.pow_succ]
theorem low_get (v n j : Nat) (h : j < (lowB v n).length) : (lowB v n)[j].toNat = v / 256 ^ j % 256 := by simp [lowB]
theorem byte_text {w : World} {g n v : Nat} {T : TypeId} (h : w.rowIs g T n (byteAt v n)) {P : Program} (src dst : TypeId) (hs : P.underlying src = some (.slice T)) (he : P.underlying T = some (.int .u8)) (hd : P.underlying dst = some .string) :
    (convert src dst (.slice (some ⟨g, 0, none⟩) n n)).run P w = .ok (.string (lowS v n)) w := by
  have hl : (lowB v n).length = n := by unfold lowB; simp
  have := run_convert_bytes_back (P := P) w src dst T ⟨g, 0, none⟩ n (lowB v n) hs he hd (fun j hj => by
    rw [hl] at hj
    rw [Go.WideShapes.add_plain, Nat.zero_add, h.cell hj]
    unfold byteAt
    rw [if_pos hj, low_get])
  rw [hl] at this
  exact this
theorem row_next {w : World} {g n v i : Nat} {T : TypeId} (h : w.rowIs g T n (byteAt v i)) : (w.setCell ⟨g, i, none⟩ (.int .u8 (((v / 256 ^ i : Nat) : Int) % 256))).rowIs g T n (byteAt v (i + 1)) :=
  (h.set i _).congr fun j _ => by
    unfold byteAt
    by_cases e : j = i
    · subst e
      rw [if_pos rfl, if_pos (by omega)]; rfl
    · rw [if_neg e]
      by_cases e2 : j < i
      · rw [if_pos e2, if_pos (by omega)]
      · rw [if_neg e2, if_neg (by omega)]
theorem below_set {a b : World} {n : Nat} (h : Below n a b) {g : Nat} (hg : n ≤ g) (o : Nat) (v : Value) : Below n a (b.setCell ⟨g, o, none⟩ v) :=
  ⟨h.os, h.tape, h.output, by simpa [World.setCell] using h.size, fun i hi => (Below.heap_setCell b ⟨g, o, none⟩ v i (by intro e; subst e; exact absurd hi (Nat.not_lt.2 hg))).trans (h.block i hi)⟩
theorem r_bytes (v n : Nat) (w : World) (hv : v < 18446744073709551616) (hn : n ≤ 8) :
    Calls Try.prog 28 #[.int .u64 v, .int .i64 n] w fun e w' => e = .returned (.string (lowS v n)) ∧ Below w.heap.size w w' := by
  have hmk := fun W : World => run_make_row' (P := Try.prog) 59 5 (.int .u8 0) 1 Try.underlying59 u8_info rfl .i64 .i64 n (by omega) (by omega) W
  go_enter Try.func28, Try.ntmps28
  go_wp2_with fail
  go_loopw [0, 6] (fun u t wr => ∃ i : Nat, i ≤ n ∧ t = .int .i64 i ∧ u = .int .u64 ((v / 256 ^ i : Nat) : Int) ∧ Hid (wr.rowIs w.heap.size 5 n (byteAt v i)) ∧ Hid (Below w.heap.size w wr)) (fun _ t _ => n - (intOf t).toNat)
  case atStart => exact ⟨0, Nat.zero_le _, rfl, by rw [Nat.pow_zero, Nat.div_one], (World.rowIs_made w (.int .u8 0) n 5).congr fun i _ => by unfold byteAt; rw [if_neg (by omega)], (Below.refl _ _).alloc (Nat.le_refl _) _⟩
  case round =>
    obtain ⟨i, hi, rfl, rfl, hr, hb⟩ := hrel
    clear hmk
    by_cases hlt : i < n
    · have u0 : decide ((i : Int) < (n : Int)) = true := decide_eq_true (by omega)
      have i0 : (0 : Int) ≤ i := by omega
      have c0 := hr.out.cell hlt
      have f0 := hr.out.frozen i
      have hx : v / 256 ^ i < 18446744073709551616 := Nat.lt_of_le_of_lt (Nat.div_le_self _ _) hv
      have HN := Lib.hid (byte_next v i)
      have HR := Lib.hid (row_next hr.out)
      generalize v / 256 ^ i = x at *
      go_wp2_with fail
      go_roundw
      case rel => exact ⟨i + 1, by omega, by go_num, by rw [← HN.out]; rfl, HR.out, below_set hb.out (Nat.le_refl _) _ _⟩
      case measure => simp [intOf]; omega
    · obtain rfl : i = n := by omega
      have u0 : decide ((i : Int) < (i : Int)) = false := decide_eq_false (by omega)
      have cv := byte_text (P := Try.prog) hr.out 59 9 Try.underlying59 Try.underlying5 Try.underlying9
      go_wp2_with fail
      go_ret
      exact ⟨rfl, hb.out⟩
/-- The cells of a packer. -/
def pcell (p : PSt) (i : Nat) : Value := if i = 0 then .string p.s else .int .i64 p.e
def RP (w : World) (g : Nat) (p : PSt) : Prop := w.rowIs g 32 2 (pcell p) ∧ p.s.size ≤ 60000
theorem only_refl (w : World) (r : Option Nat) : w.grownBy w r := ⟨rfl, rfl, rfl, Nat.le_refl _, fun _ _ _ => rfl⟩
theorem only_set {a w : World} {g : Nat} (h : a.grownBy w (some g)) (o : Nat) (u : Value) : a.grownBy (w.setCell ⟨g, o, none⟩ u) (some g) :=
  ⟨h.os, h.tape, h.output, by simpa [World.setCell] using h.size, fun i hi hne => (Below.heap_setCell w ⟨g, o, none⟩ u i (by rintro rfl; exact hne rfl)).trans (h.block i hi hne)⟩
theorem rp_text {w : World} {g : Nat} {p : PSt} (h : RP w g p) (t : ByteArray) (ht : t.size ≤ 60000) : RP (w.setCell ⟨g, 0, none⟩ (.string t)) g ⟨t, p.e⟩ :=
  ⟨(h.1.set 0 _).congr fun i _ => by
    unfold pcell
    by_cases e : i = 0
    · rw [if_pos e, if_pos e]
    · rw [if_neg e, if_neg e, if_neg e], ht⟩
theorem rp_err {w : World} {g : Nat} {p : PSt} (h : RP w g p) (e : Int) : RP (w.setCell ⟨g, 1, none⟩ (.int .i64 e)) g ⟨p.s, e⟩ :=
  ⟨(h.1.set 1 _).congr fun i hi => by
    unfold pcell
    by_cases e : i = 1
    · rw [if_pos e, if_neg (by omega)]
    · rw [if_neg e, if_pos (by omega), if_pos (by omega)], h.2⟩
theorem only_trans {a b c : World} {r : Option Nat} (h : a.grownBy b r) (k : b.grownBy c r) : a.grownBy c r :=
  ⟨k.os.trans h.os, k.tape.trans h.tape, k.output.trans h.output, Nat.le_trans h.size k.size, fun i hi hr => (k.block i (Nat.lt_of_lt_of_le hi h.size) hr).trans (h.block i hi hr)⟩
theorem Pairs_grown {w w' : World} (h : Below w.heap.size w w') {r : Option Nat} : w.grownBy w' r := ⟨h.os, h.tape, h.output, h.size, fun i hi _ => h.block i hi⟩
theorem rp_below {w w' : World} {g : Nat} {p : PSt} (h : RP w g p) (hb : Below w.heap.size w w') : RP w' g p := ⟨h.1.of_block (hb.block g h.1.lt), h.2⟩
theorem r_put (p : PSt) (b : ByteArray) (g : Nat) (w : World) (hp : RP w g p) (hb : b.size ≤ 100000) :
    Calls Try.prog 27 #[.pointer (some ⟨g, 0, none⟩), .string b] w fun e w' => e = .returned (.tuple #[]) ∧ RP w' g (p.put b) ∧ w.grownBy w' (some g) := by
  have c0 : w.cell? ⟨g, 0, none⟩ = some (.string p.s) := hp.1.cell (i := 0) (by omega)
  have c1 : w.cell? ⟨g, 1, none⟩ = some (.int .i64 p.e) := hp.1.cell (i := 1) (by omega)
  have f0 := hp.1.frozen 0
  have f1 := hp.1.frozen 1
  have HP := Lib.hid hp
  have hs := hp.2
  clear hp
  by_cases he : p.e = 0
  · have b1 : (p.e != 0) = false := by rw [he]; rfl
    by_cases hl : 60000 < p.s.size + b.size
    · have l1 : decide ((60000 : Int) < (p.s.size : Int) + b.size) = true := decide_eq_true (by omega)
      have H : Hid (p.put b = ⟨p.s, 2⟩) := show _ = _ by unfold PSt.put; rw [if_neg (by omega), if_pos hl]
      rw [H.out]
      go_enter Try.func27, Try.ntmps27
      go_wp2_with fail
      go_returns
      exact ⟨rfl, rp_err HP.out 2, only_set (only_refl w _) _ _⟩
    · have l1 : decide ((60000 : Int) < (p.s.size : Int) + b.size) = false := decide_eq_false (by omega)
      have z1 : ¬ (9223372036854775807 < p.s.size + b.size) := by omega
      have hz : (p.s ++ b).size ≤ 60000 := by rw [ByteArray.size_append]; omega
      have H : Hid (p.put b = ⟨p.s ++ b, 0⟩) := show _ = _ by unfold PSt.put; rw [if_neg (by omega), if_neg hl]
      have HN := Lib.hid (rp_text HP.out (p.s ++ b) hz)
      rw [H.out]
      rw [he] at HN
      go_enter Try.func27, Try.ntmps27
      go_wp2_with fail
      go_returns
      exact ⟨rfl, HN.out, only_set (only_refl w _) _ _⟩
  · have b1 : (p.e != 0) = true := by rw [bne_iff_ne]; exact he
    have H : Hid (p.put b = p) := show _ = _ by unfold PSt.put; rw [if_pos he]
    rw [H.out]
    go_enter Try.func27, Try.ntmps27
    go_wp2_with fail
    go_returns
    exact ⟨rfl, HP.out, only_refl w _⟩
theorem r_sized (n : Int) (w : World) : Calls Try.prog 31 #[.int .i64 n] w fun e w' => e = .returned (.bool (sizedB n)) ∧ w = w' := by
  by_cases h1 : n = 1
  · subst h1
    go_enter Try.func31, Try.ntmps31
    go_wp2_with fail
    go_ret
    exact ⟨rfl, rfl⟩
  by_cases h2 : n = 2
  · subst h2
    go_enter Try.func31, Try.ntmps31
    go_wp2_with fail
    go_ret
    exact ⟨rfl, rfl⟩
  by_cases h4 : n = 4
  · subst h4
    go_enter Try.func31, Try.ntmps31
    go_wp2_with fail
    go_ret
    exact ⟨rfl, rfl⟩
  have t1 : (n == 1) = false := by rw [beq_eq_false_iff_ne]; exact h1
  have t2 : (n == 2) = false := by rw [beq_eq_false_iff_ne]; exact h2
  have t4 : (n == 4) = false := by rw [beq_eq_false_iff_ne]; exact h4
  have H : Hid (sizedB n = (n == 8)) := show _ = _ by
    unfold sizedB
    by_cases h8 : n = 8
    · subst h8; rfl
    · rw [decide_eq_false (by omega)]; symm; rw [beq_eq_false_iff_ne]; exact h8
  rw [H.out]
  go_enter Try.func31, Try.ntmps31
  go_wp2_with fail
  go_ret
  exact ⟨rfl, rfl⟩
theorem r_num (p : PSt) (v : Nat) (n : Int) (g : Nat) (w : World) (hp : RP w g p) (hv : v < 18446744073709551616) :
    Calls Try.prog 13 #[.pointer (some ⟨g, 0, none⟩), .int .u64 v, .int .i64 n] w fun e w' => e = .returned (.tuple #[]) ∧ RP w' g (p.num v n) ∧ w.grownBy w' (some g) := by
  have c0 : w.cell? ⟨g, 0, none⟩ = some (.string p.s) := hp.1.cell (i := 0) (by omega)
  have c1 : w.cell? ⟨g, 1, none⟩ = some (.int .i64 p.e) := hp.1.cell (i := 1) (by omega)
  have f1 := hp.1.frozen 1
  have HP := Lib.hid hp
  have S := r_sized n w
  clear hp
  by_cases he : p.e = 0
  · have b1 : (p.e != 0) = false := by rw [he]; rfl
    by_cases hs : sizedB n = true
    · rw [hs] at S
      have hcases : n = 1 ∨ n = 2 ∨ n = 4 ∨ n = 8 := of_decide_eq_true hs
      rcases hcases with rfl | rfl | rfl | rfl
      · by_cases hgo : v < 256
        · have H : Hid (p.num v 1 = p.put (lowS v 1)) := show _ = _ by unfold PSt.num goesB; rw [if_neg (by omega), hs, decide_eq_true (show v < 256 ^ (1 : Int).toNat from hgo)]; rfl
          rw [H.out]
          have t1 : ((v : Int) / 256 != 0) = false := by rw [bne_eq_false_iff_eq]; omega
          go_enter Try.func13, Try.ntmps13
          go_wp2_with fail
          refine S.mono ?_
          rintro e w1 ⟨rfl, rfl⟩
          go_wp2_with fail
          have hcc := r_bytes v 1 w hv (by omega)
          refine hcc.mono ?_
          clear hcc
          rintro e w1 ⟨rfl, hb⟩
          have B1 := Lib.hid hb
          have P1 := Lib.hid (rp_below HP.out hb)
          clear hb c0 c1 f1
          go_wp2_with fail
          have hcc := r_put p (lowS v 1) g w1 P1.out (by rw [low_size]; omega)
          refine hcc.mono ?_
          clear hcc
          rintro e w2 ⟨rfl, hp2, hg2⟩
          have P2 := Lib.hid hp2
          have G2 := Lib.hid (only_trans (Pairs_grown B1.out) hg2)
          clear hp2 hg2
          go_wp2_with fail
          go_returns
          exact ⟨rfl, P2.out, G2.out⟩
        · have H : Hid (p.num v 1 = ⟨p.s, 11⟩) := show _ = _ by unfold PSt.num goesB; rw [if_neg (by omega), hs, decide_eq_false (show ¬ v < 256 ^ (1 : Int).toNat from hgo)]; rfl
          rw [H.out]
          have t1 : ((v : Int) / 256 != 0) = true := by rw [bne_iff_ne]; omega
          go_enter Try.func13, Try.ntmps13
          go_wp2_with fail
          refine S.mono ?_
          rintro e w1 ⟨rfl, rfl⟩
          go_wp2_with fail
          go_returns
          exact ⟨rfl, rp_err HP.out 11, only_set (only_refl w _) _ _⟩
      · by_cases hgo : v < 65536
        · have H : Hid (p.num v 2 = p.put (lowS v 2)) := show _ = _ by unfold PSt.num goesB; rw [if_neg (by omega), hs, decide_eq_true (show v < 256 ^ (2 : Int).toNat from hgo)]; rfl
          rw [H.out]
          have t1 : ((v : Int) / 65536 != 0) = false := by rw [bne_eq_false_iff_eq]; omega
          go_enter Try.func13, Try.ntmps13
          go_wp2_with fail
          refine S.mono ?_
          rintro e w1 ⟨rfl, rfl⟩
          go_wp2_with fail
          have hcc := r_bytes v 2 w hv (by omega)
          refine hcc.mono ?_
          clear hcc
          rintro e w1 ⟨rfl, hb⟩
          have B1 := Lib.hid hb
          have P1 := Lib.hid (rp_below HP.out hb)
          clear hb c0 c1 f1
          go_wp2_with fail
          have hcc := r_put p (lowS v 2) g w1 P1.out (by rw [low_size]; omega)
          refine hcc.mono ?_
          clear hcc
          rintro e w2 ⟨rfl, hp2, hg2⟩
          have P2 := Lib.hid hp2
          have G2 := Lib.hid (only_trans (Pairs_grown B1.out) hg2)
          clear hp2 hg2
          go_wp2_with fail
          go_returns
          exact ⟨rfl, P2.out, G2.out⟩
        · have H : Hid (p.num v 2 = ⟨p.s, 11⟩) := show _ = _ by unfold PSt.num goesB; rw [if_neg (by omega), hs, decide_eq_false (show ¬ v < 256 ^ (2 : Int).toNat from hgo)]; rfl
          rw [H.out]
          have t1 : ((v : Int) / 65536 != 0) = true := by rw [bne_iff_ne]; omega
          go_enter Try.func13, Try.ntmps13
          go_wp2_with fail
          refine S.mono ?_
          rintro e w1 ⟨rfl, rfl⟩
          go_wp2_with fail
          go_returns
          exact ⟨rfl, rp_err HP.out 11, only_set (only_refl w _) _ _⟩
      · by_cases hgo : v < 4294967296
        · have H : Hid (p.num v 4 = p.put (lowS v 4)) := show _ = _ by unfold PSt.num goesB; rw [if_neg (by omega), hs, decide_eq_true (show v < 256 ^ (4 : Int).toNat from hgo)]; rfl
          rw [H.out]
          have t1 : ((v : Int) / 4294967296 != 0) = false := by rw [bne_eq_false_iff_eq]; omega
          go_enter Try.func13, Try.ntmps13
          go_wp2_with fail
          refine S.mono ?_
          rintro e w1 ⟨rfl, rfl⟩
          go_wp2_with fail
          have hcc := r_bytes v 4 w hv (by omega)
          refine hcc.mono ?_
          clear hcc
          rintro e w1 ⟨rfl, hb⟩
          have B1 := Lib.hid hb
          have P1 := Lib.hid (rp_below HP.out hb)
          clear hb c0 c1 f1
          go_wp2_with fail
          have hcc := r_put p (lowS v 4) g w1 P1.out (by rw [low_size]; omega)
          refine hcc.mono ?_
          clear hcc
          rintro e w2 ⟨rfl, hp2, hg2⟩
          have P2 := Lib.hid hp2
          have G2 := Lib.hid (only_trans (Pairs_grown B1.out) hg2)
          clear hp2 hg2
          go_wp2_with fail
          go_returns
          exact ⟨rfl, P2.out, G2.out⟩
        · have H : Hid (p.num v 4 = ⟨p.s, 11⟩) := show _ = _ by unfold PSt.num goesB; rw [if_neg (by omega), hs, decide_eq_false (show ¬ v < 256 ^ (4 : Int).toNat from hgo)]; rfl
          rw [H.out]
          have t1 : ((v : Int) / 4294967296 != 0) = true := by rw [bne_iff_ne]; omega
          go_enter Try.func13, Try.ntmps13
          go_wp2_with fail
          refine S.mono ?_
          rintro e w1 ⟨rfl, rfl⟩
          go_wp2_with fail
          go_returns
          exact ⟨rfl, rp_err HP.out 11, only_set (only_refl w _) _ _⟩
      · have H : Hid (p.num v 8 = p.put (lowS v 8)) := show _ = _ by unfold PSt.num goesB; rw [if_neg (by omega), hs, decide_eq_true (show v < 256 ^ (8 : Int).toNat from hv)]; rfl
        rw [H.out]
        go_enter Try.func13, Try.ntmps13
        go_wp2_with fail
        refine S.mono ?_
        rintro e w1 ⟨rfl, rfl⟩
        go_wp2_with fail
        have hcc := r_bytes v 8 w hv (by omega)
        refine hcc.mono ?_
        clear hcc
        rintro e w1 ⟨rfl, hb⟩
        have B1 := Lib.hid hb
        have P1 := Lib.hid (rp_below HP.out hb)
        clear hb c0 c1 f1
        go_wp2_with fail
        have hcc := r_put p (lowS v 8) g w1 P1.out (by rw [low_size]; omega)
        refine hcc.mono ?_
        clear hcc
        rintro e w2 ⟨rfl, hp2, hg2⟩
        have P2 := Lib.hid hp2
        have G2 := Lib.hid (only_trans (Pairs_grown B1.out) hg2)
        clear hp2 hg2
        go_wp2_with fail
        go_returns
        exact ⟨rfl, P2.out, G2.out⟩
    · rw [Bool.not_eq_true] at hs
      rw [hs] at S
      have H : Hid (p.num v n = ⟨p.s, 11⟩) := show _ = _ by unfold PSt.num goesB; rw [if_neg (by omega), hs]; rfl
      rw [H.out]
      go_enter Try.func13, Try.ntmps13
      go_wp2_with fail
      refine S.mono ?_
      rintro e w1 ⟨rfl, rfl⟩
      go_wp2_with fail
      go_returns
      exact ⟨rfl, rp_err HP.out 11, only_set (only_refl w _) _ _⟩
  · have b1 : (p.e != 0) = true := by rw [bne_iff_ne]; exact he
    have H : Hid (p.num v n = p) := show _ = _ by unfold PSt.num; rw [if_pos he]
    rw [H.out]
    go_enter Try.func13, Try.ntmps13
    go_wp2_with fail
    go_returns
    exact ⟨rfl, HP.out, only_refl w _⟩
theorem r_text (p : PSt) (t : ByteArray) (g : Nat) (w : World) (hp : RP w g p) (ht : t.size ≤ 200000) :
    Calls Try.prog 11 #[.pointer (some ⟨g, 0, none⟩), .string t] w fun e w' => e = .returned (.tuple #[]) ∧ RP w' g (p.text t) ∧ w.grownBy w' (some g) := by
  have c1 : w.cell? ⟨g, 1, none⟩ = some (.int .i64 p.e) := hp.1.cell (i := 1) (by omega)
  have f1 := hp.1.frozen 1
  have HP := Lib.hid hp
  clear hp
  by_cases he : p.e = 0
  · have b1 : (p.e == 0) = true := by rw [beq_iff_eq]; exact he
    by_cases hl : 65535 < t.size
    · have l1 : decide ((65535 : Int) < (t.size : Int)) = true := decide_eq_true (by omega)
      have H : Hid (p.text t = ⟨p.s, 2⟩) := show _ = _ by unfold PSt.text; rw [if_neg (by omega), if_pos hl]
      have P2 := Lib.hid (rp_err HP.out 2)
      have d1 : (w.setCell ⟨g, 1, none⟩ (.int .i64 2)).cell? ⟨g, 1, none⟩ = some (.int .i64 2) := P2.out.1.cell (i := 1) (by omega)
      rw [H.out]
      go_enter Try.func11, Try.ntmps11
      go_wp2_with fail
      go_returns
      exact ⟨rfl, P2.out, only_set (only_refl w _) _ _⟩
    · have l1 : decide ((65535 : Int) < (t.size : Int)) = false := decide_eq_false (by omega)
      have z1 : ¬ (9223372036854775807 < (lowS t.size 2).size + t.size) := by rw [low_size]; omega
      have H : Hid (p.text t = p.put (lowS t.size 2 ++ t)) := show _ = _ by unfold PSt.text; rw [if_neg (by omega), if_neg hl]
      rw [H.out]
      go_enter Try.func11, Try.ntmps11
      go_wp2_with fail
      have hcc := r_bytes t.size 2 w (by omega) (by omega)
      refine hcc.mono ?_
      clear hcc
      rintro e w1 ⟨rfl, hb⟩
      have B1 := Lib.hid hb
      have P1 := Lib.hid (rp_below HP.out hb)
      clear hb c1 f1
      go_wp2_with fail
      have hcc := r_put p (lowS t.size 2 ++ t) g w1 P1.out (by rw [ByteArray.size_append, low_size]; omega)
      refine hcc.mono ?_
      clear hcc
      rintro e w2 ⟨rfl, hp2, hg2⟩
      have P2 := Lib.hid hp2
      have G2 := Lib.hid (only_trans (Pairs_grown B1.out) hg2)
      clear hp2 hg2
      go_wp2_with fail
      go_returns
      exact ⟨rfl, P2.out, G2.out⟩
  · have b1 : (p.e == 0) = false := by rw [beq_eq_false_iff_ne]; exact he
    have H : Hid (p.text t = p) := show _ = _ by unfold PSt.text; rw [if_pos he]
    rw [H.out]
    go_enter Try.func11, Try.ntmps11
    go_wp2_with fail
    go_returns
    exact ⟨rfl, HP.out, only_refl w _⟩
theorem r_done (p : PSt) (g : Nat) (w : World) (hp : RP w g p) :
    Calls Try.prog 15 #[.pointer (some ⟨g, 0, none⟩)] w fun e w' => e = .returned (.tuple #[.string p.told, .int .i64 p.e]) ∧ ∃ n, w' = w.drewN n := by
  have c0 : w.cell? ⟨g, 0, none⟩ = some (.string p.s) := hp.1.cell (i := 0) (by omega)
  have c1 : w.cell? ⟨g, 1, none⟩ = some (.int .i64 p.e) := hp.1.cell (i := 1) (by omega)
  clear hp
  by_cases he : p.e = 0
  · have b1 : (p.e != 0) = false := by rw [he]; rfl
    have H : Hid (p.told = p.s) := show _ = _ by unfold PSt.told; rw [if_pos he]
    rw [H.out, he]
    go_enter Try.func15, Try.ntmps15
    go_wp2_with fail
    go_ret2
    exact ⟨rfl, 0, rfl⟩
  · have b1 : (p.e != 0) = true := by rw [bne_iff_ne]; exact he
    have H : Hid (p.told = ⟨#[]⟩) := show _ = _ by unfold PSt.told; rw [if_neg he]
    rw [H.out]
    go_enter Try.func15, Try.ntmps15
    go_wp2_with fail
    go_quiet (fail)
    go_wp2_with fail
    go_ret2
    exact ⟨rfl, _, rfl⟩
end Go.Proofs.Ytndmimmkjccgmaa.Pack
