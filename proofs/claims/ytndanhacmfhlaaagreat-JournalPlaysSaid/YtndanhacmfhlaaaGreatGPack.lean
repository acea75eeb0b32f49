/- Numbers and texts, one behind the other, in plain values: what a packer holds, what an opener has before it. Of no one law. The document's own Bytes, Packer, at whatever is put. The document's own Opener, at whatever is asked. The document's own Opener's Text. Of no one law: a slice of structs of a number, an unsigned one and a text that came in, read as a list. The laws' own test of how long items are. What was packed is opened as it was: in plain values. Of no one law. Pieces of texts: bytes and numbers of what was cut out, of what was put together. Of no one law. Of no one law: a region that draws, walked by hand: an operation that yields is taken first, and so is one that its guard strikes out; the place that it writes is named. -/
import Derived.Test.YtndanhacmfhlaaaGreatChecked
import Derived.WalkKit
import Derived.ProofKit
import Derived.OpenShut
import Derived.Handy
import Derived.Lib.Hide
import Derived.Deep.OwnRows
import Derived.Deep.QuietTactic
import Derived.BigQuiet
import Derived.Laws.IdiomStrings
import Derived.Laws.Concat
import Derived.Deep.SlicePairs
import Derived.Deep.RegionHeld3
namespace Go.Proofs.YtndanhacmfhlaaaGreat.Pack

/-- A number's lowest bytes, the lowest first. -/
def lowB (v : Nat) (n : Nat) : List UInt8 := (List.range n).map fun i => UInt8.ofNat (v / 256 ^ i)
def lowS (v : Nat) (n : Nat) : ByteArray := ⟨(lowB v n).toArray⟩
theorem low_size (v n : Nat) : (lowS v n).size = n := by unfold lowS lowB; simp [ByteArray.size]
/-- What a packer holds: its bytes, and the number of the first error. -/
structure PSt where
  s : ByteArray
  e : Int
def pst0 : PSt := ⟨⟨#[]⟩, 0⟩
def sizedB (n : Int) : Bool := decide (n = 1 ∨ n = 2 ∨ n = 4 ∨ n = 8)
def PSt.put (p : PSt) (b : ByteArray) : PSt := if p.e ≠ 0 then p else if 60000 < p.s.size + b.size then ⟨p.s, 2⟩ else ⟨p.s ++ b, 0⟩
/-- Does a number go into so many bytes? -/
def goesB (v : Nat) (n : Int) : Bool := sizedB n && decide (v < 256 ^ n.toNat)
def PSt.num (p : PSt) (v : Nat) (n : Int) : PSt := if p.e ≠ 0 then p else if goesB v n = true then p.put (lowS v n.toNat) else ⟨p.s, 11⟩
def PSt.text (p : PSt) (t : ByteArray) : PSt := if p.e ≠ 0 then p else if 65535 < t.size then ⟨p.s, 2⟩ else p.put (lowS t.size 2 ++ t)
def PSt.told (p : PSt) : ByteArray := if p.e = 0 then p.s else ⟨#[]⟩
/-- What an opener has before it: a text, a place in it, whether it is spoilt. -/
structure OSt where
  s : ByteArray
  at_ : Nat
  bad : Bool
end Go.Proofs.YtndanhacmfhlaaaGreat.Pack
namespace Go.Proofs.YtndanhacmfhlaaaGreat.Pack
open Go.ChangeShapes Go.WideShapes Go.ChangeAt Go.RowKit

theorem u8_info : (Tryz.prog.info? 5).map (fun i => (i.zero, i.size, i.bytes)) = some (some (.int .u8 0), 1, 1) := by kernel_rfl
def byteAt (v j i : Nat) : Value := if i < j then .int .u8 ((v / 256 ^ i % 256 : Nat) : Int) else .int .u8 0
theorem byte_next (v i : Nat) : v / 256 ^ i / 256 = v / 256 ^ (i + 1) := by rw [Nat.div_div_eq_div_mul, Nat.pow_succ]
theorem low_get (v n j : Nat) (h : j < (lowB v n).length) : (lowB v n)[j].toNat = v / 256 ^ j % 256 := by simp [lowB]
theorem byte_text {w : World} {g n v : Nat} {T : TypeId} (h : w.rowIs g T n (byteAt v n)) {P : Program} (src dst : TypeId) (hs : P.underlying src = some (.slice T)) (he : P.underlying T = some (.int .u8)) (hd : P.underlying dst = some .string) :
    (convert src dst (.slice (some ⟨g, 0, none⟩) n n)).run P w = .ok (.string (lowS v n)) w := by
  have hl : (lowB v n).length = n := by unfold lowB; simp
  have := run_convert_bytes_back (P := P) w src dst T ⟨g, 0, none⟩ n (lowB v n) hs he hd (fun j hj => by
    rw [hl] at hj
    rw [Go.WideShapes.add_plain, Nat.zero_add, h.cell hj]
    unfold byteAt
    rw [if_pos hj, low_get])
  rw [hl] at this
  exact this
theorem row_next {w : World} {g n v i : Nat} {T : TypeId} (h : w.rowIs g T n (byteAt v i)) : (w.setCell ⟨g, i, none⟩ (.int .u8 (((v / 256 ^ i : Nat) : Int) % 256))).rowIs g T n (byteAt v (i + 1)) :=
  (h.set i _).congr fun j _ => by
    unfold byteAt
    by_cases e : j = i
    · subst e
      rw [if_pos rfl, if_pos (by omega)]; rfl
    · rw [if_neg e]
      by_cases e2 : j < i
      · rw [if_pos e2, if_pos (by omega)]
      · rw [if_neg e2, if_neg (by omega)]
theorem below_set {a b : World} {n : Nat} (h : Below n a b) {g : Nat} (hg : n ≤ g) (o : Nat) (v : Value) : Below n a (b.setCell ⟨g, o, none⟩ v) :=
  ⟨h.os, h.tape, h.output, by simpa [World.setCell] using h.size, fun i hi => (Below.heap_setCell b ⟨g, o, none⟩ v i (by intro e; subst e; exact absurd hi (Nat.not_lt.2 hg))).trans (h.block i hi)⟩
theorem r_bytes (v n : Nat) (w : World) (hv : v < 18446744073709551616) (hn : n ≤ 8) :
    Calls Tryz.prog 72 #[.int .u64 v, .int .i64 n] w fun e w' => e = .returned (.string (lowS v n)) ∧ Below w.heap.size w w' := by
  have hmk := fun W : World => run_make_row' (P := Tryz.prog) 66 5 (.int .u8 0) 1 Tryz.underlying66 u8_info rfl .i64 .i64 n (by omega) (by omega) W
  go_enter Tryz.func72, Tryz.ntmps72
  go_wp2_with fail
  go_loopw [0, 6] (fun u t wr => ∃ i : Nat, i ≤ n ∧ t = .int .i64 i ∧ u = .int .u64 ((v / 256 ^ i : Nat) : Int) ∧ Hid (wr.rowIs w.heap.size 5 n (byteAt v i)) ∧ Hid (Below w.heap.size w wr)) (fun _ t _ => n - (intOf t).toNat)
  case atStart => exact ⟨0, Nat.zero_le _, rfl, by rw [Nat.pow_zero, Nat.div_one], (World.rowIs_made w (.int .u8 0) n 5).congr fun i _ => by unfold byteAt; rw [if_neg (by omega)], (Below.refl _ _).alloc (Nat.le_refl _) _⟩
  case round =>
    obtain ⟨i, hi, rfl, rfl, hr, hb⟩ := hrel
    clear hmk
    by_cases hlt : i < n
    · have u0 : decide ((i : Int) < (n : Int)) = true := decide_eq_true (by omega)
      have i0 : (0 : Int) ≤ i := by omega
      have c0 := hr.out.cell hlt
      have f0 := hr.out.frozen i
      have hx : v / 256 ^ i < 18446744073709551616 := Nat.lt_of_le_of_lt (Nat.div_le_self _ _) hv
      have HN := Lib.hid (byte_next v i)
      have HR := Lib.hid (row_next hr.out)
      generalize v / 256 ^ i = x at *
      go_wp2_with fail
      go_roundw
      case rel => exact ⟨i + 1, by omega, by go_num, by rw [← HN.out]; rfl, HR.out, below_set hb.out (Nat.le_refl _) _ _⟩
      case measure => simp [intOf]; omega
    · obtain rfl : i = n := by omega
      have u0 : decide ((i : Int) < (i : Int)) = false := decide_eq_false (by omega)
      have cv := byte_text (P := Tryz.prog) hr.out 66 9 Tryz.underlying66 Tryz.underlying5 Tryz.underlying9
      go_wp2_with fail
      go_ret
      exact ⟨rfl, hb.out⟩
/-- The cells of a packer. -/
def pcell (p : PSt) (i : Nat) : Value := if i = 0 then .string p.s else .int .i64 p.e
theorem only_refl (w : World) (r : Option Nat) : w.grownBy w r := ⟨rfl, rfl, rfl, Nat.le_refl _, fun _ _ _ => rfl⟩
theorem only_set {a w : World} {g : Nat} (h : a.grownBy w (some g)) (o : Nat) (u : Value) : a.grownBy (w.setCell ⟨g, o, none⟩ u) (some g) :=
  ⟨h.os, h.tape, h.output, by simpa [World.setCell] using h.size, fun i hi hne => (Below.heap_setCell w ⟨g, o, none⟩ u i (by rintro rfl; exact hne rfl)).trans (h.block i hi hne)⟩
theorem only_trans {a b c : World} {r : Option Nat} (h : a.grownBy b r) (k : b.grownBy c r) : a.grownBy c r :=
  ⟨k.os.trans h.os, k.tape.trans h.tape, k.output.trans h.output, Nat.le_trans h.size k.size, fun i hi hr => (k.block i (Nat.lt_of_lt_of_le hi h.size) hr).trans (h.block i hi hr)⟩
theorem Pairs_grown {w w' : World} (h : Below w.heap.size w w') {r : Option Nat} : w.grownBy w' r := ⟨h.os, h.tape, h.output, h.size, fun i hi _ => h.block i hi⟩
end Go.Proofs.YtndanhacmfhlaaaGreat.Pack
namespace Go.Proofs.YtndanhacmfhlaaaGreat.Pack
open Go.ChangeShapes Go.WideShapes Go.ChangeAt Go.RowKit

/-- The byte at a place of a text. -/
def byteN (s : ByteArray) (i : Nat) : Nat := (s.data.getD i 0).toNat
/-- The number whose bytes stand there, the lowest first. -/
def valN (s : ByteArray) (a : Nat) : Nat → Nat
  | 0 => 0
  | n + 1 => byteN s a + 256 * valN s (a + 1) n
theorem byteN_lt (s : ByteArray) (i : Nat) : byteN s i < 256 := (s.data.getD i 0).toNat_lt
theorem valN_lt (s : ByteArray) : ∀ (n a : Nat), valN s a n < 256 ^ n
  | 0, _ => by show 0 < 256 ^ 0; decide
  | n + 1, a => by
    have h1 := byteN_lt s a
    have h2 := valN_lt s n (a + 1)
    show byteN s a + 256 * valN s (a + 1) n < 256 ^ (n + 1)
    rw [Nat.pow_succ]
    omega
theorem byteN_at {s : ByteArray} {i : Nat} (h : i < s.size) : (s[i]).toNat = byteN s i := by
  unfold byteN
  rw [Array.getD_eq_getD_getElem?, Array.getElem?_eq_getElem h]; rfl
def OSt.spoil (o : OSt) : OSt := ⟨o.s, o.at_, true⟩
def OSt.hasNum (o : OSt) (n : Int) : Bool := !o.bad && sizedB n && decide (n ≤ (o.s.size : Int) - o.at_)
def OSt.num (o : OSt) (n : Int) : Nat × OSt := if o.hasNum n = true then (valN o.s o.at_ n.toNat, ⟨o.s, o.at_ + n.toNat, false⟩) else (0, o.spoil)
def ocell (o : OSt) (i : Nat) : Value := if i = 0 then .string o.s else if i = 1 then .int .i64 (o.at_ : Int) else .bool o.bad
theorem val_next (s : ByteArray) (a : Nat) {j m : Nat} (h : j + 1 ≤ m) : valN s (a + j) (m - j) = byteN s (a + j) + 256 * valN s (a + (j + 1)) (m - (j + 1)) := by
  rw [show m - j = (m - (j + 1)) + 1 by omega]
  rfl
theorem val_bound (s : ByteArray) (a : Nat) {j m : Nat} (h : j + 1 ≤ m) (h8 : m ≤ 8) : valN s (a + (j + 1)) (m - (j + 1)) < 72057594037927936 :=
  Nat.lt_of_lt_of_le (valN_lt s _ _) (show 256 ^ (m - (j + 1)) ≤ 256 ^ 7 from Nat.pow_le_pow_right (by decide) (by omega))
theorem only_drewN {a w : World} {r : Option Nat} (h : a.grownBy w r) (n : Nat) : a.grownBy (w.drewN n) r := ⟨h.os, h.tape, h.output, h.size, h.block⟩
theorem quiet_of {P : Program} {f : FuncId} {args : Array Value} {w : World} {n : Nat} {v : Value} (h : ∀ w, Calls P f args w fun e w' => e = .returned v ∧ w = w') :
    Calls P f args (w.drewN n) fun e w'' => e = .returned v ∧ ∃ m, w'' = w.drewN m :=
  (h _).mono fun _ _ ⟨he, hm⟩ => ⟨he, n, hm.symm⟩
end Go.Proofs.YtndanhacmfhlaaaGreat.Pack
namespace Go.Proofs.YtndanhacmfhlaaaGreat.Pack
open Go.ChangeShapes Go.WideShapes Go.ChangeAt Go.RowKit

/-- The length that stands next. -/
def OSt.len (o : OSt) : Nat := byteN o.s o.at_ + 256 * byteN o.s (o.at_ + 1)
def OSt.hasText (o : OSt) (most : Int) : Bool := !o.bad && decide (o.at_ + 2 ≤ o.s.size ∧ (o.len : Int) ≤ most ∧ o.at_ + 2 + o.len ≤ o.s.size)
def OSt.text (o : OSt) (most : Int) : ByteArray × OSt := if o.hasText most = true then (o.s.extract (o.at_ + 2) (o.at_ + 2 + o.len), ⟨o.s, o.at_ + 2 + o.len, false⟩) else (⟨#[]⟩, o.spoil)
theorem text_not {o : OSt} {most : Int} (h : o.bad = true ∨ o.s.size < o.at_ + 2 ∨ most < o.len ∨ o.s.size < o.at_ + 2 + o.len) : o.text most = (⟨#[]⟩, o.spoil) := by
  have : o.hasText most = false := by
    unfold OSt.hasText
    rcases h with h | h
    · rw [h]; rfl
    · rw [decide_eq_false (by omega), Bool.and_false]
  unfold OSt.text
  rw [this]; rfl
theorem text_yes {o : OSt} {most : Int} (h0 : o.bad = false) (h : o.at_ + 2 ≤ o.s.size ∧ (o.len : Int) ≤ most ∧ o.at_ + 2 + o.len ≤ o.s.size) : o.text most = (o.s.extract (o.at_ + 2) (o.at_ + 2 + o.len), ⟨o.s, o.at_ + 2 + o.len, false⟩) := by
  unfold OSt.text OSt.hasText
  rw [h0, decide_eq_true h]; rfl
end Go.Proofs.YtndanhacmfhlaaaGreat.Pack
namespace Go.Proofs.YtndanhacmfhlaaaGreat.Items
open Go.ChangeShapes Go.WideShapes Go.ChangeAt Go.RowKit

/-- An item: its size, its number, its text. -/
structure It where
  size : Int
  v : Nat
  s : ByteArray
def it0 : It := ⟨0, 0, ⟨#[]⟩⟩
/-- The cells of item z, from place o of block b on. -/
def ItAt (w : World) (b o : Nat) (z : It) : Prop :=
  w.cell? ⟨b, o, none⟩ = some (.int .i64 z.size) ∧ w.cell? ⟨b, o + 1, none⟩ = some (.int .u64 (z.v : Int)) ∧ w.cell? ⟨b, o + 2, none⟩ = some (.string z.s)
/-- What a number, an unsigned one, a text may be. -/
def It.Fit (z : It) : Prop := (-9223372036854775808 ≤ z.size ∧ z.size ≤ 9223372036854775807) ∧ z.v < 18446744073709551616 ∧ z.s.size ≤ maxLen
/-- The value v is a slice of the items l, below block B. -/
def Its (w : World) (B : Nat) (v : Value) (l : List It) : Prop :=
  ∃ (A : Option Addr) (c : Nat), v = .slice A l.length c ∧ l.length ≤ 9223372036854775807 ∧ ((A = none → c = 0) ∧ l.length ≤ c) ∧
    (0 < l.length → ∃ b off, A = some ⟨b, off, none⟩ ∧ b < B ∧ ∀ i, i < l.length → ItAt w b (off + i * 3) (l.getD i it0))
section
variable {w w' : World} {B B' : Nat} {v : Value} {l : List It}
theorem Its.keep (h : Its w B v l) (hk : ∀ b o, b < B → w'.cell? ⟨b, o, none⟩ = w.cell? ⟨b, o, none⟩) : Its w' B v l := by
  obtain ⟨A, c, rfl, hl, hn, hc⟩ := h
  refine ⟨A, c, rfl, hl, hn, fun h0 => ?_⟩
  obtain ⟨b, off, rfl, hb, hcell⟩ := hc h0
  exact ⟨b, off, rfl, hb, fun i hi => ⟨(hk _ _ hb).trans (hcell i hi).1, (hk _ _ hb).trans (hcell i hi).2.1, (hk _ _ hb).trans (hcell i hi).2.2⟩⟩
theorem Its.below (h : Its w B v l) (hb : Below B w w') : Its w' B v l := h.keep fun b o hlt => hb.cell (p := ⟨b, o, none⟩) hlt
theorem Its.shape (h : Its w B v l) : ∃ A c, v = .slice A l.length c := by
  obtain ⟨A, c, rfl, -⟩ := h
  exact ⟨A, c, rfl⟩
end
section
variable {H : Type} {enc : TypeId × Value → H} {P : Program}
theorem block_lt {w : World} {b o : Nat} {v : Value} (h : w.cell? ⟨b, o, none⟩ = some v) : b < w.heap.size := World.block_lt_of_cell? w ⟨b, o, none⟩ h
theorem open_items {w : World} {b0 : Nat} {r : Reach} {t e ti tu ts : TypeId} {f0 f1 f2 : Field} {v : Value} {d : DataW H} {ps : List MemPlace}
    (ht : P.underlying t = some (.slice e)) (he : P.underlying e = some (.struct #[f0, f1, f2])) (ce : P.cellsOf e = 3) (o0 : f0.offset = 0) (o1 : f1.offset = 1) (o2 : f2.offset = 2)
    (t0 : f0.type = ti) (t1 : f1.type = tu) (t2 : f2.type = ts) (hti : P.underlying ti = some (.int .i64)) (htu : P.underlying tu = some (.int .u64)) (hts : P.underlying ts = some .string)
    (ci : P.cellsOf ti = 1) (cu : P.cellsOf tu = 1) (cs : P.cellsOf ts = 1)
    (hval : Value.okWide P w r b0 t v) (hd : DataW.Trod enc P w 0 (fun _ => true) true t v d ps) :
    ∃ l : List It, Its w w.heap.size v l ∧ ∀ z ∈ l, z.Fit := by
  obtain ⟨a0, len0, cap0, rfl⟩ := okWide_slice ht hval
  obtain ⟨fuel, hf⟩ := hd
  rcases Go.Deep.open_slice ht hf with ⟨h1, -⟩ | ⟨a, len, cap, m, n, D, Pl, h1, -, hlc, hm, hmm, -, hx⟩
  · simp [Value.cells] at h1
    obtain ⟨rfl, rfl, rfl⟩ := h1
    exact ⟨[], ⟨none, 0, rfl, by simp, ⟨fun _ => rfl, Nat.le_refl _⟩, fun h => absurd h (by simp)⟩, by simp⟩
  · simp [Value.cells] at h1
    obtain ⟨rfl, rfl, rfl⟩ := h1
    have hlm : len0 ≤ m := by rw [hmm]; split <;> omega
    have each : ∀ i, i < len0 → ∃ z : It, (w.cell? (a.add (i * 3)) = some (.int .i64 z.size) ∧ w.cell? (a.add (i * 3 + 1)) = some (.int .u64 (z.v : Int)) ∧ w.cell? (a.add (i * 3 + 2)) = some (.string z.s)) ∧ z.Fit := by
      intro i hi
      obtain ⟨cs', g1, g2⟩ := hx i (by omega)
      rw [ce] at g1
      obtain ⟨_, hlen, hcell⟩ := World.cells?_some g1
      obtain ⟨xs, q, -, -, -, hxl, hall⟩ := DataW.trod_struct he g2
      match xs, hxl, cs', hlen with
      | [y0, y1, y2], _, [v0, v1, v2], _ =>
        have k0 := hall 0 f0 rfl
        have k1 := hall 1 f1 rfl
        have k2 := hall 2 f2 rfl
        rw [t0] at k0
        rw [t1] at k1
        rw [t2] at k2
        simp [o0, ci] at k0
        simp [o1, cu] at k1
        simp [o2, cs] at k2
        have e0 := hcell 0 (by omega)
        have e1 := hcell 1 (by omega)
        have e2 := hcell 2 (by omega)
        rw [Go.Deep.add_add] at e0 e1 e2
        obtain ⟨z0, q0, -, w0⟩ := DataW.trod_int hti k0
        obtain ⟨z1, q1, -, w1⟩ := DataW.trod_int htu k1
        obtain ⟨s2, q2, -, w2⟩ := DataW.trod_string hts k2
        simp only [List.cons.injEq, and_true] at q0 q1 q2
        have h0 : -9223372036854775808 ≤ z0 ∧ z0 ≤ 9223372036854775807 := by simpa [Lit.wf, IntKind.min, IntKind.max, IntKind.bits, IntKind.signed] using w0
        have h1 : 0 ≤ z1 ∧ z1 ≤ 18446744073709551615 := by simpa [Lit.wf, IntKind.min, IntKind.max, IntKind.bits, IntKind.signed] using w1
        refine ⟨⟨z0, z1.toNat, s2⟩, ⟨by rw [← q0]; simpa using e0, ?_, by rw [← q2]; simpa using e2⟩, h0, by show z1.toNat < _; omega, w2⟩
        show _ = some (Value.int .u64 ((z1.toNat : Nat) : Int))
        rw [Int.toNat_of_nonneg h1.1, ← q1]; simpa using e1
    obtain ⟨Z, hZ⟩ : ∃ Z : Nat → It, ∀ i, i < len0 → (w.cell? (a.add (i * 3)) = some (.int .i64 (Z i).size) ∧ w.cell? (a.add (i * 3 + 1)) = some (.int .u64 ((Z i).v : Int)) ∧ w.cell? (a.add (i * 3 + 2)) = some (.string (Z i).s)) ∧ (Z i).Fit :=
      ⟨fun i => if h : i < len0 then (each i h).choose else it0, fun i hi => by simp only [dif_pos hi]; exact (each i hi).choose_spec⟩
    have hl : ((List.range len0).map Z).length = len0 := by simp
    refine ⟨(List.range len0).map Z, ⟨some a, cap0, by rw [hl], by rw [hl]; unfold maxLen at hm; omega, ⟨fun h => (by cases h), by rw [hl]; omega⟩, fun h0 => ?_⟩, fun z hz => ?_⟩
    · rw [hl] at h0 ⊢
      obtain ⟨b, off, spot⟩ := a
      have hspot : spot = none := by simpa [Addr.add] using World.cell?_spot (hZ 0 (by omega)).1.1
      subst hspot
      have cells : ∀ i, i < len0 → ItAt w b (off + i * 3) (Z i) := by
        intro i hi
        have := (hZ i hi).1
        rw [Go.WideShapes.add_plain, Go.WideShapes.add_plain, Go.WideShapes.add_plain] at this
        exact ⟨this.1, by rw [Nat.add_assoc]; exact this.2.1, by rw [Nat.add_assoc]; exact this.2.2⟩
      refine ⟨b, off, rfl, block_lt (cells 0 h0).1, fun i hi => ?_⟩
      have e : ((List.range len0).map Z).getD i it0 = Z i := by simp [List.getD_eq_getElem?_getD, hi]
      rw [e]
      exact cells i hi
    · obtain ⟨i, hi, rfl⟩ := List.mem_map.1 hz
      exact (hZ i (List.mem_range.1 hi)).2
/-- An item by value. -/
theorem open_item {w : World} {base b0 : Nat} {spare : Nat → Bool} {held : Bool} {r : Reach} {t ti tu ts : TypeId} {f0 f1 f2 : Field} {v : Value} {d : DataW H} {ps : List MemPlace}
    (he : P.underlying t = some (.struct #[f0, f1, f2])) (ce : P.cellsOf t = 3) (o0 : f0.offset = 0) (o1 : f1.offset = 1) (o2 : f2.offset = 2)
    (t0 : f0.type = ti) (t1 : f1.type = tu) (t2 : f2.type = ts) (hti : P.underlying ti = some (.int .i64)) (htu : P.underlying tu = some (.int .u64)) (hts : P.underlying ts = some .string)
    (ci : P.cellsOf ti = 1) (cu : P.cellsOf tu = 1) (cs : P.cellsOf ts = 1)
    (hval : Value.okWide P w r b0 t v) (hd : DataW.Trod enc P w base spare held t v d ps) :
    ∃ z : It, v = .agg #[.int .i64 z.size, .int .u64 (z.v : Int), .string z.s] ∧ z.Fit := by
  obtain ⟨l, rfl, hsz, -⟩ : ∃ l, v = .agg l ∧ l.size = P.cellsOf t ∧ Row.okWide P w r b0 t l := by
    simpa [Value.okWide, he] using hval
  obtain ⟨fuel, hf⟩ := hd
  obtain ⟨xs, q, -, -, -, hxl, hall⟩ := DataW.trod_struct he hf
  obtain ⟨l⟩ := l
  have hl : l.length = 3 := by rw [← ce]; simpa using hsz
  match xs, hxl, l, hl with
  | [y0, y1, y2], _, [v0, v1, v2], _ =>
    have k0 := hall 0 f0 rfl
    have k1 := hall 1 f1 rfl
    have k2 := hall 2 f2 rfl
    rw [t0] at k0
    rw [t1] at k1
    rw [t2] at k2
    simp [Value.cells, o0, ci] at k0
    simp [Value.cells, o1, cu] at k1
    simp [Value.cells, o2, cs] at k2
    obtain ⟨z0, q0, -, w0⟩ := DataW.trod_int hti k0
    obtain ⟨z1, q1, -, w1⟩ := DataW.trod_int htu k1
    obtain ⟨s2, q2, -, w2⟩ := DataW.trod_string hts k2
    simp only [List.cons.injEq, and_true] at q0 q1 q2
    have h0 : -9223372036854775808 ≤ z0 ∧ z0 ≤ 9223372036854775807 := by simpa [Lit.wf, IntKind.min, IntKind.max, IntKind.bits, IntKind.signed] using w0
    have h1 : 0 ≤ z1 ∧ z1 ≤ 18446744073709551615 := by simpa [Lit.wf, IntKind.min, IntKind.max, IntKind.bits, IntKind.signed] using w1
    subst q0 q1 q2
    refine ⟨⟨z0, z1.toNat, s2⟩, ?_, h0, by show z1.toNat < _; omega, w2⟩
    show Value.agg _ = Value.agg #[.int .i64 z0, .int .u64 ((z1.toNat : Nat) : Int), .string s2]
    rw [Int.toNat_of_nonneg h1.1]
end
end Go.Proofs.YtndanhacmfhlaaaGreat.Items
namespace Go.Proofs.YtndanhacmfhlaaaGreat.Pack
open Go.ChangeShapes Go.WideShapes Go.ChangeAt Go.RowKit Items

/-- How long the texts are together. -/
def sumS (l : List It) : Nat := (l.map fun x => x.s.size).sum
def fairB (l : List It) : Bool := l.all (fun x => decide (x.s.size ≤ 130000)) && decide (l.length ≤ 300 ∧ sumS l ≤ 260000)
theorem take_next (l : List It) (j : Nat) (h : j < l.length) : l.take (j + 1) = l.take j ++ [l.getD j it0] := by
  rw [List.take_add_one, List.getElem?_eq_getElem h, List.getD_eq_getElem?_getD, List.getElem?_eq_getElem h]; rfl
theorem sum_next (l : List It) (j : Nat) (h : j < l.length) : sumS (l.take (j + 1)) = sumS (l.take j) + (l.getD j it0).s.size := by
  rw [take_next l j h]; unfold sumS; simp
theorem sum_bound {l : List It} (h : ∀ x ∈ l, x.s.size ≤ 130000) : sumS l ≤ l.length * 130000 := by
  induction l with
  | nil => simp [sumS]
  | cons x r ih =>
    have h1 := h x (List.mem_cons_self ..)
    have h2 := ih fun y hy => h y (List.mem_cons_of_mem _ hy)
    have : sumS (x :: r) = x.s.size + sumS r := by simp [sumS]
    rw [this, List.length_cons]
    omega
theorem fair_not {l : List It} {j : Nat} (h : j < l.length) (hx : 130000 < (l.getD j it0).s.size) : fairB l = false := by
  unfold fairB
  rw [Bool.and_eq_false_iff]
  left
  rw [List.all_eq_false]
  refine ⟨l.getD j it0, ?_, by rw [decide_eq_false (by omega)]; simp⟩
  rw [List.getD_eq_getElem?_getD, List.getElem?_eq_getElem h]
  exact List.getElem_mem _
theorem small_next {l : List It} {j : Nat} (h : j < l.length) (ha : ∀ x ∈ l.take j, x.s.size ≤ 130000) (hx : ¬ 130000 < (l.getD j it0).s.size) : ∀ x ∈ l.take (j + 1), x.s.size ≤ 130000 := by
  intro x hm
  rw [take_next l j h] at hm
  rcases List.mem_append.1 hm with hm | hm
  · exact ha x hm
  · rw [List.mem_singleton] at hm
    rw [hm]; omega
theorem fair_small {l : List It} (h : fairB l = true) : ∀ x ∈ l, x.s.size ≤ 130000 := by
  unfold fairB at h
  rw [Bool.and_eq_true, List.all_eq_true] at h
  exact fun x hx => of_decide_eq_true (h.1 x hx)
theorem fair_len {l : List It} (h : fairB l = true) : l.length ≤ 300 := by
  unfold fairB at h
  rw [Bool.and_eq_true] at h
  exact (of_decide_eq_true h.2).1
theorem item_in {l : List It} {j : Nat} (h : j < l.length) : l.getD j it0 ∈ l := by
  rw [List.getD_eq_getElem?_getD, List.getElem?_eq_getElem h]
  exact List.getElem_mem _
theorem fair_all {l : List It} (h : ∀ x ∈ l, x.s.size ≤ 130000) : fairB l = decide (l.length ≤ 300 ∧ sumS l ≤ 260000) := by
  unfold fairB
  rw [List.all_eq_true.2 fun x hx => decide_eq_true (h x hx), Bool.true_and]
theorem ret_bool {a b : Bool} (h : a = b) : Ending.returned (.bool a) = .returned (.bool b) := by rw [h]
end Go.Proofs.YtndanhacmfhlaaaGreat.Pack
namespace Go.Proofs.YtndanhacmfhlaaaGreat.Pack
open Items

theorem ba_append (a b : ByteArray) : (a ++ b).data = a.data ++ b.data := ByteArray.data_append
theorem byteN_left (a b : ByteArray) {i : Nat} (h : i < a.size) : byteN (a ++ b) i = byteN a i := by
  unfold byteN
  rw [ba_append, Array.getD_eq_getD_getElem?, Array.getD_eq_getD_getElem?, Array.getElem?_append_left h]
theorem byteN_right (a b : ByteArray) (i : Nat) : byteN (a ++ b) (a.size + i) = byteN b i := by
  unfold byteN
  rw [ba_append, Array.getD_eq_getD_getElem?, Array.getD_eq_getD_getElem?, Array.getElem?_append_right (by show a.data.size ≤ a.size + i; exact Nat.le_add_right _ _)]
  congr 3
  show a.size + i - a.size = i
  omega
theorem byteN_low {v n i : Nat} (h : i < n) : byteN (lowS v n) i = v / 256 ^ i % 256 := by
  unfold byteN lowS lowB
  rw [Array.getD_eq_getD_getElem?]
  simp [h]
theorem val_of {s : ByteArray} : ∀ (n a v : Nat), (∀ i, i < n → byteN s (a + i) = v / 256 ^ i % 256) → valN s a n = v % 256 ^ n
  | 0, _, v, _ => by show 0 = v % 256 ^ 0; rw [Nat.pow_zero, Nat.mod_one]
  | n + 1, a, v, h => by
    show byteN s a + 256 * valN s (a + 1) n = _
    have h0 := h 0 (by omega)
    rw [Nat.add_zero, Nat.pow_zero, Nat.div_one] at h0
    rw [h0, val_of n (a + 1) (v / 256) (fun i hi => by
      have := h (i + 1) (by omega)
      rw [show a + 1 + i = a + (i + 1) by omega, this, Nat.div_div_eq_div_mul, Nat.pow_succ, Nat.mul_comm 256]), Nat.pow_succ, Nat.mul_comm (256 ^ n), Nat.mod_mul]
theorem ext_mid (a m b : ByteArray) : (a ++ (m ++ b)).extract a.size (a.size + m.size) = m := by
  apply ByteArray.ext
  simp [ByteArray.data_extract]
  have h1 : a.data.extract a.size (a.size + m.size) = #[] := Array.extract_empty_of_size_le_start (Nat.le_refl _)
  have h2 : m.data.extract 0 m.size = m.data := Array.extract_size
  rw [h1, h2, Array.empty_append]
/-- An item's bytes; does it go into them? -/
def encS (z : It) : ByteArray := if z.size = 0 then lowS z.s.size 2 ++ z.s else lowS z.v z.size.toNat
def FitsB (z : It) : Prop := if z.size = 0 then z.s.size ≤ 65535 else goesB z.v z.size = true
def PSt.step (p : PSt) (z : It) : PSt := if z.size = 0 then p.text z.s else p.num z.v z.size
theorem put_ok {p : PSt} {b : ByteArray} (h : (p.put b).e = 0) : p.e = 0 ∧ (p.put b).s = p.s ++ b := by
  unfold PSt.put at *
  by_cases he : p.e = 0
  · rw [if_neg (by omega)] at *
    by_cases hl : 60000 < p.s.size + b.size
    · rw [if_pos hl] at h
      exact absurd h (by show ¬ (2 : Int) = 0; decide)
    · rw [if_neg hl]
      exact ⟨he, rfl⟩
  · rw [if_pos he] at h
    exact absurd h he
theorem step_ok {p : PSt} {z : It} (h : (p.step z).e = 0) : p.e = 0 ∧ (p.step z).s = p.s ++ encS z ∧ FitsB z := by
  unfold PSt.step encS FitsB at *
  by_cases hz : z.size = 0
  · rw [if_pos hz] at h
    rw [if_pos hz, if_pos hz, if_pos hz]
    unfold PSt.text at *
    by_cases he : p.e = 0
    · rw [if_neg (by omega)] at *
      by_cases hl : 65535 < z.s.size
      · rw [if_pos hl] at h
        exact absurd h (by show ¬ (2 : Int) = 0; decide)
      · rw [if_neg hl] at *
        exact ⟨he, (put_ok h).2, by omega⟩
    · rw [if_pos he] at h
      exact absurd h he
  · rw [if_neg hz] at h
    rw [if_neg hz, if_neg hz, if_neg hz]
    unfold PSt.num at *
    by_cases he : p.e = 0
    · rw [if_neg (by omega)] at *
      by_cases hg : goesB z.v z.size = true
      · rw [if_pos hg] at *
        exact ⟨he, (put_ok h).2, hg⟩
      · rw [if_neg hg] at h
        exact absurd h (by show ¬ (11 : Int) = 0; decide)
    · rw [if_pos he] at h
      exact absurd h he
/-- All items, one behind the other. -/
def encL : List It → ByteArray
  | [] => ⟨#[]⟩
  | z :: r => encS z ++ encL r
def runP (p : PSt) (l : List It) : PSt := l.foldl PSt.step p
theorem run_next (l : List It) {j : Nat} (h : j < l.length) : runP pst0 (l.take (j + 1)) = (runP pst0 (l.take j)).step (l.getD j it0) := by
  unfold runP
  rw [take_next l j h, List.foldl_append]; rfl
theorem run_ok : ∀ (l : List It) (p : PSt), (runP p l).e = 0 → p.e = 0 ∧ (runP p l).s = p.s ++ encL l ∧ ∀ z ∈ l, FitsB z
  | [], p, h => ⟨h, by show p.s = p.s ++ ⟨#[]⟩; exact (ByteArray.append_empty).symm, by simp⟩
  | z :: r, p, h => by
    obtain ⟨h1, h2, h3⟩ := run_ok r (p.step z) h
    obtain ⟨k1, k2, k3⟩ := step_ok h1
    refine ⟨k1, ?_, fun x hx => ?_⟩
    · show (runP (p.step z) r).s = p.s ++ (encS z ++ encL r)
      rw [h2, k2, ByteArray.append_assoc]
    · rcases List.mem_cons.1 hx with rfl | hx
      · exact k3
      · exact h3 x hx
theorem enc_split : ∀ (a b : List It), encL (a ++ b) = encL a ++ encL b
  | [], b => by show encL b = ⟨#[]⟩ ++ encL b; exact (ByteArray.empty_append).symm
  | z :: r, b => by
    show encS z ++ encL (r ++ b) = (encS z ++ encL r) ++ encL b
    rw [enc_split r b, ByteArray.append_assoc]
/-- What stands next is opened as it was put. -/
theorem num_back {pre post : ByteArray} {v : Nat} {n : Int} (h : goesB v n = true) :
    (OSt.num ⟨pre ++ (lowS v n.toNat ++ post), pre.size, false⟩ n) = (v, ⟨pre ++ (lowS v n.toNat ++ post), pre.size + n.toNat, false⟩) := by
  unfold goesB at h
  rw [Bool.and_eq_true, decide_eq_true_eq] at h
  have hs : n = 1 ∨ n = 2 ∨ n = 4 ∨ n = 8 := of_decide_eq_true h.1
  have hsz : (pre ++ (lowS v n.toNat ++ post)).size = pre.size + (n.toNat + post.size) := by rw [ByteArray.size_append, ByteArray.size_append, low_size]
  have hv : valN (pre ++ (lowS v n.toNat ++ post)) pre.size n.toNat = v := by
    rw [val_of n.toNat pre.size v, Nat.mod_eq_of_lt h.2]
    intro i hi
    rw [byteN_right, byteN_left _ _ (by rw [low_size]; exact hi), byteN_low hi]
  unfold OSt.num OSt.hasNum
  rw [show (!false && sizedB n && decide (n ≤ ((pre ++ (lowS v n.toNat ++ post)).size : Int) - (pre.size : Nat))) = true by
    rw [h.1, decide_eq_true (by rw [hsz]; omega)]; rfl]
  show (valN _ _ _, _) = _
  rw [hv]
theorem text_back {pre post t : ByteArray} (h : t.size ≤ 65535) :
    (OSt.text ⟨pre ++ ((lowS t.size 2 ++ t) ++ post), pre.size, false⟩ 65535) = (t, ⟨pre ++ ((lowS t.size 2 ++ t) ++ post), pre.size + 2 + t.size, false⟩) := by
  have hsz : (pre ++ ((lowS t.size 2 ++ t) ++ post)).size = pre.size + (2 + t.size + post.size) := by
    rw [ByteArray.size_append, ByteArray.size_append, ByteArray.size_append, low_size]
  have b0 : byteN (pre ++ ((lowS t.size 2 ++ t) ++ post)) pre.size = t.size % 256 := by
    have := byteN_right pre ((lowS t.size 2 ++ t) ++ post) 0
    rw [Nat.add_zero] at this
    rw [this, ByteArray.append_assoc, byteN_left _ _ (by rw [low_size]; decide), byteN_low (by decide), Nat.pow_zero, Nat.div_one]
  have b1 : byteN (pre ++ ((lowS t.size 2 ++ t) ++ post)) (pre.size + 1) = t.size / 256 % 256 := by
    rw [byteN_right, ByteArray.append_assoc, byteN_left _ _ (by rw [low_size]; decide), byteN_low (by decide), Nat.pow_one]
  have hlen : (OSt.len ⟨pre ++ ((lowS t.size 2 ++ t) ++ post), pre.size, false⟩) = t.size := by
    unfold OSt.len
    show byteN _ _ + 256 * byteN _ _ = _
    rw [b0, b1]
    omega
  have := text_yes (o := ⟨pre ++ ((lowS t.size 2 ++ t) ++ post), pre.size, false⟩) (most := 65535) rfl (by
    rw [hlen]
    show pre.size + 2 ≤ (pre ++ ((lowS t.size 2 ++ t) ++ post)).size ∧ _ ∧ pre.size + 2 + _ ≤ (pre ++ ((lowS t.size 2 ++ t) ++ post)).size
    rw [hsz]
    omega)
  rw [this, hlen]
  congr 1
  show (pre ++ ((lowS t.size 2 ++ t) ++ post)).extract (pre.size + 2) (pre.size + 2 + t.size) = t
  have e : pre ++ ((lowS t.size 2 ++ t) ++ post) = (pre ++ lowS t.size 2) ++ (t ++ post) := by rw [ByteArray.append_assoc, ByteArray.append_assoc]
  have e2 : (pre ++ lowS t.size 2).size = pre.size + 2 := by rw [ByteArray.size_append, low_size]
  rw [e, ← e2]
  exact ext_mid _ _ _
theorem put_size {p : PSt} {b : ByteArray} (h : p.s.size ≤ 60000) : (p.put b).s.size ≤ 60000 := by
  unfold PSt.put
  split
  · exact h
  · split
    · exact h
    · show (p.s ++ b).size ≤ 60000
      rw [ByteArray.size_append]; omega
theorem step_size {p : PSt} {z : It} (h : p.s.size ≤ 60000) : (p.step z).s.size ≤ 60000 := by
  unfold PSt.step PSt.text PSt.num
  split
  · split
    · exact h
    · split
      · exact h
      · exact put_size h
  · split
    · exact h
    · split
      · exact put_size h
      · exact h
theorem run_size : ∀ (l : List It) (p : PSt), p.s.size ≤ 60000 → (runP p l).s.size ≤ 60000
  | [], _, h => h
  | z :: r, p, h => run_size r (p.step z) (step_size h)
theorem enc_at {l : List It} {j : Nat} (h : j < l.length) : encL l = encL (l.take j) ++ (encS (l.getD j it0) ++ encL (l.drop (j + 1))) := by
  have e : l = l.take j ++ (l.getD j it0 :: l.drop (j + 1)) := by
    conv => lhs; rw [← List.take_append_drop j l, List.drop_eq_getElem_cons h]
    rw [List.getD_eq_getElem?_getD, List.getElem?_eq_getElem h]; rfl
  conv => lhs; rw [e, enc_split]
  rfl
theorem enc_next {l : List It} {j : Nat} (h : j < l.length) : (encL (l.take (j + 1))).size = (encL (l.take j)).size + (encS (l.getD j it0)).size := by
  rw [take_next l j h, enc_split, ByteArray.size_append]
  congr 1
  show (encS _ ++ encL []).size = _
  rw [ByteArray.size_append]
  rfl
theorem open_text {l : List It} {j : Nat} (h : j < l.length) (hz : (l.getD j it0).size = 0) (hf : FitsB (l.getD j it0)) :
    OSt.text ⟨encL l, (encL (l.take j)).size, false⟩ 65535 = ((l.getD j it0).s, ⟨encL l, (encL (l.take (j + 1))).size, false⟩) := by
  unfold FitsB at hf
  rw [if_pos hz] at hf
  have e1 := enc_at h
  have e2 := enc_next h
  have e3 : encS (l.getD j it0) = lowS (l.getD j it0).s.size 2 ++ (l.getD j it0).s := by unfold encS; rw [if_pos hz]
  rw [e3] at e1 e2
  rw [ByteArray.size_append, low_size] at e2
  rw [e2, ← Nat.add_assoc, e1]
  exact text_back hf
theorem open_num {l : List It} {j : Nat} (h : j < l.length) (hz : ¬ (l.getD j it0).size = 0) (hf : FitsB (l.getD j it0)) :
    OSt.num ⟨encL l, (encL (l.take j)).size, false⟩ (l.getD j it0).size = ((l.getD j it0).v, ⟨encL l, (encL (l.take (j + 1))).size, false⟩) := by
  unfold FitsB at hf
  rw [if_neg hz] at hf
  have e1 := enc_at h
  have e2 := enc_next h
  have e3 : encS (l.getD j it0) = lowS (l.getD j it0).v (l.getD j it0).size.toNat := by unfold encS; rw [if_neg hz]
  rw [e3] at e1 e2
  rw [low_size] at e2
  rw [e2, e1]
  exact num_back hf
end Go.Proofs.YtndanhacmfhlaaaGreat.Pack
namespace Go.Proofs.YtndanhacmfhlaaaGreat.Pack
theorem ext_ext (s : ByteArray) (a i j : Nat) (ha : a ≤ s.size) (hj : j ≤ s.size - a) : (s.extract a s.size).extract i j = s.extract (a + i) (a + j) := by
  apply ByteArray.ext
  rw [ByteArray.data_extract, ByteArray.data_extract, ByteArray.data_extract, Array.extract_extract]
  congr 1
  have : s.data.size = s.size := rfl
  omega
theorem byteN_ext {s : ByteArray} {a j i : Nat} (hj : j ≤ s.size) (hi : a + i < j) : byteN (s.extract a j) i = byteN s (a + i) := by
  have h1 : i < (s.extract a j).size := by rw [ByteArray.size_extract]; omega
  have h2 : a + i < s.size := by omega
  rw [← byteN_at h1, ← byteN_at h2]
  simp [ByteArray.getElem_extract]
theorem valN_ext {s : ByteArray} {a j : Nat} (hj : j ≤ s.size) : ∀ (n i : Nat), a + i + n ≤ j → valN (s.extract a j) i n = valN s (a + i) n
  | 0, _, _ => rfl
  | n + 1, i, h => by
    show byteN (s.extract a j) i + 256 * valN (s.extract a j) (i + 1) n = byteN s (a + i) + 256 * valN s (a + i + 1) n
    rw [byteN_ext hj (by omega), valN_ext hj n (i + 1) (by omega), show a + (i + 1) = a + i + 1 by omega]
theorem size_ext' (b : ByteArray) {a e : Nat} (he : e ≤ b.size) : (b.extract a e).size = e - a := by
  rw [ByteArray.size_extract]
  omega
theorem byte_eq {a b : ByteArray} (hs : a.size = b.size) (h : ∀ i, i < a.size → byteN a i = byteN b i) : a = b := by
  apply ByteArray.ext
  apply Array.ext
  · exact hs
  · intro i h1 h2
    have := h i h1
    unfold byteN at this
    rw [Array.getD_eq_getD_getElem?, Array.getD_eq_getD_getElem?, Array.getElem?_eq_getElem h1, Array.getElem?_eq_getElem h2] at this
    exact UInt8.toNat_inj.1 this
theorem valN_eq {a b : ByteArray} : ∀ (n i j : Nat), (∀ k, k < n → byteN a (i + k) = byteN b (j + k)) → valN a i n = valN b j n
  | 0, _, _, _ => rfl
  | n + 1, i, j, h => by
    show byteN a i + 256 * valN a (i + 1) n = byteN b j + 256 * valN b (j + 1) n
    rw [show byteN a i = byteN b j from h 0 (by omega), valN_eq n (i + 1) (j + 1) (fun k hk => by rw [show i + 1 + k = i + (k + 1) by omega, show j + 1 + k = j + (k + 1) by omega]; exact h (k + 1) (by omega))]
theorem valN_left {a b : ByteArray} {i n : Nat} (h : i + n ≤ a.size) : valN (a ++ b) i n = valN a i n :=
  valN_eq n i i fun k hk => byteN_left a b (by omega)
theorem valN_right (a b : ByteArray) (i n : Nat) : valN (a ++ b) (a.size + i) n = valN b i n :=
  valN_eq n (a.size + i) i fun k _ => by rw [Nat.add_assoc, byteN_right]
theorem valN_low {v n : Nat} (h : v < 256 ^ n) : valN (lowS v n) 0 n = v := by
  rw [val_of (v := v) n 0 (fun i hi => by rw [Nat.zero_add, byteN_low hi]), Nat.mod_eq_of_lt h]
theorem ext_left {a b : ByteArray} {i j : Nat} (h : j ≤ a.size) : (a ++ b).extract i j = a.extract i j := by
  have h1 := size_ext' (a ++ b) (a := i) (e := j) (by rw [ByteArray.size_append]; omega)
  have h2 := size_ext' a (a := i) (e := j) h
  refine byte_eq (by rw [h1, h2]) fun k hk => ?_
  rw [h1] at hk
  rw [byteN_ext (by rw [ByteArray.size_append]; omega) (by omega), byteN_ext h (by omega), byteN_left _ _ (by omega)]
theorem ext_right (a b : ByteArray) {i j : Nat} (h : j ≤ b.size) : (a ++ b).extract (a.size + i) (a.size + j) = b.extract i j := by
  have h1 := size_ext' (a ++ b) (a := a.size + i) (e := a.size + j) (by rw [ByteArray.size_append]; omega)
  have h2 := size_ext' b (a := i) (e := j) h
  refine byte_eq (by rw [h1, h2]; omega) fun k hk => ?_
  rw [h1] at hk
  rw [byteN_ext (by rw [ByteArray.size_append]; omega) (by omega), byteN_ext h (by omega), Nat.add_assoc, byteN_right]
theorem ext_all (a : ByteArray) : a.extract 0 a.size = a := by
  refine byte_eq (by rw [size_ext' a (Nat.le_refl _)]; omega) fun k hk => ?_
  rw [size_ext' a (Nat.le_refl _)] at hk
  rw [byteN_ext (Nat.le_refl _) (by omega), Nat.zero_add]
theorem ext_two (s : ByteArray) {i j k : Nat} (h1 : i ≤ j) (h2 : j ≤ k) (h3 : k ≤ s.size) : s.extract i j ++ s.extract j k = s.extract i k := by
  have e1 := size_ext' s (a := i) (e := j) (by omega)
  have e2 := size_ext' s (a := j) (e := k) h3
  have e3 := size_ext' s (a := i) (e := k) h3
  refine byte_eq (by rw [ByteArray.size_append]; omega) fun m hm => ?_
  rw [ByteArray.size_append] at hm
  rw [byteN_ext h3 (by omega)]
  by_cases hj : m < j - i
  · rw [byteN_left _ _ (by omega), byteN_ext (by omega) (by omega)]
  · rw [show m = (s.extract i j).size + (m - (j - i)) by omega, byteN_right, byteN_ext h3 (by omega)]
    congr 1
    omega
/-- Texts, one behind the other. -/
def catL : List ByteArray → ByteArray
  | [] => ⟨#[]⟩
  | b :: l => b ++ catL l
theorem catL_one (b : ByteArray) : catL [b] = b := ByteArray.append_empty ..
theorem catL_append : ∀ (l m : List ByteArray), catL (l ++ m) = catL l ++ catL m
  | [], m => by show catL m = ⟨#[]⟩ ++ catL m; exact (ByteArray.empty_append ..).symm
  | b :: l, m => by show b ++ catL (l ++ m) = b ++ catL l ++ catL m; rw [catL_append l m, ByteArray.append_assoc]
theorem catL_last (l : List ByteArray) (b : ByteArray) : catL (l ++ [b]) = catL l ++ b := by rw [catL_append, catL_one]
/-- So many bytes 00. -/
def nulls (k : Nat) : ByteArray := ⟨Array.replicate k 0⟩
theorem nulls_size (k : Nat) : (nulls k).size = k := by unfold nulls; simp [ByteArray.size]
theorem nulls_at (k i : Nat) : byteN (nulls k) i = 0 := by
  unfold byteN nulls
  rw [Array.getD_eq_getD_getElem?]
  by_cases h : i < k
  · simp [h]
  · simp [h]
end Go.Proofs.YtndanhacmfhlaaaGreat.Pack
namespace Go.Proofs.YtndanhacmfhlaaaGreat.ByHand
section
variable {P : Program} {ops : Array Oper} {Q : Exit → Act → World → Prop} {md : Region.Mode} {S : World → Prop} {oi : Oper} {v : Value} {fuel : Nat} {listed : Array Bool} {a : Act} {w : World}
theorem take_yes (i k : Nat) (hi : ops[i]? = some oi) (hd : oi.dst = some k) (hs : Region.noSelect ops = true) (hf : Region.free md ops listed i = true) (hr : (Region.ready md ops listed).contains i = true)
    (hQ : ∀ c a w, Q (.panic c) (a.put oi.dst v) w → Q (.panic c) a w) (hw : Region.wanted oi (yielded ops a.tmps) = true) (hy : ∀ w, S w → (execOp a.eval oi).run P w = .ok (.value v) w) (hS : S w)
    (h : wpAnyH P md ops Q S fuel (listed.setIfInBounds i true) (a.put (some k) v) w) : wpAnyH P md ops Q S (fuel + 1) listed a w :=
  wpAnyH_take hi hs hf hr hQ (Or.inl ⟨hw, hy⟩) hS (by rw [hd]; exact h)
theorem take_no (i k : Nat) (hi : ops[i]? = some oi) (hd : oi.dst = some k) (hs : Region.noSelect ops = true) (hf : Region.free md ops listed i = true) (hr : (Region.ready md ops listed).contains i = true)
    (hQ : ∀ c a w, Q (.panic c) (a.put oi.dst undef) w → Q (.panic c) a w) (hw : Region.wanted oi (yielded ops a.tmps) = false) (hS : S w)
    (h : wpAnyH P md ops Q S fuel (listed.setIfInBounds i true) (a.put (some k) undef) w) : wpAnyH P md ops Q S (fuel + 1) listed a w :=
  wpAnyH_take hi hs hf hr hQ (Or.inr ⟨hw, rfl⟩) hS (by rw [hd]; exact h)
end
end Go.Proofs.YtndanhacmfhlaaaGreat.ByHand
