/- The document's own Size, number, Num. The document's own Make. The document's own Read. annuitykeep.Texts of two slices that read as the same texts. -/
import Derived.Test.YtndanhacmfhlaaaGreatGBase
import Derived.Test.YtndanhacmfhlaaaGreatGPack
import Derived.Deep.DeepCutAuto
import Derived.Test.YtndanhacmfhlaaaGreatGA
import Derived.Deep.RegionHeld3
import Derived.Laws.DeepStrings4
import Derived.Deep.WholeRow
import Derived.Laws.CopyOwn
import Derived.Test.YtndanhacmfhlaaaGreatChecked
import Derived.Lib.Hide
import Derived.Deep.QuietTactic
import Derived.BigQuiet
namespace Go.Proofs.YtndanhacmfhlaaaGreat.Frame
open Go.ChangeShapes Go.WideShapes Go.ChangeAt Go.RowKit Pack Crc

theorem r_fsize (n : Int) (w : World) (h : -9223372036854775808 ≤ n ∧ n ≤ 9223372036854775807) : Calls Tryz.prog 39 #[.int .i64 n] w fun e w' => e = .returned (.int .i64 (sizeV n)) ∧ w = w' := by
  by_cases h1 : n < 0
  · have t1 := decide_eq_true h1
    have H : Hid (sizeV n = 0) := show _ = _ by unfold sizeV; rw [if_neg (by omega)]
    rw [H.out]
    go_enter Tryz.func39, Tryz.ntmps39
    go_wp2_with fail
    go_ret
    exact ⟨rfl, rfl⟩
  · have t1 := decide_eq_false h1
    by_cases h2 : 60000 < n
    · have t2 := decide_eq_true h2
      have H : Hid (sizeV n = 0) := show _ = _ by unfold sizeV; rw [if_neg (by omega)]
      rw [H.out]
      go_enter Tryz.func39, Tryz.ntmps39
      go_wp2_with fail
      go_ret
      exact ⟨rfl, rfl⟩
    · have t2 := decide_eq_false h2
      obtain ⟨m, rfl⟩ : ∃ m : Nat, n = m := ⟨n.toNat, by omega⟩
      have H : Hid (sizeV m = ((m + 251) / 244 : Nat)) := show _ = _ by unfold sizeV; rw [if_pos (by omega)]; rfl
      rw [H.out]
      have e1 : IntKind.i64.wrap ((m : Int) + 8) = (m : Int) + 8 := IntWalk.i64_in _ (by omega)
      have e2 : IntKind.i64.wrap ((m : Int) + 8 + 244) = (m : Int) + 8 + 244 := IntWalk.i64_in _ (by omega)
      have e3 : IntKind.i64.wrap ((m : Int) + 8 + 244 - 1) = (m : Int) + 8 + 244 - 1 := IntWalk.i64_in _ (by omega)
      have e4 : ((m : Int) + 8 + 244 - 1).tdiv 244 = (((m + 251) / 244 : Nat) : Int) := by rw [Int.tdiv_eq_ediv_of_nonneg (by omega)]; omega
      go_enter Tryz.func39, Tryz.ntmps39
      go_wp2_with fail
      go_ret
      exact ⟨rfl, rfl⟩
theorem r_number (s : ByteArray) (w : World) (h : s.size ≤ 7) : Calls Tryz.prog 63 #[.string s] w fun e w' => e = .returned (.int .i64 (valN s 0 s.size : Nat)) ∧ w = w' := by
  obtain ⟨m, hm⟩ : ∃ m, m = s.size := ⟨_, rfl⟩
  have e0 : IntKind.i64.wrap ((s.size : Int) - 1) = (m : Int) - 1 := by rw [← hm]; exact IntWalk.i64_in _ (by omega)
  go_enter Tryz.func63, Tryz.ntmps63
  go_wp2_with fail
  go_loop [3, 4] (fun u t => ∃ k : Nat, k ≤ m ∧ t = .int .i64 ((k : Int) - 1) ∧ u = .int .i64 (valN s k (m - k) : Nat)) (fun _ t => ((intOf t) + 1).toNat)
  case atStart => exact ⟨m, Nat.le_refl _, by rw [hm], by rw [Nat.sub_self]; rfl⟩
  case round =>
    obtain ⟨k, hk, rfl, rfl⟩ := hrel
    rcases Nat.eq_zero_or_pos k with h0 | h0
    · subst h0
      have em : ((0 : Nat) : Int) - 1 = -1 := rfl
      rw [em, Nat.sub_zero, hm]
      go_wp2_with fail
      go_ret
      exact ⟨rfl, rfl⟩
    · obtain ⟨j, rfl⟩ : ∃ j, k = j + 1 := ⟨k - 1, by omega⟩
      have ej : ((j + 1 : Nat) : Int) - 1 = j := by omega
      have hat : j < s.size := by omega
      have HB := byteN_at hat
      have HV := Lib.hid (val_next s 0 hk)
      rw [Nat.zero_add, Nat.zero_add] at HV
      have hx : valN s (j + 1) (m - (j + 1)) < 281474976710656 := Nat.lt_of_lt_of_le (valN_lt s _ _) (show 256 ^ (m - (j + 1)) ≤ 256 ^ 6 from Nat.pow_le_pow_right (by decide) (by omega))
      have hbl := byteN_lt s j
      generalize valN s (j + 1) (m - (j + 1)) = x at *
      have e1 : IntKind.i64.wrap ((x : Int) * 256) = (x : Int) * 256 := IntWalk.i64_in _ (by omega)
      have e2 : IntKind.i64.wrap ((x : Int) * 256 + (byteN s j : Nat)) = (x : Int) * 256 + (byteN s j : Nat) := IntWalk.i64_in _ (by omega)
      have e3 : (0 : Int) ≤ (j : Int) := by omega
      have e4 : (j : Int) < (s.size : Int) := by omega
      rw [ej]
      clear hm e0
      go_wp2_with fail
      go_round
      case rel => exact ⟨j, by omega, rfl, by rw [HV.out]; congr 1; omega⟩
      case measure => simp [intOf]
theorem text_apart {s t : ByteArray} (h : s ≠ t) : ¬ s.toList = t.toList := fun e => h (Go.WideShapes.bytes_inj (by rw [← ByteArray.toList_eq, ← ByteArray.toList_eq]; exact e))
theorem text_ne {s t : ByteArray} (h : s ≠ t) : (s.toList == t.toList) = false := by rw [beq_eq_false_iff_ne]; exact text_apart h
theorem text_eq {s t : ByteArray} (h : s = t) : (s.toList == t.toList) = true := by rw [h]; simp
theorem r_fnum (b : ByteArray) (w : World) : Calls Tryz.prog 42 #[.string b] w fun e w' => e = .returned (.int .u32 (numV b : Nat)) ∧ ∃ n, w' = w.drewN n := by
  by_cases hs : b.size = 256
  · have s1 : (0 : Int) ≤ (b.size : Int) := by omega
    have t1 : ((b.size : Int) != 256) = false := by rw [bne_eq_false_iff_eq]; omega
    have s4 : (4 : Int) ≤ (b.size : Int) := by omega
    have s252 : (252 : Int) ≤ (b.size : Int) := by omega
    have hz4 : (b.extract 0 4).size = 4 := by rw [size_ext' b (by omega)]
    have N := r_number (b.extract 0 4)
    rw [hz4] at N
    have hv : valN (b.extract 0 4) 0 4 = valN b 0 4 := by
      have := valN_ext (s := b) (a := 0) (j := 4) (by omega) 4 0 (by omega)
      simpa using this
    rw [hv] at N
    have hlt : valN b 0 4 < 4294967296 := valN_lt b 4 0
    by_cases he : b.extract 0 4 = b.extract 252 256
    · have t2 : ((b.extract 0 4).toList == (b.extract 252 256).toList) = true := text_eq he
      have H : Hid (numV b = valN b 0 4) := show _ = _ by unfold numV; rw [if_pos ⟨hs, he⟩]
      rw [H.out]
      generalize valN b 0 4 = v at *
      have m1 : IntKind.u32.wrap (v : Int) = v := IntWalk.u32_in _ (by omega)
      clear he hv H
      go_enter Tryz.func42, Tryz.ntmps42
      go_wp2_with fail
      go_quiet (fail)
      go_wp2_with fail
      refine (N _ (by decide)).mono ?_
      rintro e w' ⟨rfl, rfl⟩
      go_wp2_with fail
      go_ret
      exact ⟨rfl, _, rfl⟩
    · have t2 : ((b.extract 0 4).toList == (b.extract 252 256).toList) = false := text_ne he
      have H : Hid (numV b = 0) := show _ = _ by unfold numV; rw [if_neg (fun h => he h.2)]
      rw [H.out]
      clear he hv H N
      go_enter Tryz.func42, Tryz.ntmps42
      go_wp2_with fail
      go_quiet (fail)
      go_wp2_with fail
      go_ret
      exact ⟨rfl, _, rfl⟩
  · have t1 : ((b.size : Int) != 256) = true := by rw [bne_iff_ne]; omega
    have H : Hid (numV b = 0) := show _ = _ by unfold numV; rw [if_neg (fun h => hs h.1)]
    rw [H.out]
    go_enter Tryz.func42, Tryz.ntmps42
    go_wp2_with fail
    go_quiet (fail)
    go_wp2_with fail
    go_ret
    exact ⟨rfl, _, rfl⟩
end Go.Proofs.YtndanhacmfhlaaaGreat.Frame
namespace Go.Proofs.YtndanhacmfhlaaaGreat.Frame
open Go.ChangeShapes Go.WideShapes Go.ChangeAt Go.RowKit Pack Crc Els

theorem below_on {a b c : World} (h : Below a.heap.size a b) (k : Below b.heap.size b c) : Below a.heap.size a c := h.trans (k.mono h.size)
theorem str_info : ∃ i, Tryz.prog.info? 9 = some i ∧ i.zero = some (.string ⟨#[]⟩) ∧ i.size = 1 ∧ i.bytes = 16 := by
  have h : (Tryz.prog.info? 9).map (fun i => (i.zero, i.size, i.bytes)) = some (some (.string ⟨#[]⟩), 1, 16) := by kernel_rfl
  obtain ⟨i, hi, e⟩ := Option.map_eq_some_iff.1 h
  simp only [Prod.mk.injEq] at e
  exact ⟨i, hi, e.1, e.2.1, e.2.2⟩
theorem nulls_text {w : World} {g k : Nat} {T : TypeId} (h : w.rowIs g T k (fun _ => .int .u8 0)) {P : Program} (src dst : TypeId) (hs : P.underlying src = some (.slice T)) (he : P.underlying T = some (.int .u8)) (hd : P.underlying dst = some .string) :
    (convert src dst (.slice (some ⟨g, 0, none⟩) k k)).run P w = .ok (.string (nulls k)) w := by
  have hl : (List.replicate k (0 : UInt8)).length = k := List.length_replicate
  have := run_convert_bytes_back (P := P) w src dst T ⟨g, 0, none⟩ k (List.replicate k 0) hs he hd (fun j hj => by
    rw [hl] at hj
    rw [Go.WideShapes.add_plain, Nat.zero_add, h.cell hj]
    simp)
  rw [hl] at this
  rw [this]
  unfold nulls
  rw [List.toArray_replicate]
theorem slice_two (s : ByteArray) (x y : Int) (i j : Nat) (hx : x = i) (hy : y = j) (h1 : i ≤ j) (h2 : j ≤ s.size) (W : World) :
    (Instr.slice 9 (.string s) (some (.int .i64 x)) (some (.int .i64 y)) none).run Tryz.prog W = .ok (.string (s.extract i j)) W := by
  subst hx hy
  rw [run_slice_string_if (P := Tryz.prog) (w := W) 9 s .i64 .i64 (i : Int) (j : Int) Tryz.underlying9, if_pos (by omega), if_pos (by omega)]
  simp
def makL (num : Nat) (s : ByteArray) : List ByteArray := if num = 0 ∨ 60000 < s.size then [] else secL num s
def makX (num : Nat) (s : ByteArray) : Int := if num = 0 then 1 else if 60000 < s.size then 2 else 0
def Made (num : Nat) (s : ByteArray) (w : World) (e : Ending) (w' : World) : Prop :=
  ∃ v, e = .returned (.tuple #[v, .int .i64 (makX num s)]) ∧ Txts w' w'.heap.size v (makL num s) ∧ Below w.heap.size w w'
/-- The value v is no slice of memory below block B. -/
def NewAt (B : Nat) (v : Value) : Prop := ∀ a len c, v = .slice (some a) len c → B ≤ a.block
theorem new_nil (B : Nat) : NewAt B (.slice none 0 0) := fun a len c h => by injection h with h; cases h
/-- .. and its sectors are memory of the call's own. -/
def MadeN (num : Nat) (s : ByteArray) (w : World) (e : Ending) (w' : World) : Prop :=
  ∃ v, e = .returned (.tuple #[v, .int .i64 (makX num s)]) ∧ Txts w' w'.heap.size v (makL num s) ∧ Below w.heap.size w w' ∧ NewAt w.heap.size v
theorem MadeN.made {num : Nat} {s : ByteArray} {w w' : World} {e : Ending} (h : MadeN num s w e w') : Made num s w e w' := by
  obtain ⟨v, h1, h2, h3, -⟩ := h
  exact ⟨v, h1, h2, h3⟩
theorem make_zero (s : ByteArray) (w : World) : Calls Tryz.prog 64 #[.int .u32 (0 : Nat), .string s] w (MadeN 0 s w) := by
  have H : Hid (makL 0 s = [] ∧ makX 0 s = 1) := show _ ∧ _ from ⟨by unfold makL; rw [if_pos (Or.inl rfl)], rfl⟩
  unfold MadeN
  rw [H.out.1, H.out.2]
  go_enter Tryz.func64, Tryz.ntmps64
  go_wp2_with fail
  go_ret2
  exact ⟨_, rfl, Els.nil_ _ _, Below.refl _ _, new_nil _⟩
theorem make_long (num : Nat) (s : ByteArray) (w : World) (h0 : num ≠ 0) (hs : 60000 < s.size) : Calls Tryz.prog 64 #[.int .u32 (num : Nat), .string s] w (MadeN num s w) := by
  have H : Hid (makL num s = [] ∧ makX num s = 2) := show _ ∧ _ from ⟨by unfold makL; rw [if_pos (Or.inr hs)], by unfold makX; rw [if_neg h0, if_pos hs]⟩
  unfold MadeN
  rw [H.out.1, H.out.2]
  have t1 : ((num : Int) == 0) = false := by rw [beq_eq_false_iff_ne]; omega
  have t2 : decide ((60000 : Int) < (s.size : Int)) = true := decide_eq_true (by omega)
  go_enter Tryz.func64, Tryz.ntmps64
  go_wp2_with fail
  go_ret2
  exact ⟨_, rfl, Els.nil_ _ _, Below.refl _ _, new_nil _⟩
set_option maxRecDepth 20000 in
set_option maxHeartbeats 4000000 in
theorem make_all (num : Nat) (s : ByteArray) (w : World) (h0 : num ≠ 0) (hn : num < 4294967296) (hs : s.size ≤ 60000) : Calls Tryz.prog 64 #[.int .u32 (num : Nat), .string s] w (MadeN num s w) := by
  have H : Hid (makL num s = secL num s ∧ makX num s = 0) := show _ ∧ _ from ⟨by unfold makL; rw [if_neg (by omega)], by unfold makX; rw [if_neg h0, if_neg (by omega)]⟩
  unfold MadeN
  rw [H.out.1, H.out.2]
  have t1 : ((num : Int) == 0) = false := by rw [beq_eq_false_iff_ne]; omega
  have t2 : decide ((60000 : Int) < (s.size : Int)) = false := decide_eq_false (by omega)
  have B4 : Hid (∀ (v : Nat) (W : World), v < 4294967296 → Calls Tryz.prog 72 #[.int .u64 v, .int .i64 4] W fun e w' => e = .returned (.string (lowS v 4)) ∧ Below W.heap.size W w') := fun v W hv => r_bytes v 4 W (by omega) (by omega)
  have B2 : Hid (∀ (v : Nat) (W : World), v < 65536 → Calls Tryz.prog 72 #[.int .u64 v, .int .i64 2] W fun e w' => e = .returned (.string (lowS v 2)) ∧ Below W.heap.size W w') := fun v W hv => r_bytes v 2 W (by omega) (by omega)
  have SM : Hid (∀ W, Calls Tryz.prog 69 #[.string (headS s)] W fun e w' => e = .returned (.int .u32 (sumS (headS s) : Nat)) ∧ W = w') := fun W => r_sum (headS s) W (by rw [head_size]; omega)
  have SZ : Hid (∀ W, Calls Tryz.prog 39 #[.int .i64 (s.size : Int)] W fun e w' => e = .returned (.int .i64 (sizeN s.size : Nat)) ∧ W = w') := fun W => by
    have := r_fsize (s.size : Int) W (by omega)
    rwa [show sizeV (s.size : Int) = (sizeN s.size : Nat) by unfold sizeV; rw [if_pos (by omega)]; rfl] at this
  have hsum := sumS_lt (headS s)
  have hhd : lowS s.size 4 ++ s = headS s := rfl
  have hrec : headS s ++ lowS (sumS (headS s)) 4 = recS s := rfl
  have hful : recS s ++ nulls (sizeN s.size * 244 - (s.size + 8)) = fullS s := rfl
  have hm := size_most hs
  have hr := size_room s.size
  have z1 : ¬ (9223372036854775807 < (lowS s.size 4).size + s.size) := by rw [low_size]; omega
  have z2 : ¬ (9223372036854775807 < (headS s).size + (lowS (sumS (headS s)) 4).size) := by rw [head_size, low_size]; omega
  have z3 : ¬ (9223372036854775807 < (recS s).size + (nulls (sizeN s.size * 244 - (s.size + 8))).size) := by rw [rec_size, nulls_size]; omega
  have m1 : (s.size : Int) % 18446744073709551616 = s.size := by omega
  have m2 : IntKind.u64.wrap (s.size : Int) = s.size := IntWalk.u64_in _ (by omega)
  go_enter Tryz.func64, Tryz.ntmps64
  go_wp2_with fail
  refine (B4.out s.size w (by omega)).mono ?_
  rintro e w1 ⟨rfl, hb⟩
  have W1 := Lib.hid hb
  clear hb
  go_wp2_with fail
  refine (SM.out w1).mono ?_
  rintro e w2 ⟨rfl, rfl⟩
  have m3 : IntKind.u64.wrap ((sumS (headS s) : Nat) : Int) = (sumS (headS s) : Nat) := IntWalk.u64_in _ (by omega)
  go_wp2_with fail
  refine (B4.out (sumS (headS s)) w1 hsum).mono ?_
  rintro e w2 ⟨rfl, hb⟩
  have W2 := Lib.hid (below_on W1.out hb)
  clear hb z1 m1 m2 m3 SM hhd
  go_wp2_with fail
  refine (SZ.out w2).mono ?_
  rintro e w3 ⟨rfl, rfl⟩
  clear SZ z2
  have hrs := rec_size s
  obtain ⟨R, hR⟩ : ∃ R, recS s = R := ⟨_, rfl⟩
  obtain ⟨q, hq⟩ : ∃ q, sizeN s.size = q := ⟨_, rfl⟩
  obtain ⟨d, hd⟩ : ∃ d, q * 244 - (s.size + 8) = d := ⟨_, rfl⟩
  rw [hR] at hrec hful hrs z3
  rw [hq] at hful hm hr z3
  rw [hd] at hful z3
  have i1 : IntKind.i64.wrap ((q : Int) * 244) = (q : Int) * 244 := IntWalk.i64_in _ (by omega)
  have i2 : IntKind.i64.wrap ((q : Int) * 244 - (R.size : Int)) = (d : Nat) := by rw [IntWalk.i64_in _ (by omega)]; omega
  have i3 : (q : Int) * 244 - ((s.size : Int) + 8) = (d : Nat) := by omega
  have hmk0 := fun W : World => run_make_row' (P := Tryz.prog) 66 5 (.int .u8 0) 1 Tryz.underlying66 u8_info rfl .i64 .i64 d (by omega) (by omega) W
  have cv0 := fun W : World => nulls_text (P := Tryz.prog) (World.rowIs_made W (.int .u8 0) d 5) 66 9 Tryz.underlying66 Tryz.underlying5 Tryz.underlying9
  go_wp2_with fail
  have W3 := Lib.hid (below_on W2.out (show Below w2.heap.size w2 (w2.alloc (.cells (madeCells #[.int .u8 0] d) 5)) from (Below.refl _ _).alloc (Nat.le_refl _) _))
  generalize w2.alloc (.cells (madeCells #[.int .u8 0] d) 5) = w4 at *
  refine (B4.out num w4 hn).mono ?_
  rintro e w5 ⟨rfl, hb⟩
  have W5 := Lib.hid (below_on W3.out hb)
  obtain ⟨j0, hj0, hj1, hj2, hj3⟩ := str_info
  have HJ := Lib.hid hj0
  have HY0 := Lib.hid hj1
  have HY1 := Lib.hid hj2
  have HY2 := Lib.hid hj3
  have FZ : (fullS s).size = q * 244 := by rw [full_size, hq]
  have HSL : Hid (∀ i, i < q → (pieceS s i).size = 244) := fun i hi => piece_size (by rw [hq]; exact hi)
  have HSE : Hid (secL num s = (List.range q).map fun i => secS num q i (pieceS s i)) := show _ = _ by unfold secL; rw [hq]
  have HPC : Hid (∀ i, pieceS s i = (fullS s).extract (i * 244) ((i + 1) * 244)) := fun i => rfl
  clear hb hmk0 cv0 i1 i2 i3 hrec hful hrs z3 hR hd hr W1 W2 W3 B4 hj0 hj1 hj2 hj3 t1 t2 hsum
  generalize fullS s = b at *
  go_wp2_with fail
  go_loopw [9, 10] (fun u t wr => ∃ (i : Nat) (V : Value), i ≤ q ∧ t = .int .i64 i ∧ u = V ∧ Hid (wr.ownsRow w.heap.size 9 1 V i (((List.range i).map fun i => secS num q i (pieceS s i)).map .string)) ∧ Hid (Below w.heap.size w wr)) (fun _ t _ => q - (intOf t).toNat)
  case atStart => exact ⟨0, _, Nat.zero_le _, rfl, rfl, World.ownsRow_nil _ _ _ _, W5.out⟩
  case round =>
    obtain ⟨i, V, hi, rfl, rfl, HO, HW⟩ := hrel
    obtain ⟨A, c, rfl⟩ := Slice.own_slice HO.out
    by_cases hlt : i < q
    · have u0 : decide ((i : Int) < (q : Int)) = true := decide_eq_true (by omega)
      have HPS := HSL.out i hlt
      obtain ⟨p, hp⟩ : ∃ p, pieceS s i = p := ⟨_, rfl⟩
      have hpx := HPC.out i
      rw [hp] at HPS hpx
      have HSEC : Hid (lowS num 4 ++ lowS i 2 ++ lowS q 2 ++ p ++ lowS num 4 = secS num q i p) := show _ = _ from rfl
      have HNX : Hid (((List.range (i + 1)).map fun i => secS num q i (pieceS s i)).map Value.string = ((List.range i).map fun i => secS num q i (pieceS s i)).map Value.string ++ [.string (secS num q i p)]) := show _ = _ by
        rw [List.range_succ, List.map_append, List.map_append, List.map_singleton, List.map_singleton, hp]
      have BI : Hid (∀ W, Calls Tryz.prog 72 #[.int .u64 (i : Nat), .int .i64 2] W fun e w' => e = .returned (.string (lowS i 2)) ∧ Below W.heap.size W w') := fun W => B2.out i W (by omega)
      have BQ : Hid (∀ W, Calls Tryz.prog 72 #[.int .u64 (q : Nat), .int .i64 2] W fun e w' => e = .returned (.string (lowS q 2)) ∧ Below W.heap.size W w') := fun W => B2.out q W (by omega)
      have l1 := low_size num 4
      have l2 := low_size i 2
      have l3 := low_size q 2
      generalize lowS num 4 = M at *
      generalize lowS i 2 = I at *
      generalize lowS q 2 = N at *
      have z1 : ¬ (9223372036854775807 < M.size + I.size) := by omega
      have z5 : ¬ (9223372036854775807 < M.size + I.size + N.size) := by omega
      have z8 : ¬ (9223372036854775807 < M.size + I.size + N.size + 244) := by omega
      have z9 : ¬ (9223372036854775807 < M.size + I.size + N.size + 244 + M.size) := by omega
      have i1 : IntKind.i64.wrap ((i : Int) * 244) = ((i * 244 : Nat) : Int) := by rw [IntWalk.i64_in _ (by omega)]; omega
      have i2 : IntKind.i64.wrap ((i : Int) + 1) = ((i + 1 : Nat) : Int) := by rw [IntWalk.i64_in _ (by omega)]; omega
      have i3 : IntKind.i64.wrap (((i + 1 : Nat) : Int) * 244) = (((i + 1) * 244 : Nat) : Int) := by rw [IntWalk.i64_in _ (by omega)]; omega
      have i4 : IntKind.i64.wrap (((i : Int) + 1) * 244) = ((i : Int) + 1) * 244 := IntWalk.i64_in _ (by omega)
      have m1 : IntKind.u64.wrap (i : Int) = i := IntWalk.u64_in _ (by omega)
      have m2 : IntKind.u64.wrap (q : Int) = q := IntWalk.u64_in _ (by omega)
      have g1 : (0 : Int) ≤ ((i * 244 : Nat) : Int) := by omega
      have g2 : ((i * 244 : Nat) : Int) ≤ (((i + 1) * 244 : Nat) : Int) := by omega
      have g3 : (((i + 1) * 244 : Nat) : Int) ≤ (b.size : Int) := by omega
      have g4 : (0 : Int) ≤ (i : Int) * 244 := by omega
      have g5 : (i : Int) * 244 ≤ ((i : Int) + 1) * 244 := by omega
      have g6 : ((i : Int) + 1) * 244 ≤ (b.size : Int) := by omega
      have g7 : ((i : Int) * 244).toNat = i * 244 := by omega
      have g8 : (((i : Int) + 1) * 244).toNat = (i + 1) * 244 := by omega
      have hsl : ∀ W, (Instr.slice 9 (.string b) (some (.int .i64 ((i : Int) * 244))) (some (.int .i64 (((i : Int) + 1) * 244))) none).run Tryz.prog W = .ok (.string p) W := fun W => by
        rw [hpx]
        exact slice_two b _ _ (i * 244) ((i + 1) * 244) (by omega) (by omega) (by omega) (by omega) W
      have FZH := Lib.hid FZ
      clear FZ
      have HPX := Lib.hid hpx
      have HP := Lib.hid hp
      have Y0 := Lib.hid (show Below wr.heap.size wr wr.drew from ⟨rfl, rfl, rfl, Nat.le_refl _, fun _ _ => rfl⟩)
      have S0 : Below w.heap.size w wr.drew := HW.out.trans (Y0.out.mono HW.out.size)
      have wsz := HW.out.size
      clear l1 l2 l3 HSL HPC B2 HSE hpx hp
      go_wp2_with fail
      go_region_held3 (fun w' => Below w.heap.size w w')
        (first | exact S3 | exact S2 | exact S2.alloc S2.size _ | exact S1 | exact S0)
        (first
          | (go_at_call 72
             with_reducible refine (BI.out _).mono ?_
             rintro e y1 ⟨rfl, hb⟩
             have Y1 := Lib.hid (below_on Y0.out hb)
             have S1 : Below w.heap.size w y1 := HW.out.trans (Y1.out.mono HW.out.size)
             clear hb)
          | (go_at_call 72
             with_reducible refine (BQ.out _).mono ?_
             rintro e y2 ⟨rfl, hb⟩
             have Y2 := Lib.hid (below_on Y1.out hb)
             have S2 : Below w.heap.size w y2 := HW.out.trans (Y2.out.mono HW.out.size)
             clear hb)
          | (refine step_one rfl (.tmp 48) (.tmp 68) _ rfl w.heap.size 9 j0 (.string ⟨#[]⟩) 16 Tryz.underlying50 HJ.out HY0.out HY1.out HY2.out rfl 9 _ rfl _ i _ (by rfl) (own_below HO.out Y2.out) _ (by rfl) rfl (by unfold maxLen; omega) (by omega) (Nat.le_trans wsz Y2.out.size) ?_
             intro v' w' ho hg
             have S3 : Below w.heap.size w w' := below_row S2 (Nat.le_refl _) (own_below HO.out Y2.out) hg
             have HO3 := Lib.hid ho
             clear ho hg))
      rw [HSEC.out, ← HNX.out] at HO3
      obtain ⟨A3, c3, rfl⟩ := Slice.own_slice HO3.out
      clear z1 z5 z8 z9 i1 i2 i3 i4 m1 m2 g1 g2 g3 g4 g5 g6 g7 g8 hsl S0 S1 S2 Y0 Y1 Y2 BI BQ
      go_wp2_with fail
      go_roundw
      case rel => exact ⟨i + 1, _, by omega, by go_num, rfl, HO3.out, S3⟩
      case measure => simp [intOf]; omega
    · obtain rfl : i = q := by omega
      have u0 : decide ((i : Int) < (i : Int)) = false := decide_eq_false (by omega)
      have HT : Hid (Txts wr wr.heap.size (.slice A i c) (secL num s)) := show Txts _ _ _ _ from
        Els.of_own (l := secL num s) (by rw [secL_length, hq]) (by rw [HSE.out]; exact HO.out)
      go_wp2_with fail
      go_ret2
      exact ⟨_, rfl, HT.out, HW.out, fun a len c' h => by
        injection h with h
        exact (HO.out.lt a.block (by rw [h]; rfl)).1⟩
theorem r_makeN (num : Nat) (s : ByteArray) (w : World) (hn : num < 4294967296) : Calls Tryz.prog 64 #[.int .u32 (num : Nat), .string s] w (MadeN num s w) := by
  by_cases h0 : num = 0
  · subst h0
    exact make_zero s w
  · by_cases hs : 60000 < s.size
    · exact make_long num s w h0 hs
    · exact make_all num s w h0 hn (by omega)
theorem r_make (num : Nat) (s : ByteArray) (w : World) (hn : num < 4294967296) : Calls Tryz.prog 64 #[.int .u32 (num : Nat), .string s] w (Made num s w) := (r_makeN num s w hn).mono fun _ _ h => h.made
end Go.Proofs.YtndanhacmfhlaaaGreat.Frame
namespace Go.Proofs.YtndanhacmfhlaaaGreat.Frame
open Go.ChangeShapes Go.WideShapes Go.ChangeAt Go.RowKit Pack Crc Els

theorem okR_zero {l : List ByteArray} : okR l 0 = false := by
  unfold okR
  rw [decide_eq_false (fun e => e.2.1 rfl), Bool.false_and]
theorem okR_few {l : List ByteArray} {num : Nat} (h : headN l < 1) : okR l num = false := by
  unfold okR
  rw [decide_eq_false (show ¬ (1 ≤ headN l ∧ headN l ≤ l.length) by omega), Bool.false_and, Bool.and_false]
theorem okR_okS {l : List ByteArray} {num i : Nat} (hi : i < headN l) (h : okS num (headN l) i (l.getD i e0) = false) : okR l num = false := by
  have : allB l num = false := by
    unfold allB
    rw [Bool.eq_false_iff]
    intro e
    have := List.all_eq_true.1 e i (List.mem_range.2 hi)
    rw [h] at this
    exact absurd this (by decide)
  unfold okR
  rw [this, Bool.false_and, Bool.and_false, Bool.and_false]
theorem okR_fit {l : List ByteArray} {num : Nat} (h : fitB (bodyL l (headN l)) (headN l) = false) : okR l num = false := by
  unfold okR
  rw [h, Bool.and_false, Bool.and_false, Bool.and_false]
theorem okR_yes {l : List ByteArray} {num : Nat} (h1 : l ≠ [] ∧ num ≠ 0 ∧ numV (l.getD 0 e0) = num) (h2 : 1 ≤ headN l ∧ headN l ≤ l.length) (h3 : ∀ j, j < headN l → okS num (headN l) j (l.getD j e0) = true) (h4 : fitB (bodyL l (headN l)) (headN l) = true) : okR l num = true := by
  have : allB l num = true := by
    unfold allB
    rw [List.all_eq_true]
    exact fun i hi => h3 i (List.mem_range.1 hi)
  unfold okR
  rw [decide_eq_true h1, decide_eq_true h2, this, h4]; rfl
theorem body_next {l : List ByteArray} {i : Nat} (h : i < l.length) : bodyL l (i + 1) = bodyL l i ++ (l.getD i e0).extract 8 252 := by
  unfold bodyL
  have : l.take (i + 1) = l.take i ++ [l.getD i e0] := by rw [List.take_add_one, List.getElem?_eq_getElem h, List.getD_eq_getElem?_getD, List.getElem?_eq_getElem h]; rfl
  rw [this, List.map_append, List.map_singleton, catL_last]
theorem body_size {l : List ByteArray} : ∀ i, i ≤ l.length → (∀ j, j < i → (l.getD j e0).size = 256) → (bodyL l i).size = i * 244
  | 0, _, _ => by unfold bodyL; rw [List.take_zero]; rfl
  | i + 1, h, hz => by
    rw [body_next (by omega), ByteArray.size_append, body_size i (by omega) (fun j hj => hz j (by omega)), ByteArray.size_extract, hz i (by omega)]
    omega
theorem num_whole {b : ByteArray} (h : numV b ≠ 0) : b.size = 256 := by
  unfold numV at h
  split at h
  · rename_i h1; exact h1.1
  · exact absurd rfl h
theorem got_info (x y z : Value) : (Tryz.prog.info? 90).map (·.size) = some (#[x, y, z] : Array Value).size := by
  show _ = some 3
  kernel_rfl
theorem got_one (s : ByteArray) (n : Int) (q : Bool) : (#[.string s, .int .i64 n, .bool q] : Array Value).all (·.oneCell') = true := by simp [Value.oneCell']
theorem store_row0 {P : Program} {ops : Array Oper} {rest : List Oper} {o : Oper} {a : Act} {w : World} {Q : Exit → Act → World → Prop} (hgd : o.guard = none) (ty : TypeId) (x y : Operand) (ho : o.op = .store ty x y) (hd : o.dst = none)
    (g : Nat) (cells : Array Value) (hx : a.eval x = .pointer (some ⟨g, 0, none⟩)) (hy : a.eval y = .agg cells)
    (t : TypeId) (old : Array Value) (hg : w.heap[g]? = some (.cells old t (0, 0))) (hi : (P.info? ty).map (·.size) = some cells.size)
    (hold : old.size = cells.size) (h1 : cells.all (·.oneCell') = true)
    (h : wpList P ops Q rest a (w.setRow g cells)) : wpList P ops Q (o :: rest) a w :=
  wpList_store_row hgd ty x y ho g cells hx hy t old hg hi hold h1 (by rw [hd]; exact h)
theorem slice_to (s : ByteArray) (y : Int) (j : Nat) (hy : y = j) (h2 : j ≤ s.size) (W : World) :
    (Instr.slice 9 (.string s) none (some (.int .i64 y)) none).run Tryz.prog W = .ok (.string (s.extract 0 j)) W := by
  subst hy
  rw [run_slice_string_h (P := Tryz.prog) W 9 s Tryz.underlying9 .i64 (j : Int) (by omega) (by omega)]
  simp
theorem slice_from (s : ByteArray) (x : Int) (i : Nat) (hx : x = i) (h2 : i ≤ s.size) (W : World) :
    (Instr.slice 9 (.string s) (some (.int .i64 x)) none none).run Tryz.prog W = .ok (.string (s.extract i s.size)) W := by
  subst hx
  rw [run_slice_string_l (P := Tryz.prog) W 9 s Tryz.underlying9 .i64 (i : Int) (by omega) (by omega)]
  simp
theorem fit_not {B : ByteArray} {n z : Nat} (hz : valN B 0 4 = z) (h : ¬ (z ≤ 60000 ∧ sizeN z = n ∧ valN B (4 + z) 4 = sumS (B.extract 0 (4 + z)) ∧ B.extract (8 + z) B.size = nulls (B.size - (8 + z)))) : fitB B n = false := by
  rw [Bool.eq_false_iff]
  intro e
  unfold fitB sumB restB at e
  rw [hz] at e
  simp only [Bool.and_eq_true, decide_eq_true_iff] at e
  exact h ⟨e.1.1, e.1.2, e.2.1, e.2.2⟩
theorem fit_yes {B : ByteArray} {n z : Nat} (hz : valN B 0 4 = z) (h : z ≤ 60000 ∧ sizeN z = n ∧ valN B (4 + z) 4 = sumS (B.extract 0 (4 + z)) ∧ B.extract (8 + z) B.size = nulls (B.size - (8 + z))) : fitB B n = true := by
  unfold fitB sumB restB
  rw [hz, decide_eq_true h.2.2.1, decide_eq_true h.2.2.2, decide_eq_true ⟨h.1, h.2.1⟩]; rfl
theorem sub_val {b : ByteArray} {i j : Nat} (hj : j ≤ b.size) (hi : i ≤ j) : valN (b.extract i j) 0 (j - i) = valN b i (j - i) := by
  have := valN_ext (s := b) (a := i) (j := j) hj (j - i) 0 (by omega)
  simpa using this
def Got (l : List ByteArray) (num : Nat) (w : World) (e : Ending) (w' : World) : Prop :=
  e = .returned (.agg #[.string (readS l num), .int .i64 (readN l num : Nat), .bool (okR l num)]) ∧ Below w.heap.size w w'
set_option maxRecDepth 20000 in
set_option maxHeartbeats 4000000 in
theorem r_read (l : List ByteArray) (num : Nat) (v : Value) (w : World) (hv : Txts w w.heap.size v l) (hn : num < 4294967296) : Calls Tryz.prog 54 #[v, .int .u32 (num : Nat)] w (Got l num w) := by
  unfold Got
  obtain ⟨RS, hRS⟩ : ∃ x, readS l num = x := ⟨_, rfl⟩
  obtain ⟨RN, hRN⟩ : ∃ x : Int, (readN l num : Int) = x := ⟨_, rfl⟩
  obtain ⟨RB, hRB⟩ : ∃ x, okR l num = x := ⟨_, rfl⟩
  rw [hRS, hRN, hRB]
  have HEX := Lib.hid (And.intro hRS (And.intro hRN hRB))
  clear hRS hRN hRB
  have HV := Lib.hid hv
  obtain ⟨A, c, rfl, hl, hn0, hcell⟩ := hv
  have HC := Lib.hid hcell
  clear hcell hn0
  obtain ⟨g0, hg⟩ : ∃ g, g = w.heap.size := ⟨_, rfl⟩
  obtain ⟨wa, hwa⟩ : ∃ x, x = w.alloc (.cells #[.string ⟨#[]⟩, .int .i64 0, .bool false] 90) := ⟨_, rfl⟩
  have HR : Hid (wa.heap[g0]? = some (.cells #[.string ⟨#[]⟩, .int .i64 0, .bool false] 90 (0, 0))) := show _ = _ by rw [hwa, hg]; exact heap_alloc_last _ _
  have HW : Hid (Below w.heap.size w wa) := show Below _ _ _ by rw [hwa]; exact (Below.refl _ _).alloc (Nat.le_refl _) _
  have hg0 : w.heap.size ≤ g0 := by omega
  go_enter Tryz.func54, Tryz.ntmps54
  go_upto_region 1 with fail
  rw [← hwa, ← hg]
  clear hwa hg
  by_cases hnil : l.length = 0
  case pos =>
    have t0 : ((l.length : Int) == 0) = true := by rw [beq_iff_eq]; omega
    have hk : okR l num = false := by rw [List.eq_nil_of_length_eq_zero hnil]; exact okR_nil num
    obtain rfl : RB = false := HEX.out.2.2.symm.trans hk
    obtain rfl : RS = ⟨#[]⟩ := HEX.out.1.symm.trans (by unfold readS; rw [hk]; rfl)
    obtain rfl : RN = 0 := HEX.out.2.1.symm.trans (by unfold readN; rw [hk]; rfl)
    clear hk HEX
    go_wp2_with (first
      | (refine store_row0 rfl 90 _ _ rfl rfl _ _ rfl rfl _ _ HR.out (got_info _ _ _) rfl (got_one _ _ _) ?_))
    refine bodyPost_ret (results_cell_row rfl _ _ _ _ _ _ _ rfl (setRow_heap _ _ _ _ _ _ HR.out) Tryz.underlying90 rfl (got_info _ _ _)) rfl ?_
    exact ⟨rfl, below_setRow HW.out hg0 _⟩
  have t0 : ((l.length : Int) == 0) = false := by rw [beq_eq_false_iff_ne]; omega
  by_cases hz : num = 0
  case pos =>
    have t1 : ((num : Int) == 0) = true := by rw [beq_iff_eq]; omega
    have hk : okR l num = false := by rw [hz]; exact okR_zero
    obtain rfl : RB = false := HEX.out.2.2.symm.trans hk
    obtain rfl : RS = ⟨#[]⟩ := HEX.out.1.symm.trans (by unfold readS; rw [hk]; rfl)
    obtain rfl : RN = 0 := HEX.out.2.1.symm.trans (by unfold readN; rw [hk]; rfl)
    clear hk HEX
    go_wp2_with (first
      | (refine store_row0 rfl 90 _ _ rfl rfl _ _ rfl rfl _ _ HR.out (got_info _ _ _) rfl (got_one _ _ _) ?_))
    refine bodyPost_ret (results_cell_row rfl _ _ _ _ _ _ _ rfl (setRow_heap _ _ _ _ _ _ HR.out) Tryz.underlying90 rfl (got_info _ _ _)) rfl ?_
    exact ⟨rfl, below_setRow HW.out hg0 _⟩
  have t1 : ((num : Int) == 0) = false := by rw [beq_eq_false_iff_ne]; omega
  obtain ⟨b0, off, rfl, hb0, hcell⟩ := HC.out (by omega)
  have HCL : Hid (∀ i x, l[i]? = some x → ∀ W, Below w.heap.size w W → W.cell? ⟨b0, off + i, none⟩ = some (.string x)) := fun i x hi W hb => (hb.cell (p := ⟨b0, off + i, none⟩) hb0).trans (hcell i x hi)
  clear HC hcell HV
  have at_ : ∀ i, i < l.length → l[i]? = some (l.getD i e0) := fun i hi => by rw [List.getD_eq_getElem?_getD, List.getElem?_eq_getElem hi]; rfl
  have HAT := Lib.hid at_
  have c0 : wa.cell? ⟨b0, off, none⟩ = some (.string (l.getD 0 e0)) := HCL.out 0 _ (at_ 0 (by omega)) wa HW.out
  have l0 : (0 : Int) < (l.length : Int) := by omega
  have HH : Hid (headN l = valN (l.getD 0 e0) 6 2) := show _ = _ from rfl
  clear at_
  obtain ⟨x0, hx0⟩ : ∃ x, l.getD 0 e0 = x := ⟨_, rfl⟩
  have N0 := Lib.hid (r_fnum x0)
  rw [hx0] at c0 HH
  by_cases hf : numV x0 = num
  case neg =>
    have t2 : ((numV x0 : Int) != (num : Int)) = true := by rw [bne_iff_ne]; omega
    have hk : okR l num = false := okR_first (by rw [hx0]; exact hf)
    obtain rfl : RB = false := HEX.out.2.2.symm.trans hk
    obtain rfl : RS = ⟨#[]⟩ := HEX.out.1.symm.trans (by unfold readS; rw [hk]; rfl)
    obtain rfl : RN = 0 := HEX.out.2.1.symm.trans (by unfold readN; rw [hk]; rfl)
    clear hk HEX
    go_wp2_with (first
      | (go_at_call 42
         refine (N0.out _).mono ?_
         rintro e w1 ⟨rfl, d, rfl⟩
         have HR1 : Hid ((wa.drewN d).heap[g0]? = some (.cells #[.string ⟨#[]⟩, .int .i64 0, .bool false] 90 (0, 0))) := HR
         have HW1 : Hid (Below w.heap.size w (wa.drewN d)) := show Below _ _ _ from ⟨HW.out.os, HW.out.tape, HW.out.output, HW.out.size, HW.out.block⟩
         generalize wa.drewN d = w1 at *)
      | (refine store_row0 rfl 90 _ _ rfl rfl _ _ rfl rfl _ _ HR1.out (got_info _ _ _) rfl (got_one _ _ _) ?_))
    refine bodyPost_ret (results_cell_row rfl _ _ _ _ _ _ _ rfl (setRow_heap _ _ _ _ _ _ HR1.out) Tryz.underlying90 rfl (got_info _ _ _)) rfl ?_
    exact ⟨rfl, below_setRow HW1.out hg0 _⟩
  have t2 : ((numV x0 : Int) != (num : Int)) = false := by rw [bne_eq_false_iff_eq]; omega
  have hs0 : x0.size = 256 := num_whole (by omega)
  have hz2 : (x0.extract 6 8).size = 2 := size_ext' x0 (by omega)
  have N6 := fun W => r_number (x0.extract 6 8) W (by omega)
  rw [hz2, sub_val (b := x0) (i := 6) (j := 8) (by omega) (by omega)] at N6
  have hnl : valN x0 6 2 < 65536 := valN_lt x0 2 6
  obtain ⟨n, hnn⟩ : ∃ n, valN x0 6 2 = n := ⟨_, rfl⟩
  rw [show (8 - 6 : Nat) = 2 from rfl, hnn] at N6
  rw [hnn] at HH hnl
  have N6 := Lib.hid N6
  have HF := Lib.hid hf
  have HX0 := Lib.hid hx0
  go_upto_region 3 with (first
    | (go_at_call 42
       refine (N0.out _).mono ?_
       rintro e w1 ⟨rfl, d, rfl⟩
       have HR1 : Hid ((wa.drewN d).heap[g0]? = some (.cells #[.string ⟨#[]⟩, .int .i64 0, .bool false] 90 (0, 0))) := HR
       have HW1 : Hid (Below w.heap.size w (wa.drewN d)) := show Below _ _ _ from ⟨HW.out.os, HW.out.tape, HW.out.output, HW.out.size, HW.out.block⟩
       have c1 : (wa.drewN d).cell? ⟨b0, off, none⟩ = some (.string x0) := c0
       generalize wa.drewN d = w1 at *))
  clear c0 HR HW N0 hf hx0 hnn
  by_cases hn1 : n < 1
  case pos =>
    have t3 : decide ((n : Int) < 1) = true := decide_eq_true (by omega)
    have hk : okR l num = false := okR_few (by rw [HH.out]; exact hn1)
    obtain rfl : RB = false := HEX.out.2.2.symm.trans hk
    obtain rfl : RS = ⟨#[]⟩ := HEX.out.1.symm.trans (by unfold readS; rw [hk]; rfl)
    obtain rfl : RN = 0 := HEX.out.2.1.symm.trans (by unfold readN; rw [hk]; rfl)
    clear hk HEX
    go_wp2_with (first
      | (go_at_call 63
         refine (N6.out _).mono ?_
         rintro e w2 ⟨rfl, rfl⟩)
      | (refine store_row0 rfl 90 _ _ rfl rfl _ _ rfl rfl _ _ HR1.out (got_info _ _ _) rfl (got_one _ _ _) ?_))
    refine bodyPost_ret (results_cell_row rfl _ _ _ _ _ _ _ rfl (setRow_heap _ _ _ _ _ _ HR1.out) Tryz.underlying90 rfl (got_info _ _ _)) rfl ?_
    exact ⟨rfl, below_setRow HW1.out hg0 _⟩
  have t3 : decide ((n : Int) < 1) = false := decide_eq_false (by omega)
  by_cases hn2 : l.length < n
  case pos =>
    have t4 : decide ((l.length : Int) < (n : Int)) = true := decide_eq_true (by omega)
    have hk : okR l num = false := okR_long (by rw [HH.out]; exact hn2)
    obtain rfl : RB = false := HEX.out.2.2.symm.trans hk
    obtain rfl : RS = ⟨#[]⟩ := HEX.out.1.symm.trans (by unfold readS; rw [hk]; rfl)
    obtain rfl : RN = 0 := HEX.out.2.1.symm.trans (by unfold readN; rw [hk]; rfl)
    clear hk HEX
    go_wp2_with (first
      | (go_at_call 63
         refine (N6.out _).mono ?_
         rintro e w2 ⟨rfl, rfl⟩)
      | (refine store_row0 rfl 90 _ _ rfl rfl _ _ rfl rfl _ _ HR1.out (got_info _ _ _) rfl (got_one _ _ _) ?_))
    refine bodyPost_ret (results_cell_row rfl _ _ _ _ _ _ _ rfl (setRow_heap _ _ _ _ _ _ HR1.out) Tryz.underlying90 rfl (got_info _ _ _)) rfl ?_
    exact ⟨rfl, below_setRow HW1.out hg0 _⟩
  have t4 : decide ((l.length : Int) < (n : Int)) = false := decide_eq_false (by omega)
  go_wp2_with (first
    | (go_at_call 63
       refine (N6.out _).mono ?_
       rintro e w2 ⟨rfl, rfl⟩))
  clear t0 t1 t2 t3 t4 c1 N6 l0
  go_loopw [6, 7] (fun u t wr => ∃ i : Nat, i ≤ n ∧ t = .int .i64 i ∧ u = .string (bodyL l i) ∧ Hid (∀ j, j < i → okS num n j (l.getD j e0) = true) ∧ Hid (Below w1.heap.size w1 wr)) (fun _ t _ => n - (intOf t).toNat)
  case atStart => exact ⟨0, Nat.zero_le _, rfl, rfl, fun j hj => absurd hj (Nat.not_lt_zero j), Below.refl _ _⟩
  case round =>
    obtain ⟨i, hi, rfl, rfl, HOK, HB⟩ := hrel
    have HR2 : Hid (wr.heap[g0]? = some (.cells #[.string ⟨#[]⟩, .int .i64 0, .bool false] 90 (0, 0))) := show _ = _ from (HB.out.block g0 (Array.getElem?_eq_some_iff.1 HR1.out).1).trans HR1.out
    have HW2 : Hid (Below w.heap.size w wr) := show Below _ _ _ from HW1.out.trans (HB.out.mono HW1.out.size)
    by_cases hlt : i < n
    · have u0 : decide ((i : Int) < (n : Int)) = true := decide_eq_true (by omega)
      have i0 : (0 : Int) ≤ i := by omega
      have i1 : (i : Int) < (l.length : Int) := by omega
      obtain ⟨x, hx⟩ : ∃ x, l.getD i e0 = x := ⟨_, rfl⟩
      have cx : wr.cell? ⟨b0, off + i, none⟩ = some (.string x) := HCL.out i x (by rw [← hx]; exact HAT.out i (by omega)) wr HW2.out
      have N0 := Lib.hid (r_fnum x)
      by_cases hf1 : numV x = num
      case neg =>
        have t1 : ((numV x : Int) != (num : Int)) = true := by rw [bne_iff_ne]; omega
        have hk : okR l num = false := okR_at (i := i) (by rw [HH.out]; exact hlt) (by rw [hx]; exact hf1)
        obtain rfl : RB = false := HEX.out.2.2.symm.trans hk
        obtain rfl : RS = ⟨#[]⟩ := HEX.out.1.symm.trans (by unfold readS; rw [hk]; rfl)
        obtain rfl : RN = 0 := HEX.out.2.1.symm.trans (by unfold readN; rw [hk]; rfl)
        clear hk HEX
        clear hx HX0 HH
        go_wp2_with (first
          | (go_at_call 42
             refine (N0.out _).mono ?_
             rintro e w3 ⟨rfl, d3, rfl⟩
             have HR3 : Hid ((wr.drewN d3).heap[g0]? = some (.cells #[.string ⟨#[]⟩, .int .i64 0, .bool false] 90 (0, 0))) := HR2
             have HW3 : Hid (Below w.heap.size w (wr.drewN d3)) := show Below _ _ _ from ⟨HW2.out.os, HW2.out.tape, HW2.out.output, HW2.out.size, HW2.out.block⟩
             have HB3 : Hid (Below w1.heap.size w1 (wr.drewN d3)) := show Below _ _ _ from ⟨HB.out.os, HB.out.tape, HB.out.output, HB.out.size, HB.out.block⟩
             have cx3 : (wr.drewN d3).cell? ⟨b0, off + i, none⟩ = some (.string x) := cx
             generalize wr.drewN d3 = w3 at *)
          | (refine store_row0 rfl 90 _ _ rfl rfl _ _ rfl rfl _ _ HR3.out (got_info _ _ _) rfl (got_one _ _ _) ?_)
)
        refine bodyPost_ret (results_cell_row rfl _ _ _ _ _ _ _ rfl (setRow_heap _ _ _ _ _ _ HR3.out) Tryz.underlying90 rfl (got_info _ _ _)) rfl ?_
        exact ⟨rfl, below_setRow HW3.out hg0 _⟩
      have t1 : ((numV x : Int) != (num : Int)) = false := by rw [bne_eq_false_iff_eq]; omega
      have hsx : x.size = 256 := num_whole (by omega)
      have hz4 : (x.extract 4 6).size = 2 := size_ext' x (by omega)
      have hz6 : (x.extract 6 8).size = 2 := size_ext' x (by omega)
      have hz8 : (x.extract 8 252).size = 244 := size_ext' x (by omega)
      have N4 := fun W => r_number (x.extract 4 6) W (by omega)
      have N6 := fun W => r_number (x.extract 6 8) W (by omega)
      rw [hz4, sub_val (b := x) (i := 4) (j := 6) (by omega) (by omega), show (6 - 4 : Nat) = 2 from rfl] at N4
      rw [hz6, sub_val (b := x) (i := 6) (j := 8) (by omega) (by omega), show (8 - 6 : Nat) = 2 from rfl] at N6
      have N4 := Lib.hid N4
      have N6 := Lib.hid N6
      have HF1 := Lib.hid hf1
      by_cases hp : valN x 4 2 = i
      case neg =>
        have t2 : ((valN x 4 2 : Int) != (i : Int)) = true := by rw [bne_iff_ne]; omega
        have hk : okR l num = false := okR_okS (i := i) (by rw [HH.out]; exact hlt) (by rw [hx]; exact decide_eq_false (fun h => hp h.2.1))
        obtain rfl : RB = false := HEX.out.2.2.symm.trans hk
        obtain rfl : RS = ⟨#[]⟩ := HEX.out.1.symm.trans (by unfold readS; rw [hk]; rfl)
        obtain rfl : RN = 0 := HEX.out.2.1.symm.trans (by unfold readN; rw [hk]; rfl)
        clear hk HEX
        clear hx HX0 HH hf1 hz8
        go_wp2_with (first
          | (go_at_call 42
             refine (N0.out _).mono ?_
             rintro e w3 ⟨rfl, d3, rfl⟩
             have HR3 : Hid ((wr.drewN d3).heap[g0]? = some (.cells #[.string ⟨#[]⟩, .int .i64 0, .bool false] 90 (0, 0))) := HR2
             have HW3 : Hid (Below w.heap.size w (wr.drewN d3)) := show Below _ _ _ from ⟨HW2.out.os, HW2.out.tape, HW2.out.output, HW2.out.size, HW2.out.block⟩
             have HB3 : Hid (Below w1.heap.size w1 (wr.drewN d3)) := show Below _ _ _ from ⟨HB.out.os, HB.out.tape, HB.out.output, HB.out.size, HB.out.block⟩
             have cx3 : (wr.drewN d3).cell? ⟨b0, off + i, none⟩ = some (.string x) := cx
             generalize wr.drewN d3 = w3 at *)
          | (go_at_call 63
             with_reducible refine (N4.out _).mono ?_
             rintro e w4 ⟨rfl, rfl⟩)
          | (refine store_row0 rfl 90 _ _ rfl rfl _ _ rfl rfl _ _ HR3.out (got_info _ _ _) rfl (got_one _ _ _) ?_)
)
        refine bodyPost_ret (results_cell_row rfl _ _ _ _ _ _ _ rfl (setRow_heap _ _ _ _ _ _ HR3.out) Tryz.underlying90 rfl (got_info _ _ _)) rfl ?_
        exact ⟨rfl, below_setRow HW3.out hg0 _⟩
      have t2 : ((valN x 4 2 : Int) != (i : Int)) = false := by rw [bne_eq_false_iff_eq]; omega
      by_cases hm : valN x 6 2 = n
      case neg =>
        have t3 : ((valN x 6 2 : Int) != (n : Int)) = true := by rw [bne_iff_ne]; omega
        have hk : okR l num = false := okR_okS (i := i) (by rw [HH.out]; exact hlt) (by rw [hx, HH.out]; exact decide_eq_false (fun h => hm h.2.2))
        obtain rfl : RB = false := HEX.out.2.2.symm.trans hk
        obtain rfl : RS = ⟨#[]⟩ := HEX.out.1.symm.trans (by unfold readS; rw [hk]; rfl)
        obtain rfl : RN = 0 := HEX.out.2.1.symm.trans (by unfold readN; rw [hk]; rfl)
        clear hk HEX
        clear hx HX0 HH hf1 hz8 hp
        go_wp2_with (first
          | (go_at_call 42
             refine (N0.out _).mono ?_
             rintro e w3 ⟨rfl, d3, rfl⟩
             have HR3 : Hid ((wr.drewN d3).heap[g0]? = some (.cells #[.string ⟨#[]⟩, .int .i64 0, .bool false] 90 (0, 0))) := HR2
             have HW3 : Hid (Below w.heap.size w (wr.drewN d3)) := show Below _ _ _ from ⟨HW2.out.os, HW2.out.tape, HW2.out.output, HW2.out.size, HW2.out.block⟩
             have HB3 : Hid (Below w1.heap.size w1 (wr.drewN d3)) := show Below _ _ _ from ⟨HB.out.os, HB.out.tape, HB.out.output, HB.out.size, HB.out.block⟩
             have cx3 : (wr.drewN d3).cell? ⟨b0, off + i, none⟩ = some (.string x) := cx
             generalize wr.drewN d3 = w3 at *)
          | (go_at_call 63
             with_reducible refine (N4.out _).mono ?_
             rintro e w4 ⟨rfl, rfl⟩)
          | (go_at_call 63
             with_reducible refine (N6.out _).mono ?_
             rintro e w4 ⟨rfl, rfl⟩)
          | (refine store_row0 rfl 90 _ _ rfl rfl _ _ rfl rfl _ _ HR3.out (got_info _ _ _) rfl (got_one _ _ _) ?_)
)
        refine bodyPost_ret (results_cell_row rfl _ _ _ _ _ _ _ rfl (setRow_heap _ _ _ _ _ _ HR3.out) Tryz.underlying90 rfl (got_info _ _ _)) rfl ?_
        exact ⟨rfl, below_setRow HW3.out hg0 _⟩
      have t3 : ((valN x 6 2 : Int) != (n : Int)) = false := by rw [bne_eq_false_iff_eq]; omega
      have HOK2 : Hid (∀ j, j < i + 1 → okS num n j (l.getD j e0) = true) := fun j hj => by
        by_cases h : j < i
        · exact HOK.out j h
        · obtain rfl : j = i := by omega
          rw [hx]
          exact decide_eq_true ⟨hf1, hp, hm⟩
      have hbs : (bodyL l i).size = i * 244 := body_size i (by omega) fun j hj => by
        have := of_decide_eq_true (HOK.out j hj)
        exact num_whole (by omega)
      have HBN : Hid (bodyL l i ++ x.extract 8 252 = bodyL l (i + 1)) := show _ = _ by rw [body_next (by omega), hx]
      obtain ⟨B2, hB2⟩ : ∃ B2, bodyL l (i + 1) = B2 := ⟨_, rfl⟩
      have HB2 := Lib.hid hB2
      have hbn := HBN.out
      rw [hB2] at hbn
      have z1 : ¬ (9223372036854775807 < (bodyL l i).size + (x.extract 8 252).size) := by omega
      have HBS := Lib.hid hbs
      clear hx HX0 hf1 hp hm hbs hB2 HBN
      generalize bodyL l i = B at *
      go_wp2_with (first
        | (go_at_call 42
           refine (N0.out _).mono ?_
           rintro e w3 ⟨rfl, d3, rfl⟩
           have HR3 : Hid ((wr.drewN d3).heap[g0]? = some (.cells #[.string ⟨#[]⟩, .int .i64 0, .bool false] 90 (0, 0))) := HR2
           have HW3 : Hid (Below w.heap.size w (wr.drewN d3)) := show Below _ _ _ from ⟨HW2.out.os, HW2.out.tape, HW2.out.output, HW2.out.size, HW2.out.block⟩
           have HB3 : Hid (Below w1.heap.size w1 (wr.drewN d3)) := show Below _ _ _ from ⟨HB.out.os, HB.out.tape, HB.out.output, HB.out.size, HB.out.block⟩
           have cx3 : (wr.drewN d3).cell? ⟨b0, off + i, none⟩ = some (.string x) := cx
           generalize wr.drewN d3 = w3 at *)
        | (go_at_call 63
           with_reducible refine (N4.out _).mono ?_
           rintro e w4 ⟨rfl, rfl⟩)
        | (go_at_call 63
           with_reducible refine (N6.out _).mono ?_
           rintro e w4 ⟨rfl, rfl⟩))
      go_roundw
      case rel => exact ⟨i + 1, by omega, by go_num, by rw [HB2.out], HOK2.out, HB3.out⟩
      case measure => simp [intOf]; omega
    · obtain rfl : i = n := by omega
      have u0 : decide ((i : Int) < (i : Int)) = false := decide_eq_false (by omega)
      have hbs : (bodyL l i).size = i * 244 := body_size i (by omega) fun j hj => by
        have := of_decide_eq_true (HOK.out j hj)
        exact num_whole (by omega)
      have hz4 : ((bodyL l i).extract 0 4).size = 4 := size_ext' _ (by omega)
      have N4 := fun W => r_number ((bodyL l i).extract 0 4) W (by omega)
      rw [hz4, sub_val (b := bodyL l i) (i := 0) (j := 4) (by omega) (by omega), show (4 - 0 : Nat) = 4 from rfl] at N4
      have hv4 : valN (bodyL l i) 0 4 < 4294967296 := valN_lt _ 4 0
      obtain ⟨B, hB⟩ : ∃ B, bodyL l i = B := ⟨_, rfl⟩
      obtain ⟨z, hz⟩ : ∃ z, valN B 0 4 = z := ⟨_, rfl⟩
      have HBB := Lib.hid hB
      have HZZ := Lib.hid hz
      rw [hB, hz] at N4 hv4
      rw [hB] at hbs hz4
      rw [hB]
      have N4 := Lib.hid N4
      have s4 : (4 : Int) ≤ (B.size : Int) := by omega
      have HBS := Lib.hid hbs
      clear hB hz
      by_cases hz1 : 60000 < z
      case pos =>
        have t1 : decide ((60000 : Int) < (z : Int)) = true := decide_eq_true (by omega)
        have hk : okR l num = false := okR_fit (by rw [HH.out, HBB.out]; exact fit_not HZZ.out (fun h => by omega))
        obtain rfl : RB = false := HEX.out.2.2.symm.trans hk
        obtain rfl : RS = ⟨#[]⟩ := HEX.out.1.symm.trans (by unfold readS; rw [hk]; rfl)
        obtain rfl : RN = 0 := HEX.out.2.1.symm.trans (by unfold readN; rw [hk]; rfl)
        clear hk HEX
        clear HBS hbs
        go_wp2_with (first
          | (go_at_call 63
             with_reducible refine (N4.out _).mono ?_
             rintro e w4 ⟨rfl, rfl⟩)
          | (refine store_row0 rfl 90 _ _ rfl rfl _ _ rfl rfl _ _ HR2.out (got_info _ _ _) rfl (got_one _ _ _) ?_)
)
        refine bodyPost_ret (results_cell_row rfl _ _ _ _ _ _ _ rfl (setRow_heap _ _ _ _ _ _ HR2.out) Tryz.underlying90 rfl (got_info _ _ _)) rfl ?_
        exact ⟨rfl, below_setRow HW2.out hg0 _⟩
      have t1 : decide ((60000 : Int) < (z : Int)) = false := decide_eq_false (by omega)
      have NS : Hid (∀ W, Calls Tryz.prog 39 #[.int .i64 (z : Int)] W fun e w' => e = .returned (.int .i64 (sizeN z : Nat)) ∧ W = w') := fun W => by
        have := r_fsize (z : Int) W (by omega)
        rwa [show sizeV (z : Int) = (sizeN z : Nat) by unfold sizeV; rw [if_pos (by omega)]; rfl] at this
      by_cases hz2 : sizeN z = i
      case neg =>
        have t2 : ((sizeN z : Int) != (i : Int)) = true := by rw [bne_iff_ne]; omega
        have hk : okR l num = false := okR_fit (by rw [HH.out, HBB.out]; exact fit_not HZZ.out (fun h => hz2 h.2.1))
        obtain rfl : RB = false := HEX.out.2.2.symm.trans hk
        obtain rfl : RS = ⟨#[]⟩ := HEX.out.1.symm.trans (by unfold readS; rw [hk]; rfl)
        obtain rfl : RN = 0 := HEX.out.2.1.symm.trans (by unfold readN; rw [hk]; rfl)
        clear hk HEX
        clear HBS hbs
        go_wp2_with (first
          | (go_at_call 63
             with_reducible refine (N4.out _).mono ?_
             rintro e w4 ⟨rfl, rfl⟩)
          | (go_at_call 39
             refine (NS.out _).mono ?_
             rintro e w4 ⟨rfl, rfl⟩)
          | (refine store_row0 rfl 90 _ _ rfl rfl _ _ rfl rfl _ _ HR2.out (got_info _ _ _) rfl (got_one _ _ _) ?_)
)
        refine bodyPost_ret (results_cell_row rfl _ _ _ _ _ _ _ rfl (setRow_heap _ _ _ _ _ _ HR2.out) Tryz.underlying90 rfl (got_info _ _ _)) rfl ?_
        exact ⟨rfl, below_setRow HW2.out hg0 _⟩
      have hrm := size_room z
      have HS2 := Lib.hid hz2
      rw [hz2] at hrm NS
      clear hz2
      have t2 : ((i : Int) != (i : Int)) = false := by simp
      have e1 : IntKind.i64.wrap (4 + (z : Int)) = 4 + (z : Int) := IntWalk.i64_in _ (by omega)
      go_upto_region 17 with (first
        | (go_at_call 63
           with_reducible refine (N4.out _).mono ?_
           rintro e w4 ⟨rfl, rfl⟩)
        | (go_at_call 39
           refine (NS.out _).mono ?_
           rintro e w4 ⟨rfl, rfl⟩))
      have hzE : (B.extract (4 + z) (8 + z)).size = 4 := by rw [size_ext' B (by omega)]; omega
      have NE := fun W => r_number (B.extract (4 + z) (8 + z)) W (by omega)
      have hval : valN (B.extract (4 + z) (8 + z)) 0 4 = valN B (4 + z) 4 := by
        have := sub_val (b := B) (i := 4 + z) (j := 8 + z) (by omega) (by omega)
        rwa [show 8 + z - (4 + z) = 4 by omega] at this
      rw [hzE, hval] at NE
      have hq4 : valN B (4 + z) 4 < 4294967296 := valN_lt B 4 _
      have hzH : (B.extract 0 (4 + z)).size = 4 + z := by rw [size_ext' B (by omega)]; omega
      have NH : Hid (∀ W, Calls Tryz.prog 69 #[.string (B.extract 0 (4 + z))] W fun e w' => e = .returned (.int .u32 (sumS (B.extract 0 (4 + z)) : Nat)) ∧ W = w') := fun W => r_sum (B.extract 0 (4 + z)) W (by omega)
      have k1 : ∀ W, (Instr.slice 9 (.string B) (some (.int .i64 (4 + (z : Int)))) (some (.int .i64 (4 + (z : Int) + 4))) none).run Tryz.prog W = .ok (.string (B.extract (4 + z) (8 + z))) W := fun W => slice_two B _ _ (4 + z) (8 + z) (by omega) (by omega) (by omega) (by omega) W
      have k2 : ∀ W, (Instr.slice 9 (.string B) none (some (.int .i64 (4 + (z : Int)))) none).run Tryz.prog W = .ok (.string (B.extract 0 (4 + z))) W := fun W => slice_to B _ (4 + z) (by omega) (by omega) W
      have k3 : ∀ W, (Instr.slice 9 (.string B) (some (.int .i64 (4 + (z : Int) + 4))) none none).run Tryz.prog W = .ok (.string (B.extract (8 + z) B.size)) W := fun W => slice_from B _ (8 + z) (by omega) (by omega) W
      have e2 : IntKind.i64.wrap (4 + (z : Int) + 4) = 4 + (z : Int) + 4 := IntWalk.i64_in _ (by omega)
      have HFIT : Hid (∀ P : Prop, (¬ (valN B (4 + z) 4 = sumS (B.extract 0 (4 + z)) ∧ B.extract (8 + z) B.size = nulls (B.size - (8 + z))) → okR l num = false)) := fun _ h => okR_fit (by rw [HH.out, HBB.out]; exact fit_not HZZ.out (fun h2 => h h2.2.2))
      obtain ⟨E, hE⟩ : ∃ E, B.extract (4 + z) (8 + z) = E := ⟨_, rfl⟩
      obtain ⟨D, hD⟩ : ∃ D, B.extract 0 (4 + z) = D := ⟨_, rfl⟩
      obtain ⟨G, hG⟩ : ∃ G, B.extract (8 + z) B.size = G := ⟨_, rfl⟩
      rw [hE] at NE k1
      rw [hD] at NH k2
      rw [hG] at k3
      obtain ⟨t, ht⟩ : ∃ t, valN B (4 + z) 4 = t := ⟨_, rfl⟩
      obtain ⟨q, hq⟩ : ∃ q, sumS D = q := ⟨_, rfl⟩
      rw [ht] at NE hq4
      rw [hq] at NH
      have NE := Lib.hid NE
      have m1 : IntKind.u32.wrap (t : Int) = t := IntWalk.u32_in _ (by omega)
      have hS0 : Below w.heap.size w wr.drew := ⟨HW2.out.os, HW2.out.tape, HW2.out.output, HW2.out.size, HW2.out.block⟩
      have HR3 : Hid (wr.drew.heap[g0]? = some (.cells #[.string ⟨#[]⟩, .int .i64 0, .bool false] 90 (0, 0))) := HR2
      by_cases htq : t = q
      case neg =>
        have t3 : ((t : Int) != (q : Int)) = true := by rw [bne_iff_ne]; omega
        have hk : okR l num = false := HFIT.out True (fun h => htq (by rw [← ht, ← hq, ← hD]; exact h.1))
        obtain rfl : RB = false := HEX.out.2.2.symm.trans hk
        obtain rfl : RS = ⟨#[]⟩ := HEX.out.1.symm.trans (by unfold readS; rw [hk]; rfl)
        obtain rfl : RN = 0 := HEX.out.2.1.symm.trans (by unfold readN; rw [hk]; rfl)
        clear hk HEX
        clear hE hD hG ht hq htq HFIT hbs
        refine wp_region_held_drew (S := (fun w' => Below w.heap.size w w')) (by kernel_rfl) hS0 (fun hHeld => ?_)
        generalize wr.drew = y0 at *
        refine ByHand.take_yes (v := ?_) 0 94 rfl rfl (by kernel_rfl) (by kernel_rfl) (by kernel_rfl) (fun _ _ _ h => h) (by rfl) ?_ (by assumption) ?_
        rotate_left
        · intro w' hSw
          (try dsimp only at hSw)
          go_simp
          all_goals with_reducible rfl
        (try simp only [Act.put, List.setIfInBounds_toArray, List.set_cons_zero, List.set_cons_succ])
        refine ByHand.take_yes (v := ?_) 1 95 rfl rfl (by kernel_rfl) (by kernel_rfl) (by kernel_rfl) (fun _ _ _ h => h) (by rfl) ?_ (by assumption) ?_
        rotate_left
        · intro w' hSw
          (try dsimp only at hSw)
          go_simp
          all_goals with_reducible rfl
        (try simp only [Act.put, List.setIfInBounds_toArray, List.set_cons_zero, List.set_cons_succ])
        refine ByHand.take_yes (v := ?_) 2 96 rfl rfl (by kernel_rfl) (by kernel_rfl) (by kernel_rfl) (fun _ _ _ h => h) (by rfl) ?_ (by assumption) ?_
        rotate_left
        · intro w' hSw
          (try dsimp only at hSw)
          go_simp
          all_goals with_reducible rfl
        (try simp only [Act.put, List.setIfInBounds_toArray, List.set_cons_zero, List.set_cons_succ])
        refine ByHand.take_yes (v := ?_) 3 97 rfl rfl (by kernel_rfl) (by kernel_rfl) (by kernel_rfl) (fun _ _ _ h => h) (by rfl) ?_ (by assumption) ?_
        rotate_left
        · intro w' hSw
          (try dsimp only at hSw)
          go_simp
          all_goals with_reducible rfl
        (try simp only [Act.put, List.setIfInBounds_toArray, List.set_cons_zero, List.set_cons_succ])
        refine ByHand.take_yes (v := ?_) 4 98 rfl rfl (by kernel_rfl) (by kernel_rfl) (by kernel_rfl) (fun _ _ _ h => h) (by rfl) ?_ (by assumption) ?_
        rotate_left
        · intro w' hSw
          (try dsimp only at hSw)
          go_simp
          all_goals with_reducible rfl
        (try simp only [Act.put, List.setIfInBounds_toArray, List.set_cons_zero, List.set_cons_succ])
        refine ByHand.take_yes (v := ?_) 7 101 rfl rfl (by kernel_rfl) (by kernel_rfl) (by kernel_rfl) (fun _ _ _ h => h) (by rfl) ?_ (by assumption) ?_
        rotate_left
        · intro w' hSw
          (try dsimp only at hSw)
          go_simp
          all_goals with_reducible rfl
        (try simp only [Act.put, List.setIfInBounds_toArray, List.set_cons_zero, List.set_cons_succ])
        refine ByHand.take_yes (v := ?_) 8 102 rfl rfl (by kernel_rfl) (by kernel_rfl) (by kernel_rfl) (fun _ _ _ h => h) (by rfl) ?_ (by assumption) ?_
        rotate_left
        · intro w' hSw
          (try dsimp only at hSw)
          go_simp
          all_goals with_reducible rfl
        (try simp only [Act.put, List.setIfInBounds_toArray, List.set_cons_zero, List.set_cons_succ])
        refine ByHand.take_yes (v := ?_) 9 103 rfl rfl (by kernel_rfl) (by kernel_rfl) (by kernel_rfl) (fun _ _ _ h => h) (by rfl) ?_ (by assumption) ?_
        rotate_left
        · intro w' hSw
          (try dsimp only at hSw)
          go_simp
          all_goals with_reducible rfl
        (try simp only [Act.put, List.setIfInBounds_toArray, List.set_cons_zero, List.set_cons_succ])
        refine wpAnyH_ready (rs := [5]) (by kernel_rfl) (by simp) (AllReadyH.cons rfl (fun K hK => ?_) AllReadyH.nil)
        go_simp
        refine (NE.out _).mono ?_
        rintro e y1 ⟨rfl, rfl⟩
        go_wp2_with fail
        refine hK.out _ _ ?_ (fun hHeld => ?_)
        · exact hS0
        clear hK K
        (try simp only [Act.put, List.setIfInBounds_toArray, List.set_cons_zero, List.set_cons_succ])
        refine ByHand.take_yes (v := ?_) 6 100 rfl rfl (by kernel_rfl) (by kernel_rfl) (by kernel_rfl) (fun _ _ _ h => h) (by rfl) ?_ (by assumption) ?_
        rotate_left
        · intro w' hSw
          (try dsimp only at hSw)
          go_simp
          all_goals with_reducible rfl
        (try simp only [Act.put, List.setIfInBounds_toArray, List.set_cons_zero, List.set_cons_succ])
        refine wpAnyH_ready (rs := [10]) (by kernel_rfl) (by simp) (AllReadyH.cons rfl (fun K hK => ?_) AllReadyH.nil)
        go_simp
        refine (NH.out _).mono ?_
        rintro e y1 ⟨rfl, rfl⟩
        go_wp2_with fail
        refine hK.out _ _ ?_ (fun hHeld => ?_)
        · exact hS0
        clear hK K
        (try simp only [Act.put, List.setIfInBounds_toArray, List.set_cons_zero, List.set_cons_succ])
        refine ByHand.take_yes (v := ?_) 11 105 rfl rfl (by kernel_rfl) (by kernel_rfl) (by kernel_rfl) (fun _ _ _ h => h) (by rfl) ?_ (by assumption) ?_
        rotate_left
        · intro w' hSw
          (try dsimp only at hSw)
          go_simp
          all_goals with_reducible rfl
        (try simp only [Act.put, List.setIfInBounds_toArray, List.set_cons_zero, List.set_cons_succ])
        refine ByHand.take_yes (v := ?_) 12 106 rfl rfl (by kernel_rfl) (by kernel_rfl) (by kernel_rfl) (fun _ _ _ h => h) (by rfl) ?_ (by assumption) ?_
        rotate_left
        · intro w' hSw
          (try dsimp only at hSw)
          go_simp
          all_goals with_reducible rfl
        (try simp only [Act.put, List.setIfInBounds_toArray, List.set_cons_zero, List.set_cons_succ])
        refine ByHand.take_no 13 107 rfl rfl (by kernel_rfl) (by kernel_rfl) (by kernel_rfl) (fun _ _ _ h => h) (by rfl) (by assumption) ?_
        (try simp only [Act.put, List.setIfInBounds_toArray, List.set_cons_zero, List.set_cons_succ])
        refine ByHand.take_no 14 108 rfl rfl (by kernel_rfl) (by kernel_rfl) (by kernel_rfl) (fun _ _ _ h => h) (by rfl) (by assumption) ?_
        (try simp only [Act.put, List.setIfInBounds_toArray, List.set_cons_zero, List.set_cons_succ])
        refine ByHand.take_no 15 109 rfl rfl (by kernel_rfl) (by kernel_rfl) (by kernel_rfl) (fun _ _ _ h => h) (by rfl) (by assumption) ?_
        (try simp only [Act.put, List.setIfInBounds_toArray, List.set_cons_zero, List.set_cons_succ])
        refine ByHand.take_no 16 110 rfl rfl (by kernel_rfl) (by kernel_rfl) (by kernel_rfl) (fun _ _ _ h => h) (by rfl) (by assumption) ?_
        (try simp only [Act.put, List.setIfInBounds_toArray, List.set_cons_zero, List.set_cons_succ])
        refine ByHand.take_no 17 111 rfl rfl (by kernel_rfl) (by kernel_rfl) (by kernel_rfl) (fun _ _ _ h => h) (by rfl) (by assumption) ?_
        (try simp only [Act.put, List.setIfInBounds_toArray, List.set_cons_zero, List.set_cons_succ])
        refine ByHand.take_no 18 112 rfl rfl (by kernel_rfl) (by kernel_rfl) (by kernel_rfl) (fun _ _ _ h => h) (by rfl) (by assumption) ?_
        (try simp only [Act.put, List.setIfInBounds_toArray, List.set_cons_zero, List.set_cons_succ])
        refine ByHand.take_no 19 113 rfl rfl (by kernel_rfl) (by kernel_rfl) (by kernel_rfl) (fun _ _ _ h => h) (by rfl) (by assumption) ?_
        (try simp only [Act.put, List.setIfInBounds_toArray, List.set_cons_zero, List.set_cons_succ])
        refine ByHand.take_no 20 114 rfl rfl (by kernel_rfl) (by kernel_rfl) (by kernel_rfl) (fun _ _ _ h => h) (by rfl) (by assumption) ?_
        (try simp only [Act.put, List.setIfInBounds_toArray, List.set_cons_zero, List.set_cons_succ])
        refine ByHand.take_no 21 115 rfl rfl (by kernel_rfl) (by kernel_rfl) (by kernel_rfl) (fun _ _ _ h => h) (by rfl) (by assumption) ?_
        (try simp only [Act.put, List.setIfInBounds_toArray, List.set_cons_zero, List.set_cons_succ])
        refine ByHand.take_no 22 116 rfl rfl (by kernel_rfl) (by kernel_rfl) (by kernel_rfl) (fun _ _ _ h => h) (by rfl) (by assumption) ?_
        (try simp only [Act.put, List.setIfInBounds_toArray, List.set_cons_zero, List.set_cons_succ])
        refine ByHand.take_no 23 117 rfl rfl (by kernel_rfl) (by kernel_rfl) (by kernel_rfl) (fun _ _ _ h => h) (by rfl) (by assumption) ?_
        (try simp only [Act.put, List.setIfInBounds_toArray, List.set_cons_zero, List.set_cons_succ])
        refine ByHand.take_no 24 118 rfl rfl (by kernel_rfl) (by kernel_rfl) (by kernel_rfl) (fun _ _ _ h => h) (by rfl) (by assumption) ?_
        (try simp only [Act.put, List.setIfInBounds_toArray, List.set_cons_zero, List.set_cons_succ])
        refine ByHand.take_yes (v := ?_) 25 119 rfl rfl (by kernel_rfl) (by kernel_rfl) (by kernel_rfl) (fun _ _ _ h => h) (by rfl) ?_ (by assumption) ?_
        rotate_left
        · intro w' hSw
          (try dsimp only at hSw)
          go_simp
          all_goals with_reducible rfl
        (try simp only [Act.put, List.setIfInBounds_toArray, List.set_cons_zero, List.set_cons_succ])
        refine wpAnyH_done (by kernel_rfl) ?_ _
        have HW3 := Lib.hid hS0
        go_wp2_with (first
          | (refine store_row0 rfl 90 _ _ rfl rfl _ _ rfl rfl _ _ HR3.out (got_info _ _ _) rfl (got_one _ _ _) ?_))
        refine bodyPost_ret (results_cell_row rfl _ _ _ _ _ _ _ rfl (setRow_heap _ _ _ _ _ _ HR3.out) Tryz.underlying90 rfl (got_info _ _ _)) rfl ?_
        exact ⟨rfl, below_setRow HW3.out hg0 _⟩
      have t3 : ((t : Int) != (q : Int)) = false := by rw [bne_eq_false_iff_eq]; omega
      obtain ⟨dd, hdd⟩ : ∃ dd, B.size - (8 + z) = dd := ⟨_, rfl⟩
      have i1 : IntKind.i64.wrap ((B.size : Int) - (4 + (z : Int))) = (B.size : Int) - (4 + (z : Int)) := IntWalk.i64_in _ (by omega)
      have i2 : IntKind.i64.wrap ((B.size : Int) - (4 + (z : Int)) - 4) = (dd : Nat) := by rw [IntWalk.i64_in _ (by omega)]; omega
      have i3 : (B.size : Int) - (4 + (z : Int)) - 4 = (dd : Nat) := by omega
      have i4 : IntKind.i64.wrap (dd : Int) = (dd : Nat) := IntWalk.i64_in _ (by omega)
      have hmk0 := fun W : World => run_make_row' (P := Tryz.prog) 66 5 (.int .u8 0) 1 Tryz.underlying66 u8_info rfl .i64 .i64 dd (by omega) (by omega) W
      have cv0 := fun W : World => nulls_text (P := Tryz.prog) (World.rowIs_made W (.int .u8 0) dd 5) 66 9 Tryz.underlying66 Tryz.underlying5 Tryz.underlying9
      by_cases hGn : G = nulls dd
      case neg =>
        have t5 := text_ne hGn
        have hk : okR l num = false := HFIT.out True (fun h => hGn (by rw [← hG, ← hdd]; exact h.2))
        obtain rfl : RB = false := HEX.out.2.2.symm.trans hk
        obtain rfl : RS = ⟨#[]⟩ := HEX.out.1.symm.trans (by unfold readS; rw [hk]; rfl)
        obtain rfl : RN = 0 := HEX.out.2.1.symm.trans (by unfold readN; rw [hk]; rfl)
        clear hk HEX
        clear hE hD hG ht hq htq HFIT hbs hdd hGn
        refine wp_region_held_drew (S := (fun w' => Below w.heap.size w w')) (by kernel_rfl) hS0 (fun hHeld => ?_)
        generalize wr.drew = y0 at *
        refine ByHand.take_yes (v := ?_) 0 94 rfl rfl (by kernel_rfl) (by kernel_rfl) (by kernel_rfl) (fun _ _ _ h => h) (by rfl) ?_ (by assumption) ?_
        rotate_left
        · intro w' hSw
          (try dsimp only at hSw)
          go_simp
          all_goals with_reducible rfl
        (try simp only [Act.put, List.setIfInBounds_toArray, List.set_cons_zero, List.set_cons_succ])
        refine ByHand.take_yes (v := ?_) 1 95 rfl rfl (by kernel_rfl) (by kernel_rfl) (by kernel_rfl) (fun _ _ _ h => h) (by rfl) ?_ (by assumption) ?_
        rotate_left
        · intro w' hSw
          (try dsimp only at hSw)
          go_simp
          all_goals with_reducible rfl
        (try simp only [Act.put, List.setIfInBounds_toArray, List.set_cons_zero, List.set_cons_succ])
        refine ByHand.take_yes (v := ?_) 2 96 rfl rfl (by kernel_rfl) (by kernel_rfl) (by kernel_rfl) (fun _ _ _ h => h) (by rfl) ?_ (by assumption) ?_
        rotate_left
        · intro w' hSw
          (try dsimp only at hSw)
          go_simp
          all_goals with_reducible rfl
        (try simp only [Act.put, List.setIfInBounds_toArray, List.set_cons_zero, List.set_cons_succ])
        refine ByHand.take_yes (v := ?_) 3 97 rfl rfl (by kernel_rfl) (by kernel_rfl) (by kernel_rfl) (fun _ _ _ h => h) (by rfl) ?_ (by assumption) ?_
        rotate_left
        · intro w' hSw
          (try dsimp only at hSw)
          go_simp
          all_goals with_reducible rfl
        (try simp only [Act.put, List.setIfInBounds_toArray, List.set_cons_zero, List.set_cons_succ])
        refine ByHand.take_yes (v := ?_) 4 98 rfl rfl (by kernel_rfl) (by kernel_rfl) (by kernel_rfl) (fun _ _ _ h => h) (by rfl) ?_ (by assumption) ?_
        rotate_left
        · intro w' hSw
          (try dsimp only at hSw)
          go_simp
          all_goals with_reducible rfl
        (try simp only [Act.put, List.setIfInBounds_toArray, List.set_cons_zero, List.set_cons_succ])
        refine ByHand.take_yes (v := ?_) 7 101 rfl rfl (by kernel_rfl) (by kernel_rfl) (by kernel_rfl) (fun _ _ _ h => h) (by rfl) ?_ (by assumption) ?_
        rotate_left
        · intro w' hSw
          (try dsimp only at hSw)
          go_simp
          all_goals with_reducible rfl
        (try simp only [Act.put, List.setIfInBounds_toArray, List.set_cons_zero, List.set_cons_succ])
        refine ByHand.take_yes (v := ?_) 8 102 rfl rfl (by kernel_rfl) (by kernel_rfl) (by kernel_rfl) (fun _ _ _ h => h) (by rfl) ?_ (by assumption) ?_
        rotate_left
        · intro w' hSw
          (try dsimp only at hSw)
          go_simp
          all_goals with_reducible rfl
        (try simp only [Act.put, List.setIfInBounds_toArray, List.set_cons_zero, List.set_cons_succ])
        refine ByHand.take_yes (v := ?_) 9 103 rfl rfl (by kernel_rfl) (by kernel_rfl) (by kernel_rfl) (fun _ _ _ h => h) (by rfl) ?_ (by assumption) ?_
        rotate_left
        · intro w' hSw
          (try dsimp only at hSw)
          go_simp
          all_goals with_reducible rfl
        (try simp only [Act.put, List.setIfInBounds_toArray, List.set_cons_zero, List.set_cons_succ])
        refine wpAnyH_ready (rs := [5]) (by kernel_rfl) (by simp) (AllReadyH.cons rfl (fun K hK => ?_) AllReadyH.nil)
        go_simp
        refine (NE.out _).mono ?_
        rintro e y1 ⟨rfl, rfl⟩
        go_wp2_with fail
        refine hK.out _ _ ?_ (fun hHeld => ?_)
        · exact hS0
        clear hK K
        (try simp only [Act.put, List.setIfInBounds_toArray, List.set_cons_zero, List.set_cons_succ])
        refine ByHand.take_yes (v := ?_) 6 100 rfl rfl (by kernel_rfl) (by kernel_rfl) (by kernel_rfl) (fun _ _ _ h => h) (by rfl) ?_ (by assumption) ?_
        rotate_left
        · intro w' hSw
          (try dsimp only at hSw)
          go_simp
          all_goals with_reducible rfl
        (try simp only [Act.put, List.setIfInBounds_toArray, List.set_cons_zero, List.set_cons_succ])
        refine wpAnyH_ready (rs := [10]) (by kernel_rfl) (by simp) (AllReadyH.cons rfl (fun K hK => ?_) AllReadyH.nil)
        go_simp
        refine (NH.out _).mono ?_
        rintro e y1 ⟨rfl, rfl⟩
        go_wp2_with fail
        refine hK.out _ _ ?_ (fun hHeld => ?_)
        · exact hS0
        clear hK K
        (try simp only [Act.put, List.setIfInBounds_toArray, List.set_cons_zero, List.set_cons_succ])
        refine ByHand.take_yes (v := ?_) 11 105 rfl rfl (by kernel_rfl) (by kernel_rfl) (by kernel_rfl) (fun _ _ _ h => h) (by rfl) ?_ (by assumption) ?_
        rotate_left
        · intro w' hSw
          (try dsimp only at hSw)
          go_simp
          all_goals with_reducible rfl
        (try simp only [Act.put, List.setIfInBounds_toArray, List.set_cons_zero, List.set_cons_succ])
        refine ByHand.take_yes (v := ?_) 12 106 rfl rfl (by kernel_rfl) (by kernel_rfl) (by kernel_rfl) (fun _ _ _ h => h) (by rfl) ?_ (by assumption) ?_
        rotate_left
        · intro w' hSw
          (try dsimp only at hSw)
          go_simp
          all_goals with_reducible rfl
        (try simp only [Act.put, List.setIfInBounds_toArray, List.set_cons_zero, List.set_cons_succ])
        refine ByHand.take_yes (v := ?_) 13 107 rfl rfl (by kernel_rfl) (by kernel_rfl) (by kernel_rfl) (fun _ _ _ h => h) (by rfl) ?_ (by assumption) ?_
        rotate_left
        · intro w' hSw
          (try dsimp only at hSw)
          go_simp
          all_goals with_reducible rfl
        (try simp only [Act.put, List.setIfInBounds_toArray, List.set_cons_zero, List.set_cons_succ])
        refine ByHand.take_yes (v := ?_) 14 108 rfl rfl (by kernel_rfl) (by kernel_rfl) (by kernel_rfl) (fun _ _ _ h => h) (by rfl) ?_ (by assumption) ?_
        rotate_left
        · intro w' hSw
          (try dsimp only at hSw)
          go_simp
          all_goals with_reducible rfl
        (try simp only [Act.put, List.setIfInBounds_toArray, List.set_cons_zero, List.set_cons_succ])
        refine ByHand.take_yes (v := ?_) 15 109 rfl rfl (by kernel_rfl) (by kernel_rfl) (by kernel_rfl) (fun _ _ _ h => h) (by rfl) ?_ (by assumption) ?_
        rotate_left
        · intro w' hSw
          (try dsimp only at hSw)
          go_simp
          all_goals with_reducible rfl
        (try simp only [Act.put, List.setIfInBounds_toArray, List.set_cons_zero, List.set_cons_succ])
        refine ByHand.take_yes (v := ?_) 16 110 rfl rfl (by kernel_rfl) (by kernel_rfl) (by kernel_rfl) (fun _ _ _ h => h) (by rfl) ?_ (by assumption) ?_
        rotate_left
        · intro w' hSw
          (try dsimp only at hSw)
          go_simp
          all_goals with_reducible rfl
        (try simp only [Act.put, List.setIfInBounds_toArray, List.set_cons_zero, List.set_cons_succ])
        refine ByHand.take_yes (v := ?_) 17 111 rfl rfl (by kernel_rfl) (by kernel_rfl) (by kernel_rfl) (fun _ _ _ h => h) (by rfl) ?_ (by assumption) ?_
        rotate_left
        · intro w' hSw
          (try dsimp only at hSw)
          go_simp
          all_goals with_reducible rfl
        (try simp only [Act.put, List.setIfInBounds_toArray, List.set_cons_zero, List.set_cons_succ])
        refine ByHand.take_yes (v := ?_) 18 112 rfl rfl (by kernel_rfl) (by kernel_rfl) (by kernel_rfl) (fun _ _ _ h => h) (by rfl) ?_ (by assumption) ?_
        rotate_left
        · intro w' hSw
          (try dsimp only at hSw)
          go_simp
          all_goals with_reducible rfl
        (try simp only [Act.put, List.setIfInBounds_toArray, List.set_cons_zero, List.set_cons_succ])
        refine ByHand.take_yes (v := ?_) 19 113 rfl rfl (by kernel_rfl) (by kernel_rfl) (by kernel_rfl) (fun _ _ _ h => h) (by rfl) ?_ (by assumption) ?_
        rotate_left
        · intro w' hSw
          (try dsimp only at hSw)
          go_simp
          all_goals with_reducible rfl
        (try simp only [Act.put, List.setIfInBounds_toArray, List.set_cons_zero, List.set_cons_succ])
        refine ByHand.take_yes (v := ?_) 20 114 rfl rfl (by kernel_rfl) (by kernel_rfl) (by kernel_rfl) (fun _ _ _ h => h) (by rfl) ?_ (by assumption) ?_
        rotate_left
        · intro w' hSw
          (try dsimp only at hSw)
          go_simp
          all_goals with_reducible rfl
        (try simp only [Act.put, List.setIfInBounds_toArray, List.set_cons_zero, List.set_cons_succ])
        refine ByHand.take_yes (v := ?_) 21 115 rfl rfl (by kernel_rfl) (by kernel_rfl) (by kernel_rfl) (fun _ _ _ h => h) (by rfl) ?_ (by assumption) ?_
        rotate_left
        · intro w' hSw
          (try dsimp only at hSw)
          go_simp
          all_goals with_reducible rfl
        (try simp only [Act.put, List.setIfInBounds_toArray, List.set_cons_zero, List.set_cons_succ])
        refine wpAnyH_ready (rs := [22]) (by kernel_rfl) (by simp) (AllReadyH.cons rfl (fun K hK => ?_) AllReadyH.nil)
        go_simp
        have hS2 : Below w.heap.size w (y0.alloc (.cells (madeCells #[.int .u8 0] dd) 5)) := hS0.alloc hS0.size _
        have cv := cv0 y0
        have HR4 : Hid ((y0.alloc (.cells (madeCells #[.int .u8 0] dd) 5)).heap[g0]? = some (.cells #[.string ⟨#[]⟩, .int .i64 0, .bool false] 90 (0, 0))) := show _ = _ from (Below.heap_alloc y0 _ g0 (Array.getElem?_eq_some_iff.1 HR3.out).1).trans HR3.out
        generalize y0.alloc (.cells (madeCells #[.int .u8 0] dd) 5) = y2 at *
        refine hK.out _ _ ?_ (fun hHeld => ?_)
        · exact hS2
        clear hK K
        (try simp only [Act.put, List.setIfInBounds_toArray, List.set_cons_zero, List.set_cons_succ])
        refine wpAnyH_ready (rs := [23]) (by kernel_rfl) (by simp) (AllReadyH.cons rfl (fun K hK => ?_) AllReadyH.nil)
        go_simp
        refine hK.out _ _ ?_ (fun hHeld => ?_)
        · exact hS2
        clear hK K
        (try simp only [Act.put, List.setIfInBounds_toArray, List.set_cons_zero, List.set_cons_succ])
        refine ByHand.take_yes (v := ?_) 24 118 rfl rfl (by kernel_rfl) (by kernel_rfl) (by kernel_rfl) (fun _ _ _ h => h) (by rfl) ?_ (by assumption) ?_
        rotate_left
        · intro w' hSw
          (try dsimp only at hSw)
          go_simp
          all_goals with_reducible rfl
        (try simp only [Act.put, List.setIfInBounds_toArray, List.set_cons_zero, List.set_cons_succ])
        refine ByHand.take_yes (v := ?_) 25 119 rfl rfl (by kernel_rfl) (by kernel_rfl) (by kernel_rfl) (fun _ _ _ h => h) (by rfl) ?_ (by assumption) ?_
        rotate_left
        · intro w' hSw
          (try dsimp only at hSw)
          go_simp
          all_goals with_reducible rfl
        (try simp only [Act.put, List.setIfInBounds_toArray, List.set_cons_zero, List.set_cons_succ])
        refine wpAnyH_done (by kernel_rfl) ?_ _
        have HW3 := Lib.hid hS2
        go_wp2_with (first
          | (refine store_row0 rfl 90 _ _ rfl rfl _ _ rfl rfl _ _ HR4.out (got_info _ _ _) rfl (got_one _ _ _) ?_))
        refine bodyPost_ret (results_cell_row rfl _ _ _ _ _ _ _ rfl (setRow_heap _ _ _ _ _ _ HR4.out) Tryz.underlying90 rfl (got_info _ _ _)) rfl ?_
        exact ⟨rfl, below_setRow HW3.out hg0 _⟩
      have t5 := text_eq hGn
      have hk : okR l num = true := okR_yes ⟨fun e => hnil (by rw [e]; rfl), hz, by rw [HX0.out]; exact HF.out⟩ (by rw [HH.out]; omega) (by rw [HH.out]; exact HOK.out)
        (by rw [HH.out, HBB.out]; exact fit_yes HZZ.out ⟨by omega, HS2.out, by rw [ht, htq, ← hq, hD], by rw [hG, hdd]; exact hGn⟩)
      have k4 : ∀ W, (Instr.slice 9 (.string B) (some (.int .i64 4)) (some (.int .i64 (4 + (z : Int)))) none).run Tryz.prog W = .ok (.string (B.extract 4 (4 + z))) W := fun W => slice_two B _ _ 4 (4 + z) (by omega) (by omega) (by omega) (by omega) W
      obtain ⟨V, hV⟩ : ∃ V, B.extract 4 (4 + z) = V := ⟨_, rfl⟩
      rw [hV] at k4
      obtain rfl : RB = true := HEX.out.2.2.symm.trans hk
      obtain rfl : RS = V := HEX.out.1.symm.trans (by unfold readS; rw [if_pos hk, HH.out, HBB.out, HZZ.out]; exact hV)
      obtain rfl : RN = (i : Nat) := HEX.out.2.1.symm.trans (by unfold readN; rw [if_pos hk, HH.out])
      clear hE hD hG ht hq htq HFIT hbs hdd hGn hk HEX hV
      refine wp_region_held_drew (S := (fun w' => Below w.heap.size w w')) (by kernel_rfl) hS0 (fun hHeld => ?_)
      generalize wr.drew = y0 at *
      refine ByHand.take_yes (v := ?_) 0 94 rfl rfl (by kernel_rfl) (by kernel_rfl) (by kernel_rfl) (fun _ _ _ h => h) (by rfl) ?_ (by assumption) ?_
      rotate_left
      · intro w' hSw
        (try dsimp only at hSw)
        go_simp
        all_goals with_reducible rfl
      (try simp only [Act.put, List.setIfInBounds_toArray, List.set_cons_zero, List.set_cons_succ])
      refine ByHand.take_yes (v := ?_) 1 95 rfl rfl (by kernel_rfl) (by kernel_rfl) (by kernel_rfl) (fun _ _ _ h => h) (by rfl) ?_ (by assumption) ?_
      rotate_left
      · intro w' hSw
        (try dsimp only at hSw)
        go_simp
        all_goals with_reducible rfl
      (try simp only [Act.put, List.setIfInBounds_toArray, List.set_cons_zero, List.set_cons_succ])
      refine ByHand.take_yes (v := ?_) 2 96 rfl rfl (by kernel_rfl) (by kernel_rfl) (by kernel_rfl) (fun _ _ _ h => h) (by rfl) ?_ (by assumption) ?_
      rotate_left
      · intro w' hSw
        (try dsimp only at hSw)
        go_simp
        all_goals with_reducible rfl
      (try simp only [Act.put, List.setIfInBounds_toArray, List.set_cons_zero, List.set_cons_succ])
      refine ByHand.take_yes (v := ?_) 3 97 rfl rfl (by kernel_rfl) (by kernel_rfl) (by kernel_rfl) (fun _ _ _ h => h) (by rfl) ?_ (by assumption) ?_
      rotate_left
      · intro w' hSw
        (try dsimp only at hSw)
        go_simp
        all_goals with_reducible rfl
      (try simp only [Act.put, List.setIfInBounds_toArray, List.set_cons_zero, List.set_cons_succ])
      refine ByHand.take_yes (v := ?_) 4 98 rfl rfl (by kernel_rfl) (by kernel_rfl) (by kernel_rfl) (fun _ _ _ h => h) (by rfl) ?_ (by assumption) ?_
      rotate_left
      · intro w' hSw
        (try dsimp only at hSw)
        go_simp
        all_goals with_reducible rfl
      (try simp only [Act.put, List.setIfInBounds_toArray, List.set_cons_zero, List.set_cons_succ])
      refine ByHand.take_yes (v := ?_) 7 101 rfl rfl (by kernel_rfl) (by kernel_rfl) (by kernel_rfl) (fun _ _ _ h => h) (by rfl) ?_ (by assumption) ?_
      rotate_left
      · intro w' hSw
        (try dsimp only at hSw)
        go_simp
        all_goals with_reducible rfl
      (try simp only [Act.put, List.setIfInBounds_toArray, List.set_cons_zero, List.set_cons_succ])
      refine ByHand.take_yes (v := ?_) 8 102 rfl rfl (by kernel_rfl) (by kernel_rfl) (by kernel_rfl) (fun _ _ _ h => h) (by rfl) ?_ (by assumption) ?_
      rotate_left
      · intro w' hSw
        (try dsimp only at hSw)
        go_simp
        all_goals with_reducible rfl
      (try simp only [Act.put, List.setIfInBounds_toArray, List.set_cons_zero, List.set_cons_succ])
      refine ByHand.take_yes (v := ?_) 9 103 rfl rfl (by kernel_rfl) (by kernel_rfl) (by kernel_rfl) (fun _ _ _ h => h) (by rfl) ?_ (by assumption) ?_
      rotate_left
      · intro w' hSw
        (try dsimp only at hSw)
        go_simp
        all_goals with_reducible rfl
      (try simp only [Act.put, List.setIfInBounds_toArray, List.set_cons_zero, List.set_cons_succ])
      refine wpAnyH_ready (rs := [5]) (by kernel_rfl) (by simp) (AllReadyH.cons rfl (fun K hK => ?_) AllReadyH.nil)
      go_simp
      refine (NE.out _).mono ?_
      rintro e y1 ⟨rfl, rfl⟩
      go_wp2_with fail
      refine hK.out _ _ ?_ (fun hHeld => ?_)
      · exact hS0
      clear hK K
      (try simp only [Act.put, List.setIfInBounds_toArray, List.set_cons_zero, List.set_cons_succ])
      refine ByHand.take_yes (v := ?_) 6 100 rfl rfl (by kernel_rfl) (by kernel_rfl) (by kernel_rfl) (fun _ _ _ h => h) (by rfl) ?_ (by assumption) ?_
      rotate_left
      · intro w' hSw
        (try dsimp only at hSw)
        go_simp
        all_goals with_reducible rfl
      (try simp only [Act.put, List.setIfInBounds_toArray, List.set_cons_zero, List.set_cons_succ])
      refine wpAnyH_ready (rs := [10]) (by kernel_rfl) (by simp) (AllReadyH.cons rfl (fun K hK => ?_) AllReadyH.nil)
      go_simp
      refine (NH.out _).mono ?_
      rintro e y1 ⟨rfl, rfl⟩
      go_wp2_with fail
      refine hK.out _ _ ?_ (fun hHeld => ?_)
      · exact hS0
      clear hK K
      (try simp only [Act.put, List.setIfInBounds_toArray, List.set_cons_zero, List.set_cons_succ])
      refine ByHand.take_yes (v := ?_) 11 105 rfl rfl (by kernel_rfl) (by kernel_rfl) (by kernel_rfl) (fun _ _ _ h => h) (by rfl) ?_ (by assumption) ?_
      rotate_left
      · intro w' hSw
        (try dsimp only at hSw)
        go_simp
        all_goals with_reducible rfl
      (try simp only [Act.put, List.setIfInBounds_toArray, List.set_cons_zero, List.set_cons_succ])
      refine ByHand.take_yes (v := ?_) 12 106 rfl rfl (by kernel_rfl) (by kernel_rfl) (by kernel_rfl) (fun _ _ _ h => h) (by rfl) ?_ (by assumption) ?_
      rotate_left
      · intro w' hSw
        (try dsimp only at hSw)
        go_simp
        all_goals with_reducible rfl
      (try simp only [Act.put, List.setIfInBounds_toArray, List.set_cons_zero, List.set_cons_succ])
      refine ByHand.take_yes (v := ?_) 13 107 rfl rfl (by kernel_rfl) (by kernel_rfl) (by kernel_rfl) (fun _ _ _ h => h) (by rfl) ?_ (by assumption) ?_
      rotate_left
      · intro w' hSw
        (try dsimp only at hSw)
        go_simp
        all_goals with_reducible rfl
      (try simp only [Act.put, List.setIfInBounds_toArray, List.set_cons_zero, List.set_cons_succ])
      refine ByHand.take_yes (v := ?_) 14 108 rfl rfl (by kernel_rfl) (by kernel_rfl) (by kernel_rfl) (fun _ _ _ h => h) (by rfl) ?_ (by assumption) ?_
      rotate_left
      · intro w' hSw
        (try dsimp only at hSw)
        go_simp
        all_goals with_reducible rfl
      (try simp only [Act.put, List.setIfInBounds_toArray, List.set_cons_zero, List.set_cons_succ])
      refine ByHand.take_yes (v := ?_) 15 109 rfl rfl (by kernel_rfl) (by kernel_rfl) (by kernel_rfl) (fun _ _ _ h => h) (by rfl) ?_ (by assumption) ?_
      rotate_left
      · intro w' hSw
        (try dsimp only at hSw)
        go_simp
        all_goals with_reducible rfl
      (try simp only [Act.put, List.setIfInBounds_toArray, List.set_cons_zero, List.set_cons_succ])
      refine ByHand.take_yes (v := ?_) 16 110 rfl rfl (by kernel_rfl) (by kernel_rfl) (by kernel_rfl) (fun _ _ _ h => h) (by rfl) ?_ (by assumption) ?_
      rotate_left
      · intro w' hSw
        (try dsimp only at hSw)
        go_simp
        all_goals with_reducible rfl
      (try simp only [Act.put, List.setIfInBounds_toArray, List.set_cons_zero, List.set_cons_succ])
      refine ByHand.take_yes (v := ?_) 17 111 rfl rfl (by kernel_rfl) (by kernel_rfl) (by kernel_rfl) (fun _ _ _ h => h) (by rfl) ?_ (by assumption) ?_
      rotate_left
      · intro w' hSw
        (try dsimp only at hSw)
        go_simp
        all_goals with_reducible rfl
      (try simp only [Act.put, List.setIfInBounds_toArray, List.set_cons_zero, List.set_cons_succ])
      refine ByHand.take_yes (v := ?_) 18 112 rfl rfl (by kernel_rfl) (by kernel_rfl) (by kernel_rfl) (fun _ _ _ h => h) (by rfl) ?_ (by assumption) ?_
      rotate_left
      · intro w' hSw
        (try dsimp only at hSw)
        go_simp
        all_goals with_reducible rfl
      (try simp only [Act.put, List.setIfInBounds_toArray, List.set_cons_zero, List.set_cons_succ])
      refine ByHand.take_yes (v := ?_) 19 113 rfl rfl (by kernel_rfl) (by kernel_rfl) (by kernel_rfl) (fun _ _ _ h => h) (by rfl) ?_ (by assumption) ?_
      rotate_left
      · intro w' hSw
        (try dsimp only at hSw)
        go_simp
        all_goals with_reducible rfl
      (try simp only [Act.put, List.setIfInBounds_toArray, List.set_cons_zero, List.set_cons_succ])
      refine ByHand.take_yes (v := ?_) 20 114 rfl rfl (by kernel_rfl) (by kernel_rfl) (by kernel_rfl) (fun _ _ _ h => h) (by rfl) ?_ (by assumption) ?_
      rotate_left
      · intro w' hSw
        (try dsimp only at hSw)
        go_simp
        all_goals with_reducible rfl
      (try simp only [Act.put, List.setIfInBounds_toArray, List.set_cons_zero, List.set_cons_succ])
      refine ByHand.take_yes (v := ?_) 21 115 rfl rfl (by kernel_rfl) (by kernel_rfl) (by kernel_rfl) (fun _ _ _ h => h) (by rfl) ?_ (by assumption) ?_
      rotate_left
      · intro w' hSw
        (try dsimp only at hSw)
        go_simp
        all_goals with_reducible rfl
      (try simp only [Act.put, List.setIfInBounds_toArray, List.set_cons_zero, List.set_cons_succ])
      refine wpAnyH_ready (rs := [22]) (by kernel_rfl) (by simp) (AllReadyH.cons rfl (fun K hK => ?_) AllReadyH.nil)
      go_simp
      have hS2 : Below w.heap.size w (y0.alloc (.cells (madeCells #[.int .u8 0] dd) 5)) := hS0.alloc hS0.size _
      have cv := cv0 y0
      have HR4 : Hid ((y0.alloc (.cells (madeCells #[.int .u8 0] dd) 5)).heap[g0]? = some (.cells #[.string ⟨#[]⟩, .int .i64 0, .bool false] 90 (0, 0))) := show _ = _ from (Below.heap_alloc y0 _ g0 (Array.getElem?_eq_some_iff.1 HR3.out).1).trans HR3.out
      generalize y0.alloc (.cells (madeCells #[.int .u8 0] dd) 5) = y2 at *
      refine hK.out _ _ ?_ (fun hHeld => ?_)
      · exact hS2
      clear hK K
      (try simp only [Act.put, List.setIfInBounds_toArray, List.set_cons_zero, List.set_cons_succ])
      refine wpAnyH_ready (rs := [23]) (by kernel_rfl) (by simp) (AllReadyH.cons rfl (fun K hK => ?_) AllReadyH.nil)
      go_simp
      refine hK.out _ _ ?_ (fun hHeld => ?_)
      · exact hS2
      clear hK K
      (try simp only [Act.put, List.setIfInBounds_toArray, List.set_cons_zero, List.set_cons_succ])
      refine ByHand.take_yes (v := ?_) 24 118 rfl rfl (by kernel_rfl) (by kernel_rfl) (by kernel_rfl) (fun _ _ _ h => h) (by rfl) ?_ (by assumption) ?_
      rotate_left
      · intro w' hSw
        (try dsimp only at hSw)
        go_simp
        all_goals with_reducible rfl
      (try simp only [Act.put, List.setIfInBounds_toArray, List.set_cons_zero, List.set_cons_succ])
      refine ByHand.take_yes (v := ?_) 25 119 rfl rfl (by kernel_rfl) (by kernel_rfl) (by kernel_rfl) (fun _ _ _ h => h) (by rfl) ?_ (by assumption) ?_
      rotate_left
      · intro w' hSw
        (try dsimp only at hSw)
        go_simp
        all_goals with_reducible rfl
      (try simp only [Act.put, List.setIfInBounds_toArray, List.set_cons_zero, List.set_cons_succ])
      refine wpAnyH_done (by kernel_rfl) ?_ _
      have HW3 := Lib.hid hS2
      go_wp2_with (first
        | (refine store_row0 rfl 90 _ _ rfl rfl _ _ rfl rfl _ _ HR4.out (got_info _ _ _) rfl (got_one _ _ _) ?_))
      refine bodyPost_ret (results_cell_row rfl _ _ _ _ _ _ _ rfl (setRow_heap _ _ _ _ _ _ HR4.out) Tryz.underlying90 rfl (got_info _ _ _)) rfl ?_
      exact ⟨rfl, below_setRow HW3.out hg0 _⟩
end Go.Proofs.YtndanhacmfhlaaaGreat.Frame
namespace Go.Proofs.YtndanhacmfhlaaaGreat.Els
open Go.ChangeShapes Go.WideShapes Go.ChangeAt Go.RowKit

theorem texts_same (l : List ByteArray) (v u : Value) (B B' : Nat) (w : World) (hv : Txts w B v l) (hu : Txts w B' u l) :
    Calls Tryz.prog 28 #[v, u] w fun e w' => e = .returned (.bool true) ∧ ∃ n, w' = w.drewN n := by
  obtain ⟨A, c, rfl, hl, -, hcell⟩ := hv
  obtain ⟨A', c', rfl, -, -, hcell'⟩ := hu
  have HC := Lib.hid hcell
  have HC' := Lib.hid hcell'
  clear hcell hcell'
  go_enter Tryz.func28, Tryz.ntmps28
  go_wp2_with fail
  go_loopw [5] (fun t wr => ∃ j : Nat, j ≤ l.length ∧ t = .int .i64 j ∧ ∃ n, wr = w.drewN n) (fun t _ => l.length - (intOf t).toNat)
  case atStart => exact ⟨0, Nat.zero_le _, rfl, 0, rfl⟩
  case round =>
    obtain ⟨j, hj, rfl, n, rfl⟩ := hrel
    by_cases hlt : j < l.length
    · obtain ⟨b, off, rfl, hb, hcell⟩ := HC.out (by omega)
      obtain ⟨b', off', rfl, hb', hcell'⟩ := HC'.out (by omega)
      obtain ⟨x, hx0⟩ : ∃ x, l[j]? = some x := ⟨_, List.getElem?_eq_getElem hlt⟩
      have hx := hcell j x hx0
      have hx' := hcell' j x hx0
      clear hcell hcell' hx0
      have h0 : (0 : Int) ≤ j := by omega
      go_wp2_with fail
      go_quiet (fail)
      go_wp2_with fail
      go_roundw
      case rel => exact ⟨j + 1, by omega, by go_num, _, rfl⟩
      case measure => simp [intOf]; omega
    · go_wp2_with fail
      go_ret
      exact ⟨rfl, _, rfl⟩
end Go.Proofs.YtndanhacmfhlaaaGreat.Els
