/- Over a whole sector of another number a beginning of a new one is written: the number is either one's, or none; it is the new one's just if all bytes are; no condition. -/
import Derived.Test.YtfbohnmbjcfefaaShell
import Derived.Test.YtfbohnmbjcfefaaFrameWakes
import Derived.Test.YtfbohnmbjcfefaaGFr
import Derived.Deep.RegionHeld3
import Derived.Deep.DeepCutAuto
import Derived.BigFrame
import Derived.BigQuiet
import Derived.Deep.QuietTactic
namespace Go.Proofs.Ytfbohnmbjcfefaa.Law
open Go.ChangeShapes Go.WideShapes Go.ChangeAt Go.RowKit Go.Proofs.Ytfbohnmbjcfefaa.Frame Pack Crc Els

theorem u32_nat {z : Int} (h : (Lit.int .u32 z).wf = true) : ∃ n : Nat, z = n ∧ n < 4294967296 := by
  have h : 0 ≤ z ∧ z ≤ 4294967295 := by simpa [Lit.wf, IntKind.min, IntKind.max, IntKind.bits, IntKind.signed] using h
  exact ⟨z.toNat, by omega, by omega⟩
theorem i64_range {z : Int} (h : (Lit.int .i64 z).wf = true) : -9223372036854775808 ≤ z ∧ z ≤ 9223372036854775807 := by
  simpa [Lit.wf, IntKind.min, IntKind.max, IntKind.bits, IntKind.signed] using h
theorem below_new {a b : World} (h : Below a.heap.size a b) (o : Obj) : Below a.heap.size a (b.alloc o) := h.alloc h.size o
set_option maxRecDepth 20000 in
theorem torn_long1 (old num : Nat) (s t : ByteArray) (w : World) (h : 2000 < s.size) :
    Calls Try.prog 6 #[.agg #[.int .u32 (old : Nat), .int .u32 (num : Nat)], .string s, .string t] w fun e w' => e = .returned (.bool true) ∧ Below w.heap.size w w' := by
  have t0 : decide ((2000 : Int) < (s.size : Int)) = true := decide_eq_true (by omega)
  obtain ⟨g, wb, e1, e2, hA, hb⟩ : ∃ g wb, g = w.heap.size ∧ wb = w.alloc (.cells #[.int .u32 (old : Nat), .int .u32 (num : Nat)] 44) ∧ (∀ i : Nat, wb.cell? ⟨g, i, none⟩ = (#[.int .u32 (old : Nat), .int .u32 (num : Nat)] : Array Value)[i]?) ∧ Below w.heap.size w wb :=
    ⟨_, _, rfl, rfl, fun i => by simp only [World.cell?]; rw [heap_alloc_last]; rfl, below_new (Below.refl _ _) _⟩
  have a0 : wb.cell? ⟨g, 0, none⟩ = some (.int .u32 (old : Nat)) := hA 0
  have a1 : wb.cell? ⟨g, 1, none⟩ = some (.int .u32 (num : Nat)) := hA 1
  have HW := Lib.hid hb
  clear hA hb
  go_enter Try.func6, Try.ntmps6
  go_upto_region 1 with fail
  rw [← e2, ← e1]
  clear e1 e2
  go_quiet (fail)
  have HW2 : Hid (Below w.heap.size w (wb.drewN nq)) := show Below _ _ _ from ⟨HW.out.os, HW.out.tape, HW.out.output, HW.out.size, HW.out.block⟩
  clear HW a0 a1
  generalize wb.drewN nq = w2 at *
  go_wp2_with (go_at_call 8; refine (wakes_frame _).mono ?_; rintro e w9 ⟨rfl, hb⟩; have HB9 := Lib.hid (below_on HW2.out hb); clear hb)
  go_ret
  exact ⟨rfl, HB9.out⟩
set_option maxRecDepth 20000 in
theorem torn_long2 (old num : Nat) (s t : ByteArray) (w : World) (h1 : s.size ≤ 2000) (h : 2000 < t.size) :
    Calls Try.prog 6 #[.agg #[.int .u32 (old : Nat), .int .u32 (num : Nat)], .string s, .string t] w fun e w' => e = .returned (.bool true) ∧ Below w.heap.size w w' := by
  have t0 : decide ((2000 : Int) < (s.size : Int)) = false := decide_eq_false (by omega)
  have t1 : decide ((2000 : Int) < (t.size : Int)) = true := decide_eq_true (by omega)
  obtain ⟨g, wb, e1, e2, hA, hb⟩ : ∃ g wb, g = w.heap.size ∧ wb = w.alloc (.cells #[.int .u32 (old : Nat), .int .u32 (num : Nat)] 44) ∧ (∀ i : Nat, wb.cell? ⟨g, i, none⟩ = (#[.int .u32 (old : Nat), .int .u32 (num : Nat)] : Array Value)[i]?) ∧ Below w.heap.size w wb :=
    ⟨_, _, rfl, rfl, fun i => by simp only [World.cell?]; rw [heap_alloc_last]; rfl, below_new (Below.refl _ _) _⟩
  have a0 : wb.cell? ⟨g, 0, none⟩ = some (.int .u32 (old : Nat)) := hA 0
  have a1 : wb.cell? ⟨g, 1, none⟩ = some (.int .u32 (num : Nat)) := hA 1
  have HW := Lib.hid hb
  clear hA hb
  go_enter Try.func6, Try.ntmps6
  go_upto_region 1 with fail
  rw [← e2, ← e1]
  clear e1 e2
  go_quiet (fail)
  have HW2 : Hid (Below w.heap.size w (wb.drewN nq)) := show Below _ _ _ from ⟨HW.out.os, HW.out.tape, HW.out.output, HW.out.size, HW.out.block⟩
  clear HW a0 a1
  generalize wb.drewN nq = w2 at *
  go_wp2_with (go_at_call 8; refine (wakes_frame _).mono ?_; rintro e w9 ⟨rfl, hb⟩; have HB9 := Lib.hid (below_on HW2.out hb); clear hb)
  go_ret
  exact ⟨rfl, HB9.out⟩
set_option maxRecDepth 20000 in
theorem torn_same (old num : Nat) (s t : ByteArray) (w : World) (h1 : s.size ≤ 2000) (h2 : t.size ≤ 2000) (h : old = num) :
    Calls Try.prog 6 #[.agg #[.int .u32 (old : Nat), .int .u32 (num : Nat)], .string s, .string t] w fun e w' => e = .returned (.bool true) ∧ Below w.heap.size w w' := by
  have t0 : decide ((2000 : Int) < (s.size : Int)) = false := decide_eq_false (by omega)
  have t1 : decide ((2000 : Int) < (t.size : Int)) = false := decide_eq_false (by omega)
  have t2 : ((old : Int) == (num : Int)) = true := by rw [h]; simp
  clear h
  obtain ⟨g, wb, e1, e2, hA, hb⟩ : ∃ g wb, g = w.heap.size ∧ wb = w.alloc (.cells #[.int .u32 (old : Nat), .int .u32 (num : Nat)] 44) ∧ (∀ i : Nat, wb.cell? ⟨g, i, none⟩ = (#[.int .u32 (old : Nat), .int .u32 (num : Nat)] : Array Value)[i]?) ∧ Below w.heap.size w wb :=
    ⟨_, _, rfl, rfl, fun i => by simp only [World.cell?]; rw [heap_alloc_last]; rfl, below_new (Below.refl _ _) _⟩
  have a0 : wb.cell? ⟨g, 0, none⟩ = some (.int .u32 (old : Nat)) := hA 0
  have a1 : wb.cell? ⟨g, 1, none⟩ = some (.int .u32 (num : Nat)) := hA 1
  have HW := Lib.hid hb
  clear hA hb
  go_enter Try.func6, Try.ntmps6
  go_upto_region 1 with fail
  rw [← e2, ← e1]
  clear e1 e2
  go_quiet (fail)
  have HW2 : Hid (Below w.heap.size w (wb.drewN nq)) := show Below _ _ _ from ⟨HW.out.os, HW.out.tape, HW.out.output, HW.out.size, HW.out.block⟩
  clear HW a0 a1
  generalize wb.drewN nq = w2 at *
  go_wp2_with (go_at_call 8; refine (wakes_frame _).mono ?_; rintro e w9 ⟨rfl, hb⟩; have HB9 := Lib.hid (below_on HW2.out hb); clear hb)
  go_ret
  exact ⟨rfl, HB9.out⟩
set_option maxRecDepth 20000 in
theorem torn_zero (old num : Nat) (s t : ByteArray) (w : World) (ho : old < 4294967296) (hn : num < 4294967296) (h1 : s.size ≤ 2000) (h2 : t.size ≤ 2000) (h : old ≠ num) (hz : old = 0 ∨ num = 0) :
    Calls Try.prog 6 #[.agg #[.int .u32 (old : Nat), .int .u32 (num : Nat)], .string s, .string t] w fun e w' => e = .returned (.bool true) ∧ Below w.heap.size w w' := by
  have t0 : decide ((2000 : Int) < (s.size : Int)) = false := decide_eq_false (by omega)
  have t1 : decide ((2000 : Int) < (t.size : Int)) = false := decide_eq_false (by omega)
  have t2 : ((old : Int) == (num : Int)) = false := by rw [beq_eq_false_iff_ne]; omega
  have F1 : Hid (∀ W, Calls Try.prog 9 #[.int .u32 (old : Nat), .string s] W (Made old s W)) := fun W => f_make old s W ho (by omega)
  have F2 : Hid (∀ W, Calls Try.prog 9 #[.int .u32 (num : Nat), .string t] W (Made num t W)) := fun W => f_make num t W hn (by omega)
  unfold Made at F1 F2
  have HX : Hid ((makX old s = 1 ∧ old = 0) ∨ (makX old s = 0 ∧ ((old : Int) == 0) = false ∧ makX num t = 1 ∧ num = 0)) := show _ ∨ _ by
    by_cases h0 : old = 0
    · exact Or.inl ⟨by unfold makX; rw [if_pos h0], h0⟩
    · have h3 : num = 0 := by omega
      exact Or.inr ⟨by unfold makX; rw [if_neg h0, if_neg (by omega)], by rw [beq_eq_false_iff_ne]; omega, by unfold makX; rw [if_pos h3], h3⟩
  generalize makL old s = l1 at *
  generalize makL num t = l2 at *
  generalize makX old s = x1 at *
  generalize makX num t = x2 at *
  clear h h1 h2 ho hn hz
  obtain ⟨g, wb, e1, e2, hA, hb⟩ : ∃ g wb, g = w.heap.size ∧ wb = w.alloc (.cells #[.int .u32 (old : Nat), .int .u32 (num : Nat)] 44) ∧ (∀ i : Nat, wb.cell? ⟨g, i, none⟩ = (#[.int .u32 (old : Nat), .int .u32 (num : Nat)] : Array Value)[i]?) ∧ Below w.heap.size w wb :=
    ⟨_, _, rfl, rfl, fun i => by simp only [World.cell?]; rw [heap_alloc_last]; rfl, below_new (Below.refl _ _) _⟩
  have a0 : wb.cell? ⟨g, 0, none⟩ = some (.int .u32 (old : Nat)) := hA 0
  have a1 : wb.cell? ⟨g, 1, none⟩ = some (.int .u32 (num : Nat)) := hA 1
  have HW := Lib.hid hb
  clear hA hb
  go_enter Try.func6, Try.ntmps6
  go_upto_region 1 with fail
  rw [← e2, ← e1]
  clear e1 e2
  go_quiet (fail)
  have HW2 : Hid (Below w.heap.size w (wb.drewN nq)) := show Below _ _ _ from ⟨HW.out.os, HW.out.tape, HW.out.output, HW.out.size, HW.out.block⟩
  clear HW a0 a1
  generalize wb.drewN nq = w2 at *
  go_upto_region 6 with (first
    | (go_at_call 9
       with_reducible refine (F1.out _).mono ?_
       rintro e w3 ⟨v1, rfl, ht, hb⟩
       have T1 := Lib.hid ht
       have HW3 := Lib.hid (below_on HW2.out hb)
       clear ht hb)
    | (go_at_call 9
       with_reducible refine (F2.out _).mono ?_
       rintro e w4 ⟨v2, rfl, ht, hb⟩
       have T2 := Lib.hid ht
       have T1' := Lib.hid (T1.out.below hb)
       have HW4 := Lib.hid (below_on HW3.out hb)
       have LE34 : Hid (w3.heap.size ≤ w4.heap.size) := hb.size
       clear ht hb))
  rcases HX.out with ⟨rfl, rfl⟩ | ⟨rfl, h3, rfl, rfl⟩
  · go_wp2_with (go_at_call 8; refine (wakes_frame _).mono ?_; rintro e w9 ⟨rfl, hb⟩; have HB9 := Lib.hid (below_on HW4.out hb); clear hb)
    go_ret
    exact ⟨rfl, HB9.out⟩
  · go_wp2_with (go_at_call 8; refine (wakes_frame _).mono ?_; rintro e w9 ⟨rfl, hb⟩; have HB9 := Lib.hid (below_on HW4.out hb); clear hb)
    go_ret
    exact ⟨rfl, HB9.out⟩
theorem text_ne {s t : ByteArray} (h : s ≠ t) : (s.toList == t.toList) = false := by
  rw [beq_eq_false_iff_ne]
  exact fun e => h (Go.WideShapes.bytes_inj (by rw [← ByteArray.toList_eq, ← ByteArray.toList_eq]; exact e))
set_option maxRecDepth 20000 in
set_option maxHeartbeats 4000000 in
theorem torn_main (old num : Nat) (s t : ByteArray) (w : World) (ho : old < 4294967296) (hn : num < 4294967296) (h1 : s.size ≤ 2000) (h2 : t.size ≤ 2000) (h : old ≠ num) (z1 : old ≠ 0) (z2 : num ≠ 0) :
    Calls Try.prog 6 #[.agg #[.int .u32 (old : Nat), .int .u32 (num : Nat)], .string s, .string t] w fun e w' => e = .returned (.bool true) ∧ Below w.heap.size w w' := by
  have t0 : decide ((2000 : Int) < (s.size : Int)) = false := decide_eq_false (by omega)
  have t1 : decide ((2000 : Int) < (t.size : Int)) = false := decide_eq_false (by omega)
  have t2 : ((old : Int) == (num : Int)) = false := by rw [beq_eq_false_iff_ne]; omega
  have F1 : Hid (∀ W, Calls Try.prog 9 #[.int .u32 (old : Nat), .string s] W (Made old s W)) := fun W => f_make old s W ho (by omega)
  have F2 : Hid (∀ W, Calls Try.prog 9 #[.int .u32 (num : Nat), .string t] W (Made num t W)) := fun W => f_make num t W hn (by omega)
  unfold Made at F1 F2
  have m1 := size_most (n := s.size) (by omega)
  have m2 := size_most (n := t.size) (by omega)
  have p1 := piece_size (s := s) (i := 0) (by omega)
  have p2 := piece_size (s := t) (i := 0) (by omega)
  have TN : Hid (∀ i, i ≤ 256 → (numV (tornS (secS num (sizeN t.size) 0 (pieceS t 0)) (secS old (sizeN s.size) 0 (pieceS s 0)) i) = 0 ∨ numV (tornS (secS num (sizeN t.size) 0 (pieceS t 0)) (secS old (sizeN s.size) 0 (pieceS s 0)) i) = old ∨ numV (tornS (secS num (sizeN t.size) 0 (pieceS t 0)) (secS old (sizeN s.size) 0 (pieceS s 0)) i) = num) ∧
      (numV (tornS (secS num (sizeN t.size) 0 (pieceS t 0)) (secS old (sizeN s.size) 0 (pieceS s 0)) i) = num ↔ tornS (secS num (sizeN t.size) 0 (pieceS t 0)) (secS old (sizeN s.size) 0 (pieceS s 0)) i = secS num (sizeN t.size) 0 (pieceS t 0)) ∧ (i = 0 → numV (tornS (secS num (sizeN t.size) 0 (pieceS t 0)) (secS old (sizeN s.size) 0 (pieceS s 0)) i) = old)) :=
    fun i hi => torn_num (sec_size p1) (sec_size p2) sec_four (sec_last p1) sec_four (sec_last p2) ho hn z2 h hi
  have x1 : makX old s = 0 := by unfold makX; rw [if_neg z1, if_neg (by omega)]
  have x2 : makX num t = 0 := by unfold makX; rw [if_neg z2, if_neg (by omega)]
  have y1 : makL old s = secL old s := by unfold makL; rw [if_neg (by omega)]
  have y2 : makL num t = secL num t := by unfold makL; rw [if_neg (by omega)]
  rw [x1, y1] at F1
  rw [x2, y2] at F2
  have A1 := Lib.hid (secL_at (num := old) (s := s) (i := 0) (by omega))
  have A2 := Lib.hid (secL_at (num := num) (s := t) (i := 0) (by omega))
  have N1 : Hid (0 < (secL old s).length) := show 0 < _ by rw [secL_length]; omega
  have N2 : Hid (0 < (secL num t).length) := show 0 < _ by rw [secL_length]; omega
  have s1 := sec_size (num := old) (n := sizeN s.size) (i := 0) p1
  have s2 := sec_size (num := num) (n := sizeN t.size) (i := 0) p2
  clear m1 m2 p1 p2 x1 x2 y1 y2
  generalize secS old (sizeN s.size) 0 (pieceS s 0) = a at *
  generalize secS num (sizeN t.size) 0 (pieceS t 0) = b at *
  generalize secL old s = L1 at *
  generalize secL num t = L2 at *
  have i1 : ((L1.length : Int) == 0) = false := by rw [beq_eq_false_iff_ne]; have := N1.out; omega
  have i2 : ((L2.length : Int) == 0) = false := by rw [beq_eq_false_iff_ne]; have := N2.out; omega
  have i3 : ((a.size : Int) != 256) = false := by rw [bne_eq_false_iff_eq]; omega
  have i4 : ((b.size : Int) != 256) = false := by rw [bne_eq_false_iff_eq]; omega
  have S12 := Lib.hid (And.intro s1 s2)
  clear s1 s2 h1 h2
  obtain ⟨g, wb, e1, e2, hA, hb⟩ : ∃ g wb, g = w.heap.size ∧ wb = w.alloc (.cells #[.int .u32 (old : Nat), .int .u32 (num : Nat)] 44) ∧ (∀ i : Nat, wb.cell? ⟨g, i, none⟩ = (#[.int .u32 (old : Nat), .int .u32 (num : Nat)] : Array Value)[i]?) ∧ Below w.heap.size w wb :=
    ⟨_, _, rfl, rfl, fun i => by simp only [World.cell?]; rw [heap_alloc_last]; rfl, below_new (Below.refl _ _) _⟩
  have a0 : wb.cell? ⟨g, 0, none⟩ = some (.int .u32 (old : Nat)) := hA 0
  have a1 : wb.cell? ⟨g, 1, none⟩ = some (.int .u32 (num : Nat)) := hA 1
  have HW := Lib.hid hb
  clear hA hb
  go_enter Try.func6, Try.ntmps6
  go_upto_region 1 with fail
  rw [← e2, ← e1]
  clear e1 e2
  go_quiet (fail)
  have HW2 : Hid (Below w.heap.size w (wb.drewN nq)) := show Below _ _ _ from ⟨HW.out.os, HW.out.tape, HW.out.output, HW.out.size, HW.out.block⟩
  clear HW a0 a1
  generalize wb.drewN nq = w2 at *
  go_upto_region 6 with (first
    | (go_at_call 9
       with_reducible refine (F1.out _).mono ?_
       rintro e w3 ⟨v1, rfl, ht, hb⟩
       have T1 := Lib.hid ht
       have HW3 := Lib.hid (below_on HW2.out hb)
       clear ht hb)
    | (go_at_call 9
       with_reducible refine (F2.out _).mono ?_
       rintro e w4 ⟨v2, rfl, ht, hb⟩
       have T2 := Lib.hid ht
       have T1' := Lib.hid (T1.out.below hb)
       have HW4 := Lib.hid (below_on HW3.out hb)
       have LE34 : Hid (w3.heap.size ≤ w4.heap.size) := hb.size
       clear ht hb))
  obtain ⟨P1, k1, rfl, -, -, hc1⟩ := T1'.out
  obtain ⟨P2, k2, rfl, -, -, hc2⟩ := T2.out
  obtain ⟨b1, o1, rfl, hb1, hcell1⟩ := hc1 N1.out
  obtain ⟨b2, o2, rfl, hb2, hcell2⟩ := hc2 N2.out
  have c1 : w4.cell? ⟨b1, o1, none⟩ = some (.string a) := hcell1 0 a A1.out
  have c2 : w4.cell? ⟨b2, o2, none⟩ = some (.string b) := hcell2 0 b A2.out
  have q1 : (0 : Int) < L1.length := by have := N1.out; omega
  have q2 : (0 : Int) < L2.length := by have := N2.out; omega
  have C1 := Lib.hid c1
  have C2 := Lib.hid c2
  have B1 : Hid (b1 < w4.heap.size) := show _ < _ from World.block_lt_of_cell? w4 _ c1
  have B2 : Hid (b2 < w4.heap.size) := show _ < _ from World.block_lt_of_cell? w4 _ c2
  clear hc1 hc2 hcell1 hcell2 hb1 hb2 F1 F2
  go_wp2_with fail
  clear c1 c2 i1 i2 i3 i4
  go_loopw [13] (fun u wr => ∃ j : Nat, j ≤ 257 ∧ u = .int .i64 j ∧ Hid (Below w4.heap.size w4 wr)) (fun u _ => 257 - (intOf u).toNat)
  case atStart => exact ⟨0, by omega, rfl, Below.refl _ _⟩
  case round =>
    obtain ⟨j, hj, rfl, HR⟩ := hrel
    by_cases hlt : j ≤ 256
    · have c1 : wr.cell? ⟨b1, o1, none⟩ = some (.string a) := (HR.out.cell (p := ⟨b1, o1, none⟩) B1.out).trans C1.out
      have c2 : wr.cell? ⟨b2, o2, none⟩ = some (.string b) := (HR.out.cell (p := ⟨b2, o2, none⟩) B2.out).trans C2.out
      have u0 : decide ((j : Int) ≤ 256) = true := decide_eq_true (by omega)
      have f1 : ∀ W, (Instr.slice 9 (.string b) none (some (.int .i64 (j : Int))) none).run Try.prog W = .ok (.string (b.extract 0 j)) W := fun W => slice_to b _ j rfl (by have := S12.out.2; omega) W
      have f2 : ∀ W, (Instr.slice 9 (.string a) (some (.int .i64 (j : Int))) none none).run Try.prog W = .ok (.string (a.extract j a.size)) W := fun W => slice_from a _ j rfl (by have := S12.out.1; omega) W
      have qn1 := N1.out
      have qn2 := N2.out
      have qn3 : ¬ L1.length = 0 := by omega
      have qn4 : ¬ L2.length = 0 := by omega
      obtain ⟨p1, p2, p3⟩ := TN.out j hlt
      have HN : Hid (∀ W, Calls Try.prog 17 #[.string (tornS b a j)] W fun e w' => e = .returned (.int .u32 (numV (tornS b a j) : Nat)) ∧ Below W.heap.size W w') := fun W => f_num _ W (by rw [torn_size S12.out.1 S12.out.2 hlt]; omega)
      have CS : (numV (tornS b a j) = 0 ∧ tornS b a j ≠ b ∧ ¬ j = 0) ∨ (numV (tornS b a j) = old ∧ tornS b a j ≠ b) ∨ (numV (tornS b a j) = num ∧ tornS b a j = b ∧ ¬ j = 0) := by
        rcases p1 with p | p | p
        · exact Or.inl ⟨p, fun e => z2 ((p2.2 e).symm.trans p), fun e => z1 ((p3 e).symm.trans p)⟩
        · exact Or.inr (Or.inl ⟨p, fun e => h (p.symm.trans (p2.2 e))⟩)
        · exact Or.inr (Or.inr ⟨p, p2.1 p, fun e => h ((p3 e).symm.trans p)⟩)
      have kc : b.extract 0 j ++ a.extract j a.size = tornS b a j := rfl
      have kz : (b.extract 0 j ++ a.extract j a.size).size = 256 := torn_size S12.out.1 S12.out.2 hlt
      generalize b.extract 0 j = y1 at *
      generalize a.extract j a.size = y2 at *
      rw [ByteArray.size_append] at kz
      have f3 : ¬ (9223372036854775807 < y1.size + y2.size) := by omega
      have f4 : y1.size + y2.size ≤ 9223372036854775807 := by omega
      clear kz
      have r1 : ((old : Int) != 0) = true := by rw [bne_iff_ne]; omega
      have r2 : ((num : Int) != 0) = true := by rw [bne_iff_ne]; omega
      have r3 : ((num : Int) != (old : Int)) = true := by rw [bne_iff_ne]; omega
      have r4 : ((0 : Int) == (num : Int)) = false := by rw [beq_eq_false_iff_ne]; omega
      clear p1 p2 p3
      generalize tornS b a j = x at *
      generalize numV x = nv at *
      rcases CS with ⟨rfl, hx, j1⟩ | ⟨rfl, hx⟩ | ⟨rfl, hx, j1⟩
      · have tx := text_ne hx
        have tj : ((j : Int) == 0) = false := by rw [beq_eq_false_iff_ne]; omega
        go_wp2_with fail
        go_quiet (fail)
        have HR5 : Hid (Below w4.heap.size w4 (wr.drewN nq)) := show Below _ _ _ from ⟨HR.out.os, HR.out.tape, HR.out.output, HR.out.size, HR.out.block⟩
        have c1 : (wr.drewN nq).cell? ⟨b1, o1, none⟩ = some (.string a) := c1
        have c2 : (wr.drewN nq).cell? ⟨b2, o2, none⟩ = some (.string b) := c2
        generalize wr.drewN nq = w5 at *
        have l2 := World.block_lt_of_cell? w5 _ c2
        go_wp2_with (go_at_call 17
                     refine (HN.out _).mono ?_
                     rintro e w6 ⟨rfl, hb⟩
                     have d2 : w6.cell? ⟨b2, o2, none⟩ = some (.string b) := (hb.cell (p := ⟨b2, o2, none⟩) l2).trans c2
                     have HR6 := Lib.hid (below_on HR5.out hb)
                     clear hb)
        go_roundw
        case rel => exact ⟨j + 1, by omega, by go_num, HR6⟩
        case measure => simp [intOf]; omega
      · have tx := text_ne hx
        by_cases j1 : j = 0
        · have tj : ((j : Int) == 0) = true := by rw [j1]; rfl
          clear j1
          go_wp2_with fail
          go_quiet (fail)
          have HR5 : Hid (Below w4.heap.size w4 (wr.drewN nq)) := show Below _ _ _ from ⟨HR.out.os, HR.out.tape, HR.out.output, HR.out.size, HR.out.block⟩
          have c1 : (wr.drewN nq).cell? ⟨b1, o1, none⟩ = some (.string a) := c1
          have c2 : (wr.drewN nq).cell? ⟨b2, o2, none⟩ = some (.string b) := c2
          generalize wr.drewN nq = w5 at *
          have l2 := World.block_lt_of_cell? w5 _ c2
          go_wp2_with (go_at_call 17
                       refine (HN.out _).mono ?_
                       rintro e w6 ⟨rfl, hb⟩
                       have d2 : w6.cell? ⟨b2, o2, none⟩ = some (.string b) := (hb.cell (p := ⟨b2, o2, none⟩) l2).trans c2
                       have HR6 := Lib.hid (below_on HR5.out hb)
                       clear hb)
          go_roundw
          case rel => exact ⟨j + 1, by omega, by go_num, HR6⟩
          case measure => simp [intOf]; omega
        · have tj : ((j : Int) == 0) = false := by rw [beq_eq_false_iff_ne]; omega
          go_wp2_with fail
          go_quiet (fail)
          have HR5 : Hid (Below w4.heap.size w4 (wr.drewN nq)) := show Below _ _ _ from ⟨HR.out.os, HR.out.tape, HR.out.output, HR.out.size, HR.out.block⟩
          have c1 : (wr.drewN nq).cell? ⟨b1, o1, none⟩ = some (.string a) := c1
          have c2 : (wr.drewN nq).cell? ⟨b2, o2, none⟩ = some (.string b) := c2
          generalize wr.drewN nq = w5 at *
          have l2 := World.block_lt_of_cell? w5 _ c2
          go_wp2_with (go_at_call 17
                       refine (HN.out _).mono ?_
                       rintro e w6 ⟨rfl, hb⟩
                       have d2 : w6.cell? ⟨b2, o2, none⟩ = some (.string b) := (hb.cell (p := ⟨b2, o2, none⟩) l2).trans c2
                       have HR6 := Lib.hid (below_on HR5.out hb)
                       clear hb)
          go_roundw
          case rel => exact ⟨j + 1, by omega, by go_num, HR6⟩
          case measure => simp [intOf]; omega
      · have tj : ((j : Int) == 0) = false := by rw [beq_eq_false_iff_ne]; omega
        obtain rfl : b = x := hx.symm
        go_wp2_with fail
        go_quiet (fail)
        have HR5 : Hid (Below w4.heap.size w4 (wr.drewN nq)) := show Below _ _ _ from ⟨HR.out.os, HR.out.tape, HR.out.output, HR.out.size, HR.out.block⟩
        have c1 : (wr.drewN nq).cell? ⟨b1, o1, none⟩ = some (.string a) := c1
        have c2 : (wr.drewN nq).cell? ⟨b2, o2, none⟩ = some (.string b) := c2
        generalize wr.drewN nq = w5 at *
        have l2 := World.block_lt_of_cell? w5 _ c2
        go_wp2_with (go_at_call 17
                     refine (HN.out _).mono ?_
                     rintro e w6 ⟨rfl, hb⟩
                     have d2 : w6.cell? ⟨b2, o2, none⟩ = some (.string b) := (hb.cell (p := ⟨b2, o2, none⟩) l2).trans c2
                     have HR6 := Lib.hid (below_on HR5.out hb)
                     clear hb)
        go_roundw
        case rel => exact ⟨j + 1, by omega, by go_num, HR6⟩
        case measure => simp [intOf]; omega
    · obtain rfl : j = 257 := by omega
      have HBB := Lib.hid (below_on HW4.out HR.out)
      go_wp2_with (go_at_call 8
                   refine (wakes_frame _).mono ?_
                   rintro e w9 ⟨rfl, hb⟩
                   have HB9 := Lib.hid (below_on HBB.out hb)
                   clear hb)
      go_ret
      exact ⟨rfl, HB9.out⟩
theorem torn_walk (old num : Nat) (s t : ByteArray) (w : World) (ho : old < 4294967296) (hn : num < 4294967296) :
    Calls Try.prog 6 #[.agg #[.int .u32 (old : Nat), .int .u32 (num : Nat)], .string s, .string t] w fun e w' => e = .returned (.bool true) ∧ Below w.heap.size w w' := by
  by_cases h1 : 2000 < s.size
  · exact torn_long1 old num s t w h1
  by_cases h2 : 2000 < t.size
  · exact torn_long2 old num s t w (by omega) h2
  by_cases h : old = num
  · exact torn_same old num s t w (by omega) (by omega) h
  by_cases z1 : old = 0
  · exact torn_zero old num s t w ho hn (by omega) (by omega) h (Or.inl z1)
  by_cases z2 : num = 0
  · exact torn_zero old num s t w ho hn (by omega) (by omega) h (Or.inr z2)
  exact torn_main old num s t w ho hn (by omega) (by omega) h z1 z2

set_option maxRecDepth 100000 in
theorem frameTorn_lifted (os : Os) (started : os.Started) (H : Type) (enc : TypeId × Value → H) :
    ReturnsInHanded {} Try.checked os 6 .any (Rows.frameTornSpec.pre6 enc Try.prog Try.f6 Rows.frameTornRow.domain false) (Rows.frameTornSpec.post enc Try.prog Try.f6 false true false false) := by
  refine Shell.law_lifted (C := Try.checked) (tb := 4) (by kernel_rfl) started (by kernel_rfl) Try.func6
    (ChangeSpec.witness6 (enc := enc) (C := Try.checked) false ⟨#[], #[.agg #[.int .u32 0, .int .u32 0], .string ⟨#[]⟩, .string ⟨#[]⟩], []⟩ 8 (by kernel_rfl) (by kernel_rfl) (by kernel_rfl) (by kernel_rfl))
    (by kernel_rfl) (by kernel_rfl) rfl rfl Try.underlying4 ?_
  intro W base args ds p hval0 hA0
  have hval : ∀ (j : Nat) t v, Try.f6.params[j]? = some t → args[j]? = some v → Value.okWide Try.prog W .any base t v := hval0
  have hA : DataW.TrodAll enc Try.prog W 0 (fun _ => true) true Try.f6.params.toList args.toList ds p := hA0
  clear hval0 hA0
  rw [Try.params6] at hA hval
  obtain ⟨v0, vs0, d0, ds0, p0, q0, hargs, rfl, rfl, h0, r0⟩ := trodAll_cons hA
  obtain ⟨v1, vs1, d1, ds1, p1, q1, rfl, rfl, rfl, h1, r1⟩ := trodAll_cons r0
  obtain ⟨v2, vs2, d2, ds2, p2, q2, rfl, rfl, rfl, h2, r2⟩ := trodAll_cons r1
  obtain ⟨rfl, rfl, rfl⟩ := trodAll_nil r2
  obtain rfl : args = #[v0, v1, v2] := by cases args; simp_all
  refine ⟨rfl, ?_⟩
  obtain ⟨zs, hzl, rfl, hz⟩ := Shell.open_arr Try.underlying44 Try.underlying22 (by kernel_rfl) (by kernel_rfl) (hval 0 44 v0 rfl rfl) h0
  obtain ⟨zo, zn, rfl⟩ := Shell.list2 zs hzl
  obtain ⟨old, rfl, bo⟩ := u32_nat (hz zo (by simp))
  obtain ⟨num, rfl, bn⟩ := u32_nat (hz zn (by simp))
  obtain ⟨s, rfl, -, -, w1⟩ := ChangeMaps.open_string Try.underlying9 (hval 1 9 v1 rfl rfl) h1
  obtain ⟨t, rfl, -, -, w2⟩ := ChangeMaps.open_string Try.underlying9 (hval 2 9 v2 rfl rfl) h2
  exact torn_walk old num s t W bo bn

theorem frameTorn_over : Rows.frameTornRow.holds Try.pinned (OpenSpec.ofChange Rows.frameTornSpec) :=
  OpenClaim.holds_of_wide 6 Try.f6 rfl rfl rfl rfl rfl rfl rfl ⟨rfl, rfl, rfl, rfl, rfl⟩ rfl rfl rfl rfl rfl (by kernel_rfl) Try.func6 (by kernel_rfl)
    (of_decide_eq_true (by kernel_rfl)) (by unfold Func.isWrapper; first | (rw [if_pos (by decide +kernel)]; kernel_rfl) | (rw [if_neg (by decide +kernel)]; exact ⟨rfl, rfl⟩))
    (fun os st H enc _ => frameTorn_lifted os st H enc)

/-- The statement. -/
theorem frameTorn_proved : Rows.FrameTornSaid := frameTorn_over
end Go.Proofs.Ytfbohnmbjcfefaa.Law
