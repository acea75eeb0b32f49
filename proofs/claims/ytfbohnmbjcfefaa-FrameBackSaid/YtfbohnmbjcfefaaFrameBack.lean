/- A record is read as it was made, whatever stands behind it; without one of its sectors, or with one of another number, it is none; no condition. -/
import Derived.Test.YtfbohnmbjcfefaaShell
import Derived.Test.YtfbohnmbjcfefaaFrameWakes
import Derived.Test.YtfbohnmbjcfefaaGFr
import Derived.Deep.RegionHeld3
import Derived.Deep.DeepCutAuto
import Derived.BigFrame
import Derived.BigQuiet
import Derived.Deep.QuietTactic
import Derived.Test.YtfbohnmbjcfefaaGBase
import Derived.Test.YtfbohnmbjcfefaaGPack
namespace Go.Proofs.Ytfbohnmbjcfefaa.Law
open Go.ChangeShapes Go.WideShapes Go.ChangeAt Go.RowKit Go.Proofs.Ytfbohnmbjcfefaa.Frame Pack Crc Els

theorem u32_nat {z : Int} (h : (Lit.int .u32 z).wf = true) : ∃ n : Nat, z = n ∧ n < 4294967296 := by
  have h : 0 ≤ z ∧ z ≤ 4294967295 := by simpa [Lit.wf, IntKind.min, IntKind.max, IntKind.bits, IntKind.signed] using h
  exact ⟨z.toNat, by omega, by omega⟩
theorem i64_range {z : Int} (h : (Lit.int .i64 z).wf = true) : -9223372036854775808 ≤ z ∧ z ≤ 9223372036854775807 := by
  simpa [Lit.wf, IntKind.min, IntKind.max, IntKind.bits, IntKind.signed] using h
theorem below_new {a b : World} (h : Below a.heap.size a b) (o : Obj) : Below a.heap.size a (b.alloc o) := h.alloc h.size o
theorem text_ne {s t : ByteArray} (h : s ≠ t) : (s.toList == t.toList) = false := by
  rw [beq_eq_false_iff_ne]
  exact fun e => h (Go.WideShapes.bytes_inj (by rw [← ByteArray.toList_eq, ← ByteArray.toList_eq]; exact e))
theorem lit_txts (W : World) (x y : ByteArray) (T : TypeId) : Txts (W.alloc (.cells #[.string x, .string y] T)) (W.heap.size + 1) (.slice (some ⟨W.heap.size, 0, none⟩) 2 2) [x, y] :=
  ⟨some ⟨W.heap.size, 0, none⟩, 2, rfl, by simp, ⟨fun h => (by cases h), Nat.le_refl _⟩, fun _ => ⟨W.heap.size, 0, rfl, Nat.lt_succ_self _, fun i z hi => by
    rw [Nat.zero_add]
    simp only [World.cell?]
    rw [heap_alloc_last]
    match i, hi with
    | 0, hi => injection hi with hi; rw [← hi]; rfl
    | 1, hi => injection hi with hi; rw [← hi]; rfl⟩⟩
theorem wp_append_txts {P : Program} {w : World} {o : Oper} {a : Act} {K : Act → World → Prop} {Q : Exit → Act → World → Prop} (s x : Operand) (t : TypeId)
    (ho : o.op = .call { callee := .builtin .append, args := #[s, x], argTypes := #[t, t] })
    (base : Nat) (e : TypeId) (i : TypeInfo) (ht : P.underlying t = some (.slice e)) (hi : P.info? e = some i) (hz : i.zero = some (.string ⟨#[]⟩)) (hsize : i.size = 1) (hby : i.bytes = 16)
    (v : Value) (n : Nat) (xs : List Value) (hs : a.eval s = v) (hown : w.ownsRow base e 1 v n xs)
    (B m c : Nat) (A : Addr) (l : List ByteArray) (hx : a.eval x = .slice (some A) m c) (hm : m = l.length) (hu : Txts w B (.slice (some A) m c) l)
    (h63 : n + m ≤ 100000) (hbase : base ≤ w.heap.size) (d : Tmp) (hd : o.dst = some d)
    (h : ∀ v' w', w'.ownsRow base e 1 v' (n + m) (xs ++ l.map Value.string) → w.grownBy w' v.ownBlock → K (a.put (some d) v') w') : o.wp P a w K Q := by
  subst hm
  refine wp_append_own (P := P) w s x t ho base e i _ 1 16 ht hi hz hsize hby rfl (by omega) v n xs hs hown A l.length c (l.map Value.string) hx (by simp) ?_ ?_ (by unfold maxLen; omega) (by omega) hbase (fun v' w' h1 h2 _ => by rw [hd]; exact h v' w' h1 h2)
  · intro j y hj
    have hlt : j < l.length := by
      rcases Nat.lt_or_ge j l.length with h | h
      · exact h
      · rw [List.getElem?_eq_none (by simpa using h)] at hj; cases hj
    obtain ⟨A', c', e', -, -, hc⟩ := hu
    obtain ⟨b, off, hb, -, hcell⟩ := hc (by omega)
    injection e' with e1 e2 e3
    rw [hb] at e1
    injection e1 with e1
    subst e1
    rw [List.getElem?_map, List.getElem?_eq_getElem hlt] at hj
    injection hj with hj
    subst hj
    rw [Go.WideShapes.add_plain, hcell j _ (List.getElem?_eq_getElem hlt)]
  · intro y hy
    obtain ⟨z', -, rfl⟩ := List.mem_map.1 hy
    rfl
theorem below_grown {a w w' : World} {base n size : Nat} {e : TypeId} {v : Value} {xs : List Value} (h : Below a.heap.size a w) (hb : a.heap.size ≤ base) (ho : w.ownsRow base e size v n xs) (hg : w.grownBy w' v.ownBlock) : Below a.heap.size a w' := below_row h hb ho hg
theorem grown_cell {w w' : World} {g q o : Nat} (h : w.grownBy w' (some g)) (hq : q < w.heap.size) (ne : q ≠ g) : w'.cell? ⟨q, o, none⟩ = w.cell? ⟨q, o, none⟩ :=
  World.cell?_of_block (h.block q hq (fun e => ne (by injection e)))
theorem els_at {α : Type} {f : α → Value} {w w' : World} {B g off m c : Nat} {l : List α} (h : Els f w B (.slice (some ⟨g, off, none⟩) m c) l) (hk : ∀ o, w'.cell? ⟨g, o, none⟩ = w.cell? ⟨g, o, none⟩) : Els f w' B (.slice (some ⟨g, off, none⟩) m c) l := by
  obtain ⟨A, c', e, hl, hn, hc⟩ := h
  refine ⟨A, c', e, hl, hn, fun h0 => ?_⟩
  obtain ⟨b, off', hA, hb, hcell⟩ := hc h0
  injection e with e1 e2 e3
  rw [hA] at e1
  injection e1 with e1
  injection e1 with e4 e5
  subst e4 e5
  exact ⟨_, _, hA, hb, fun i x hi => (hk _).trans (hcell i x hi)⟩
theorem quiet_left {P : Program} {f : FuncId} {args : Array Value} {w : World} {n : Nat} {v : Value} (h : Calls P f args (w.drewN n) fun e w' => e = .returned v ∧ w.drewN n = w') :
    Calls P f args (w.drewN n) fun e w'' => e = .returned v ∧ ∃ m, w'' = w.drewN m := h.mono fun _ _ ⟨he, hm⟩ => ⟨he, n, hm.symm⟩
theorem els_take {α : Type} {f : α → Value} {w : World} {B b off n k p : Nat} {l : List α} (h : Els f w B (.slice (some ⟨b, off, none⟩) n k) l) (hn : n = l.length) (hp : p ≤ n) : Els f w B (.slice (some ⟨b, off, none⟩) p k) (l.take p) := by
  obtain ⟨A, c, e, hl, hnn, hc⟩ := h
  injection e with e1 e2 e3
  subst e1 e3
  have hlt : (l.take p).length = p := by rw [List.length_take]; omega
  refine ⟨_, _, by rw [hlt], by rw [hlt]; omega, ⟨fun h => (by cases h), by rw [hlt]; have := hnn.2; omega⟩, fun h0 => ?_⟩
  obtain ⟨b', off', hA, hb, hcell⟩ := hc (by omega)
  refine ⟨b', off', hA, hb, fun i x hi => hcell i x ?_⟩
  have h1 : i < (l.take p).length := (List.getElem?_eq_some_iff.1 hi).1
  rwa [List.getElem?_take_of_lt (by omega)] at hi
theorem els_drop {α : Type} {f : α → Value} {w : World} {B b off n k p : Nat} {l : List α} (h : Els f w B (.slice (some ⟨b, off, none⟩) n k) l) (hn : n = l.length) (hp : p + 1 ≤ n) :
    ∃ A2 : Addr, (if k = p + 1 then some (⟨b, off, none⟩ : Addr) else some ⟨b, off + (p + 1), none⟩) = some A2 ∧ Els f w B (.slice (some A2) (n - (p + 1)) (k - (p + 1))) (l.drop (p + 1)) := by
  obtain ⟨A, c, e, hl, hnn, hc⟩ := h
  injection e with e1 e2 e3
  subst e1 e3
  have hlt : (l.drop (p + 1)).length = n - (p + 1) := by rw [List.length_drop, hn]
  have hk := hnn.2
  by_cases hkp : k = p + 1
  · refine ⟨_, if_pos hkp, ⟨_, _, by rw [hlt], by rw [hlt]; omega, ⟨fun h => (by cases h), by rw [hlt]; omega⟩, fun h0 => ?_⟩⟩
    rw [hlt] at h0
    omega
  · refine ⟨_, if_neg hkp, ⟨_, _, by rw [hlt], by rw [hlt]; omega, ⟨fun h => (by cases h), by rw [hlt]; omega⟩, fun h0 => ?_⟩⟩
    obtain ⟨b', off', hA, hb, hcell⟩ := hc (by omega)
    injection hA with hA
    injection hA with h4 h5
    subst h4 h5
    refine ⟨_, _, rfl, hb, fun i x hi => ?_⟩
    rw [Nat.add_assoc]
    refine hcell _ x ?_
    rwa [List.getElem?_drop] at hi
theorem els_set {α : Type} {f : α → Value} {w : World} {B b n c : Nat} {l : List α} {cur : Array Value} {T : TypeId} {p : Nat} {v : Value} (h : Els f w B (.slice (some ⟨b, 0, none⟩) n c) l) (hh : w.heap[b]? = some (.cells cur T (0, 0))) (hc : w.cell? ⟨b, p, none⟩ = some v) (x : α) :
    Els f (w.setCell ⟨b, p, none⟩ (f x)) B (.slice (some ⟨b, 0, none⟩) n c) (l.set p x) := by
  have hw : (w.setCell ⟨b, p, none⟩ (f x)).heap[b]? = some (.cells (cur.setIfInBounds p (f x)) T (0, 0)) := by
    simp [World.setCell, Array.getElem?_modify, hh]
  have old : ∀ i, w.cell? ⟨b, i, none⟩ = cur[i]? := fun i => by simp only [World.cell?, hh]; rfl
  have new : ∀ i, (w.setCell ⟨b, p, none⟩ (f x)).cell? ⟨b, i, none⟩ = (cur.setIfInBounds p (f x))[i]? := fun i => by simp only [World.cell?, hw]; rfl
  have hp : p < cur.size := by
    rw [old] at hc
    exact (Array.getElem?_eq_some_iff.1 hc).1
  obtain ⟨A, c', e, hl, hnn, hcc⟩ := h
  refine ⟨A, c', by rw [List.length_set]; exact e, by rw [List.length_set]; exact hl, by rw [List.length_set]; exact hnn, fun h0 => ?_⟩
  rw [List.length_set] at h0
  obtain ⟨b', off', hA, hb, hcell⟩ := hcc h0
  injection e with e1 e2 e3
  rw [hA] at e1
  injection e1 with e1
  injection e1 with e4 e5
  subst e4 e5
  refine ⟨_, _, hA, hb, fun i y hi => ?_⟩
  rw [Nat.zero_add, new]
  by_cases hip : p = i
  · subst hip
    rw [List.getElem?_set_self' ] at hi
    rw [Array.getElem?_setIfInBounds_self_of_lt hp]
    cases hq : l[p]? with
    | none => rw [hq] at hi; cases hi
    | some q => rw [hq] at hi; injection hi with hi; rw [← hi]; rfl
  · rw [List.getElem?_set_ne hip] at hi
    rw [Array.getElem?_setIfInBounds_ne hip, ← old]
    have := hcell i y hi
    rwa [Nat.zero_add] at this
theorem secL_small {num : Nat} {s : ByteArray} : ∀ x ∈ secL num s, x.size ≤ 2000 := by
  intro x hx
  unfold secL at hx
  obtain ⟨i, hi, rfl⟩ := List.mem_map.1 hx
  rw [sec_size (piece_size (List.mem_range.1 hi))]
  decide
set_option maxRecDepth 20000 in
theorem back_long (num : Nat) (s : ByteArray) (n0 n1 n2 : Int) (w : World) (h : 62000 < s.size) :
    Calls Try.prog 5 #[.int .u32 (num : Nat), .string s, .agg #[.int .i64 n0, .int .i64 n1, .int .i64 n2]] w fun e w' => e = .returned (.bool true) ∧ Below w.heap.size w w' := by
  have t0 : decide ((62000 : Int) < (s.size : Int)) = true := decide_eq_true (by omega)
  obtain ⟨g, wb, e1, e2, hA, hb⟩ : ∃ g wb, g = w.heap.size ∧ wb = w.alloc (.cells #[.int .i64 n0, .int .i64 n1, .int .i64 n2] 41) ∧ (∀ i : Nat, wb.cell? ⟨g, i, none⟩ = (#[.int .i64 n0, .int .i64 n1, .int .i64 n2] : Array Value)[i]?) ∧ Below w.heap.size w wb :=
    ⟨_, _, rfl, rfl, fun i => by simp only [World.cell?]; rw [heap_alloc_last]; rfl, below_new (Below.refl _ _) _⟩
  have a0 : wb.cell? ⟨g, 0, none⟩ = some (.int .i64 n0) := hA 0
  have a1 : wb.cell? ⟨g, 1, none⟩ = some (.int .i64 n1) := hA 1
  have HW := Lib.hid hb
  clear hA hb
  go_enter Try.func5, Try.ntmps5
  go_upto_region 1 with fail
  rw [← e2, ← e1]
  clear e1 e2
  go_wp2_with (go_at_call 8; refine (wakes_frame _).mono ?_; rintro e w9 ⟨rfl, hb⟩; have HB9 := Lib.hid (below_on HW.out hb); clear hb)
  go_ret
  exact ⟨rfl, HB9.out⟩
set_option maxRecDepth 20000 in
theorem back_none (num : Nat) (s : ByteArray) (n0 n1 n2 : Int) (w : World) (hn : num < 4294967296) (h : s.size ≤ 62000) (hz : num = 0 ∨ 60000 < s.size) :
    Calls Try.prog 5 #[.int .u32 (num : Nat), .string s, .agg #[.int .i64 n0, .int .i64 n1, .int .i64 n2]] w fun e w' => e = .returned (.bool true) ∧ Below w.heap.size w w' := by
  have t0 : decide ((62000 : Int) < (s.size : Int)) = false := decide_eq_false (by omega)
  have F : Hid (∀ W, Calls Try.prog 9 #[.int .u32 (num : Nat), .string s] W (Made num s W)) := fun W => f_make num s W hn h
  unfold Made at F
  have hl : makL num s = [] := by unfold makL; rw [if_pos hz]
  have hx : (makX num s != 0) = true := by
    rw [bne_iff_ne]
    unfold makX
    by_cases h0 : num = 0
    · rw [if_pos h0]; decide
    · rw [if_neg h0, if_pos (by omega)]; decide
  rw [hl] at F
  generalize makX num s = x at *
  clear hl hz h
  obtain ⟨g, wb, e1, e2, hA, hb⟩ : ∃ g wb, g = w.heap.size ∧ wb = w.alloc (.cells #[.int .i64 n0, .int .i64 n1, .int .i64 n2] 41) ∧ (∀ i : Nat, wb.cell? ⟨g, i, none⟩ = (#[.int .i64 n0, .int .i64 n1, .int .i64 n2] : Array Value)[i]?) ∧ Below w.heap.size w wb :=
    ⟨_, _, rfl, rfl, fun i => by simp only [World.cell?]; rw [heap_alloc_last]; rfl, below_new (Below.refl _ _) _⟩
  have a0 : wb.cell? ⟨g, 0, none⟩ = some (.int .i64 n0) := hA 0
  have a1 : wb.cell? ⟨g, 1, none⟩ = some (.int .i64 n1) := hA 1
  have HW := Lib.hid hb
  clear hA hb
  go_enter Try.func5, Try.ntmps5
  go_upto_region 1 with fail
  rw [← e2, ← e1]
  clear e1 e2
  go_upto_region 4 with (go_at_call 9; refine (F.out _).mono ?_; rintro e w3 ⟨v, rfl, ht, hb⟩; have HT := Lib.hid ht; have HB3 := Lib.hid (below_on HW.out hb); clear ht hb)
  obtain ⟨P, k, rfl, -, -, -⟩ := HT.out
  go_wp2_with (go_at_call 8; refine (wakes_frame _).mono ?_; rintro e w9 ⟨rfl, hb⟩; have HB9 := Lib.hid (below_on HB3.out hb); clear hb)
  go_ret
  exact ⟨rfl, HB9.out⟩
set_option maxRecDepth 20000 in
set_option maxHeartbeats 4000000 in
theorem back_main (num : Nat) (s : ByteArray) (n0 n1 n2 : Int) (w : World) (hn : num < 4294967296) (h : s.size ≤ 60000) (hz : num ≠ 0) :
    Calls Try.prog 5 #[.int .u32 (num : Nat), .string s, .agg #[.int .i64 n0, .int .i64 n1, .int .i64 n2]] w fun e w' => e = .returned (.bool true) ∧ Below w.heap.size w w' := by
  have t0 : decide ((62000 : Int) < (s.size : Int)) = false := decide_eq_false (by omega)
  have F : Hid (∀ W, Calls Try.prog 9 #[.int .u32 (num : Nat), .string s] W (Made num s W)) := fun W => f_make num s W hn (by omega)
  unfold Made at F
  have hl : makL num s = secL num s := by unfold makL; rw [if_neg (by omega)]
  have hx : makX num s = 0 := by unfold makX; rw [if_neg hz, if_neg (by omega)]
  rw [hl, hx] at F
  have hm := size_most h
  have hln := secL_length num s
  have hSZ : Hid (∀ W, Calls Try.prog 13 #[.int .i64 (s.size : Int)] W fun e w' => e = .returned (.int .i64 (sizeN s.size : Nat)) ∧ W = w') := fun W => by
    have := r_fsize s.size W (by omega)
    rwa [show sizeV (s.size : Int) = (sizeN s.size : Nat) by unfold sizeV; rw [if_pos (by omega)]; rfl] at this
  have e1 : (((secL num s).length : Int) != (sizeN s.size : Int)) = false := by rw [bne_eq_false_iff_eq, hln]
  clear hl hx
  obtain ⟨g, wb, e1, e2, hA, hb⟩ : ∃ g wb, g = w.heap.size ∧ wb = w.alloc (.cells #[.int .i64 n0, .int .i64 n1, .int .i64 n2] 41) ∧ (∀ i : Nat, wb.cell? ⟨g, i, none⟩ = (#[.int .i64 n0, .int .i64 n1, .int .i64 n2] : Array Value)[i]?) ∧ Below w.heap.size w wb :=
    ⟨_, _, rfl, rfl, fun i => by simp only [World.cell?]; rw [heap_alloc_last]; rfl, below_new (Below.refl _ _) _⟩
  have a0 : wb.cell? ⟨g, 0, none⟩ = some (.int .i64 n0) := hA 0
  have a1 : wb.cell? ⟨g, 1, none⟩ = some (.int .i64 n1) := hA 1
  have HW := Lib.hid hb
  clear hA hb
  go_enter Try.func5, Try.ntmps5
  go_upto_region 1 with fail
  rw [← e2, ← e1]
  clear e1 e2
  go_upto_region 8 with (first
    | (go_at_call 9; refine (F.out _).mono ?_; rintro e w3 ⟨v, rfl, ht, hb⟩; have HT := Lib.hid ht; have HB3 := Lib.hid (below_on HW.out hb); have H03 := Lib.hid hb; obtain ⟨P, k, rfl⟩ := ht.shape; clear ht hb)
    | (go_at_call 13; refine (hSZ.out _).mono ?_; rintro e w4 ⟨rfl, rfl⟩))
  have R8 : Hid (∀ v W, Txts W W.heap.size v (secL num s ++ [secS num (sizeN s.size) 0 (pieceS s 0), e0]) → Calls Try.prog 15 #[v, .int .u32 (num : Nat)] W fun e w' => e = .returned (.tuple #[.string s, .int .i64 (sizeN s.size : Nat), .bool true]) ∧ Below W.heap.size W w') := fun v W hT => by
    obtain ⟨q1, q2, q3⟩ := read_made (num := num) (s := s) [secS num (sizeN s.size) 0 (pieceS s 0), e0] hz hn h
    have := f_read _ num v W hT hn ⟨by rw [List.length_append, hln]; show sizeN s.size + 2 ≤ 300; omega, fun x hx => by
      rcases List.mem_append.1 hx with hx | hx
      · exact secL_small x hx
      · rcases List.mem_cons.1 hx with rfl | hx
        · rw [sec_size (piece_size (by omega))]; decide
        · rw [List.mem_singleton.1 hx]; decide⟩
    rwa [q1, q2, q3] at this
  have AT0 := Lib.hid (secL_at (num := num) (s := s) (i := 0) (by omega))
  have hsz2 := Lib.hid hm
  obtain ⟨P', k', e', -, hcap, hc⟩ := HT.out
  injection e' with e'1 e'2 e'3
  subst e'1 e'3
  obtain ⟨b, off, rfl, hb, hcell⟩ := hc (by rw [hln]; omega)
  have c0 : w3.cell? ⟨b, off, none⟩ = some (.string (secS num (sizeN s.size) 0 (pieceS s 0))) := hcell 0 _ AT0.out
  have HCELL := Lib.hid hcell
  have HBL : Hid (b < w3.heap.size) := hb
  obtain ⟨i0, hi0, hz0, hz1, hz2⟩ := str_info
  have HI := Lib.hid hi0
  have HZ0 := Lib.hid hz0
  have HZ1 := Lib.hid hz1
  have HZ2 := Lib.hid hz2
  have LN := Lib.hid hln
  have hn1 : 1 ≤ sizeN s.size := hm.1
  have hn2 : sizeN s.size ≤ 246 := hm.2
  have hn0 : (0 : Int) < (sizeN s.size : Int) := by omega
  have hn3 : ¬ sizeN s.size = 0 := by omega
  have hnn : 0 < sizeN s.size := by omega
  have C00 := Lib.hid c0
  rw [hln] at HT
  clear hi0 hz0 hz1 hz2 hc hcell hb e1 t0 hm F hSZ
  generalize secS num (sizeN s.size) 0 (pieceS s 0) = x0 at *
  generalize hLL : secL num s = L at *
  generalize hNN : sizeN s.size = n at *
  have HLL := Lib.hid hLL
  have HNN := Lib.hid hNN
  clear hLL hNN
  go_cut [9, 10, 11] (fun s9 s10 s11 wx => s9 = .string s ∧ s10 = .int .i64 (n : Int) ∧ s11 = .bool true ∧ Hid (Below w3.heap.size w3 wx))
  case first =>
    refine wp_region_held_drew (S := (fun w' => w'.cell? ⟨b, off, none⟩ = some (.string x0))) (by kernel_rfl) c0 (fun hHeld => ?_)
    have B0 : Hid (Below w3.heap.size w3 w3.drew) := show Below _ _ _ from ⟨rfl, rfl, rfl, Nat.le_refl _, fun _ _ => rfl⟩
    generalize w3.drew = y0 at *
    refine ByHand.take_yes (v := ?_) 1 53 rfl rfl (by kernel_rfl) (by kernel_rfl) (by kernel_rfl) (fun _ _ _ h => h) (by rfl) ?_ (by assumption) ?_
    rotate_left
    · intro w' hSw
      (try dsimp only at hSw)
      go_simp
      all_goals with_reducible rfl
    (try simp only [Act.put, List.setIfInBounds_toArray, List.set_cons_zero, List.set_cons_succ])
    refine ByHand.take_yes (v := ?_) 3 55 rfl rfl (by kernel_rfl) (by kernel_rfl) (by kernel_rfl) (fun _ _ _ h => h) (by rfl) ?_ (by assumption) ?_
    rotate_left
    · intro w' hSw
      (try dsimp only at hSw)
      go_simp
      all_goals with_reducible rfl
    (try simp only [Act.put, List.setIfInBounds_toArray, List.set_cons_zero, List.set_cons_succ])
    refine ByHand.take_yes (v := ?_) 4 56 rfl rfl (by kernel_rfl) (by kernel_rfl) (by kernel_rfl) (fun _ _ _ h => h) (by rfl) ?_ (by assumption) ?_
    rotate_left
    · intro w' hSw
      (try dsimp only at hSw)
      go_simp
      all_goals with_reducible rfl
    (try simp only [Act.put, List.setIfInBounds_toArray, List.set_cons_zero, List.set_cons_succ])
    refine ByHand.take_yes (v := ?_) 5 57 rfl rfl (by kernel_rfl) (by kernel_rfl) (by kernel_rfl) (fun _ _ _ h => h) (by rfl) ?_ (by assumption) ?_
    rotate_left
    · intro w' hSw
      (try dsimp only at hSw)
      go_simp
      all_goals with_reducible rfl
    (try simp only [Act.put, List.setIfInBounds_toArray, List.set_cons_zero, List.set_cons_succ])
    refine ByHand.take_yes (v := ?_) 8 60 rfl rfl (by kernel_rfl) (by kernel_rfl) (by kernel_rfl) (fun _ _ _ h => h) (by rfl) ?_ (by assumption) ?_
    rotate_left
    · intro w' hSw
      (try dsimp only at hSw)
      go_simp
      all_goals with_reducible rfl
    (try simp only [Act.put, List.setIfInBounds_toArray, List.set_cons_zero, List.set_cons_succ])
    refine wpAnyH_ready (rs := [0, 6]) (by kernel_rfl) (by simp) (AllReadyH.cons rfl (fun K hK => ?_) (AllReadyH.cons rfl (fun K hK => ?_) (AllReadyH.nil)))
    · go_simp
      obtain ⟨y1, hy1⟩ : ∃ y, y = y0.alloc (.cells #[] 9) := ⟨_, rfl⟩
      rw [← hy1]
      have OW1 : Hid (y1.ownsRow w3.heap.size 9 1 (.slice (some ⟨y0.heap.size, 0, none⟩) 0 0) 0 []) := show World.ownsRow _ _ _ _ _ _ _ by rw [hy1]; exact World.ownsRow_made y0 #[] 0 B0.out.size (by simp) (by simp)
      have B1 : Hid (Below w3.heap.size w3 y1) := show Below _ _ _ by rw [hy1]; exact below_new B0.out _
      have SZ1 : Hid (y1.heap.size = y0.heap.size + 1) := show _ = _ by rw [hy1]; simp
      clear hy1
      refine hK.out _ _ ?_ (fun hHeld => ?_)
      · exact (B1.out.cell (p := ⟨b, off, none⟩) HBL.out).trans C00.out
      clear hK K
      (try simp only [Act.put, List.setIfInBounds_toArray, List.set_cons_zero, List.set_cons_succ])
      refine wpAnyH_ready (rs := [2, 6]) (by kernel_rfl) (by simp) (AllReadyH.cons rfl (fun K hK => ?_) (AllReadyH.cons rfl (fun K hK => ?_) (AllReadyH.nil)))
      · rw [if_pos (by rfl)]
        refine wp_append_txts (.tmp 52) (.tmp 53) _ rfl w3.heap.size 9 i0 Try.underlying24 HI.out HZ0.out HZ1.out HZ2.out _ 0 [] rfl OW1.out w3.heap.size n k ⟨b, off, none⟩ L rfl LN.out.symm (HT.out.below B1.out) (by omega) B1.out.size 54 rfl ?_
        intro v5 y5 ho hg
        have OW5 := Lib.hid ho
        have B5 : Hid (Below w3.heap.size w3 y5) := below_grown B1.out (Nat.le_refl _) OW1.out hg
        clear ho hg
        refine hK.out _ _ ?_ (fun hHeld => ?_)
        · exact (B5.out.cell (p := ⟨b, off, none⟩) HBL.out).trans C00.out
        clear hK K
        (try simp only [Act.put, List.setIfInBounds_toArray, List.set_cons_zero, List.set_cons_succ])
        refine wpAnyH_ready (rs := [6]) (by kernel_rfl) (by simp) (AllReadyH.cons rfl (fun K hK => ?_) (AllReadyH.nil))
        go_simp
        obtain ⟨y6, hy6⟩ : ∃ y, y = y5.alloc (.cells #[.string x0, .string e0] 9) := ⟨_, rfl⟩
        (try unfold e0 at hy6)
        rw [← hy6]
        have EL6 : Hid (Txts y6 y6.heap.size (.slice (some ⟨y5.heap.size, 0, none⟩) 2 2) [x0, e0]) := show Els _ _ _ _ _ by rw [hy6]; exact (lit_txts y5 x0 e0 9).more (by simp)
        have B6 : Hid (Below w3.heap.size w3 y6) := show Below _ _ _ by rw [hy6]; exact below_new B5.out _
        have OW6 : Hid (y6.ownsRow w3.heap.size 9 1 v5 (0 + n) ([] ++ L.map Value.string)) := show World.ownsRow _ _ _ _ _ _ _ by rw [hy6]; exact OW5.out.alloc _
        have SZ6 : Hid (y6.heap.size = y5.heap.size + 1) := show _ = _ by rw [hy6]; simp
        clear hy6
        refine hK.out _ _ ?_ (fun hHeld => ?_)
        · exact (B6.out.cell (p := ⟨b, off, none⟩) HBL.out).trans C00.out
        clear hK K
        (try simp only [Act.put, List.setIfInBounds_toArray, List.set_cons_zero, List.set_cons_succ])
        refine wpAnyH_ready (rs := [7]) (by kernel_rfl) (by simp) (AllReadyH.cons rfl (fun K hK => ?_) (AllReadyH.nil))
        rw [if_pos (by rfl)]
        refine wp_append_txts (.tmp 54) (.tmp 58) _ rfl w3.heap.size 9 i0 Try.underlying24 HI.out HZ0.out HZ1.out HZ2.out _ (0 + n) ([] ++ L.map Value.string) rfl OW6.out _ 2 2 ⟨y5.heap.size, 0, none⟩ [x0, e0] rfl rfl EL6.out (by omega) B6.out.size 59 rfl ?_
        intro v7 y7 ho hg
        have B7 : Hid (Below w3.heap.size w3 y7) := below_grown B6.out (Nat.le_refl _) OW6.out hg
        have TX : Hid (Txts y7 y7.heap.size v7 (L ++ [x0, e0])) := Els.of_own (base := w3.heap.size) (e := 9) (n := 0 + n + 2) (by rw [List.length_append, LN.out]; simp) (by simpa using ho)
        clear ho hg
        refine hK.out _ _ ?_ (fun hHeld => ?_)
        · exact (B7.out.cell (p := ⟨b, off, none⟩) HBL.out).trans C00.out
        clear hK K
        (try simp only [Act.put, List.setIfInBounds_toArray, List.set_cons_zero, List.set_cons_succ])
        refine wpAnyH_ready (rs := [9]) (by kernel_rfl) (by simp) (AllReadyH.cons rfl (fun K hK => ?_) AllReadyH.nil)
        go_simp
        (go_at_call 15; refine (R8.out _ _ TX.out).mono ?_; rintro e y9 ⟨rfl, hb⟩; have B9 := Lib.hid (below_on B7.out hb); clear hb)
        go_wp2_with fail
        refine hK.out _ _ ?_ (fun hHeld => ?_)
        · exact (B9.out.cell (p := ⟨b, off, none⟩) HBL.out).trans C00.out
        clear hK K
        (try simp only [Act.put, List.setIfInBounds_toArray, List.set_cons_zero, List.set_cons_succ])
        refine ByHand.take_yes (v := ?_) 10 51 rfl rfl (by kernel_rfl) (by kernel_rfl) (by kernel_rfl) (fun _ _ _ h => h) (by rfl) ?_ (by assumption) ?_
        rotate_left
        · intro w' hSw
          (try dsimp only at hSw)
          go_simp
          all_goals with_reducible rfl
        (try simp only [Act.put, List.setIfInBounds_toArray, List.set_cons_zero, List.set_cons_succ])
        refine ByHand.take_yes (v := ?_) 11 62 rfl rfl (by kernel_rfl) (by kernel_rfl) (by kernel_rfl) (fun _ _ _ h => h) (by rfl) ?_ (by assumption) ?_
        rotate_left
        · intro w' hSw
          (try dsimp only at hSw)
          go_simp
          all_goals with_reducible rfl
        (try simp only [Act.put, List.setIfInBounds_toArray, List.set_cons_zero, List.set_cons_succ])
        refine ByHand.take_yes (v := ?_) 12 63 rfl rfl (by kernel_rfl) (by kernel_rfl) (by kernel_rfl) (fun _ _ _ h => h) (by rfl) ?_ (by assumption) ?_
        rotate_left
        · intro w' hSw
          (try dsimp only at hSw)
          go_simp
          all_goals with_reducible rfl
        (try simp only [Act.put, List.setIfInBounds_toArray, List.set_cons_zero, List.set_cons_succ])
        refine ByHand.take_yes (v := ?_) 13 64 rfl rfl (by kernel_rfl) (by kernel_rfl) (by kernel_rfl) (fun _ _ _ h => h) (by rfl) ?_ (by assumption) ?_
        rotate_left
        · intro w' hSw
          (try dsimp only at hSw)
          go_simp
          all_goals with_reducible rfl
        (try simp only [Act.put, List.setIfInBounds_toArray, List.set_cons_zero, List.set_cons_succ])
        refine ByHand.take_yes (v := ?_) 14 9 rfl rfl (by kernel_rfl) (by kernel_rfl) (by kernel_rfl) (fun _ _ _ h => h) (by rfl) ?_ (by assumption) ?_
        rotate_left
        · intro w' hSw
          (try dsimp only at hSw)
          go_simp
          all_goals with_reducible rfl
        (try simp only [Act.put, List.setIfInBounds_toArray, List.set_cons_zero, List.set_cons_succ])
        refine ByHand.take_yes (v := ?_) 15 10 rfl rfl (by kernel_rfl) (by kernel_rfl) (by kernel_rfl) (fun _ _ _ h => h) (by rfl) ?_ (by assumption) ?_
        rotate_left
        · intro w' hSw
          (try dsimp only at hSw)
          go_simp
          all_goals with_reducible rfl
        (try simp only [Act.put, List.setIfInBounds_toArray, List.set_cons_zero, List.set_cons_succ])
        refine ByHand.take_yes (v := ?_) 16 11 rfl rfl (by kernel_rfl) (by kernel_rfl) (by kernel_rfl) (fun _ _ _ h => h) (by rfl) ?_ (by assumption) ?_
        rotate_left
        · intro w' hSw
          (try dsimp only at hSw)
          go_simp
          all_goals with_reducible rfl
        (try simp only [Act.put, List.setIfInBounds_toArray, List.set_cons_zero, List.set_cons_succ])
        refine wpAnyH_done (by kernel_rfl) ?_ _
        go_wp2_with fail
        go_meet
        exact ⟨rfl, rfl, rfl, B9⟩
      · go_simp
        obtain ⟨y6, hy6⟩ : ∃ y, y = y1.alloc (.cells #[.string x0, .string e0] 9) := ⟨_, rfl⟩
        (try unfold e0 at hy6)
        rw [← hy6]
        have EL6 : Hid (Txts y6 y6.heap.size (.slice (some ⟨y1.heap.size, 0, none⟩) 2 2) [x0, e0]) := show Els _ _ _ _ _ by rw [hy6]; exact (lit_txts y1 x0 e0 9).more (by simp)
        have B6 : Hid (Below w3.heap.size w3 y6) := show Below _ _ _ by rw [hy6]; exact below_new B1.out _
        have OW6 : Hid (y6.ownsRow w3.heap.size 9 1 (.slice (some ⟨y0.heap.size, 0, none⟩) 0 0) 0 []) := show World.ownsRow _ _ _ _ _ _ _ by rw [hy6]; exact OW1.out.alloc _
        have SZ6 : Hid (y6.heap.size = y1.heap.size + 1) := show _ = _ by rw [hy6]; simp
        clear hy6
        refine hK.out _ _ ?_ (fun hHeld => ?_)
        · exact (B6.out.cell (p := ⟨b, off, none⟩) HBL.out).trans C00.out
        clear hK K
        (try simp only [Act.put, List.setIfInBounds_toArray, List.set_cons_zero, List.set_cons_succ])
        refine wpAnyH_ready (rs := [2]) (by kernel_rfl) (by simp) (AllReadyH.cons rfl (fun K hK => ?_) (AllReadyH.nil))
        rw [if_pos (by rfl)]
        refine wp_append_txts (.tmp 52) (.tmp 53) _ rfl w3.heap.size 9 i0 Try.underlying24 HI.out HZ0.out HZ1.out HZ2.out _ 0 [] rfl OW6.out w3.heap.size n k ⟨b, off, none⟩ L rfl LN.out.symm (HT.out.below B6.out) (by omega) B6.out.size 54 rfl ?_
        intro v5 y5 ho hg
        have OW5 := Lib.hid ho
        have B5 : Hid (Below w3.heap.size w3 y5) := below_grown B6.out (Nat.le_refl _) OW6.out hg
        have EL5 : Hid (Txts y5 y5.heap.size (.slice (some ⟨y1.heap.size, 0, none⟩) 2 2) [x0, e0]) := (els_at EL6.out (fun o => grown_cell hg (by have := SZ1.out; have := SZ6.out; omega) (by have := SZ1.out; dsimp only; omega))).more hg.size
        clear ho hg
        refine hK.out _ _ ?_ (fun hHeld => ?_)
        · exact (B5.out.cell (p := ⟨b, off, none⟩) HBL.out).trans C00.out
        clear hK K
        (try simp only [Act.put, List.setIfInBounds_toArray, List.set_cons_zero, List.set_cons_succ])
        refine wpAnyH_ready (rs := [7]) (by kernel_rfl) (by simp) (AllReadyH.cons rfl (fun K hK => ?_) (AllReadyH.nil))
        rw [if_pos (by rfl)]
        refine wp_append_txts (.tmp 54) (.tmp 58) _ rfl w3.heap.size 9 i0 Try.underlying24 HI.out HZ0.out HZ1.out HZ2.out _ (0 + n) ([] ++ L.map Value.string) rfl OW5.out _ 2 2 ⟨y1.heap.size, 0, none⟩ [x0, e0] rfl rfl EL5.out (by omega) B5.out.size 59 rfl ?_
        intro v7 y7 ho hg
        have B7 : Hid (Below w3.heap.size w3 y7) := below_grown B5.out (Nat.le_refl _) OW5.out hg
        have TX : Hid (Txts y7 y7.heap.size v7 (L ++ [x0, e0])) := Els.of_own (base := w3.heap.size) (e := 9) (n := 0 + n + 2) (by rw [List.length_append, LN.out]; simp) (by simpa using ho)
        clear ho hg
        refine hK.out _ _ ?_ (fun hHeld => ?_)
        · exact (B7.out.cell (p := ⟨b, off, none⟩) HBL.out).trans C00.out
        clear hK K
        (try simp only [Act.put, List.setIfInBounds_toArray, List.set_cons_zero, List.set_cons_succ])
        refine wpAnyH_ready (rs := [9]) (by kernel_rfl) (by simp) (AllReadyH.cons rfl (fun K hK => ?_) AllReadyH.nil)
        go_simp
        (go_at_call 15; refine (R8.out _ _ TX.out).mono ?_; rintro e y9 ⟨rfl, hb⟩; have B9 := Lib.hid (below_on B7.out hb); clear hb)
        go_wp2_with fail
        refine hK.out _ _ ?_ (fun hHeld => ?_)
        · exact (B9.out.cell (p := ⟨b, off, none⟩) HBL.out).trans C00.out
        clear hK K
        (try simp only [Act.put, List.setIfInBounds_toArray, List.set_cons_zero, List.set_cons_succ])
        refine ByHand.take_yes (v := ?_) 10 51 rfl rfl (by kernel_rfl) (by kernel_rfl) (by kernel_rfl) (fun _ _ _ h => h) (by rfl) ?_ (by assumption) ?_
        rotate_left
        · intro w' hSw
          (try dsimp only at hSw)
          go_simp
          all_goals with_reducible rfl
        (try simp only [Act.put, List.setIfInBounds_toArray, List.set_cons_zero, List.set_cons_succ])
        refine ByHand.take_yes (v := ?_) 11 62 rfl rfl (by kernel_rfl) (by kernel_rfl) (by kernel_rfl) (fun _ _ _ h => h) (by rfl) ?_ (by assumption) ?_
        rotate_left
        · intro w' hSw
          (try dsimp only at hSw)
          go_simp
          all_goals with_reducible rfl
        (try simp only [Act.put, List.setIfInBounds_toArray, List.set_cons_zero, List.set_cons_succ])
        refine ByHand.take_yes (v := ?_) 12 63 rfl rfl (by kernel_rfl) (by kernel_rfl) (by kernel_rfl) (fun _ _ _ h => h) (by rfl) ?_ (by assumption) ?_
        rotate_left
        · intro w' hSw
          (try dsimp only at hSw)
          go_simp
          all_goals with_reducible rfl
        (try simp only [Act.put, List.setIfInBounds_toArray, List.set_cons_zero, List.set_cons_succ])
        refine ByHand.take_yes (v := ?_) 13 64 rfl rfl (by kernel_rfl) (by kernel_rfl) (by kernel_rfl) (fun _ _ _ h => h) (by rfl) ?_ (by assumption) ?_
        rotate_left
        · intro w' hSw
          (try dsimp only at hSw)
          go_simp
          all_goals with_reducible rfl
        (try simp only [Act.put, List.setIfInBounds_toArray, List.set_cons_zero, List.set_cons_succ])
        refine ByHand.take_yes (v := ?_) 14 9 rfl rfl (by kernel_rfl) (by kernel_rfl) (by kernel_rfl) (fun _ _ _ h => h) (by rfl) ?_ (by assumption) ?_
        rotate_left
        · intro w' hSw
          (try dsimp only at hSw)
          go_simp
          all_goals with_reducible rfl
        (try simp only [Act.put, List.setIfInBounds_toArray, List.set_cons_zero, List.set_cons_succ])
        refine ByHand.take_yes (v := ?_) 15 10 rfl rfl (by kernel_rfl) (by kernel_rfl) (by kernel_rfl) (fun _ _ _ h => h) (by rfl) ?_ (by assumption) ?_
        rotate_left
        · intro w' hSw
          (try dsimp only at hSw)
          go_simp
          all_goals with_reducible rfl
        (try simp only [Act.put, List.setIfInBounds_toArray, List.set_cons_zero, List.set_cons_succ])
        refine ByHand.take_yes (v := ?_) 16 11 rfl rfl (by kernel_rfl) (by kernel_rfl) (by kernel_rfl) (fun _ _ _ h => h) (by rfl) ?_ (by assumption) ?_
        rotate_left
        · intro w' hSw
          (try dsimp only at hSw)
          go_simp
          all_goals with_reducible rfl
        (try simp only [Act.put, List.setIfInBounds_toArray, List.set_cons_zero, List.set_cons_succ])
        refine wpAnyH_done (by kernel_rfl) ?_ _
        go_wp2_with fail
        go_meet
        exact ⟨rfl, rfl, rfl, B9⟩
    · go_simp
      obtain ⟨y1, hy1⟩ : ∃ y, y = y0.alloc (.cells #[.string x0, .string e0] 9) := ⟨_, rfl⟩
      (try unfold e0 at hy1)
      rw [← hy1]
      have EL1 : Hid (Txts y1 y1.heap.size (.slice (some ⟨y0.heap.size, 0, none⟩) 2 2) [x0, e0]) := show Els _ _ _ _ _ by rw [hy1]; exact (lit_txts y0 x0 e0 9).more (by simp)
      have B1 : Hid (Below w3.heap.size w3 y1) := show Below _ _ _ by rw [hy1]; exact below_new B0.out _
      have SZ1 : Hid (y1.heap.size = y0.heap.size + 1) := show _ = _ by rw [hy1]; simp
      clear hy1
      refine hK.out _ _ ?_ (fun hHeld => ?_)
      · exact (B1.out.cell (p := ⟨b, off, none⟩) HBL.out).trans C00.out
      clear hK K
      (try simp only [Act.put, List.setIfInBounds_toArray, List.set_cons_zero, List.set_cons_succ])
      refine wpAnyH_ready (rs := [0]) (by kernel_rfl) (by simp) (AllReadyH.cons rfl (fun K hK => ?_) (AllReadyH.nil))
      go_simp
      obtain ⟨y2, hy2⟩ : ∃ y, y = y1.alloc (.cells #[] 9) := ⟨_, rfl⟩
      rw [← hy2]
      have OW2 : Hid (y2.ownsRow w3.heap.size 9 1 (.slice (some ⟨y1.heap.size, 0, none⟩) 0 0) 0 []) := show World.ownsRow _ _ _ _ _ _ _ by rw [hy2]; exact World.ownsRow_made y1 #[] 0 B1.out.size (by simp) (by simp)
      have B2 : Hid (Below w3.heap.size w3 y2) := show Below _ _ _ by rw [hy2]; exact below_new B1.out _
      have EL2 : Hid (Txts y2 y2.heap.size (.slice (some ⟨y0.heap.size, 0, none⟩) 2 2) [x0, e0]) := show Els _ _ _ _ _ by rw [hy2]; exact (EL1.out.below (below_new (Below.refl _ _) _)).more (by simp)
      have SZ2 : Hid (y2.heap.size = y1.heap.size + 1) := show _ = _ by rw [hy2]; simp
      clear hy2
      refine hK.out _ _ ?_ (fun hHeld => ?_)
      · exact (B2.out.cell (p := ⟨b, off, none⟩) HBL.out).trans C00.out
      clear hK K
      (try simp only [Act.put, List.setIfInBounds_toArray, List.set_cons_zero, List.set_cons_succ])
      refine wpAnyH_ready (rs := [2]) (by kernel_rfl) (by simp) (AllReadyH.cons rfl (fun K hK => ?_) (AllReadyH.nil))
      rw [if_pos (by rfl)]
      refine wp_append_txts (.tmp 52) (.tmp 53) _ rfl w3.heap.size 9 i0 Try.underlying24 HI.out HZ0.out HZ1.out HZ2.out _ 0 [] rfl OW2.out w3.heap.size n k ⟨b, off, none⟩ L rfl LN.out.symm (HT.out.below B2.out) (by omega) B2.out.size 54 rfl ?_
      intro v5 y5 ho hg
      have OW5 := Lib.hid ho
      have B5 : Hid (Below w3.heap.size w3 y5) := below_grown B2.out (Nat.le_refl _) OW2.out hg
      have EL5 : Hid (Txts y5 y5.heap.size (.slice (some ⟨y0.heap.size, 0, none⟩) 2 2) [x0, e0]) := (els_at EL2.out (fun o => grown_cell hg (by have := SZ1.out; have := SZ2.out; omega) (by have := SZ1.out; dsimp only; omega))).more hg.size
      clear ho hg
      refine hK.out _ _ ?_ (fun hHeld => ?_)
      · exact (B5.out.cell (p := ⟨b, off, none⟩) HBL.out).trans C00.out
      clear hK K
      (try simp only [Act.put, List.setIfInBounds_toArray, List.set_cons_zero, List.set_cons_succ])
      refine wpAnyH_ready (rs := [7]) (by kernel_rfl) (by simp) (AllReadyH.cons rfl (fun K hK => ?_) (AllReadyH.nil))
      rw [if_pos (by rfl)]
      refine wp_append_txts (.tmp 54) (.tmp 58) _ rfl w3.heap.size 9 i0 Try.underlying24 HI.out HZ0.out HZ1.out HZ2.out _ (0 + n) ([] ++ L.map Value.string) rfl OW5.out _ 2 2 ⟨y0.heap.size, 0, none⟩ [x0, e0] rfl rfl EL5.out (by omega) B5.out.size 59 rfl ?_
      intro v7 y7 ho hg
      have B7 : Hid (Below w3.heap.size w3 y7) := below_grown B5.out (Nat.le_refl _) OW5.out hg
      have TX : Hid (Txts y7 y7.heap.size v7 (L ++ [x0, e0])) := Els.of_own (base := w3.heap.size) (e := 9) (n := 0 + n + 2) (by rw [List.length_append, LN.out]; simp) (by simpa using ho)
      clear ho hg
      refine hK.out _ _ ?_ (fun hHeld => ?_)
      · exact (B7.out.cell (p := ⟨b, off, none⟩) HBL.out).trans C00.out
      clear hK K
      (try simp only [Act.put, List.setIfInBounds_toArray, List.set_cons_zero, List.set_cons_succ])
      refine wpAnyH_ready (rs := [9]) (by kernel_rfl) (by simp) (AllReadyH.cons rfl (fun K hK => ?_) AllReadyH.nil)
      go_simp
      (go_at_call 15; refine (R8.out _ _ TX.out).mono ?_; rintro e y9 ⟨rfl, hb⟩; have B9 := Lib.hid (below_on B7.out hb); clear hb)
      go_wp2_with fail
      refine hK.out _ _ ?_ (fun hHeld => ?_)
      · exact (B9.out.cell (p := ⟨b, off, none⟩) HBL.out).trans C00.out
      clear hK K
      (try simp only [Act.put, List.setIfInBounds_toArray, List.set_cons_zero, List.set_cons_succ])
      refine ByHand.take_yes (v := ?_) 10 51 rfl rfl (by kernel_rfl) (by kernel_rfl) (by kernel_rfl) (fun _ _ _ h => h) (by rfl) ?_ (by assumption) ?_
      rotate_left
      · intro w' hSw
        (try dsimp only at hSw)
        go_simp
        all_goals with_reducible rfl
      (try simp only [Act.put, List.setIfInBounds_toArray, List.set_cons_zero, List.set_cons_succ])
      refine ByHand.take_yes (v := ?_) 11 62 rfl rfl (by kernel_rfl) (by kernel_rfl) (by kernel_rfl) (fun _ _ _ h => h) (by rfl) ?_ (by assumption) ?_
      rotate_left
      · intro w' hSw
        (try dsimp only at hSw)
        go_simp
        all_goals with_reducible rfl
      (try simp only [Act.put, List.setIfInBounds_toArray, List.set_cons_zero, List.set_cons_succ])
      refine ByHand.take_yes (v := ?_) 12 63 rfl rfl (by kernel_rfl) (by kernel_rfl) (by kernel_rfl) (fun _ _ _ h => h) (by rfl) ?_ (by assumption) ?_
      rotate_left
      · intro w' hSw
        (try dsimp only at hSw)
        go_simp
        all_goals with_reducible rfl
      (try simp only [Act.put, List.setIfInBounds_toArray, List.set_cons_zero, List.set_cons_succ])
      refine ByHand.take_yes (v := ?_) 13 64 rfl rfl (by kernel_rfl) (by kernel_rfl) (by kernel_rfl) (fun _ _ _ h => h) (by rfl) ?_ (by assumption) ?_
      rotate_left
      · intro w' hSw
        (try dsimp only at hSw)
        go_simp
        all_goals with_reducible rfl
      (try simp only [Act.put, List.setIfInBounds_toArray, List.set_cons_zero, List.set_cons_succ])
      refine ByHand.take_yes (v := ?_) 14 9 rfl rfl (by kernel_rfl) (by kernel_rfl) (by kernel_rfl) (fun _ _ _ h => h) (by rfl) ?_ (by assumption) ?_
      rotate_left
      · intro w' hSw
        (try dsimp only at hSw)
        go_simp
        all_goals with_reducible rfl
      (try simp only [Act.put, List.setIfInBounds_toArray, List.set_cons_zero, List.set_cons_succ])
      refine ByHand.take_yes (v := ?_) 15 10 rfl rfl (by kernel_rfl) (by kernel_rfl) (by kernel_rfl) (fun _ _ _ h => h) (by rfl) ?_ (by assumption) ?_
      rotate_left
      · intro w' hSw
        (try dsimp only at hSw)
        go_simp
        all_goals with_reducible rfl
      (try simp only [Act.put, List.setIfInBounds_toArray, List.set_cons_zero, List.set_cons_succ])
      refine ByHand.take_yes (v := ?_) 16 11 rfl rfl (by kernel_rfl) (by kernel_rfl) (by kernel_rfl) (fun _ _ _ h => h) (by rfl) ?_ (by assumption) ?_
      rotate_left
      · intro w' hSw
        (try dsimp only at hSw)
        go_simp
        all_goals with_reducible rfl
      (try simp only [Act.put, List.setIfInBounds_toArray, List.set_cons_zero, List.set_cons_succ])
      refine wpAnyH_done (by kernel_rfl) ?_ _
      go_wp2_with fail
      go_meet
      exact ⟨rfl, rfl, rfl, B9⟩
  case rest =>
    obtain ⟨rfl, rfl, rfl, HB8⟩ := hcut
    have a0' : wc.cell? ⟨g, 0, none⟩ = some (.int .i64 n0) := ((below_on H03.out HB8.out).cell (p := ⟨g, 0, none⟩) (World.block_lt_of_cell? wb _ a0)).trans a0
    have a1' : wc.cell? ⟨g, 1, none⟩ = some (.int .i64 n1) := ((below_on H03.out HB8.out).cell (p := ⟨g, 1, none⟩) (World.block_lt_of_cell? wb _ a1)).trans a1
    obtain ⟨p, hp, hm1⟩ := Mod.mod_fixed n0 (n : Int) (by omega) (by omega)
    obtain ⟨r, hr, hm2⟩ := Mod.mod_fixed n1 1000 (by omega) (by omega)
    have HM1 := Lib.hid hm1
    have HM2 := Lib.hid hm2
    obtain ⟨u, hu⟩ : ∃ u, u = (num + 1) % 4294967296 := ⟨_, rfl⟩
    obtain ⟨other, ho⟩ : ∃ o, o = (u + r) % 4294967296 := ⟨_, rfl⟩
    have w1 : IntKind.u32.wrap ((num : Int) + 1) = (u : Int) := by rw [IntKind.wrap_u32]; omega
    have w2 : IntKind.u32.wrap (r : Int) = (r : Int) := by rw [IntKind.wrap_u32]; omega
    have w4 : IntKind.u32.wrap ((u : Int) + (r : Int)) = (other : Int) := by rw [IntKind.wrap_u32]; omega
    have q1 : ((num : Int) + 1) % 4294967296 = (u : Int) := by omega
    have q2 : ((u : Int) + (r : Int)) % 4294967296 = (other : Int) := by omega
    have HU := Lib.hid (And.intro hu ho)
    clear a0 a1 hm1 hm2 R8 hu ho
    go_upto_region 11 with fail
    go_quiet (first | with_reducible exact quiet_left (HM1.out _) | with_reducible exact quiet_left (HM2.out _))
    have HB9 : Hid (Below w3.heap.size w3 (wc.drewN nq)) := show Below _ _ _ from ⟨HB8.out.os, HB8.out.tape, HB8.out.output, HB8.out.size, HB8.out.block⟩
    clear a0' a1' HM1 HM2 w1 w2 w4 q1 q2 HB8
    generalize wc.drewN nq = wd at *
    have HTd : Hid (Txts wd w3.heap.size (.slice (some ⟨b, off, none⟩) n k) L) := HT.out.below HB9.out
    go_upto_region 12 with fail
    have hpk : p + 1 ≤ n := by omega
    have nk : n ≤ k := by have := hcap.2; omega
    have i1 : IntKind.i64.wrap ((p : Int) + 1) = (p : Int) + 1 := IntWalk.i64_in _ (by omega)
    have ET : Hid (Txts wd w3.heap.size (.slice (some ⟨b, off, none⟩) p k) (L.take p)) := els_take HTd.out LN.out.symm (by omega)
    obtain ⟨A2, hA2, hED⟩ := els_drop HTd.out LN.out.symm hpk
    have ED := Lib.hid hED
    have HA2 := Lib.hid hA2
    clear hED hA2
    have i2 : (0 : Int) ≤ (p : Int) := by omega
    have i3 : (p : Int) ≤ (k : Int) := by omega
    have i4 : (0 : Int) ≤ (p : Int) + 1 := by omega
    have i5 : (p : Int) + 1 ≤ (n : Int) := by omega
    have i6 : (n : Int) ≤ (k : Int) := by omega
    refine wp_region_held_drew (S := (fun _ => True)) (by kernel_rfl) trivial (fun hHeld => ?_)
    have D0 : Hid (Below wd.heap.size wd wd.drew) := show Below _ _ _ from ⟨rfl, rfl, rfl, Nat.le_refl _, fun _ _ => rfl⟩
    have B0 : Hid (Below w3.heap.size w3 wd.drew) := show Below _ _ _ from ⟨HB9.out.os, HB9.out.tape, HB9.out.output, HB9.out.size, HB9.out.block⟩
    generalize wd.drew = y0 at *
    refine ByHand.take_yes (v := ?_) 1 91 rfl rfl (by kernel_rfl) (by kernel_rfl) (by kernel_rfl) (fun _ _ _ h => h) (by rfl) ?_ (by assumption) ?_
    rotate_left
    · intro w' hSw
      (try dsimp only at hSw)
      go_simp
      all_goals with_reducible rfl
    (try simp only [Act.put, List.setIfInBounds_toArray, List.set_cons_zero, List.set_cons_succ])
    refine ByHand.take_yes (v := ?_) 2 92 rfl rfl (by kernel_rfl) (by kernel_rfl) (by kernel_rfl) (fun _ _ _ h => h) (by rfl) ?_ (by assumption) ?_
    rotate_left
    · intro w' hSw
      (try dsimp only at hSw)
      go_simp
      all_goals with_reducible rfl
    (try simp only [Act.put, List.setIfInBounds_toArray, List.set_cons_zero, List.set_cons_succ])
    refine ByHand.take_yes (v := ?_) 3 93 rfl rfl (by kernel_rfl) (by kernel_rfl) (by kernel_rfl) (fun _ _ _ h => h) (by rfl) ?_ (by assumption) ?_
    rotate_left
    · intro w' hSw
      (try dsimp only at hSw)
      go_simp
      all_goals with_reducible rfl
    (try simp only [Act.put, List.setIfInBounds_toArray, List.set_cons_zero, List.set_cons_succ])
    refine ByHand.take_yes (v := ?_) 5 95 rfl rfl (by kernel_rfl) (by kernel_rfl) (by kernel_rfl) (fun _ _ _ h => h) (by rfl) ?_ (by assumption) ?_
    rotate_left
    · intro w' hSw
      (try dsimp only at hSw)
      go_simp
      all_goals with_reducible rfl
    (try simp only [Act.put, List.setIfInBounds_toArray, List.set_cons_zero, List.set_cons_succ])
    refine ByHand.take_yes (v := ?_) 6 96 rfl rfl (by kernel_rfl) (by kernel_rfl) (by kernel_rfl) (fun _ _ _ h => h) (by rfl) ?_ (by assumption) ?_
    rotate_left
    · intro w' hSw
      (try dsimp only at hSw)
      go_simp
      all_goals with_reducible rfl
    (try simp only [Act.put, List.setIfInBounds_toArray, List.set_cons_zero, List.set_cons_succ])
    refine ByHand.take_yes (v := ?_) 7 97 rfl rfl (by kernel_rfl) (by kernel_rfl) (by kernel_rfl) (fun _ _ _ h => h) (by rfl) ?_ (by assumption) ?_
    rotate_left
    · intro w' hSw
      (try dsimp only at hSw)
      go_simp
      all_goals with_reducible rfl
    (try simp only [Act.put, List.setIfInBounds_toArray, List.set_cons_zero, List.set_cons_succ])
    refine ByHand.take_yes (v := ?_) 8 98 rfl rfl (by kernel_rfl) (by kernel_rfl) (by kernel_rfl) (fun _ _ _ h => h) (by rfl) ?_ (by assumption) ?_
    rotate_left
    · intro w' hSw
      (try dsimp only at hSw)
      go_simp
      all_goals with_reducible rfl
    (try simp only [Act.put, List.setIfInBounds_toArray, List.set_cons_zero, List.set_cons_succ])
    rw [HA2.out]
    refine wpAnyH_ready (rs := [0]) (by kernel_rfl) (by simp) (AllReadyH.cons rfl (fun K hK => ?_) (AllReadyH.nil))
    go_simp
    obtain ⟨y1, hy1⟩ : ∃ y, y = y0.alloc (.cells #[] 9) := ⟨_, rfl⟩
    rw [← hy1]
    have OW1 : Hid (y1.ownsRow w3.heap.size 9 1 (.slice (some ⟨y0.heap.size, 0, none⟩) 0 0) 0 []) := show World.ownsRow _ _ _ _ _ _ _ by rw [hy1]; exact World.ownsRow_made y0 #[] 0 B0.out.size (by simp) (by simp)
    have B1 : Hid (Below w3.heap.size w3 y1) := show Below _ _ _ by rw [hy1]; exact below_new B0.out _
    have D1 : Hid (Below wd.heap.size wd y1) := show Below _ _ _ by rw [hy1]; exact below_new D0.out _
    clear hy1
    refine hK.out _ _ trivial (fun hHeld => ?_)
    clear hK K
    (try simp only [Act.put, List.setIfInBounds_toArray, List.set_cons_zero, List.set_cons_succ])
    refine wpAnyH_ready (rs := [4]) (by kernel_rfl) (by simp) (AllReadyH.cons rfl (fun K hK => ?_) (AllReadyH.nil))
    rw [if_pos (by rfl)]
    refine wp_append_txts (.tmp 90) (.tmp 93) _ rfl w3.heap.size 9 i0 Try.underlying24 HI.out HZ0.out HZ1.out HZ2.out _ 0 [] rfl OW1.out w3.heap.size p k ⟨b, off, none⟩ (L.take p) rfl (by rw [List.length_take, LN.out]; omega) (ET.out.keep fun q o hq => D1.out.cell (p := ⟨q, o, none⟩) (Nat.lt_of_lt_of_le hq HB9.out.size)) (by omega) B1.out.size 94 rfl ?_
    intro v5 y5 ho hg
    have OW5 := Lib.hid ho
    have B5 : Hid (Below w3.heap.size w3 y5) := below_grown B1.out (Nat.le_refl _) OW1.out hg
    have ED5 : Hid (Txts y5 w3.heap.size (.slice (some A2) (n - (p + 1)) (k - (p + 1))) (L.drop (p + 1))) := (ED.out.keep fun q o hq => D1.out.cell (p := ⟨q, o, none⟩) (Nat.lt_of_lt_of_le hq HB9.out.size)).keep fun q o hq => grown_cell hg (Nat.lt_of_lt_of_le hq B1.out.size) (fun e => by have := B0.out.size; have e : q = y0.heap.size := e; omega)
    clear ho hg
    refine hK.out _ _ trivial (fun hHeld => ?_)
    clear hK K
    (try simp only [Act.put, List.setIfInBounds_toArray, List.set_cons_zero, List.set_cons_succ])
    refine wpAnyH_ready (rs := [9]) (by kernel_rfl) (by simp) (AllReadyH.cons rfl (fun K hK => ?_) (AllReadyH.nil))
    rw [if_pos (by rfl)]
    refine wp_append_txts (.tmp 94) (.tmp 98) _ rfl w3.heap.size 9 i0 Try.underlying24 HI.out HZ0.out HZ1.out HZ2.out _ (0 + p) ([] ++ (L.take p).map Value.string) rfl OW5.out w3.heap.size (n - (p + 1)) (k - (p + 1)) A2 (L.drop (p + 1)) rfl (by rw [List.length_drop, LN.out]) ED5.out (by omega) B5.out.size 99 rfl ?_
    intro v7 y7 ho hg
    have B7 : Hid (Below w3.heap.size w3 y7) := below_grown B5.out (Nat.le_refl _) OW5.out hg
    have TX : Hid (Txts y7 y7.heap.size v7 (L.take p ++ L.drop (p + 1))) := Els.of_own (base := w3.heap.size) (e := 9) (n := 0 + p + (n - (p + 1))) (by rw [List.length_append, List.length_take, List.length_drop, LN.out]; omega) (by simpa using ho)
    clear ho hg
    refine hK.out _ _ trivial (fun hHeld => ?_)
    clear hK K
    (try simp only [Act.put, List.setIfInBounds_toArray, List.set_cons_zero, List.set_cons_succ])
    refine ByHand.take_yes (v := ?_) 10 14 rfl rfl (by kernel_rfl) (by kernel_rfl) (by kernel_rfl) (fun _ _ _ h => h) (by rfl) ?_ (by assumption) ?_
    rotate_left
    · intro w' hSw
      (try dsimp only at hSw)
      go_simp
      all_goals with_reducible rfl
    (try simp only [Act.put, List.setIfInBounds_toArray, List.set_cons_zero, List.set_cons_succ])
    refine wpAnyH_done (by kernel_rfl) ?_ _
    have HB7 := Lib.hid B7.out
    have hsh : okR (L.take p ++ L.drop (p + 1)) num = false := by rw [← HLL.out]; exact read_short h (by rw [HNN.out]; omega)
    have SML : Hid (∀ x ∈ L, x.size ≤ 2000) := show ∀ x ∈ L, _ by rw [← HLL.out]; exact secL_small
    have R13 : Hid (∀ v W, Txts W W.heap.size v (L.take p ++ L.drop (p + 1)) → Calls Try.prog 15 #[v, .int .u32 (num : Nat)] W fun e w' => e = .returned (.tuple #[.string ⟨#[]⟩, .int .i64 0, .bool false]) ∧ Below W.heap.size W w') := fun v W hT => by
      have := f_read _ num v W hT hn ⟨by rw [List.length_append, List.length_take, List.length_drop, LN.out]; omega, fun x hx => by
        rcases List.mem_append.1 hx with hx | hx
        · exact SML.out x (List.mem_of_mem_take hx)
        · exact SML.out x (List.mem_of_mem_drop hx)⟩
      rwa [hsh, (read_no hsh).1, (read_no hsh).2] at this
    clear hsh ED ET HA2 D0 D1 B0 B1 B5 OW1 OW5 ED5 i1 i2 i3 i4 i5 i6
    go_upto_region 16 with (go_at_call 15; refine (R13.out _ _ TX.out).mono ?_; rintro e y8 ⟨rfl, hb⟩; have HB8 := Lib.hid (below_on HB7.out hb); clear hb)
    have HWY : Hid (Below w.heap.size w y8) := below_on HB3.out HB8.out
    by_cases o0 : other = 0
    · have t1 : ((other : Int) == 0) = true := by rw [o0]; rfl
      clear o0
      go_wp2_with (go_at_call 8; refine (wakes_frame _).mono ?_; rintro e w9 ⟨rfl, hb⟩; have HB9 := Lib.hid (below_on HWY.out hb); clear hb)
      go_ret
      exact ⟨rfl, HB9.out⟩
    by_cases o1 : other = num
    · have t1 : ((other : Int) == 0) = false := by rw [beq_eq_false_iff_ne]; omega
      have t2 : ((other : Int) == (num : Int)) = true := by rw [o1]; simp
      clear o1 o0
      go_wp2_with (go_at_call 8; refine (wakes_frame _).mono ?_; rintro e w9 ⟨rfl, hb⟩; have HB9 := Lib.hid (below_on HWY.out hb); clear hb)
      go_ret
      exact ⟨rfl, HB9.out⟩
    have t1 : ((other : Int) == 0) = false := by rw [beq_eq_false_iff_ne]; omega
    have t2 : ((other : Int) == (num : Int)) = false := by rw [beq_eq_false_iff_ne]; omega
    have hob : other < 4294967296 := by have := HU.out; omega
    have FO : Hid (∀ W, Calls Try.prog 9 #[.int .u32 (other : Nat), .string s] W (Made other s W)) := fun W => f_make other s W hob (by omega)
    unfold Made at FO
    rw [show makL other s = secL other s by unfold makL; rw [if_neg (by omega)], show makX other s = 0 by unfold makX; rw [if_neg o0, if_neg (by omega)]] at FO
    have MLN : Hid ((secL other s).length = n) := show _ = _ by rw [secL_length, HNN.out]
    obtain ⟨z, hz1⟩ : ∃ z, z = secS other n p (pieceS s p) := ⟨_, rfl⟩
    have MAT : Hid ((secL other s)[p]? = some z) := show _ = _ by rw [secL_at (by rw [HNN.out]; omega), HNN.out, hz1]
    have zs : z.size = 256 := by rw [hz1]; exact sec_size (piece_size (by rw [HNN.out]; omega))
    have MX1 : okR (L.set p z) num = false := by rw [hz1, ← HNN.out, ← HLL.out]; exact read_mixed h (by rw [HNN.out]; omega) hob o1
    have MX2 : okR (L.set p z) other = decide (n = 1) := by rw [hz1, ← HNN.out, ← HLL.out]; exact read_other h (by rw [HNN.out]; omega) hn hob o0 o1
    have MSM : ∀ x ∈ L.set p z, x.size ≤ 2000 := fun x hx => by
      rcases List.mem_or_eq_of_mem_set hx with hx | hx
      · exact SML.out x hx
      · rw [hx, zs]; decide
    have RM1 : Hid (∀ v W, Txts W W.heap.size v (L.set p z) → Calls Try.prog 15 #[v, .int .u32 (num : Nat)] W fun e w' => e = .returned (.tuple #[.string (readS (L.set p z) num), .int .i64 (readN (L.set p z) num : Nat), .bool false]) ∧ Below W.heap.size W w') := fun v W hT => MX1 ▸ f_read _ num v W hT hn ⟨by rw [List.length_set, LN.out]; omega, MSM⟩
    have RM2 : Hid (∀ v W, Txts W W.heap.size v (L.set p z) → Calls Try.prog 15 #[v, .int .u32 (other : Nat)] W fun e w' => e = .returned (.tuple #[.string (readS (L.set p z) other), .int .i64 (readN (L.set p z) other : Nat), .bool (decide (n = 1))]) ∧ Below W.heap.size W w') := fun v W hT => MX2 ▸ f_read _ other v W hT hob ⟨by rw [List.length_set, LN.out]; omega, MSM⟩
    have e7 : ((n : Int) == 1) = decide (n = 1) := by
      by_cases h1 : n = 1
      · rw [h1]; rfl
      · rw [decide_eq_false h1, beq_eq_false_iff_ne]; omega
    have e5 : (((secL other s).length : Int) != (n : Int)) = false := by rw [bne_eq_false_iff_eq, MLN.out]
    generalize decide (n = 1) = q at *
    generalize readS (L.set p z) num = rs1 at *
    generalize readS (L.set p z) other = rs2 at *
    generalize ((readN (L.set p z) num : Nat) : Int) = rn1 at *
    generalize ((readN (L.set p z) other : Nat) : Int) = rn2 at *
    generalize secL other s = MM at *
    have PN : Hid (p < n) := show _ < _ by omega
    clear MX1 MX2 MSM hz1 zs o0 o1 hob HU R13
    go_upto_region 21 with (go_at_call 9; refine (FO.out _).mono ?_; rintro e y9 ⟨v9, rfl, ht, hb⟩; have TM := Lib.hid ht; have HB9 := Lib.hid (below_on HB8.out hb); have HWZ := Lib.hid (below_on HWY.out hb); obtain ⟨PM, km, rfl⟩ := ht.shape; clear ht hb)
    have HT9 : Hid (Txts y9 w3.heap.size (.slice (some ⟨b, off, none⟩) n k) L) := HT.out.below HB9.out
    go_upto_region 22 with (at_builtin
                            refine wpList_append_els rfl (.tmp 131) (.tmp 132) _ rfl y9.heap.size 9 i0 (.string ⟨#[]⟩) 16 Try.underlying24 HI.out HZ0.out HZ1.out HZ2.out rfl (.slice (some ⟨y9.heap.size, 0, none⟩) 0 0) 0 [] rfl (World.ownsRow_made y9 #[] 0 (Nat.le_refl _) (by simp) (by simp)) w3.heap.size (.slice (some ⟨b, off, none⟩) n k) L rfl (HT9.out.keep fun q o hq => ((below_new (Below.refl _ _) _ : Below y9.heap.size y9 _).cell (p := ⟨q, o, none⟩) (Nat.lt_of_lt_of_le hq HB9.out.size))) (fun y => rfl) (by rw [LN.out]; unfold maxLen; omega) (by rw [LN.out]; omega) (by simp) ?_
                            intro v10 y10 hown hgrow
                            have OW := Lib.hid hown
                            have IN := Lib.hid (Els.of_own (f := Value.string) (l := L) (base := y9.heap.size) (e := 9) (n := 0 + L.length) (Nat.zero_add _) hown)
                            have B910 : Hid (Below y9.heap.size y9 y10) := (below_new (Below.refl _ _) _).grown hgrow (below_new (Below.refl _ _) _).size (fun g hg => by
                              have e : y9.heap.size = g := by simpa [Value.ownBlock] using hg
                              omega)
                            clear hown hgrow)
    obtain ⟨-, ⟨-, hno⟩ | ⟨gm, cap, cur, rfl, hgm, hh, -, -, -, -⟩⟩ := OW.out
    · exact absurd hno (by rw [LN.out]; omega)
    have hz0 : 0 + L.length = n := by rw [LN.out, Nat.zero_add]
    have TXL := IN.out
    rw [hz0] at TXL
    rw [hz0]
    obtain ⟨A9, c9, e9, -, -, hcm⟩ := TM.out
    injection e9 with e91 e92 e93
    subst e91 e93
    obtain ⟨bm, om, rfl, hbm, hcellm⟩ := hcm (by rw [MLN.out]; omega)
    have cz : y10.cell? ⟨bm, om + p, none⟩ = some (.string z) := (B910.out.cell (p := ⟨bm, om + p, none⟩) hbm).trans (hcellm p z MAT.out)
    obtain ⟨x9, hx9⟩ : ∃ x, L[p]? = some x := ⟨_, List.getElem?_eq_getElem (by rw [LN.out]; exact PN.out)⟩
    have cx : y10.cell? ⟨gm, p, none⟩ = some (.string x9) := by
      obtain ⟨A8, c8, e8, -, -, hcx⟩ := TXL
      injection e8 with e81 e82 e83
      obtain ⟨b8, o8, e84, -, hcell8⟩ := hcx (by rw [LN.out]; omega)
      rw [← e81] at e84
      injection e84 with e84
      injection e84 with e85 e86
      have := hcell8 p x9 hx9
      rwa [← e85, ← e86, Nat.zero_add] at this
    have fz : y10.frozen? ⟨gm, p, none⟩ = false := by simp [World.frozen?, hh]
    have TXS : Hid (Txts (y10.setCell ⟨gm, p, none⟩ (.string z)) (y10.setCell ⟨gm, p, none⟩ (.string z)).heap.size (.slice (some ⟨gm, 0, none⟩) n cap) (L.set p z)) := (els_set TXL hh cx z).more (by simp [World.setCell])
    have BS : Hid (Below w.heap.size w (y10.setCell ⟨gm, p, none⟩ (.string z))) := (below_on HWZ.out B910.out).setCell (p := ⟨gm, p, none⟩) (Nat.le_trans HWZ.out.size hgm) _
    have pn0 : (0 : Int) ≤ (p : Int) := by omega
    have pn1 : (p : Int) < (n : Int) := by have := PN.out; omega
    have pn2 : (p : Int) < (MM.length : Int) := by rw [MLN.out]; exact pn1
    clear hcm hcellm hbm hx9 TXL hz0 hh e5 IN OW TM FO
    go_upto_region 23 with fail
    generalize y10.setCell ⟨gm, p, none⟩ (.string z) = y11 at *
    go_wp2_with (first
      | (go_at_call 15
         with_reducible refine (RM1.out _ _ TXS.out).mono ?_
         rintro e y12 ⟨rfl, hb⟩
         have TX12 := Lib.hid ((TXS.out.below hb).more hb.size)
         have B12 := Lib.hid (below_on BS.out hb)
         clear hb)
      | (go_at_call 15
         with_reducible refine (RM2.out _ _ TX12.out).mono ?_
         rintro e y13 ⟨rfl, hb⟩
         have B13 := Lib.hid (below_on B12.out hb)
         clear hb)
      | (go_at_call 8
         refine (wakes_frame _).mono ?_
         rintro e y14 ⟨rfl, hb⟩
         have B14 := Lib.hid (below_on B13.out hb)
         clear hb))
    go_ret
    exact ⟨rfl, B14.out⟩
theorem back_walk (num : Nat) (s : ByteArray) (n0 n1 n2 : Int) (w : World) (hn : num < 4294967296) :
    Calls Try.prog 5 #[.int .u32 (num : Nat), .string s, .agg #[.int .i64 n0, .int .i64 n1, .int .i64 n2]] w fun e w' => e = .returned (.bool true) ∧ Below w.heap.size w w' := by
  by_cases h1 : 62000 < s.size
  · exact back_long num s n0 n1 n2 w h1
  by_cases h2 : num = 0 ∨ 60000 < s.size
  · exact back_none num s n0 n1 n2 w hn (by omega) h2
  · exact back_main num s n0 n1 n2 w hn (by omega) (by omega)

set_option maxRecDepth 100000 in
theorem frameBack_lifted (os : Os) (started : os.Started) (H : Type) (enc : TypeId × Value → H) :
    ReturnsInHanded {} Try.checked os 5 .any (Rows.frameBackSpec.pre6 enc Try.prog Try.f5 Rows.frameBackRow.domain false) (Rows.frameBackSpec.post enc Try.prog Try.f5 false true false false) := by
  refine Shell.law_lifted (C := Try.checked) (tb := 4) (by kernel_rfl) started (by kernel_rfl) Try.func5
    (ChangeSpec.witness6 (enc := enc) (C := Try.checked) false ⟨#[], #[.int .u32 0, .string ⟨#[]⟩, .agg #[.int .i64 0, .int .i64 0, .int .i64 0]], []⟩ 8 (by kernel_rfl) (by kernel_rfl) (by kernel_rfl) (by kernel_rfl))
    (by kernel_rfl) (by kernel_rfl) rfl rfl Try.underlying4 ?_
  intro W base args ds p hval0 hA0
  have hval : ∀ (j : Nat) t v, Try.f5.params[j]? = some t → args[j]? = some v → Value.okWide Try.prog W .any base t v := hval0
  have hA : DataW.TrodAll enc Try.prog W 0 (fun _ => true) true Try.f5.params.toList args.toList ds p := hA0
  clear hval0 hA0
  rw [Try.params5] at hA hval
  obtain ⟨v0, vs0, d0, ds0, p0, q0, hargs, rfl, rfl, h0, r0⟩ := trodAll_cons hA
  obtain ⟨v1, vs1, d1, ds1, p1, q1, rfl, rfl, rfl, h1, r1⟩ := trodAll_cons r0
  obtain ⟨v2, vs2, d2, ds2, p2, q2, rfl, rfl, rfl, h2, r2⟩ := trodAll_cons r1
  obtain ⟨rfl, rfl, rfl⟩ := trodAll_nil r2
  obtain rfl : args = #[v0, v1, v2] := by cases args; simp_all
  refine ⟨rfl, ?_⟩
  obtain ⟨z0, rfl, -, -, w0⟩ := open_int Try.underlying22 (hval 0 22 v0 rfl rfl) h0
  obtain ⟨num, rfl, b0⟩ := u32_nat w0
  obtain ⟨s, rfl, -, -, w1⟩ := ChangeMaps.open_string Try.underlying9 (hval 1 9 v1 rfl rfl) h1
  obtain ⟨zs, hzl, rfl, hz⟩ := Shell.open_arr Try.underlying41 Try.underlying3 (by kernel_rfl) (by kernel_rfl) (hval 2 41 v2 rfl rfl) h2
  obtain ⟨n0, n1, n2, rfl⟩ := Shell.list3 zs hzl
  exact back_walk num s n0 n1 n2 W b0

theorem frameBack_over : Rows.frameBackRow.holds Try.pinned (OpenSpec.ofChange Rows.frameBackSpec) :=
  OpenClaim.holds_of_wide 5 Try.f5 rfl rfl rfl rfl rfl rfl rfl ⟨rfl, rfl, rfl, rfl, rfl⟩ rfl rfl rfl rfl rfl (by kernel_rfl) Try.func5 (by kernel_rfl)
    (of_decide_eq_true (by kernel_rfl)) (by unfold Func.isWrapper; first | (rw [if_pos (by decide +kernel)]; kernel_rfl) | (rw [if_neg (by decide +kernel)]; exact ⟨rfl, rfl⟩))
    (fun os st H enc _ => frameBack_lifted os st H enc)

/-- The statement. -/
theorem frameBack_proved : Rows.FrameBackSaid := frameBack_over
end Go.Proofs.Ytfbohnmbjcfefaa.Law
