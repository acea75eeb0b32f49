/- Whatever write of an Append, or of a Save, fails: opened again there is what there was, or what there would have been. For all texts and numbers. -/
import Derived.Test.YtndanhacmfhlaaaGA
import Derived.Test.YtndanhacmfhlaaaJournCut
import Derived.Deep.RegionHeld3
import Derived.Deep.DeepCutAuto
import Derived.Deep.CutBlock
import Derived.StillTailTactics
import Derived.ChangeMaps5
namespace Go.Proofs.Ytndanhacmfhlaaa.Law
open Go.ChangeShapes Go.WideShapes Go.ChangeAt Go.RowKit Go.Deep Els Go.Proofs.Ytndanhacmfhlaaa.Frame Disk Jour Slice

theorem still_of {P : Program} {f : FuncId} {args : Array Value} {w : World} {v : Value} (h : Calls P f args w fun e w' => e = .returned v ∧ w = w') : Calls P f args w fun e w' => e = .returned v ∧ w' = w := h.mono fun _ _ ⟨h, k⟩ => ⟨h, k.symm⟩
theorem below_one (w : World) (o : Obj) : Below w.heap.size w (w.alloc o) := (Below.refl _ _).alloc (Nat.le_refl _) o
theorem txts_on {W W' : World} {v : Value} {l : List ByteArray} (h : Txts W W.heap.size v l) (hb : Below W.heap.size W W') : Txts W' W'.heap.size v l := (h.below hb).more hb.size
theorem wanted_here {P : Program} {ops : Array Oper} {Q : Exit → Act → World → Prop} {a : Act} {w : World} {rest : List Oper} {o : Oper} (hw : Region.wanted o (yielded ops a.tmps) = true) (h : ∀ K : Act → World → Prop, (∀ a w, wpList P ops Q rest a w → K a w) → o.wp P a w K Q) : wpList P ops Q (o :: rest) a w :=
  wpList_step fun K hK => by rw [if_pos hw]; exact h K hK
theorem wanted_els {α : Type} {f : α → Value} {P : Program} {w : World} {ops : Array Oper} {rest : List Oper} {o : Oper} {a : Act} {Q : Exit → Act → World → Prop} (hw : Region.wanted o (yielded ops a.tmps) = true) (s x : Operand) (t : TypeId)
    (ho : o.op = .call { callee := .builtin .append, args := #[s, x], argTypes := #[t, t] })
    (base : Nat) (e : TypeId) (i : TypeInfo) (z : Value) (bytes : Nat) (ht : P.underlying t = some (.slice e)) (hi : P.info? e = some i) (hz : i.zero = some z)
    (hsize : i.size = 1) (hby : i.bytes = bytes) (hzs : z.cells.size = 1)
    (v : Value) (n : Nat) (xs : List Value) (hs : a.eval s = v) (hown : w.ownsRow base e 1 v n xs)
    (B : Nat) (u : Value) (l : List α) (hx : a.eval x = u) (hu : Els f w B u l) (h1 : ∀ y, (f y).oneCell' = true)
    (h63 : n + l.length ≤ maxLen) (hbytes : (n + l.length) * bytes ≤ 140737488355328) (hbase : base ≤ w.heap.size)
    (h : ∀ v' w', w'.ownsRow base e 1 v' (n + l.length) (xs ++ l.map f) → w.grownBy w' v.ownBlock → wpList P ops Q rest (a.put o.dst v') w') : wpList P ops Q (o :: rest) a w := by
  obtain ⟨A, c, rfl, hl, hn, hc⟩ := hu
  cases A with
  | none =>
    have h0 : l = [] := by
      rcases Nat.eq_zero_or_pos l.length with h0 | h0
      · exact List.eq_nil_of_length_eq_zero h0
      · obtain ⟨b, off, hb, -⟩ := hc h0; cases hb
    subst h0
    obtain rfl := hn.1 rfl
    refine wanted_here hw fun K hK => ?_
    have hrun := run_append_owned_none (P := P) (w := w) base t o.type e i 1 ht hi v n xs hown
    unfold Oper.wp
    simp [execOp, ho, resolve, invoke, builtin, hs, hx, hrun, Result.andThen]
    exact hK _ _ (h v w (by simpa using hown) (World.grownBy.refl _ _))
  | some ad =>
    refine wanted_here hw fun K hK => wp_append_own w s x t ho base e i z 1 bytes ht hi hz hsize hby hzs (by omega) v n xs hs hown ad l.length c (l.map f) hx (by simp) ?_ ?_ h63 hbytes hbase (fun v' w' h1 h2 _ => hK _ _ (h v' w' h1 h2))
    · intro j y hj
      have hlt : j < l.length := by
        rcases Nat.lt_or_ge j l.length with h | h
        · exact h
        · rw [List.getElem?_eq_none (by simpa using h)] at hj; cases hj
      obtain ⟨b, off, hb, -, hcell⟩ := hc (by omega)
      injection hb with hb
      subst hb
      rw [List.getElem?_map, List.getElem?_eq_getElem hlt] at hj
      injection hj with hj
      subst hj
      rw [Go.WideShapes.add_plain, hcell j _ (List.getElem?_eq_getElem hlt)]
    · intro y hy
      obtain ⟨z', -, rfl⟩ := List.mem_map.1 hy
      exact h1 z'
theorem wanted_one {P : Program} {ops : Array Oper} {rest : List Oper} {o : Oper} {a : Act} {Q : Exit → Act → World → Prop} (W : World) (T : TypeId) (u : Value) (hw : Region.wanted o (yielded ops a.tmps) = true) (s x : Operand) (t : TypeId)
    (ho : o.op = .call { callee := .builtin .append, args := #[s, x], argTypes := #[t, t] })
    (base : Nat) (e : TypeId) (i : TypeInfo) (z : Value) (bytes : Nat) (ht : P.underlying t = some (.slice e)) (hi : P.info? e = some i) (hz : i.zero = some z)
    (hsize : i.size = 1) (hby : i.bytes = bytes) (hzs : z.cells.size = 1)
    (h1 : u.oneCell' = true) (v : Value) (n : Nat) (xs : List Value) (hs : a.eval s = v) (hown : W.ownsRow base e 1 v n xs) (g : Nat) (hx : a.eval x = .slice (some ⟨g, 0, none⟩) 1 1) (hgw : g = W.heap.size)
    (h63 : n + 1 ≤ maxLen) (hbytes : (n + 1) * bytes ≤ 140737488355328) (hbase : base ≤ W.heap.size)
    (h : ∀ v' w', w'.ownsRow base e 1 v' (n + 1) (xs ++ [u]) → W.grownBy w' v.ownBlock → wpList P ops Q rest (a.put o.dst v') w') : wpList P ops Q (o :: rest) a (W.alloc (.cells #[u] T)) :=
  wanted_here hw fun K hK => by
    obtain ⟨v', w', hr, h2, h3, h4⟩ := run_append_more (P := P) (W.alloc (.cells #[u] T)) t o.type base e i z bytes ht hi hz hsize hby hzs v n xs (hown.alloc _) ⟨W.heap.size, 0, none⟩ 1 u (one_elem W u T 0 u rfl) h1 h63 hbytes (by simp; omega)
    unfold Oper.wp execOp
    simp only [ho, resolve, invoke, builtin, Sem.run_bind, Sem.run_pure, Result.andThen_ok, List.map_toArray, List.map_cons, List.map_nil, hs, hx, hgw, hr]
    exact hK _ _ (h v' w' h2 (grown_new h3))
theorem wrap_to {n u : Int} (h : wrap64 n = u) : IntKind.i64.wrap n = u := by rw [IntWalk.i64_left]; exact h
theorem two_mul (p r : Nat) (u1 : Int) (hp : (p : Int) < 20) (hr : r < 2) (h : u1 = 1 - (r : Int)) : ∃ u : Int, wrap64 ((p : Int) * u1) = u ∧ 0 ≤ u ∧ u ≤ 20 := by
  rcases (show r = 0 ∨ r = 1 by omega) with rfl | rfl
  · obtain rfl : u1 = 1 := by omega
    exact ⟨_, rfl, by unfold wrap64; omega, by unfold wrap64; omega⟩
  · obtain rfl : u1 = 0 := by omega
    exact ⟨_, rfl, by unfold wrap64; omega, by unfold wrap64; omega⟩
theorem two_mul' (p r : Nat) (hp : (p : Int) < 3) (hr : r < 2) : ∃ u : Int, wrap64 ((r : Int) * (p : Int)) = u ∧ 0 ≤ u ∧ u ≤ 20 := by
  rcases (show r = 0 ∨ r = 1 by omega) with rfl | rfl <;> exact ⟨_, rfl, by unfold wrap64; omega, by unfold wrap64; omega⟩
theorem two_sum (a b : Int) (ha : 0 ≤ a ∧ a ≤ 20) (hb : 0 ≤ b ∧ b ≤ 20) : ∃ u : Int, wrap64 (a + b) = u ∧ 0 ≤ u ∧ u ≤ 100000 := ⟨_, rfl, by unfold wrap64; omega, by unfold wrap64; omega⟩
/-- What stands ahead of round r (of two; odd: the first one saves). -/
def Rdy (odd : Bool) (r : Nat) (q : DSt) (j : JSt) : Prop := (r = 0 → AllOld q j.next) ∧ (r = 1 → (odd = true → OldA q j) ∧ (odd = false → OldS q j))
theorem par_wrap (x : Int) (r : Nat) : wrap64 (x + (r : Int)) % 2 = (x + (r : Int)) % 2 := by unfold wrap64; omega
theorem beq_dec (y : Int) (b : Bool) (h : decide (y = 1) = b) : (y == 1) = b := by rw [← h]; by_cases e : y = 1 <;> simp [e]
section
variable {w W W' : World} {K : Nat} {ao : Bool} {gj g b : Nat} {V V8 : Value} {q : DSt} {j : JSt} {rs : List ByteArray} {m n : Nat}
theorem ku_forget (h : KU w W K ao gj g b V q j V8 rs m n) : KU w W K false gj g b V q j V8 rs m n := { h with old := fun e => (by cases e) }
theorem k_base (h : KU w W K ao gj g b V q j V8 rs m n) (s : ByteArray) (hs : j.base = s) : Calls Try.prog 13 #[.pointer (some ⟨gj, 0, none⟩)] W fun e w' => e = .returned (.string s) ∧ Below W.heap.size W w' := by
  rw [← hs]; exact p_base q j gj g b V W h.lj.at_ h.inv.recs.1.1
theorem k_records (h : KU w W K ao gj g b V q j V8 rs m n) (l : List ByteArray) (hl : j.recs = l) : Calls Try.prog 15 #[.pointer (some ⟨gj, 0, none⟩)] W fun e w' => ∃ A k c, e = .returned (.slice A k c) ∧ Below W.heap.size W w' ∧ Txts w' w'.heap.size (.slice A k c) l :=
  (p_records q j gj g b V W h.lj.at_ h.few (all_small h.inv.recs.2)).mono fun e w' kk => by
    obtain ⟨v, k1, k2, k3⟩ := kk
    have k4 := Els.of_own (l := j.recs) rfl k2
    obtain ⟨A, c, rfl⟩ := Slice.own_slice k2
    exact ⟨A, _, c, k1, k3, by rw [← hl]; exact k4⟩
theorem k_take (h : KU w W K ao gj g b V q j V8 rs m n) : Calls Try.prog 15 #[.pointer (some ⟨gj, 0, none⟩)] W fun e w' => ∃ A c, e = .returned (.slice A j.recs.length c) ∧ KU w w' K ao gj g b V q j (.slice A j.recs.length c) j.recs m n :=
  (p_records q j gj g b V W h.lj.at_ h.few (all_small h.inv.recs.2)).mono fun e w' kk => by
    obtain ⟨v, k1, k2, k3⟩ := kk
    have hlt := h.lj.at_.lt4
    have hw := h.lj.below.size
    have hm := h.more k3
    obtain ⟨A, c, rfl⟩ := Slice.own_slice k2
    refine ⟨A, c, k1, { hm with own := ?_, wlo := fun c' hc e => ?_ }⟩
    · obtain ⟨hl, ⟨h1, h0⟩ | ⟨g', cap, cur, h1, hb, hg, hr⟩⟩ := k2
      · exact ⟨hl, Or.inl ⟨h1, h0⟩⟩
      · exact ⟨hl, Or.inr ⟨g', cap, cur, h1, Nat.le_trans hw hb, hg, hr⟩⟩
    · have h1 := (k2.lt c' hc).1
      have h2 := hlt c' e
      omega
theorem ku_txt (h : KU w W K ao gj g b V q j V8 rs m n) : Txts W W.heap.size V8 rs := Els.of_own (l := rs) rfl h.own
theorem text_ne {s t : ByteArray} (h : s ≠ t) : (s.toList == t.toList) = false := by
  rw [beq_eq_false_iff_ne]
  exact fun e => h (Go.WideShapes.bytes_inj (by rw [← ByteArray.toList_eq, ← ByteArray.toList_eq]; exact e))
/-- What the journal that Open made is, its new disk and itself named. -/
theorem open_named {gj2 : Nat} {V2 : Value} {q' : DSt} {jr : JSt} {bs' th : ByteArray} {rs' mr : List ByteArray} {er : Int} {odd : Bool} {r : Nat} (h : KU w W K false gj2 g b V2 q'.start ⟨jr.base, jr.recs, jr.next, jr.area, jr.used, false⟩ V8 rs m n)
    (hR : r = 0 → Rdy odd 1 q' jr) (hE : (jr.base = bs' ∧ jr.recs = rs' ∧ (er = 73 ∨ er = 74)) ∨ (jr.base = th ∧ jr.recs = mr ∧ (er = 0 ∨ er = 74))) :
    ∃ (q2 : DSt) (jn : JSt), KU w W K false gj2 g b V2 q2 jn V8 rs m n ∧ (r = 0 → Rdy odd 1 q2 jn) ∧ ((jn.base = bs' ∧ jn.recs = rs' ∧ (er = 73 ∨ er = 74)) ∨ (jn.base = th ∧ jn.recs = mr ∧ (er = 0 ∨ er = 74))) :=
  ⟨q'.start, ⟨jr.base, jr.recs, jr.next, jr.area, jr.used, false⟩, h, fun e => ⟨fun e' => (by cases e'), fun _ => ⟨fun o => ((hR e).2 rfl).1 o, fun o => ((hR e).2 rfl).2 o⟩⟩, hE⟩
theorem old_arm {a p : Int} (h : OldS q j) : OldS (q.arm a p) j := by unfold DSt.arm; split <;> exact h
theorem oldA_arm {a p : Int} (h : OldA q j) : OldA (q.arm a p) j := by unfold DSt.arm; split <;> exact h
theorem all_arm' {a p : Int} {k : Nat} (h : AllOld q k) : AllOld (q.arm a p) k := by unfold DSt.arm; split <;> exact h
def Sides (sv odd : Bool) (r : Nat) (q : DSt) (j : JSt) : Prop := (sv = true → OldS q j) ∧ (sv = false → OldA q j) ∧ (r = 0 → sv = odd) ∧ (r = 0 → AllOld q j.next)
theorem sides_s {odd : Bool} {r : Nat} (h : Sides true odd r q j) : OldS q j := h.1 rfl
theorem sides_a {odd : Bool} {r : Nat} (h : Sides false odd r q j) : OldA q j := h.2.1 rfl
theorem rdy_s {odd : Bool} {r : Nat} {q' : DSt} {jr : JSt} (h : Sides true odd r q j) (k : AllOld q j.next → OldA q' jr) (e : r = 0) : Rdy odd 1 q' jr :=
  ⟨fun e' => (by cases e'), fun _ => ⟨fun _ => k (h.2.2.2 e), fun e2 => (by have := h.2.2.1 e; rw [e2] at this; cases this)⟩⟩
theorem rdy_a {odd : Bool} {r : Nat} {q' : DSt} {jr : JSt} (h : Sides false odd r q j) (k : AllOld q j.next → OldS q' jr) (e : r = 0) : Rdy odd 1 q' jr :=
  ⟨fun e' => (by cases e'), fun _ => ⟨fun e2 => (by have := h.2.2.1 e; rw [e2] at this; cases this), fun _ => k (h.2.2.2 e)⟩⟩
/-- Which of the two it is that a round tries, and what stands ahead of it. -/
theorem parity_facts {r : Nat} {x2 a p : Int} {odd : Bool} {P : Int → Int → Prop} (h8 : 8 ≤ q.S.length) (ha : j.area ≤ 1) (ho : odd = decide (x2 % 2 = 1)) (hR : Rdy odd r q j) (hr : r < 2) (hM : ∀ y, P y (y % 2)) :
    ∃ (sv : Bool) (u7 y2 : Int), wrap64 (x2 + (r : Int)) = u7 ∧ P u7 y2 ∧ (y2 == 1) = sv ∧ decide (y2 = 1) = sv ∧
      Sides sv odd r (q.arm a p) j := by
  have hw := par_wrap x2 r
  refine ⟨decide ((wrap64 (x2 + (r : Int))) % 2 = 1), _, _, rfl, hM _, beq_dec _ _ rfl, rfl, ?_⟩
  rw [hw]
  rcases (show r = 0 ∨ r = 1 by omega) with rfl | rfl
  · have hA := all_arm' (a := a) (p := p) (hR.1 rfl)
    have hl : 8 ≤ (q.arm a p).S.length := by unfold DSt.arm; split <;> exact h8
    obtain ⟨o1, o2⟩ := old_sides hA hl ha
    exact ⟨fun _ => o2, fun _ => o1, fun _ => by rw [ho]; simp, fun _ => hA⟩
  · obtain ⟨h1, h2⟩ := hR.2 rfl
    refine ⟨fun e => old_arm (h2 ?_), fun e => oldA_arm (h1 ?_), fun e => (by cases e), fun e => (by cases e)⟩
    · rw [ho, decide_eq_false_iff_not]
      rw [decide_eq_true_eq] at e
      omega
    · rw [ho, decide_eq_true_eq]
      rw [decide_eq_false_iff_not] at e
      omega
theorem all_arm {a p : Int} {k : Nat} (h : AllOld q k) : AllOld (q.arm a p) k := by unfold DSt.arm; split <;> exact h
end
set_option maxRecDepth 20000 in
set_option maxHeartbeats 32000000 in
theorem journal_safe (recs : List ByteArray) (last : ByteArray) (x0 x1 x2 : Int) (v0 : Value) (w : World) (hv0 : Txts w w.heap.size v0 recs) (hls : last.size ≤ 9223372036854775807) :
    Calls Try.prog 3 #[v0, .string last, .agg #[.int .i64 x0, .int .i64 x1, .int .i64 x2]] w fun e w' => e = .returned (.bool true) ∧ Below w.heap.size w w' := by
  have FM : Hid (∀ wa W g b, LD wa W g b (newD 200) → Calls Try.prog 5 #[.pointer (some ⟨g, 0, none⟩), .string ⟨#[98, 97, 115, 101]⟩] W fun e w' => ∃ gj' V' q' j' m', e = .returned (.tuple #[.pointer (some ⟨gj', 0, none⟩), .int .i64 0]) ∧ j'.base = ⟨#[98, 97, 115, 101]⟩ ∧ j'.recs = [] ∧ KU wa w' 200 true gj' g b V' q' j' (.slice none 0 0) [] m' 0) := fun wa W g b h =>
    ku_first (K := 200) (s := ⟨#[98, 97, 115, 101]⟩) (by decide) (by decide) (by decide) (by decide) h
  obtain ⟨p20, hp20, e20⟩ := mod_pos x0 20 (by decide) (by decide)
  obtain ⟨p3, hp3, e3⟩ := mod_pos x0 3 (by decide) (by decide)
  have M20 : Hid (∀ W, Calls Try.prog 10 #[.int .i64 x0, .int .i64 20] W fun e w' => e = .returned (.int .i64 (p20 : Nat)) ∧ W = w') := fun W => by have := mod_exact x0 20 W (by decide) (by decide); rwa [e20] at this
  have M3 : Hid (∀ W, Calls Try.prog 10 #[.int .i64 x0, .int .i64 3] W fun e w' => e = .returned (.int .i64 (p3 : Nat)) ∧ W = w') := fun W => by have := mod_exact x0 3 W (by decide) (by decide); rwa [e3] at this
  have M257 : Hid (∀ y : Int, ∃ p : Nat, (p : Int) < 257 ∧ ∀ W, Calls Try.prog 10 #[.int .i64 y, .int .i64 257] W fun e w' => e = .returned (.int .i64 (p : Nat)) ∧ W = w') := fun y => by
    obtain ⟨p, hp, ep⟩ := mod_pos y 257 (by decide) (by decide)
    exact ⟨p, hp, fun W => by have := mod_exact y 257 W (by decide) (by decide); rwa [ep] at this⟩
  have M2 : Hid (∀ (y : Int) W, Calls Try.prog 10 #[.int .i64 y, .int .i64 2] W fun e w' => e = .returned (.int .i64 (y % 2)) ∧ W = w') := fun y W => by have := mod_exact y 2 W (by decide) (by decide); rwa [mod_two] at this
  obtain ⟨odd, hodd⟩ : ∃ odd : Bool, odd = decide (x2 % 2 = 1) := ⟨_, rfl⟩
  have HODD := Lib.hid hodd
  clear hodd e20 e3
  obtain ⟨A0, c0, rfl, hn0, -, hc0⟩ := hv0
  have HC0 := Lib.hid hc0
  clear hc0
  go_enter Try.func3, Try.ntmps3
  go_wp2_with fail
  have B0 := Lib.hid (below_one w (.cells #[.int .i64 x0, .int .i64 x1, .int .i64 x2] 23))
  have HW : Hid ((w.alloc (.cells #[.int .i64 x0, .int .i64 x1, .int .i64 x2] 23)).cell? ⟨w.heap.size, 0, none⟩ = some (.int .i64 x0) ∧ (w.alloc (.cells #[.int .i64 x0, .int .i64 x1, .int .i64 x2] 23)).cell? ⟨w.heap.size, 1, none⟩ = some (.int .i64 x1) ∧ (w.alloc (.cells #[.int .i64 x0, .int .i64 x1, .int .i64 x2] 23)).cell? ⟨w.heap.size, 2, none⟩ = some (.int .i64 x2) ∧ w.heap.size < (w.alloc (.cells #[.int .i64 x0, .int .i64 x1, .int .i64 x2] 23)).heap.size) := ⟨World.cell?_alloc_new .., World.cell?_alloc_new .., World.cell?_alloc_new .., by simp⟩
  generalize hwa : w.alloc (.cells #[.int .i64 x0, .int .i64 x1, .int .i64 x2] 23) = wa at *
  obtain ⟨gw, hgw⟩ : ∃ gw, w.heap.size = gw := ⟨_, rfl⟩
  have HCW : Hid (∀ W, Below wa.heap.size wa W → W.cell? ⟨gw, 0, none⟩ = some (.int .i64 x0) ∧ W.cell? ⟨gw, 1, none⟩ = some (.int .i64 x1) ∧ W.cell? ⟨gw, 2, none⟩ = some (.int .i64 x2)) := fun W hW => by
    have h := HW.out
    rw [hgw] at h
    exact ⟨(hW.cell (p := ⟨gw, 0, none⟩) h.2.2.2).trans h.1, (hW.cell (p := ⟨gw, 1, none⟩) h.2.2.2).trans h.2.1, (hW.cell (p := ⟨gw, 2, none⟩) h.2.2.2).trans h.2.2.1⟩
  have HRC : Hid (∀ i x, recs[i]? = some x → ∃ b0 off, A0 = some ⟨b0, off, none⟩ ∧ ∀ W, Below wa.heap.size wa W → W.cell? ⟨b0, off + i, none⟩ = some (.string x)) := fun i x hx => by
    have hi : i < recs.length := (List.getElem?_eq_some_iff.1 hx).1
    obtain ⟨b0, off, h1, h2, h3⟩ := HC0.out (by omega)
    refine ⟨b0, off, h1, fun W hW => ?_⟩
    have hlt : b0 < wa.heap.size := Nat.lt_of_lt_of_le h2 B0.out.size
    exact (hW.cell (p := ⟨b0, off + i, none⟩) hlt).trans ((B0.out.cell (p := ⟨b0, off + i, none⟩) h2).trans (h3 i x hx))
  rw [hgw]
  have NW := Lib.hid (l_new 200 wa wa (Below.refl _ _) (by decide) (by decide))
  clear hgw HW hwa HC0
  refine NW.out.mono ?_
  rintro e w1 ⟨g, b, rfl, h1, -⟩
  have H1 := Lib.hid h1
  clear h1 NW
  go_wp2_with fail
  refine (FM.out _ _ _ _ H1.out).mono ?_
  rintro e w2 ⟨gj0, V0, q0, j0, m0, rfl, hb0, hr0, h2⟩
  have H2 := Lib.hid h2
  have HI : Hid (j0.base = ⟨#[98, 97, 115, 101]⟩ ∧ j0.recs = []) := show _ from ⟨hb0, hr0⟩
  clear h2 H1 FM hb0 hr0
  by_cases h20 : 20 < recs.length
  · have t1 : decide ((20 : Int) < recs.length) = true := decide_eq_true (by omega)
    go_wp2_with fail
    refine (wakes_journal _).mono ?_
    rintro e w9 ⟨rfl, hb⟩
    have B9 := Lib.hid (B0.out.trans ((H2.out.lj.below.trans (hb.mono H2.out.lj.below.size)).mono B0.out.size))
    clear hb
    go_wp2_with fail
    go_ret
    exact ⟨rfl, B9.out⟩
  have t1 : decide ((20 : Int) < recs.length) = false := decide_eq_false (by omega)
  by_cases h3000 : 3000 < last.size
  · have t2 : decide ((3000 : Int) < last.size) = true := decide_eq_true (by omega)
    go_wp2_with fail
    refine (wakes_journal _).mono ?_
    rintro e w9 ⟨rfl, hb⟩
    have B9 := Lib.hid (B0.out.trans ((H2.out.lj.below.trans (hb.mono H2.out.lj.below.size)).mono B0.out.size))
    clear hb
    go_wp2_with fail
    go_ret
    exact ⟨rfl, B9.out⟩
  have t2 : decide ((3000 : Int) < last.size) = false := decide_eq_false (by omega)
  have HLS : Hid (last.size ≤ 60000) := show last.size ≤ 60000 by omega
  have HS0 : Hid (KU wa (w2.alloc (.cells #[] 9)) 200 true gj0 g b V0 q0 j0 (.slice (some ⟨w2.heap.size, 0, none⟩) 0 0) j0.recs m0 0) := show _ from by rw [HI.out.2]; exact H2.out.empty rfl
  clear H2 hls h3000
  go_wp2_with fail
  go_loopw [11, 12, 13] (fun s11 s12 s13 wr => ∃ (i : Nat) (V : Value) (q : DSt) (j : JSt) (m : Nat) (A8 : Option Addr) (k8 c8 : Nat), i ≤ recs.length ∧ s11 = .string j.base ∧ s12 = .slice A8 k8 c8 ∧ s13 = .int .i64 i ∧ Hid (k8 = j.recs.length) ∧ Hid (KU wa wr 200 true gj0 g b V q j (.slice A8 k8 c8) j.recs m i)) (fun _ _ s13 _ => recs.length - (intOf s13).toNat)
  case atStart => exact ⟨0, V0, q0, j0, m0, _, 0, 0, by omega, by rw [HI.out.1], rfl, rfl, show _ = _ from by rw [HI.out.2]; rfl, HS0.out⟩
  case round =>
    clear HS0 HI
    obtain ⟨i, V, q, j, m, A8, k8, c8, hi, rfl, rfl, rfl, HL8, H⟩ := hrel
    by_cases hlt : i < recs.length
    · have t3 : decide (i < recs.length) = true := decide_eq_true hlt
      have t3' : decide ((i : Int) < recs.length) = true := decide_eq_true (by omega)
      obtain ⟨x, hx0⟩ : ∃ x, recs[i]? = some x := ⟨_, List.getElem?_eq_getElem hlt⟩
      obtain ⟨b1, off1, rfl, hX⟩ := HRC.out i x hx0
      have HX := Lib.hid hX
      have cx := HX.out _ H.out.lj.below
      have h0 : (0 : Int) ≤ i := by omega
      clear hx0 hX
      by_cases hxs : x.size ≤ 1000
      · have t4 : decide ((1000 : Int) < x.size) = false := decide_eq_false (by omega)
        have HXS : Hid (x.size ≤ 1000) := hxs
        have r5 : Int.tmod (i : Int) 7 = ((i % 7 : Nat) : Int) := rfl
        obtain ⟨y, hy⟩ : ∃ y, i % 7 = y := ⟨_, rfl⟩
        rw [hy] at r5
        clear hy hxs
        generalize hbs : j.base = bs at *
        have HBS0 := Lib.hid hbs
        clear hbs
        by_cases hy2 : y = 3
        · subst hy2
          go_wp2_with fail
          refine (ku_save H.out (by omega) (by have := HXS.out; omega)).mono ?_
          rintro e w3 ⟨er, rfl, hcase⟩
          rcases hcase with ⟨rfl, V2, q2, j2, m2, e1, e2, e3, h4⟩ | ⟨-, hf, -⟩
          · have cx' := HX.out _ h4.lj.below
            have HB := Lib.hid e1
            have HL9 : Hid (0 = j2.recs.length) := show _ = _ from by rw [e2]; rfl
            have H4 : Hid (KU wa w3 200 true gj0 g b V2 q2 j2 (.slice none 0 0) j2.recs m2 (i + 1)) := show _ from by rw [e2]; exact h4.none_
            clear e1 e2 e3 h4 H cx
            go_wp2_with fail
            go_roundw
            case rel => exact ⟨i + 1, V2, q2, j2, m2, none, 0, 0, by omega, by rw [HB.out], rfl, by go_num, HL9.out, H4.out⟩
            case measure => simp [intOf]; omega
          · exfalso
            have h5 := HXS.out
            have h6 := H.out.nx
            have h7 : roomD q = 99 := by unfold roomD; rw [H.out.len]
            rw [h7] at hf
            unfold sizeN Jour.most at hf
            omega
        · have t5 : ((y : Int) == (3 : Int)) = false := by rw [beq_eq_false_iff_ne]; omega
          have t5' : decide (y = 3) = false := decide_eq_false hy2
          have t5'' : decide ((y : Int) = 3) = false := decide_eq_false (by omega)
          go_wp2_with fail
          refine (ku_append H.out (by omega) (by have := HXS.out; omega)).mono ?_
          rintro e w4 ⟨er, rfl, hcase⟩
          rcases hcase with ⟨rfl, V2, q2, j2, m2, e1, e2, e3, h4⟩ | ⟨rfl, V2, h4⟩
          · have cx' := HX.out _ h4.lj.below
            have HB := Lib.hid (e1.trans HBS0.out)
            have hrl : j.recs.length ≤ 5000 := H.out.few
            have OW := Lib.hid h4.own
            have GR : Hid (∀ W' V8', W'.ownsRow wa.heap.size 9 1 V8' (j.recs.length + 1) (j.recs.map Value.string ++ [.string x]) → w4.grownBy W' (Value.slice A8 k8 c8).ownBlock → (∀ k, V8'.ownBlock = some k → (Value.slice A8 k8 c8).ownBlock = some k ∨ w4.heap.size ≤ k) → KU wa W' 200 true gj0 g b V2 q2 j2 V8' j2.recs m2 (i + 1)) := fun W' V8' ho hg hv => by
              have ho' : W'.ownsRow wa.heap.size 9 1 V8' (j.recs ++ [x]).length ((j.recs ++ [x]).map Value.string) := by rw [List.length_append, List.map_append]; exact ho
              rw [e2]; exact h4.grow hg ho' hv
            have HRL : Hid (j.recs.length + 1 = j2.recs.length) := show _ = _ from by rw [e2, List.length_append]; rfl
            have HBS := Lib.hid h4.lj.below.size
            clear e1 e2 e3 h4 H cx
            obtain ⟨ji, hi0, hi1, hi2, hi3⟩ := Frame.str_info
            have HJ0 := Lib.hid hi0
            have HZ0 := Lib.hid hi1
            have HZ1 := Lib.hid hi2
            have HZ2 := Lib.hid hi3
            clear hi0 hi1 hi2 hi3
            generalize hrr : j.recs = rs at *
            go_wp2_with (first
              | (at_builtin
                 refine wpList_append_more rfl (.tmp 110) (.tmp 115) _ rfl wa.heap.size 9 ji (.string ⟨#[]⟩) 16 Try.underlying22 HJ0.out HZ0.out HZ1.out HZ2.out rfl w4 9 (.string x) rfl (.slice A8 k8 c8) rs.length _ rfl OW.out w4.heap.size rfl rfl (by unfold maxLen; omega) (by omega) HBS.out ?_
                 intro v' w' ho hgr hvv
                 have H4 := Lib.hid (GR.out _ _ ho hgr hvv)
                 obtain ⟨k9, hk9⟩ : ∃ k9, rs.length + 1 = k9 := ⟨_, rfl⟩
                 have HL9 := Lib.hid (hk9.symm.trans HRL.out)
                 rw [hk9] at ho
                 obtain ⟨A9, c9, rfl⟩ := Slice.own_slice ho
                 clear ho hgr hvv hk9))
            go_roundw
            case rel => exact ⟨i + 1, V2, q2, j2, m2, A9, k9, c9, by omega, by rw [HB.out], rfl, by go_num, HL9.out, H4.out⟩
            case measure => simp [intOf]; omega
          · have H4 := Lib.hid h4
            clear h4 H cx
            go_wp2_with fail
            refine (wakes_journal _).mono ?_
            rintro e w9 ⟨rfl, hb⟩
            have B9 := Lib.hid (B0.out.trans ((H4.out.lj.below.trans (hb.mono H4.out.lj.below.size)).mono B0.out.size))
            clear hb
            go_wp2_with fail
            go_ret
            exact ⟨rfl, B9.out⟩
      · have t4 : decide ((1000 : Int) < x.size) = true := decide_eq_true (by omega)
        go_wp2_with fail
        refine (wakes_journal _).mono ?_
        rintro e w9 ⟨rfl, hb⟩
        have B9 := Lib.hid (B0.out.trans ((H.out.lj.below.trans (hb.mono H.out.lj.below.size)).mono B0.out.size))
        clear hb
        go_wp2_with fail
        go_ret
        exact ⟨rfl, B9.out⟩
    · obtain rfl : i = recs.length := by omega
      have t3 : decide (recs.length < recs.length) = false := decide_eq_false (by omega)
      have t3' : decide ((recs.length : Int) < recs.length) = false := decide_eq_false (by omega)
      have HR0 : Hid (Rdy odd 0 q j) := show _ ∧ _ from ⟨fun _ => H.out.old rfl, fun e => (by cases e)⟩
      have HK0 := Lib.hid ((ku_forget H.out).later 20 (by omega))
      clear H hlt hi
      go_wp2_with fail
      go_loopw [9, 11, 12, 15] (fun s9 s11 s12 s15 wr => ∃ (r gj : Nat) (V : Value) (q : DSt) (j : JSt) (m : Nat) (A8 : Option Addr) (k8 c8 : Nat), r ≤ 2 ∧ s9 = .pointer (some ⟨gj, 0, none⟩) ∧ s11 = .string j.base ∧ s12 = .slice A8 k8 c8 ∧ s15 = .int .i64 r ∧ Hid (k8 = j.recs.length) ∧ Hid (Rdy odd r q j) ∧ Hid (KU wa wr 200 false gj g b V q j (.slice A8 k8 c8) j.recs m (20 + r))) (fun _ _ _ s15 _ => 2 - (intOf s15).toNat)
      case atStart => exact ⟨0, gj0, V, q, j, m, A8, k8, c8, by omega, rfl, rfl, rfl, rfl, HL8.out, HR0.out, HK0.out⟩
      case round =>
        clear HK0 HR0 HL8
        obtain ⟨r, gj, V, q, j, m, A8, k8, c8, hr, rfl, rfl, rfl, rfl, HL8, HR, H⟩ := hrel
        by_cases hr2 : r < 2
        · have t7 : decide ((r : Int) < 2) = true := decide_eq_true (by omega)
          obtain ⟨a0, a1, a2⟩ := HCW.out _ H.out.lj.below
          have H0 : Hid (8 ≤ q.S.length ∧ j.area ≤ 1) := show _ ∧ _ from ⟨by have := H.out.len; omega, H.out.inv.area⟩
          have HFW := Lib.hid H.out.few
          generalize hbs : j.base = bs at *
          have HBS0 := Lib.hid hbs
          clear hbs
          obtain ⟨u1, E1, g1⟩ : ∃ u : Int, wrap64 (1 - (r : Int)) = u ∧ u = 1 - (r : Int) := ⟨_, rfl, by unfold wrap64; omega⟩
          obtain ⟨u2, E2, g2⟩ : ∃ u : Int, wrap64 ((p20 : Int) * u1) = u ∧ 0 ≤ u ∧ u ≤ 20 := two_mul p20 r u1 hp20 hr2 g1
          obtain ⟨u3, E3, g3⟩ : ∃ u : Int, wrap64 ((r : Int) * (p3 : Int)) = u ∧ 0 ≤ u ∧ u ≤ 20 := two_mul' p3 r hp3 hr2
          obtain ⟨u4, E4, g4⟩ : ∃ u : Int, wrap64 (u2 + u3) = u ∧ 0 ≤ u ∧ u ≤ 100000 := two_sum u2 u3 g2 g3
          obtain ⟨u5, E5⟩ : ∃ u : Int, wrap64 (77 * (r : Int)) = u := ⟨_, rfl⟩
          obtain ⟨u6, E6⟩ : ∃ u : Int, wrap64 (x1 + u5) = u := ⟨_, rfl⟩
          obtain ⟨py, hpy, hMY⟩ := M257.out u6
          have F1 : IntKind.i64.wrap (1 - (r : Int)) = u1 := wrap_to E1
          have F2 : IntKind.i64.wrap ((p20 : Int) * u1) = u2 := wrap_to E2
          have F3 : IntKind.i64.wrap ((r : Int) * (p3 : Int)) = u3 := wrap_to E3
          have F4 : IntKind.i64.wrap (u2 + u3) = u4 := wrap_to E4
          have F5 : IntKind.i64.wrap (77 * (r : Int)) = u5 := wrap_to E5
          have F6 : IntKind.i64.wrap (x1 + u5) = u6 := wrap_to E6
          have HMY := Lib.hid hMY
          have EA := Lib.hid g4
          have EP : Hid ((0 : Int) ≤ py ∧ (py : Int) ≤ 256) := show _ ∧ _ from ⟨by omega, by omega⟩
          clear hMY g1 g2 g3 g4
          go_upto_region 22 with fail
          go_cut [141] (fun s141 wx => s141 = .bool false ∧ Hid (AU wa wx 200 gj g b V (q.arm u4 py) j (.slice A8 k8 c8) j.recs m (20 + r)))
          case first =>
            have hS0 : wr.drew.cell? ⟨gw, 0, none⟩ = some (.int .i64 x0) ∧ wr.drew.cell? ⟨gw, 1, none⟩ = some (.int .i64 x1) := ⟨a0, a1⟩
            refine wp_region_held_drew (S := (fun w' => w'.cell? ⟨gw, 0, none⟩ = some (.int .i64 x0) ∧ w'.cell? ⟨gw, 1, none⟩ = some (.int .i64 x1))) (by kernel_rfl) hS0 (fun hHeld => ?_)
            refine ByHand.take_yes (v := ?_) 0 121 rfl rfl (by kernel_rfl) (by kernel_rfl) (by kernel_rfl) (fun _ _ _ h => h) (by rfl) ?_ (by assumption) ?_
            rotate_left
            · intro w' hSw
              (try dsimp only at hSw)
              go_simp
              all_goals with_reducible rfl
            (try simp only [Act.put, List.setIfInBounds_toArray, List.set_cons_zero, List.set_cons_succ])
            refine ByHand.take_yes (v := ?_) 1 122 rfl rfl (by kernel_rfl) (by kernel_rfl) (by kernel_rfl) (fun _ _ _ h => h) (by rfl) ?_ (by assumption) ?_
            rotate_left
            · intro w' hSw
              (try dsimp only at hSw)
              go_simp
              all_goals with_reducible rfl
            (try simp only [Act.put, List.setIfInBounds_toArray, List.set_cons_zero, List.set_cons_succ])
            refine ByHand.take_yes (v := ?_) 2 123 rfl rfl (by kernel_rfl) (by kernel_rfl) (by kernel_rfl) (fun _ _ _ h => h) (by rfl) ?_ (by assumption) ?_
            rotate_left
            · intro w' hSw
              (try dsimp only at hSw)
              go_simp
              all_goals with_reducible rfl
            (try simp only [Act.put, List.setIfInBounds_toArray, List.set_cons_zero, List.set_cons_succ])
            refine ByHand.take_yes (v := ?_) 4 125 rfl rfl (by kernel_rfl) (by kernel_rfl) (by kernel_rfl) (fun _ _ _ h => h) (by rfl) ?_ (by assumption) ?_
            rotate_left
            · intro w' hSw
              (try dsimp only at hSw)
              go_simp
              all_goals with_reducible rfl
            (try simp only [Act.put, List.setIfInBounds_toArray, List.set_cons_zero, List.set_cons_succ])
            refine ByHand.take_yes (v := ?_) 5 126 rfl rfl (by kernel_rfl) (by kernel_rfl) (by kernel_rfl) (fun _ _ _ h => h) (by rfl) ?_ (by assumption) ?_
            rotate_left
            · intro w' hSw
              (try dsimp only at hSw)
              go_simp
              all_goals with_reducible rfl
            (try simp only [Act.put, List.setIfInBounds_toArray, List.set_cons_zero, List.set_cons_succ])
            refine ByHand.take_yes (v := ?_) 7 128 rfl rfl (by kernel_rfl) (by kernel_rfl) (by kernel_rfl) (fun _ _ _ h => h) (by rfl) ?_ (by assumption) ?_
            rotate_left
            · intro w' hSw
              (try dsimp only at hSw)
              go_simp
              all_goals with_reducible rfl
            (try simp only [Act.put, List.setIfInBounds_toArray, List.set_cons_zero, List.set_cons_succ])
            refine ByHand.take_yes (v := ?_) 8 129 rfl rfl (by kernel_rfl) (by kernel_rfl) (by kernel_rfl) (fun _ _ _ h => h) (by rfl) ?_ (by assumption) ?_
            rotate_left
            · intro w' hSw
              (try dsimp only at hSw)
              go_simp
              all_goals with_reducible rfl
            (try simp only [Act.put, List.setIfInBounds_toArray, List.set_cons_zero, List.set_cons_succ])
            refine ByHand.take_yes (v := ?_) 9 130 rfl rfl (by kernel_rfl) (by kernel_rfl) (by kernel_rfl) (fun _ _ _ h => h) (by rfl) ?_ (by assumption) ?_
            rotate_left
            · intro w' hSw
              (try dsimp only at hSw)
              go_simp
              all_goals with_reducible rfl
            (try simp only [Act.put, List.setIfInBounds_toArray, List.set_cons_zero, List.set_cons_succ])
            refine ByHand.take_yes (v := ?_) 13 134 rfl rfl (by kernel_rfl) (by kernel_rfl) (by kernel_rfl) (fun _ _ _ h => h) (by rfl) ?_ (by assumption) ?_
            rotate_left
            · intro w' hSw
              (try dsimp only at hSw)
              go_simp
              all_goals with_reducible rfl
            (try simp only [Act.put, List.setIfInBounds_toArray, List.set_cons_zero, List.set_cons_succ])
            refine ByHand.take_yes (v := ?_) 14 135 rfl rfl (by kernel_rfl) (by kernel_rfl) (by kernel_rfl) (fun _ _ _ h => h) (by rfl) ?_ (by assumption) ?_
            rotate_left
            · intro w' hSw
              (try dsimp only at hSw)
              go_simp
              all_goals with_reducible rfl
            (try simp only [Act.put, List.setIfInBounds_toArray, List.set_cons_zero, List.set_cons_succ])
            refine ByHand.take_yes (v := ?_) 15 136 rfl rfl (by kernel_rfl) (by kernel_rfl) (by kernel_rfl) (fun _ _ _ h => h) (by rfl) ?_ (by assumption) ?_
            rotate_left
            · intro w' hSw
              (try dsimp only at hSw)
              go_simp
              all_goals with_reducible rfl
            (try simp only [Act.put, List.setIfInBounds_toArray, List.set_cons_zero, List.set_cons_succ])
            refine ByHand.take_yes (v := ?_) 16 137 rfl rfl (by kernel_rfl) (by kernel_rfl) (by kernel_rfl) (fun _ _ _ h => h) (by rfl) ?_ (by assumption) ?_
            rotate_left
            · intro w' hSw
              (try dsimp only at hSw)
              go_simp
              all_goals with_reducible rfl
            (try simp only [Act.put, List.setIfInBounds_toArray, List.set_cons_zero, List.set_cons_succ])
            refine ByHand.take_yes (v := ?_) 17 138 rfl rfl (by kernel_rfl) (by kernel_rfl) (by kernel_rfl) (fun _ _ _ h => h) (by rfl) ?_ (by assumption) ?_
            rotate_left
            · intro w' hSw
              (try dsimp only at hSw)
              go_simp
              all_goals with_reducible rfl
            (try simp only [Act.put, List.setIfInBounds_toArray, List.set_cons_zero, List.set_cons_succ])
            refine wpAnyH_ready (rs := [3]) (by kernel_rfl) (by simp) (AllReadyH.cons rfl (fun K hK => ?_) AllReadyH.nil)
            go_simp
            refine (M20.out _).mono ?_
            rintro e w' ⟨rfl, rfl⟩
            go_wp2_with fail
            refine hK.out _ _ ?_ (fun hHeld => ?_)
            · exact hS0
            clear hK K
            (try simp only [Act.put, List.setIfInBounds_toArray, List.set_cons_zero, List.set_cons_succ])
            refine ByHand.take_yes (v := ?_) 6 127 rfl rfl (by kernel_rfl) (by kernel_rfl) (by kernel_rfl) (fun _ _ _ h => h) (by rfl) ?_ (by assumption) ?_
            rotate_left
            · intro w' hSw
              (try dsimp only at hSw)
              go_simp
              all_goals with_reducible rfl
            (try simp only [Act.put, List.setIfInBounds_toArray, List.set_cons_zero, List.set_cons_succ])
            refine wpAnyH_ready (rs := [10]) (by kernel_rfl) (by simp) (AllReadyH.cons rfl (fun K hK => ?_) AllReadyH.nil)
            go_simp
            refine (M3.out _).mono ?_
            rintro e w' ⟨rfl, rfl⟩
            go_wp2_with fail
            refine hK.out _ _ ?_ (fun hHeld => ?_)
            · exact hS0
            clear hK K
            (try simp only [Act.put, List.setIfInBounds_toArray, List.set_cons_zero, List.set_cons_succ])
            refine ByHand.take_yes (v := ?_) 11 132 rfl rfl (by kernel_rfl) (by kernel_rfl) (by kernel_rfl) (fun _ _ _ h => h) (by rfl) ?_ (by assumption) ?_
            rotate_left
            · intro w' hSw
              (try dsimp only at hSw)
              go_simp
              all_goals with_reducible rfl
            (try simp only [Act.put, List.setIfInBounds_toArray, List.set_cons_zero, List.set_cons_succ])
            refine ByHand.take_yes (v := ?_) 12 133 rfl rfl (by kernel_rfl) (by kernel_rfl) (by kernel_rfl) (fun _ _ _ h => h) (by rfl) ?_ (by assumption) ?_
            rotate_left
            · intro w' hSw
              (try dsimp only at hSw)
              go_simp
              all_goals with_reducible rfl
            (try simp only [Act.put, List.setIfInBounds_toArray, List.set_cons_zero, List.set_cons_succ])
            refine wpAnyH_ready (rs := [18]) (by kernel_rfl) (by simp) (AllReadyH.cons rfl (fun K hK => ?_) AllReadyH.nil)
            go_simp
            refine (HMY.out _).mono ?_
            rintro e w' ⟨rfl, rfl⟩
            go_wp2_with fail
            refine hK.out _ _ ?_ (fun hHeld => ?_)
            · exact hS0
            clear hK K
            (try simp only [Act.put, List.setIfInBounds_toArray, List.set_cons_zero, List.set_cons_succ])
            refine wpAnyH_ready (rs := [19]) (by kernel_rfl) (by simp) (AllReadyH.cons rfl (fun K hK => ?_) AllReadyH.nil)
            go_simp
            refine (cut_arm (H.out.heap 1) EA.out EP.out).mono ?_
            rintro e w3 ⟨rfl, h3⟩
            have A3 := Lib.hid h3
            obtain ⟨b0, b1, b2⟩ := HCW.out _ h3.lj.below
            clear h3
            go_wp2_with fail
            refine hK.out _ _ ?_ (fun hHeld => ?_)
            · exact ⟨b0, b1⟩
            clear hK K
            (try simp only [Act.put, List.setIfInBounds_toArray, List.set_cons_zero, List.set_cons_succ])
            refine ByHand.take_yes (v := ?_) 20 141 rfl rfl (by kernel_rfl) (by kernel_rfl) (by kernel_rfl) (fun _ _ _ h => h) (by rfl) ?_ (by assumption) ?_
            rotate_left
            · intro w' hSw
              (try dsimp only at hSw)
              go_simp
              all_goals with_reducible rfl
            (try simp only [Act.put, List.setIfInBounds_toArray, List.set_cons_zero, List.set_cons_succ])
            refine wpAnyH_done (by kernel_rfl) ?_ _
            clear hS0 hHeld E1 E2 E3 E4 E5 E6 F1 F2 F3 F4 F5 F6
            go_wp2_with fail
            go_meet
            exact ⟨rfl, A3.out⟩
          case rest =>
            clear E1 E2 E3 E4 E5 E6 F1 F2 F3 F4 F5 F6 H a0 a1 a2 HMY EA EP
            obtain ⟨rfl, A3⟩ := hcut
            obtain ⟨b0, b1, b2⟩ := HCW.out _ A3.out.lj.below
            clear b0 b1
            obtain ⟨sv, u7, y2, EU, HM2, t8, t8', HO⟩ := parity_facts (q := q) (a := u4) (p := py) (P := fun y v => ∀ W, Calls Try.prog 10 #[.int .i64 y, .int .i64 2] W fun e w' => e = .returned (.int .i64 v) ∧ W = w') H0.out.1 H0.out.2 HODD.out HR.out hr2 M2.out
            have HM2 : Hid (∀ W, Calls Try.prog 10 #[.int .i64 u7, .int .i64 2] W fun e w' => e = .returned (.int .i64 y2) ∧ W = w') := HM2
            have HO := Lib.hid HO
            have EU' : IntKind.i64.wrap (x2 + (r : Int)) = u7 := wrap_to EU
            go_wp2_with fail
            refine (HM2.out _).mono ?_
            rintro e w' ⟨rfl, rfl⟩
            go_upto_if 148 with fail
            go_cut [17] (fun s17 wx => ∃ (er : Int) (q' : DSt) (jr : JSt) (m' : Nat), s17 = .int .i64 er ∧ Hid (DU wa wx 200 g b q' jr (.slice A8 k8 c8) j.recs m' (20 + r + 1)) ∧ Hid (r = 0 → Rdy odd 1 q' jr) ∧ Hid ((jr.base = bs ∧ jr.recs = j.recs ∧ (er = 73 ∨ er = 74)) ∨ (jr.base = (if sv then last else bs) ∧ jr.recs = (if sv then [] else j.recs ++ [last]) ∧ (er = 0 ∨ er = 74))))
            case first =>
              clear EU EU' t8 t8' b2
              cases sv with
              | true =>
                go_wp2_with fail
                refine (cut_save A3.out (by omega) HLS.out (sides_s HO.out)).mono ?_
                rintro e w4 ⟨er, rfl, q', jr, m', k1, k2, k3⟩
                have K1 := Lib.hid k1
                have K2 := Lib.hid k2
                have K3 := Lib.hid k3
                clear k1 k2 k3
                go_wp2_with fail
                go_meet
                exact ⟨er, q', jr, m', rfl, K1.out, fun e => rdy_s HO.out K2.out e, by have := K3.out; rw [HBS0.out] at this; exact this⟩
              | false =>
                go_wp2_with fail
                refine (cut_append A3.out (by omega) HLS.out (sides_a HO.out)).mono ?_
                rintro e w4 ⟨er, rfl, q', jr, m', k1, k2, k3⟩
                have K1 := Lib.hid k1
                have K2 := Lib.hid k2
                have K3 := Lib.hid k3
                clear k1 k2 k3
                go_wp2_with fail
                go_meet
                exact ⟨er, q', jr, m', rfl, K1.out, fun e => rdy_a HO.out K2.out e, by have := K3.out; rw [HBS0.out] at this; exact this⟩
            case rest =>
              clear EU EU' t8 t8' b2 A3 HO HM2
              obtain ⟨er, q', jr, m', rfl, K1, K2, K3⟩ := hcut
              have HE : Hid (er = 0 ∨ er = 73 ∨ er = 74) := show _ from K3.out.elim (fun h => Or.inr h.2.2) (fun h => h.2.2.elim Or.inl (fun e => Or.inr (Or.inr e)))
              go_upto_region 29 with fail
              go_cut [164] (fun s164 wx => s164 = .bool false ∧ wx = wc)
              case first =>
                as_aux_lemma =>
                  rcases HE.out with rfl | rfl | rfl
                  · go_wp2_with fail
                    go_meet
                    exact ⟨rfl, rfl⟩
                  · go_wp2_with fail
                    go_meet
                    exact ⟨rfl, rfl⟩
                  · go_wp2_with fail
                    go_meet
                    exact ⟨rfl, rfl⟩
              case rest =>
                obtain ⟨rfl, rfl⟩ := hcut
                clear HE
                go_wp2_with fail
                refine (cut_start K1.out).mono ?_
                rintro e w5 ⟨rfl, h5⟩
                have H5 := Lib.hid h5
                clear h5 K1
                go_wp2_with fail
                refine (cut_open H5.out rfl rfl).mono ?_
                rintro e w6 ⟨gj2, V2, rfl, h6⟩
                obtain ⟨q2, jn, H2, R2, E3⟩ := open_named h6 K2.out K3.out
                have H2 : Hid (KU wa w6 200 false gj2 g b V2 q2 jn (.slice A8 k8 c8) j.recs m' (20 + r + 1)) := H2
                have R2 := Lib.hid R2
                have E3 := Lib.hid E3
                clear h6 H5 K2 K3
                generalize hrs : j.recs = rs at *
                clear hrs
                go_upto_region 35 with fail
                go_cut [20] (fun s20 wx => ∃ bf : Bool, s20 = .bool bf ∧ Hid (KU wa wx 200 false gj2 g b V2 q2 jn (.slice A8 k8 c8) rs m' (20 + r + 1)) ∧ Hid (jn.base = bs → jn.recs = rs → bf = true))
                case first =>
                  as_aux_lemma =>
                    have TW := Lib.hid (ku_txt H2.out)
                    by_cases hb1 : jn.base = bs
                    · have t1 : (bs.toList == bs.toList) = true := by simp
                      by_cases hr1 : jn.recs = rs
                      · go_wp2_with fail
                        refine (k_base H2.out bs hb1).mono ?_
                        rintro e w7 ⟨rfl, hw7⟩
                        have H3 := Lib.hid (H2.out.more hw7)
                        have T3 := Lib.hid (txts_on TW.out hw7)
                        clear hw7
                        go_wp2_with fail
                        refine (k_records H3.out rs hr1).mono ?_
                        rintro e w8 ⟨A, k, c, rfl, hw8, ht8⟩
                        have H4 := Lib.hid (H3.out.more hw8)
                        have T4 := Lib.hid (txts_on T3.out hw8)
                        have T5 := Lib.hid ht8
                        clear hw8 ht8
                        go_wp2_with fail
                        refine (texts_same rs _ _ _ _ _ T5.out T4.out).mono ?_
                        rintro e w9 ⟨rfl, n9, rfl⟩
                        go_wp2_with fail
                        go_meet
                        exact ⟨true, rfl, H4.out.heap n9, fun _ _ => rfl⟩
                      · have HR1 : Hid (jn.recs ≠ rs) := show _ ≠ _ from hr1
                        clear hr1
                        go_wp2_with fail
                        refine (k_base H2.out bs hb1).mono ?_
                        rintro e w7 ⟨rfl, hw7⟩
                        have H3 := Lib.hid (H2.out.more hw7)
                        have T3 := Lib.hid (txts_on TW.out hw7)
                        clear hw7
                        go_wp2_with fail
                        refine (k_records H3.out jn.recs rfl).mono ?_
                        rintro e w8 ⟨A, k, c, rfl, hw8, ht8⟩
                        have H4 := Lib.hid (H3.out.more hw8)
                        have T4 := Lib.hid (txts_on T3.out hw8)
                        have T5 := Lib.hid ht8
                        clear hw8 ht8
                        go_wp2_with fail
                        refine (texts_any _ rs _ _ _ _ _ T5.out T4.out).mono ?_
                        rintro e w9 ⟨⟨y, rfl⟩, n9, rfl⟩
                        go_wp2_with fail
                        go_meet
                        exact ⟨y, rfl, H4.out.heap n9, fun _ e => absurd e HR1.out⟩
                    · have t1 : (jn.base.toList == bs.toList) = false := text_ne hb1
                      have HB1 : Hid (jn.base ≠ bs) := show _ ≠ _ from hb1
                      clear hb1
                      go_wp2_with fail
                      refine (k_base H2.out jn.base rfl).mono ?_
                      rintro e w7 ⟨rfl, hw7⟩
                      have H3 := Lib.hid (H2.out.more hw7)
                      clear hw7
                      go_wp2_with fail
                      go_meet
                      exact ⟨false, rfl, H3.out, fun e _ => absurd e HB1.out⟩
                case rest =>
                  clear H2
                  obtain ⟨bf, rfl, H2, HBF⟩ := hcut
                  go_upto_region 36 with fail
                  go_cut [21, 22] (fun s21 s22 wx => ∃ A4 k4 c4, s21 = .string bs ∧ s22 = .slice A4 k4 c4 ∧ Hid (Txts wx wx.heap.size (.slice A4 k4 c4) (rs ++ [last])) ∧ Hid (KU wa wx 200 false gj2 g b V2 q2 jn (.slice A8 k8 c8) rs m' (20 + r + 1)))
                  case first =>
                    as_aux_lemma =>
                      obtain ⟨i0, hi0, hi1, hi2, hi3⟩ := Frame.str_info
                      have HI0 := Lib.hid hi0
                      have HZ0 := Lib.hid hi1
                      have HZ1 := Lib.hid hi2
                      have HZ2 := Lib.hid hi3
                      clear hi0 hi1 hi2 hi3
                      have HF : rs.length ≤ 5000 := HFW.out
                      have TW := Lib.hid (ku_txt H2.out)
                      clear HFW
                      go_wp2_with (first
                        | (at_builtin
                           refine wpList_append_els rfl (.tmp 189) (.tmp 190) _ rfl wc.heap.size 9 i0 (.string ⟨#[]⟩) 16 Try.underlying22 HI0.out HZ0.out HZ1.out HZ2.out rfl (.slice (some ⟨wc.heap.size, 0, none⟩) 0 0) 0 [] rfl (World.ownsRow_lit (size := 1) wc #[] 0 (Nat.le_refl _) (by simp) (by simp)) wc.heap.size (.slice A8 k8 c8) rs rfl (TW.out.keep fun q o hq => (below_one wc _).cell (p := ⟨q, o, none⟩) hq) (fun _ => rfl) (by unfold maxLen; omega) (by omega) (by simp) ?_
                           intro v3 w3 ho3 hg3
                           have B3 := Lib.hid (below_row (a := wc) (below_one wc (.cells #[] 9)) (Nat.le_refl _) (World.ownsRow_lit (size := 1) wc #[] 0 (Nat.le_refl _) (by simp) (by simp)) hg3)
                           rw [Nat.zero_add, List.nil_append] at ho3
                           have OW3 := Lib.hid ho3
                           obtain ⟨A3, c3, rfl⟩ := Slice.own_slice ho3
                           clear ho3 hg3)
                        | (at_builtin
                           refine Slice.wpList_append_one rfl (.tmp 191) (.tmp 193) _ rfl wc.heap.size 9 i0 (.string ⟨#[]⟩) 16 Try.underlying22 HI0.out HZ0.out HZ1.out HZ2.out rfl w3 9 (.string last) rfl (.slice A3 rs.length c3) rs.length _ rfl OW3.out w3.heap.size rfl rfl (by unfold maxLen; omega) (by omega) B3.out.size ?_
                           intro v4 w4 ho4 hg4
                           have B4 := Lib.hid (below_row (a := wc) B3.out (Nat.le_refl _) OW3.out hg4)
                           rw [show rs.map Value.string ++ [Value.string last] = (rs ++ [last]).map Value.string by simp] at ho4
                           have OW4 := Lib.hid ho4
                           obtain ⟨A4, c4, rfl⟩ := Slice.own_slice ho4
                           clear ho4 hg4))
                      go_meet
                      exact ⟨A4, _, c4, rfl, rfl, Els.of_own (by simp) OW4.out, H2.out.more B4.out⟩
                  case rest =>
                    clear H2
                    obtain ⟨A4, k4, c4, rfl, rfl, T9, H2⟩ := hcut
                    go_upto_if 195 with fail
                    go_cut [21, 22] (fun s21 s22 wx => ∃ A5 k5 c5, s21 = .string (if sv then last else bs) ∧ s22 = .slice A5 k5 c5 ∧ Hid (Txts wx wx.heap.size (.slice A5 k5 c5) (if sv then [] else rs ++ [last])) ∧ wx = wc)
                    case first =>
                      as_aux_lemma =>
                        cases sv with
                        | true =>
                          go_wp2_with fail
                          go_meet
                          exact ⟨none, 0, 0, rfl, rfl, Els.nil_ _ _, rfl⟩
                        | false =>
                          go_wp2_with fail
                          go_meet
                          exact ⟨A4, k4, c4, rfl, rfl, T9.out, rfl⟩
                    case rest =>
                      clear T9
                      obtain ⟨A5, k5, c5, rfl, rfl, T9, rfl⟩ := hcut
                      generalize (if sv then last else bs) = th at *
                      generalize (if sv then [] else rs ++ [last]) = mr at *
                      go_upto_region 39 with fail
                      go_cut [23] (fun s23 wx => ∃ af : Bool, s23 = .bool af ∧ Hid (KU wa wx 200 false gj2 g b V2 q2 jn (.slice A8 k8 c8) rs m' (20 + r + 1)) ∧ Hid (jn.base = th → jn.recs = mr → af = true))
                      case first =>
                        as_aux_lemma =>
                          by_cases hb1 : jn.base = th
                          · have t1 : (th.toList == th.toList) = true := by simp
                            by_cases hr1 : jn.recs = mr
                            · go_wp2_with fail
                              refine (k_base H2.out th hb1).mono ?_
                              rintro e w7 ⟨rfl, hw7⟩
                              have H3 := Lib.hid (H2.out.more hw7)
                              have T3 := Lib.hid (txts_on T9.out hw7)
                              clear hw7
                              go_wp2_with fail
                              refine (k_records H3.out mr hr1).mono ?_
                              rintro e w8 ⟨A, k, c, rfl, hw8, ht8⟩
                              have H4 := Lib.hid (H3.out.more hw8)
                              have T4 := Lib.hid (txts_on T3.out hw8)
                              have T5 := Lib.hid ht8
                              clear hw8 ht8
                              go_wp2_with fail
                              refine (texts_same mr _ _ _ _ _ T5.out T4.out).mono ?_
                              rintro e w9 ⟨rfl, n9, rfl⟩
                              go_wp2_with fail
                              go_meet
                              exact ⟨true, rfl, H4.out.heap n9, fun _ _ => rfl⟩
                            · have HR1 : Hid (jn.recs ≠ mr) := show _ ≠ _ from hr1
                              clear hr1
                              go_wp2_with fail
                              refine (k_base H2.out th hb1).mono ?_
                              rintro e w7 ⟨rfl, hw7⟩
                              have H3 := Lib.hid (H2.out.more hw7)
                              have T3 := Lib.hid (txts_on T9.out hw7)
                              clear hw7
                              go_wp2_with fail
                              refine (k_records H3.out jn.recs rfl).mono ?_
                              rintro e w8 ⟨A, k, c, rfl, hw8, ht8⟩
                              have H4 := Lib.hid (H3.out.more hw8)
                              have T4 := Lib.hid (txts_on T3.out hw8)
                              have T5 := Lib.hid ht8
                              clear hw8 ht8
                              go_wp2_with fail
                              refine (texts_any _ mr _ _ _ _ _ T5.out T4.out).mono ?_
                              rintro e w9 ⟨⟨y, rfl⟩, n9, rfl⟩
                              go_wp2_with fail
                              go_meet
                              exact ⟨y, rfl, H4.out.heap n9, fun _ e => absurd e HR1.out⟩
                          · have t1 : (jn.base.toList == th.toList) = false := text_ne hb1
                            have HB1 : Hid (jn.base ≠ th) := show _ ≠ _ from hb1
                            clear hb1
                            go_wp2_with fail
                            refine (k_base H2.out jn.base rfl).mono ?_
                            rintro e w7 ⟨rfl, hw7⟩
                            have H3 := Lib.hid (H2.out.more hw7)
                            clear hw7
                            go_wp2_with fail
                            go_meet
                            exact ⟨false, rfl, H3.out, fun e _ => absurd e HB1.out⟩
                      case rest =>
                        clear H2 T9
                        obtain ⟨af, rfl, H2, HAF⟩ := hcut
                        have HQ0 : Hid ((bf = true ∧ (er = 73 ∨ er = 74)) ∨ (af = true ∧ (er = 0 ∨ er = 74))) := show _ from by
                          rcases E3.out with ⟨h1, h2, h3⟩ | ⟨h1, h2, h3⟩
                          · exact Or.inl ⟨HBF.out h1 h2, h3⟩
                          · exact Or.inr ⟨HAF.out h1 h2, h3⟩
                        clear HBF HAF E3
                        go_upto_region 40 with fail
                        go_cut [228] (fun s228 wx => s228 = .bool false ∧ wx = wc)
                        case first =>
                          as_aux_lemma =>
                            have HQ := HQ0.out
                            clear HQ0
                            rcases HQ with ⟨rfl, rfl | rfl⟩ | ⟨rfl, rfl | rfl⟩
                            · cases af <;>
                              · go_wp2_with fail
                                go_meet
                                exact ⟨rfl, rfl⟩
                            · cases af <;>
                              · go_wp2_with fail
                                go_meet
                                exact ⟨rfl, rfl⟩
                            · cases bf <;>
                              · go_wp2_with fail
                                go_meet
                                exact ⟨rfl, rfl⟩
                            · cases bf <;>
                              · go_wp2_with fail
                                go_meet
                                exact ⟨rfl, rfl⟩
                        case rest =>
                          clear HQ0
                          obtain ⟨rfl, rfl⟩ := hcut
                          go_wp2_with fail
                          refine (k_base H2.out jn.base rfl).mono ?_
                          rintro e w7 ⟨rfl, hw7⟩
                          have H3 := Lib.hid (H2.out.more hw7)
                          clear hw7 H2
                          go_wp2_with fail
                          refine (k_take H3.out).mono ?_
                          rintro e w8 ⟨A, c, rfl, h8⟩
                          have H8 := Lib.hid h8
                          clear h8 H3
                          go_wp2_with fail
                          go_roundw
                          case rel => exact ⟨r + 1, gj2, V2, q2, jn, m', A, _, c, by omega, rfl, rfl, rfl, by go_num, rfl, ⟨fun e => (by cases e), fun e => (R2.out (by omega)).2 rfl⟩, H8.out⟩
                          case measure => simp [intOf]; omega
        · have t7 : decide ((r : Int) < 2) = false := decide_eq_false (by omega)
          have HFW := Lib.hid H.out.few
          clear HR
          generalize hbs : j.base = bs at *
          have HBS0 := Lib.hid hbs
          clear hbs
          go_wp2_with fail
          refine (ku_append (s := ⟨#[109, 111, 114, 101]⟩) H.out (by omega) (by decide)).mono ?_
          rintro e w3 ⟨er, rfl, hcase⟩
          rcases hcase with ⟨rfl, V2, q2, j2, m2, e1, e2, e3, h4⟩ | ⟨rfl, V2, h4⟩
          · have H4 := Lib.hid h4
            have HB1 := Lib.hid (e1.trans HBS0.out)
            have HR1 := Lib.hid e2
            clear e1 e2 e3 h4 H
            generalize hrs : j.recs = rs at *
            clear hrs
            go_wp2_with fail
            refine (ku_open H4.out).mono ?_
            rintro e w5 ⟨gj2, V3, rfl, h5⟩
            have H5 := Lib.hid h5
            clear h5 H4
            have t1 : (bs.toList == bs.toList) = true := by simp
            obtain ⟨i0, hi0, hi1, hi2, hi3⟩ := Frame.str_info
            have HI0 := Lib.hid hi0
            have HZ0 := Lib.hid hi1
            have HZ1 := Lib.hid hi2
            have HZ2 := Lib.hid hi3
            clear hi0 hi1 hi2 hi3
            have HF : rs.length ≤ 5000 := HFW.out
            clear HFW
            go_upto_region 47 with fail
            go_wp2_with (first
              | (go_at_call 13
                 refine (k_base H5.out bs HB1.out).mono ?_
                 rintro e w6 ⟨rfl, hw⟩
                 have H6 := Lib.hid (H5.out.more hw)
                 clear hw)
              | (go_at_call 15
                 refine (k_records H6.out (rs ++ [⟨#[109, 111, 114, 101]⟩]) HR1.out).mono ?_
                 rintro e wc ⟨A, k, c, rfl, hw, ht⟩
                 have H7 := Lib.hid (H6.out.more hw)
                 have T7 := Lib.hid ht
                 have TW := Lib.hid (ku_txt H7.out)
                 clear hw ht)
              | (at_builtin
                 refine wanted_els (by rfl) (.tmp 263) (.tmp 264) _ rfl wc.heap.size 9 i0 (.string ⟨#[]⟩) 16 Try.underlying22 HI0.out HZ0.out HZ1.out HZ2.out rfl (.slice (some ⟨wc.heap.size, 0, none⟩) 0 0) 0 [] rfl (World.ownsRow_lit (size := 1) wc #[] 0 (Nat.le_refl _) (by simp) (by simp)) wc.heap.size (.slice A8 k8 c8) rs rfl (TW.out.keep fun q o hq => (below_one wc _).cell (p := ⟨q, o, none⟩) hq) (fun _ => rfl) (by unfold maxLen; omega) (by omega) (by simp) ?_
                 intro v3 w8 ho3 hg3
                 have B3 := Lib.hid (below_row (a := wc) (below_one wc (.cells #[] 9)) (Nat.le_refl _) (World.ownsRow_lit (size := 1) wc #[] 0 (Nat.le_refl _) (by simp) (by simp)) hg3)
                 rw [Nat.zero_add, List.nil_append] at ho3
                 have OW3 := Lib.hid ho3
                 obtain ⟨A3, c3, rfl⟩ := Slice.own_slice ho3
                 clear ho3 hg3)
              | (at_builtin
                 refine wanted_one w8 9 (.string ⟨#[109, 111, 114, 101]⟩) (by rfl) (.tmp 265) (.tmp 266) _ rfl wc.heap.size 9 i0 (.string ⟨#[]⟩) 16 Try.underlying22 HI0.out HZ0.out HZ1.out HZ2.out rfl rfl (.slice A3 rs.length c3) rs.length _ rfl OW3.out w8.heap.size rfl rfl (by unfold maxLen; omega) (by omega) B3.out.size ?_
                 intro v4 w9 ho4 hg4
                 have B4 := Lib.hid (below_row (a := wc) B3.out (Nat.le_refl _) OW3.out hg4)
                 rw [show rs.map Value.string ++ [Value.string (⟨#[109, 111, 114, 101]⟩ : ByteArray)] = (rs ++ [(⟨#[109, 111, 114, 101]⟩ : ByteArray)]).map Value.string from by rw [List.map_append]; rfl] at ho4
                 have OW4 := Lib.hid ho4
                 have T9 := Lib.hid (txts_on T7.out B4.out)
                 obtain ⟨A4, c4, rfl⟩ := Slice.own_slice ho4
                 clear ho4 hg4)
              | (go_at_call 14
                 refine (texts_same (rs ++ [⟨#[109, 111, 114, 101]⟩]) _ _ _ _ _ T9.out (Els.of_own (l := rs ++ [(⟨#[109, 111, 114, 101]⟩ : ByteArray)]) (by rw [List.length_append]; rfl) OW4.out)).mono ?_
                 rintro e w10 ⟨rfl, n10, rfl⟩
                 have BB : Hid (Below wa.heap.size wa (w9.drewN n10)) := show Below _ _ _ from below_drewN (H7.out.lj.below.trans (B4.out.mono H7.out.lj.below.size)) n10)
              | (go_at_call 6
                 refine (wakes_journal _).mono ?_
                 rintro e w11 ⟨rfl, hb⟩
                 have B9 := Lib.hid (B0.out.trans ((BB.out.trans (hb.mono BB.out.size)).mono B0.out.size))
                 clear hb))
            go_ret
            exact ⟨rfl, B9.out⟩
          · have H4 := Lib.hid h4
            clear h4 H
            go_wp2_with fail
            refine (wakes_journal _).mono ?_
            rintro e w9 ⟨rfl, hb⟩
            have B9 := Lib.hid (B0.out.trans ((H4.out.lj.below.trans (hb.mono H4.out.lj.below.size)).mono B0.out.size))
            clear hb
            go_wp2_with fail
            go_ret
            exact ⟨rfl, B9.out⟩


set_option maxRecDepth 100000 in
theorem journalSafe_lifted (os : Os) (started : os.Started) (H : Type) (enc : TypeId × Value → H) :
    ReturnsInHanded {} Try.checked os 3 .any (Rows.journalSafeSpec.pre6 enc Try.prog Try.f3 Rows.journalSafeRow.domain false) (Rows.journalSafeSpec.post enc Try.prog Try.f3 false true false false) := by
  refine Shell.law_lifted (C := Try.checked) (tb := 4) (by kernel_rfl) started (by kernel_rfl) Try.func3
    (ChangeSpec.witness6 (enc := enc) (C := Try.checked) false ⟨#[], #[.slice none 0 0, .string ⟨#[]⟩, .agg #[.int .i64 0, .int .i64 0, .int .i64 0]], []⟩ 8 (by kernel_rfl) (by kernel_rfl) (by kernel_rfl) (by kernel_rfl))
    (by kernel_rfl) (by kernel_rfl) rfl rfl Try.underlying4 ?_
  intro W base args ds p hval0 hA0
  have hval : ∀ (j : Nat) t v, Try.f3.params[j]? = some t → args[j]? = some v → Value.okWide Try.prog W .any base t v := hval0
  have hA : DataW.TrodAll enc Try.prog W 0 (fun _ => true) true Try.f3.params.toList args.toList ds p := hA0
  clear hval0 hA0
  rw [Try.params3] at hA hval
  obtain ⟨v0, vs0, d0, ds0, p0, q0, hargs, rfl, rfl, h0, r0⟩ := trodAll_cons hA
  obtain ⟨v1, vs1, d1, ds1, p1, q1, rfl, rfl, rfl, h1, r1⟩ := trodAll_cons r0
  obtain ⟨v2, vs2, d2, ds2, p2, q2, rfl, rfl, rfl, h2, r2⟩ := trodAll_cons r1
  obtain ⟨rfl, rfl, rfl⟩ := trodAll_nil r2
  obtain rfl : args = #[v0, v1, v2] := by cases args; simp_all
  refine ⟨rfl, ?_⟩
  obtain ⟨l0, hv0, -⟩ := open_texts Try.underlying22 Try.underlying9 (by kernel_rfl) (hval 0 22 v0 rfl rfl) h0
  obtain ⟨s, rfl, -, -, w1⟩ := ChangeMaps.open_string Try.underlying9 (hval 1 9 v1 rfl rfl) h1
  have w1q : s.size ≤ 9223372036854775807 := by unfold maxLen at w1; omega
  obtain ⟨zs, hzl, rfl, hz⟩ := Shell.open_arr Try.underlying23 Try.underlying3 (by kernel_rfl) (by kernel_rfl) (hval 2 23 v2 rfl rfl) h2
  obtain ⟨n0, n1, n2, rfl⟩ := Shell.list3 zs hzl
  exact journal_safe l0 s n0 n1 n2 v0 W hv0 w1q

theorem journalSafe_over : Rows.journalSafeRow.holds Try.pinned (OpenSpec.ofChange Rows.journalSafeSpec) :=
  OpenClaim.holds_of_wide 3 Try.f3 rfl rfl rfl rfl rfl rfl rfl ⟨rfl, rfl, rfl, rfl, rfl⟩ rfl rfl rfl rfl rfl (by kernel_rfl) Try.func3 (by kernel_rfl)
    (of_decide_eq_true (by kernel_rfl)) (by unfold Func.isWrapper; first | (rw [if_pos (by decide +kernel)]; kernel_rfl) | (rw [if_neg (by decide +kernel)]; exact ⟨rfl, rfl⟩))
    (fun os st H enc _ => journalSafe_lifted os st H enc)

/-- The statement. -/
theorem journalSafe_proved : Rows.JournalSafeSaid := journalSafe_over
end Go.Proofs.Ytndanhacmfhlaaa.Law
