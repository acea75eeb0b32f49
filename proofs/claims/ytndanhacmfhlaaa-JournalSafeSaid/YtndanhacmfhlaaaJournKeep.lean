/- A journal that nothing cuts, beside a list of texts of the call's own: what each call leaves. Of no one law. -/
import Derived.Test.YtndanhacmfhlaaaGJe
import Derived.Test.YtndanhacmfhlaaaGA
namespace Go.Proofs.Ytndanhacmfhlaaa.Jour
open Go.ChangeShapes Go.WideShapes Go.ChangeAt Go.RowKit Go.Deep Els Go.Proofs.Ytndanhacmfhlaaa.Frame Disk Slice

theorem wpList_append_more {P : Program} {ops : Array Oper} {rest : List Oper} {o : Oper} {a : Act} {Q : Exit → Act → World → Prop} (hgd : o.guard = none) (s x : Operand) (t : TypeId)
    (ho : o.op = .call { callee := .builtin .append, args := #[s, x], argTypes := #[t, t] })
    (base : Nat) (e : TypeId) (i : TypeInfo) (z : Value) (bytes : Nat) (ht : P.underlying t = some (.slice e)) (hi : P.info? e = some i) (hz : i.zero = some z)
    (hsize : i.size = 1) (hby : i.bytes = bytes) (hzs : z.cells.size = 1)
    (W : World) (T : TypeId) (u : Value) (h1 : u.oneCell' = true) (v : Value) (n : Nat) (xs : List Value) (hs : a.eval s = v) (hown : W.ownsRow base e 1 v n xs) (g : Nat) (hx : a.eval x = .slice (some ⟨g, 0, none⟩) 1 1) (hgw : g = W.heap.size)
    (h63 : n + 1 ≤ maxLen) (hbytes : (n + 1) * bytes ≤ 140737488355328) (hbase : base ≤ W.heap.size)
    (h : ∀ v' w', w'.ownsRow base e 1 v' (n + 1) (xs ++ [u]) → W.grownBy w' v.ownBlock → (∀ k, v'.ownBlock = some k → v.ownBlock = some k ∨ W.heap.size ≤ k) → wpList P ops Q rest (a.put o.dst v') w') : wpList P ops Q (o :: rest) a (W.alloc (.cells #[u] T)) :=
  wpList_plain hgd fun K hK => by
    obtain ⟨v', w', hr, h2, h3, h4⟩ := run_append_more (P := P) (W.alloc (.cells #[u] T)) t o.type base e i z bytes ht hi hz hsize hby hzs v n xs (hown.alloc _) ⟨W.heap.size, 0, none⟩ 1 u (one_elem W u T 0 u rfl) h1 h63 hbytes (by simp; omega)
    unfold Oper.wp execOp
    simp only [ho, resolve, invoke, builtin, Sem.run_bind, Sem.run_pure, Result.andThen_ok, List.map_toArray, List.map_cons, List.map_nil, hs, hx, hgw, hr]
    exact hK _ _ (h v' w' h2 (grown_new h3) (fun k hk => (h4 k hk).imp id (fun h => by simp at h; omega)))
/-- A Save on a disk that nothing cuts. -/
theorem save_sure {q : DSt} {j : JSt} {m : Nat} {s : ByteArray} (h : Inv q j m) (hq : Live q) (hu : q.armed = false) (hd : j.dead = false) (hs : s.size ≤ 60000) :
    ((save q j s).e = 0 ∧ (save q j s).j = ⟨s, [], j.next + 1, 1 - j.area, sizeN s.size, false⟩ ∧ Inv (save q j s).q (save q j s).j j.next ∧ (save q j s).q.dead = false ∧ (save q j s).q.armed = false ∧ (save q j s).q.S.length = q.S.length ∧ (AllOld q j.next → AllOld (save q j s).q (j.next + 1))) ∨
    save q j s = ⟨q, j, 73⟩ := by
  obtain ⟨d1, d2, d3, d4, d5⟩ := save_done h hq hd hs (fun e => by rw [hu] at e; cases e)
  rcases d2 with e | e | e
  · obtain ⟨c1, c2, c3, c4, c5⟩ := d3 e
    exact Or.inl ⟨e, c1, c2, c3, by rw [c4, hu], d1, c5⟩
  · obtain ⟨c1, c2⟩ := d4 e
    refine Or.inr ?_
    generalize save q j s = x at *
    cases x
    simp only at c1 c2 e
    rw [c1, c2, e]
  · have := (d5 e).1
    rw [hu] at this; cases this
theorem all_small {f : Nat → ByteArray} : ∀ {l : List ByteArray} {p num : Nat}, AllAt f p num l → ∀ s ∈ l, s.size ≤ 60000
  | x :: l, p, num, h, s, hs => by
    rcases List.mem_cons.1 hs with rfl | hs
    · exact h.1.1
    · exact all_small h.2 s hs
theorem inv_texts {q : DSt} {j : JSt} {m : Nat} (h : Inv q j m) : j.base.size ≤ 60000 ∧ ∀ s ∈ j.recs, s.size ≤ 60000 := ⟨h.recs.1.1, all_small h.recs.2⟩
theorem writeE_no73 (q : DSt) (n : Int) (s : ByteArray) : q.writeE n s ≠ 73 := by
  unfold DSt.writeE
  repeat' split
  all_goals decide
theorem wrK_no73 (l : List ByteArray) (at_ : Nat) : ∀ (k : Nat) (q : DSt), (wrK l at_ k q).2 ≠ 73
  | 0, q => by show (0 : Int) ≠ 73; decide
  | k + 1, q => by
    unfold wrK
    split
    · exact wrK_no73 l at_ k _
    · exact writeE_no73 _ _ _
theorem write_no73 (q : DSt) (at_ num : Nat) (s : ByteArray) : (writeR q at_ num s).2 ≠ 73 := wrK_no73 _ _ _ _
/-- A journal over a disk of K sectors; the texts rs lie at V8, apart from it; ao: all of the disk is older than the next number. -/
structure KU (w W : World) (K : Nat) (ao : Bool) (gj g b : Nat) (V : Value) (q : DSt) (j : JSt) (V8 : Value) (rs : List ByteArray) (m n : Nat) : Prop where
  lj : LJ w W gj g b V q j
  inv : Inv q j m
  live : Live q
  arm : q.armed = false
  dead : j.dead = false
  len : q.S.length = K
  room : 8 ≤ K ∧ K ≤ 600
  fit : q.Fit K (600 * (n + 1))
  nx : j.next ≤ 2 + 2 * n
  old : ao = true → AllOld q j.next
  own : W.ownsRow w.heap.size 9 1 V8 rs.length (rs.map Value.string)
  wlo : ∀ c, V8.ownBlock = some c → ¬ J4 gj g b V c
section
variable {w W W' : World} {K : Nat} {ao : Bool} {gj g b : Nat} {V V8 : Value} {q : DSt} {j : JSt} {rs : List ByteArray} {m n : Nat}
theorem KU.more (h : KU w W K ao gj g b V q j V8 rs m n) (hb : Below W.heap.size W W') : KU w W' K ao gj g b V q j V8 rs m n :=
  { h with lj := h.lj.more hb, own := own_keep h.own (fun c hc => hb.block c (h.own.lt c hc).2) }
theorem KU.heap (h : KU w W K ao gj g b V q j V8 rs m n) (k : Nat) : KU w (W.drewN k) K ao gj g b V q j V8 rs m n :=
  { h with lj := h.lj.heap k, own := own_keep h.own (fun _ _ => rfl) }
theorem KU.later (h : KU w W K ao gj g b V q j V8 rs m n) (k : Nat) (hk : n ≤ k) : KU w W K ao gj g b V q j V8 rs m k :=
  { h with fit := h.fit.more (by omega), nx := by have := h.nx; omega }
/-- What a call on the journal leaves of the texts. -/
theorem own_did {V' : Value} (ho1 : W.ownsRow w.heap.size 9 1 V8 rs.length (rs.map Value.string)) (hw : ∀ c, V8.ownBlock = some c → ¬ J4 gj g b V c) (ho : OnlyF (J4 gj g b V) W W') (hv : ∀ c, V'.ownBlock = some c → V.ownBlock = some c ∨ W.heap.size ≤ c) : W'.ownsRow w.heap.size 9 1 V8 rs.length (rs.map Value.string) ∧ ∀ c, V8.ownBlock = some c → ¬ J4 gj g b V' c :=
  ⟨own_keep ho1 (fun c hc => ho.block c (ho1.lt c hc).2 (hw c hc)), fun c hc e => by
    have := (ho1.lt c hc).2
    rcases e with e | e
    · exact hw c hc (Or.inl e)
    · rcases hv c e with e | e
      · exact hw c hc (Or.inr e)
      · omega⟩
theorem KU.grow {V8' : Value} {rs' : List ByteArray} (h : KU w W K ao gj g b V q j V8 rs m n) (hg : W.grownBy W' V8.ownBlock) (ho : W'.ownsRow w.heap.size 9 1 V8' rs'.length (rs'.map Value.string)) (hv : ∀ c, V8'.ownBlock = some c → V8.ownBlock = some c ∨ W.heap.size ≤ c) : KU w W' K ao gj g b V q j V8' rs' m n := by
  have hk : ∀ i, J4 gj g b V i → W'.heap[i]? = W.heap[i]? := fun i hi => hg.block i (h.lj.at_.lt4 i hi) (fun e => h.wlo i e.symm hi)
  refine { h with lj := ⟨h.lj.at_.keep hk, below_row h.lj.below (Nat.le_refl _) h.own hg, h.lj.lo, h.lj.vlo⟩, own := ho, wlo := fun c hc => ?_ }
  rcases hv c hc with e | e
  · exact h.wlo c e
  · exact fun hj => by have := h.lj.at_.lt4 c hj; omega
/-- The texts are laid anew: none. -/
theorem KU.none_ (h : KU w W K ao gj g b V q j V8 rs m n) : KU w W K ao gj g b V q j (.slice none 0 0) [] m n :=
  { h with own := ⟨rfl, Or.inl ⟨rfl, rfl⟩⟩, wlo := fun c hc => by cases hc }
/-- The texts are laid anew: none, in a block of their own. -/
theorem KU.empty {T : TypeId} (h : KU w W K ao gj g b V q j V8 rs m n) (hT : T = 9) : KU w (W.alloc (.cells #[] T)) K ao gj g b V q j (.slice (some ⟨W.heap.size, 0, none⟩) 0 0) [] m n := by
  subst hT
  exact { h with
    lj := h.lj.more ((Below.refl _ _).alloc (Nat.le_refl _) _)
    own := World.ownsRow_lit (size := 1) W #[] 0 h.lj.below.size (by simp) (by simp)
    wlo := fun c hc hj => by
      have hc' : W.heap.size = c := Option.some.inj hc
      have := h.lj.at_.lt4 c hj
      omega }
theorem KU.len8 (h : KU w W K ao gj g b V q j V8 rs m n) : 2 ≤ q.S.length ∧ q.S.length ≤ 4096 := by have := h.len; have := h.room; omega
theorem KU.few (h : KU w W K ao gj g b V q j V8 rs m n) : j.recs.length ≤ 5000 := by
  have h1 := (inv_fit h.inv).recs
  have h2 := (inv_fit h.inv).used
  have h3 : roomD q ≤ 4096 := by have := h.len8; unfold roomD; omega
  omega
theorem ku_append {s : ByteArray} (h : KU w W K ao gj g b V q j V8 rs m n) (hn : n ≤ 1000) (hs : s.size ≤ 60000) : Calls Try.prog 8 #[.pointer (some ⟨gj, 0, none⟩), .string s] W fun e w' => ∃ er : Int, e = .returned (.int .i64 er) ∧ ((er = 0 ∧ ∃ V' q' j' m', j'.base = j.base ∧ j'.recs = j.recs ++ [s] ∧ j'.next = j.next + 1 ∧ KU w w' K ao gj g b V' q' j' V8 rs m' (n + 1)) ∨ (er = 73 ∧ ∃ V', KU w w' K ao gj g b V' q j V8 rs m (n + 1))) :=
  (p_append q j gj g b K (600 * (n + 1)) V s W h.lj.at_ h.fit (by omega) h.len8.2 h.len8.1 (inv_fit h.inv) (by have := h.inv.next; omega) (by omega)).mono fun e w' kk => by
    obtain ⟨k1, V', k2, k3, k4⟩ := h.lj.did kk
    obtain ⟨o1, o2⟩ := own_did h.own h.wlo k3 k4
    rcases append_sure (s := s) h.inv h.live h.arm h.dead hs with ⟨e1, e2, e3, e4, e5, e6, e7, e8, e9, e10⟩ | ⟨e1, -⟩
    · have hq := append_qfit (j := j) (s := s) h.fit
      exact ⟨_, k1, Or.inl ⟨e1, V', _, _, m, by rw [e4], by rw [e4], by rw [e4], ⟨k2, e5, Live.of_fit hq e6, e7, by rw [e4], e9.trans h.len, h.room, hq.more (by omega), (by rw [e4]; have := h.nx; show j.next + 1 ≤ _; omega), fun a => by rw [e4]; exact e10 (h.old a), o1, o2⟩⟩⟩
    · rw [e1] at k1 k2
      exact ⟨_, k1, Or.inr ⟨rfl, V', ⟨k2, h.inv, h.live, h.arm, h.dead, h.len, h.room, h.fit.more (by omega), (by have := h.nx; omega), h.old, o1, o2⟩⟩⟩
theorem ku_save {s : ByteArray} (h : KU w W K ao gj g b V q j V8 rs m n) (hn : n ≤ 1000) (hs : s.size ≤ 60000) : Calls Try.prog 7 #[.pointer (some ⟨gj, 0, none⟩), .string s] W fun e w' => ∃ er : Int, e = .returned (.int .i64 er) ∧ ((er = 0 ∧ ∃ V' q' j' m', j'.base = s ∧ j'.recs = [] ∧ j'.next = j.next + 1 ∧ KU w w' K ao gj g b V' q' j' V8 rs m' (n + 1)) ∨ (er = 73 ∧ (roomD q < sizeN s.size ∨ Jour.most < j.next) ∧ ∃ V', KU w w' K ao gj g b V' q j V8 rs m (n + 1))) :=
  (p_save q j gj g b K (600 * (n + 1)) V s W h.lj.at_ h.fit (by omega) h.len8.2 h.len8.1 (inv_fit h.inv) (by have := h.inv.next; omega) (by omega)).mono fun e w' kk => by
    obtain ⟨k1, V', k2, k3, k4⟩ := h.lj.did kk
    obtain ⟨o1, o2⟩ := own_did h.own h.wlo k3 k4
    rcases save_sure (s := s) h.inv h.live h.arm h.dead hs with ⟨e1, e4, e5, e6, e7, e9, e10⟩ | e1
    · have hq := save_qfit (j := j) (s := s) h.fit
      exact ⟨_, k1, Or.inl ⟨e1, V', _, _, j.next, by rw [e4], by rw [e4], by rw [e4], ⟨k2, e5, Live.of_fit hq e6, e7, by rw [e4], e9.trans h.len, h.room, hq.more (by omega), (by rw [e4]; have := h.nx; show j.next + 1 ≤ _; omega), fun a => by rw [e4]; exact e10 (h.old a), o1, o2⟩⟩⟩
    · have hf : roomD q < sizeN s.size ∨ Jour.most < j.next := by
        by_cases hf : roomD q < sizeN s.size ∨ Jour.most < j.next
        · exact hf
        · rw [save_is h.dead hs (by omega) (by omega)] at e1
          exfalso
          have := congrArg Done.e e1
          revert this
          split
          · rename_i hne
            intro e3
            have e3' : (writeR q (startD q (1 - j.area)) j.next s).2 = 73 := e3
            have := write_no73 q (startD q (1 - j.area)) j.next s
            exact this e3'
          · split
            · intro e3
              exact write_no73 _ _ _ _ e3
            · intro e3
              cases e3
      rw [e1] at k1 k2
      exact ⟨_, k1, Or.inr ⟨rfl, hf, V', ⟨k2, h.inv, h.live, h.arm, h.dead, h.len, h.room, h.fit.more (by omega), (by have := h.nx; omega), h.old, o1, o2⟩⟩⟩
theorem ku_next (h : KU w W K ao gj g b V q j V8 rs m n) : Calls Try.prog 22 #[.pointer (some ⟨gj, 0, none⟩)] W fun e w' => e = .returned (.int .u32 (j.next : Nat)) ∧ W = w' := p_next q j gj g b V W h.lj.at_
theorem ku_base (h : KU w W K ao gj g b V q j V8 rs m n) : Calls Try.prog 13 #[.pointer (some ⟨gj, 0, none⟩)] W fun e w' => e = .returned (.string j.base) ∧ KU w w' K ao gj g b V q j V8 rs m n :=
  (p_base q j gj g b V W h.lj.at_ h.inv.recs.1.1).mono fun _ _ kk => ⟨kk.1, h.more kk.2⟩
theorem ku_records (h : KU w W K ao gj g b V q j V8 rs m n) : Calls Try.prog 15 #[.pointer (some ⟨gj, 0, none⟩)] W fun e w' => ∃ A k c, e = .returned (.slice A k c) ∧ KU w w' K ao gj g b V q j V8 rs m n ∧ w'.ownsRow W.heap.size 9 1 (.slice A k c) j.recs.length (j.recs.map Value.string) ∧ k = j.recs.length :=
  (p_records q j gj g b V W h.lj.at_ h.few (all_small h.inv.recs.2)).mono fun e w' kk => by
    obtain ⟨v, k1, k2, k3⟩ := kk
    obtain ⟨A, c, rfl⟩ := Slice.own_slice k2
    exact ⟨A, _, c, k1, h.more k3, k2, rfl⟩
theorem ku_left (h : KU w W K ao gj g b V q j V8 rs m n) : Calls Try.prog 23 #[.pointer (some ⟨gj, 0, none⟩)] W fun e w' => e = .returned (.int .i64 (leftN q j)) ∧ KU w w' K ao gj g b V q j V8 rs m n :=
  (p_left q j gj g b V W h.lj.at_ h.len8.2 h.len8.1 (inv_fit h.inv)).mono fun e w' kk => by
    obtain ⟨k1, k, rfl⟩ := kk
    exact ⟨k1, h.heap k⟩
/-- Texts that lie at a slice, and those of the row. -/
theorem ku_texts {v : Value} {B : Nat} (h : KU w W K ao gj g b V q j V8 rs m n) (hv : Txts W B v rs) : Calls Try.prog 14 #[v, V8] W fun e w' => e = .returned (.bool true) ∧ KU w w' K ao gj g b V q j V8 rs m n :=
  (texts_same rs v V8 _ _ W hv (Els.of_own (l := rs) rfl h.own)).mono fun e w' kk => by
    obtain ⟨k1, k, rfl⟩ := kk
    exact ⟨k1, h.heap k⟩
/-- A journal opened anew: another block, the same journal. -/
theorem ku_new {gj' : Nat} {V' : Value} (h : KU w W K ao gj g b V q j V8 rs m n) (hj : LJ w W' gj' g b V' q j) (ho : OnlyF (F2 g b) W W') (hg : W.heap.size ≤ gj') (hV : ∀ c, V'.ownBlock = some c → W.heap.size ≤ c) : KU w W' K ao gj' g b V' q j V8 rs m n :=
  { h with
    lj := hj
    own := own_keep h.own (fun c hc => ho.block c (h.own.lt c hc).2 (fun e => h.wlo c hc (by rcases e with e | e; exact Or.inl (Or.inr (Or.inl e)); exact Or.inl (Or.inr (Or.inr e)))))
    wlo := fun c hc e => by
      have h1 := (h.own.lt c hc).2
      rcases e with (e | e | e) | e
      · omega
      · exact h.wlo c hc (Or.inl (Or.inr (Or.inl e)))
      · exact h.wlo c hc (Or.inl (Or.inr (Or.inr e)))
      · have := hV c e; omega }
theorem ku_open (h : KU w W K ao gj g b V q j V8 rs m n) : Calls Try.prog 12 #[.pointer (some ⟨g, 0, none⟩)] W fun e w' => ∃ gj' V', e = .returned (.tuple #[.pointer (some ⟨gj', 0, none⟩), .int .i64 0]) ∧ KU w w' K ao gj' g b V' q j V8 rs m n := by
  have ho := open_inv h.inv h.live.dead
  rw [show (⟨j.base, j.recs, j.next, j.area, j.used, false⟩ : JSt) = j by rw [← h.dead]] at ho
  refine (l_open h.lj.ld h.fit (by have := h.len; have := h.room; omega) ho).mono fun e w' kk => ?_
  obtain ⟨gj', V', k1, k2, k3, k4, k5⟩ := kk
  exact ⟨gj', V', k1, ku_new h k2 k3 k4 k5⟩
/-- Formatted anew. -/
theorem ku_format {s : ByteArray} (h : KU w W K ao gj g b V q j V8 rs m n) (hn : n ≤ 1000) (hs : s.size ≤ 60000) (hr : sizeN s.size ≤ (K - 2) / 2) : Calls Try.prog 5 #[.pointer (some ⟨g, 0, none⟩), .string s] W fun e w' => ∃ gj' V' q' j' m', e = .returned (.tuple #[.pointer (some ⟨gj', 0, none⟩), .int .i64 0]) ∧ j'.base = s ∧ j'.recs = [] ∧ KU w w' K false gj' g b V' q' j' (.slice none 0 0) [] m' (n + 1) := by
  have ht : topN q ≤ j.next := top_le q j.next q.S.length h.inv.nums
  have hnx := h.nx
  have hrm : roomD q = (K - 2) / 2 := by unfold roomD; rw [h.len]
  obtain ⟨q', f1, f2, f3, f4, f5, -, f7⟩ := format_done (q := q) (s := s) h.live h.arm h.inv.fits h.inv.most hs (by rw [hrm]; exact hr) (by omega)
  have hq := format_qfit (s := s) h.fit
  rw [f1] at hq
  refine (l_format s h.lj.ld h.fit (by omega) h.len8.2 (by omega) f1).mono fun e w' kk => ?_
  obtain ⟨gj', V', k1, k2, k3, k4, k5⟩ := kk
  exact ⟨gj', V', q', _, _, k1, rfl, rfl, ⟨k2, f2, f7, f4, rfl, f5.trans h.len, h.room, hq.more (by omega), (by show topN q + 2 ≤ _; omega), fun a => (by cases a), ⟨rfl, Or.inl ⟨rfl, rfl⟩⟩, fun c hc => (by cases hc)⟩⟩
/-- The first journal on a new disk. -/
theorem ku_first {s : ByteArray} (h8 : 8 ≤ K ∧ K ≤ 600) (h2 : K % 2 = 0) (hs : s.size ≤ 60000) (hr : sizeN s.size ≤ (K - 2) / 2) (h : LD w W g b (newD K)) : Calls Try.prog 5 #[.pointer (some ⟨g, 0, none⟩), .string s] W fun e w' => ∃ gj' V' q' j' m', e = .returned (.tuple #[.pointer (some ⟨gj', 0, none⟩), .int .i64 0]) ∧ j'.base = s ∧ j'.recs = [] ∧ KU w w' K true gj' g b V' q' j' (.slice none 0 0) [] m' 0 := by
  obtain ⟨q', f0, I0, d0, a0, n0, o0, L0, F0⟩ := new_format (k := K) (s := s) h8.1 h2 (by omega) hs hr
  refine (l_format s h (new_fit (by omega)) (by decide) (by rw [newD_len]; omega) (by omega) f0).mono fun e w' kk => ?_
  obtain ⟨gj', V', k1, k2, -⟩ := kk
  exact ⟨gj', V', q', _, _, k1, rfl, rfl, ⟨k2, I0, L0, a0, rfl, n0, h8, F0, Nat.le_refl _, fun _ => o0, ⟨rfl, Or.inl ⟨rfl, rfl⟩⟩, fun c hc => by cases hc⟩⟩
end
end Go.Proofs.Ytndanhacmfhlaaa.Jour
