/- Without crashes it tells just what was appended since the last save, and that save; each number is given once. For every list of steps. -/
import Derived.Test.YtdnodampmpdfbaaGA
import Derived.Test.YtdnodampmpdfbaaGJe
import Derived.Deep.RegionHeld3
import Derived.Deep.DeepCutAuto
import Derived.Deep.CutBlock
import Derived.ChangeMaps5
namespace Go.Proofs.Ytdnodampmpdfbaa.Law
open Go.ChangeShapes Go.WideShapes Go.ChangeAt Go.RowKit Go.Deep Els Go.Proofs.Ytdnodampmpdfbaa.Frame Disk Jour Stp Slice

theorem wpList_append_more {P : Program} {ops : Array Oper} {rest : List Oper} {o : Oper} {a : Act} {Q : Exit → Act → World → Prop} (hgd : o.guard = none) (s x : Operand) (t : TypeId)
    (ho : o.op = .call { callee := .builtin .append, args := #[s, x], argTypes := #[t, t] })
    (base : Nat) (e : TypeId) (i : TypeInfo) (z : Value) (bytes : Nat) (ht : P.underlying t = some (.slice e)) (hi : P.info? e = some i) (hz : i.zero = some z)
    (hsize : i.size = 1) (hby : i.bytes = bytes) (hzs : z.cells.size = 1)
    (W : World) (T : TypeId) (u : Value) (h1 : u.oneCell' = true) (v : Value) (n : Nat) (xs : List Value) (hs : a.eval s = v) (hown : W.ownsRow base e 1 v n xs) (g : Nat) (hx : a.eval x = .slice (some ⟨g, 0, none⟩) 1 1) (hgw : g = W.heap.size)
    (h63 : n + 1 ≤ maxLen) (hbytes : (n + 1) * bytes ≤ 140737488355328) (hbase : base ≤ W.heap.size)
    (h : ∀ v' w', w'.ownsRow base e 1 v' (n + 1) (xs ++ [u]) → W.grownBy w' v.ownBlock → (∀ k, v'.ownBlock = some k → v.ownBlock = some k ∨ W.heap.size ≤ k) → wpList P ops Q rest (a.put o.dst v') w') : wpList P ops Q (o :: rest) a (W.alloc (.cells #[u] T)) :=
  wpList_plain hgd fun K hK => by
    obtain ⟨v', w', hr, h2, h3, h4⟩ := run_append_more (P := P) (W.alloc (.cells #[u] T)) t o.type base e i z bytes ht hi hz hsize hby hzs v n xs (hown.alloc _) ⟨W.heap.size, 0, none⟩ 1 u (one_elem W u T 0 u rfl) h1 h63 hbytes (by simp; omega)
    unfold Oper.wp execOp
    simp only [ho, resolve, invoke, builtin, Sem.run_bind, Sem.run_pure, Result.andThen_ok, List.map_toArray, List.map_cons, List.map_nil, hs, hx, hgw, hr]
    exact hK _ _ (h v' w' h2 (grown_new h3) (fun k hk => (h4 k hk).imp id (fun h => by simp at h; omega)))
/-- What Fair tells. -/
def FairT (l : List St) (e : Ending) : Prop := ∃ B : Bool, e = .returned (.bool B) ∧ (B = true → l.length ≤ 60)
theorem r_fairT (l : List St) (v : Value) (B : Nat) (w : World) (hv : Sts w B v l) : Calls Try.prog 24 #[v] w fun e w' => FairT l e ∧ w = w' := by
  obtain ⟨A, c, rfl, hn, -, hc⟩ := hv
  have HC := Lib.hid hc
  clear hc
  go_enter Try.func24, Try.ntmps24
  go_wp2_with fail
  go_loop [3, 4] (fun s3 s4 => ∃ (t : Int) (j : Nat), j ≤ l.length ∧ s3 = .int .i64 t ∧ s4 = .int .i64 j) (fun _ s4 => l.length - (intOf s4).toNat)
  case atStart => exact ⟨0, 0, Nat.zero_le _, rfl, rfl⟩
  case round =>
    obtain ⟨t, j, hj, rfl, rfl⟩ := hrel
    by_cases hlt : j < l.length
    · obtain ⟨b, off, rfl, -, hx⟩ := HC.out (by omega)
      have x3 := (hx j hlt).2.2.2
      have t1 : decide (j < l.length) = true := decide_eq_true hlt
      have h0 : (0 : Int) ≤ j := by omega
      clear hx
      generalize (l.getD j st0).s = x at *
      by_cases hs : x.size ≤ 61000
      · have t2 : decide (61000 < x.size) = false := decide_eq_false (by omega)
        have t2' : decide ((61000 : Int) < x.size) = false := decide_eq_false (by omega)
        clear hs
        go_wp2_with fail
        go_round
        case rel => exact ⟨_, j + 1, by omega, rfl, by go_num⟩
        case measure => simp [intOf]; omega
      · have t2 : decide (61000 < x.size) = true := decide_eq_true (by omega)
        have t2' : decide ((61000 : Int) < x.size) = true := decide_eq_true (by omega)
        clear hs
        go_wp2_with fail
        go_ret
        exact ⟨⟨false, rfl, fun e => by cases e⟩, rfl⟩
    · obtain rfl : j = l.length := by omega
      have t1 : decide (l.length < l.length) = false := decide_eq_false (by omega)
      by_cases h60 : l.length ≤ 60
      · have t3 : decide ((l.length : Int) ≤ 60) = true := decide_eq_true (by omega)
        go_wp2_with fail
        go_ret
        exact ⟨⟨_, rfl, fun _ => h60⟩, rfl⟩
      · have t3 : decide ((l.length : Int) ≤ 60) = false := decide_eq_false (by omega)
        go_wp2_with fail
        go_ret
        exact ⟨⟨false, rfl, fun e => by cases e⟩, rfl⟩
/-- A Save on a disk that nothing cuts. -/
theorem save_sure {q : DSt} {j : JSt} {m : Nat} {s : ByteArray} (h : Inv q j m) (hq : Live q) (hu : q.armed = false) (hd : j.dead = false) (hs : s.size ≤ 60000) :
    ((save q j s).e = 0 ∧ (save q j s).j = ⟨s, [], j.next + 1, 1 - j.area, sizeN s.size, false⟩ ∧ Inv (save q j s).q (save q j s).j j.next ∧ (save q j s).q.dead = false ∧ (save q j s).q.armed = false ∧ (save q j s).q.S.length = q.S.length ∧ (AllOld q j.next → AllOld (save q j s).q (j.next + 1))) ∨
    save q j s = ⟨q, j, 73⟩ := by
  obtain ⟨d1, d2, d3, d4, d5⟩ := save_done h hq hd hs (fun e => by rw [hu] at e; cases e)
  rcases d2 with e | e | e
  · obtain ⟨c1, c2, c3, c4, c5⟩ := d3 e
    exact Or.inl ⟨e, c1, c2, c3, by rw [c4, hu], d1, c5⟩
  · obtain ⟨c1, c2⟩ := d4 e
    refine Or.inr ?_
    generalize save q j s = x at *
    cases x
    simp only at c1 c2 e
    rw [c1, c2, e]
  · have := (d5 e).1
    rw [hu] at this; cases this
theorem all_small {f : Nat → ByteArray} : ∀ {l : List ByteArray} {p num : Nat}, AllAt f p num l → ∀ s ∈ l, s.size ≤ 60000
  | x :: l, p, num, h, s, hs => by
    rcases List.mem_cons.1 hs with rfl | hs
    · exact h.1.1
    · exact all_small h.2 s hs
theorem inv_texts {q : DSt} {j : JSt} {m : Nat} (h : Inv q j m) : j.base.size ≤ 60000 ∧ ∀ s ∈ j.recs, s.size ≤ 60000 := ⟨h.recs.1.1, all_small h.recs.2⟩
/-- What holds between two rounds: the texts rs lie at V8, apart from the journal. -/
structure TU (w W : World) (gj g b : Nat) (V : Value) (q : DSt) (j : JSt) (V8 : Value) (rs : List ByteArray) (m i : Nat) : Prop where
  lj : LJ w W gj g b V q j
  inv : Inv q j m
  live : Live q
  arm : q.armed = false
  dead : j.dead = false
  len : q.S.length = 300
  fit : q.Fit 300 (600 + 600 * i)
  nx : j.next ≤ 2 + i
  own : W.ownsRow w.heap.size 9 1 V8 rs.length (rs.map Value.string)
  wlo : ∀ c, V8.ownBlock = some c → ¬ J4 gj g b V c
section
variable {w W W' : World} {gj g b : Nat} {V V8 : Value} {q : DSt} {j : JSt} {rs : List ByteArray} {m i : Nat}
theorem TU.more (h : TU w W gj g b V q j V8 rs m i) (hb : Below W.heap.size W W') : TU w W' gj g b V q j V8 rs m i :=
  ⟨h.lj.more hb, h.inv, h.live, h.arm, h.dead, h.len, h.fit, h.nx, own_keep h.own (fun c hc => hb.block c (h.own.lt c hc).2), h.wlo⟩
theorem TU.heap (h : TU w W gj g b V q j V8 rs m i) (n : Nat) : TU w (W.drewN n) gj g b V q j V8 rs m i :=
  ⟨h.lj.heap n, h.inv, h.live, h.arm, h.dead, h.len, h.fit, h.nx, own_keep h.own (fun _ _ => rfl), h.wlo⟩
/-- What a call on the journal leaves of the texts. -/
theorem own_did {V' : Value} (h : TU w W gj g b V q j V8 rs m i) (ho : OnlyF (J4 gj g b V) W W') (hv : ∀ c, V'.ownBlock = some c → V.ownBlock = some c ∨ W.heap.size ≤ c) : W'.ownsRow w.heap.size 9 1 V8 rs.length (rs.map Value.string) ∧ ∀ c, V8.ownBlock = some c → ¬ J4 gj g b V' c :=
  ⟨own_keep h.own (fun c hc => ho.block c (h.own.lt c hc).2 (h.wlo c hc)), fun c hc e => by
    have := (h.own.lt c hc).2
    rcases e with e | e
    · exact h.wlo c hc (Or.inl e)
    · rcases hv c e with e | e
      · exact h.wlo c hc (Or.inr e)
      · omega⟩
theorem TU.grow {V8' : Value} {rs' : List ByteArray} (h : TU w W gj g b V q j V8 rs m i) (hg : W.grownBy W' V8.ownBlock) (ho : W'.ownsRow w.heap.size 9 1 V8' rs'.length (rs'.map Value.string)) (hv : ∀ c, V8'.ownBlock = some c → V8.ownBlock = some c ∨ W.heap.size ≤ c) : TU w W' gj g b V q j V8' rs' m i := by
  have hk : ∀ i, J4 gj g b V i → W'.heap[i]? = W.heap[i]? := fun i hi => hg.block i (h.lj.at_.lt4 i hi) (fun e => h.wlo i e.symm hi)
  refine ⟨⟨h.lj.at_.keep hk, below_row h.lj.below (Nat.le_refl _) h.own hg, h.lj.lo, h.lj.vlo⟩, h.inv, h.live, h.arm, h.dead, h.len, h.fit, h.nx, ho, fun c hc => ?_⟩
  rcases hv c hc with e | e
  · exact h.wlo c e
  · exact fun hj => by have := h.lj.at_.lt4 c hj; omega
/-- The texts are laid anew: none. -/
theorem TU.none_ (h : TU w W gj g b V q j V8 rs m i) : TU w W gj g b V q j (.slice none 0 0) [] m i :=
  ⟨h.lj, h.inv, h.live, h.arm, h.dead, h.len, h.fit, h.nx, ⟨rfl, Or.inl ⟨rfl, rfl⟩⟩, fun c hc => by cases hc⟩
end
theorem st_in {l : List St} {i : Nat} (h : i < l.length) : l.getD i st0 ∈ l := by
  rw [List.getD_eq_getElem?_getD, List.getElem?_eq_getElem h]; exact List.getElem_mem h
section
variable {w W W' : World} {gj g b : Nat} {V V8 : Value} {q : DSt} {j : JSt} {rs : List ByteArray} {m i : Nat}
theorem TU.room (h : TU w W gj g b V q j V8 rs m i) : 2 ≤ q.S.length ∧ q.S.length ≤ 4096 := by have := h.len; omega
theorem TU.few (h : TU w W gj g b V q j V8 rs m i) : j.recs.length ≤ 5000 := by
  have h1 := (inv_fit h.inv).recs
  have h2 := (inv_fit h.inv).used
  have h3 : roomD q ≤ 4096 := by unfold roomD; rw [h.len]; omega
  omega
theorem t_append {s : ByteArray} (h : TU w W gj g b V q j V8 rs m i) (hi : i < 60) (hs : s.size ≤ 9223372036854775807) : Calls Try.prog 12 #[.pointer (some ⟨gj, 0, none⟩), .string s] W fun e w' => ∃ er : Int, e = .returned (.int .i64 er) ∧ ((er = 0 ∧ ∃ V' q' j' m', j'.base = j.base ∧ j'.recs = j.recs ++ [s] ∧ j'.next = j.next + 1 ∧ TU w w' gj g b V' q' j' V8 rs m' (i + 1)) ∨ ((er = 73 ∨ er = 2) ∧ ∃ V', TU w w' gj g b V' q j V8 rs m (i + 1))) :=
  (p_append q j gj g b 300 (600 + 600 * i) V s W h.lj.at_ h.fit (by omega) h.room.2 h.room.1 (inv_fit h.inv) (by have := h.inv.next; omega) hs).mono fun e w' kk => by
    obtain ⟨k1, V', k2, k3, k4⟩ := h.lj.did kk
    obtain ⟨o1, o2⟩ := own_did h k3 k4
    by_cases h60 : s.size ≤ 60000
    · rcases append_sure (s := s) h.inv h.live h.arm h.dead h60 with ⟨e1, e2, e3, e4, e5, e6, e7, e8, e9, -⟩ | ⟨e1, -⟩
      · have hq := append_qfit (j := j) (s := s) h.fit
        exact ⟨_, k1, Or.inl ⟨e1, V', _, _, m, by rw [e4], by rw [e4], by rw [e4], ⟨k2, e5, Live.of_fit hq e6, e7, by rw [e4], e9.trans h.len, hq.more (by omega), (by rw [e4]; have := h.nx; show j.next + 1 ≤ _; omega), o1, o2⟩⟩⟩
      · rw [e1] at k1 k2
        exact ⟨_, k1, Or.inr ⟨Or.inl rfl, V', ⟨k2, h.inv, h.live, h.arm, h.dead, h.len, h.fit.more (by omega), (by have := h.nx; omega), o1, o2⟩⟩⟩
    · have e1 : append q j s = ⟨q, j, 2⟩ := by unfold append; rw [if_neg (by rw [h.dead]; decide), if_pos (by omega)]
      rw [e1] at k1 k2
      exact ⟨_, k1, Or.inr ⟨Or.inr rfl, V', ⟨k2, h.inv, h.live, h.arm, h.dead, h.len, h.fit.more (by omega), (by have := h.nx; omega), o1, o2⟩⟩⟩
theorem t_save {s : ByteArray} (h : TU w W gj g b V q j V8 rs m i) (hi : i < 60) (hs : s.size ≤ 9223372036854775807) : Calls Try.prog 11 #[.pointer (some ⟨gj, 0, none⟩), .string s] W fun e w' => ∃ er : Int, e = .returned (.int .i64 er) ∧ ((er = 0 ∧ ∃ V' q' j' m', j'.base = s ∧ j'.recs = [] ∧ j'.next = j.next + 1 ∧ TU w w' gj g b V' q' j' V8 rs m' (i + 1)) ∨ ((er = 73 ∨ er = 2) ∧ ∃ V', TU w w' gj g b V' q j V8 rs m (i + 1))) :=
  (p_save q j gj g b 300 (600 + 600 * i) V s W h.lj.at_ h.fit (by omega) h.room.2 h.room.1 (inv_fit h.inv) (by have := h.inv.next; omega) hs).mono fun e w' kk => by
    obtain ⟨k1, V', k2, k3, k4⟩ := h.lj.did kk
    obtain ⟨o1, o2⟩ := own_did h k3 k4
    by_cases h60 : s.size ≤ 60000
    · rcases save_sure (s := s) h.inv h.live h.arm h.dead h60 with ⟨e1, e4, e5, e6, e7, e9, -⟩ | e1
      · have hq := save_qfit (j := j) (s := s) h.fit
        exact ⟨_, k1, Or.inl ⟨e1, V', _, _, j.next, by rw [e4], by rw [e4], by rw [e4], ⟨k2, e5, Live.of_fit hq e6, e7, by rw [e4], e9.trans h.len, hq.more (by omega), (by rw [e4]; have := h.nx; show j.next + 1 ≤ _; omega), o1, o2⟩⟩⟩
      · rw [e1] at k1 k2
        exact ⟨_, k1, Or.inr ⟨Or.inl rfl, V', ⟨k2, h.inv, h.live, h.arm, h.dead, h.len, h.fit.more (by omega), (by have := h.nx; omega), o1, o2⟩⟩⟩
    · have e1 : save q j s = ⟨q, j, 2⟩ := by unfold save; rw [if_neg (by rw [h.dead]; decide), if_pos (by omega)]
      rw [e1] at k1 k2
      exact ⟨_, k1, Or.inr ⟨Or.inr rfl, V', ⟨k2, h.inv, h.live, h.arm, h.dead, h.len, h.fit.more (by omega), (by have := h.nx; omega), o1, o2⟩⟩⟩
theorem t_start {T : TypeId} (lj : LJ w W gj g b V q j) (inv : Inv q j m) (live : Live q) (arm : q.armed = false) (dead : j.dead = false) (len : q.S.length = 300) (fit : q.Fit 300 600) (nx : j.next ≤ 2) (hT : T = 9) : TU w (W.alloc (.cells #[] T)) gj g b V q j (.slice (some ⟨W.heap.size, 0, none⟩) 0 0) [] m 0 := by
  subst hT
  exact ⟨lj.more ((Below.refl _ _).alloc (Nat.le_refl _) _), inv, live, arm, dead, len, fit, nx, World.ownsRow_lit (size := 1) W #[] 0 lj.below.size (by simp) (by simp), fun c hc hj => by
    have hc' : W.heap.size = c := Option.some.inj hc
    have := lj.at_.lt4 c hj
    omega⟩
end
set_option maxRecDepth 20000 in
set_option maxHeartbeats 16000000 in
theorem journal_tells (l : List St) (v : Value) (w : World) (hv : Sts w w.heap.size v l) (fitl : ∀ z ∈ l, z.Fit) :
    Calls Try.prog 7 #[v] w fun e w' => e = .returned (.bool true) ∧ Below w.heap.size w w' := by
  obtain ⟨q0, f0, I0, d0, a0, n0, -, L0, F0⟩ := new_format (k := 300) (s := ⟨#[98, 97, 115, 101]⟩) (by decide) (by decide) (by decide) (by decide) (by decide)
  have NW := Lib.hid (l_new 300 w w (Below.refl _ _) (by decide) (by decide))
  have FM : Hid (∀ W g b, LD w W g b (newD 300) → Calls Try.prog 9 #[.pointer (some ⟨g, 0, none⟩), .string ⟨#[98, 97, 115, 101]⟩] W fun e w' => ∃ gj V, e = .returned (.tuple #[.pointer (some ⟨gj, 0, none⟩), .int .i64 0]) ∧ LJ w w' gj g b V q0 ⟨⟨#[98, 97, 115, 101]⟩, [], 2, 0, sizeN 4, false⟩) := fun W g b h =>
    (l_format ⟨#[98, 97, 115, 101]⟩ h (new_fit (by omega)) (by decide) (by rw [newD_len]; omega) (by decide) f0).mono fun e w' kk => by
      obtain ⟨gj, V, k1, k2, -⟩ := kk
      exact ⟨gj, V, k1, k2⟩
  have FA : Hid (∀ W, Below w.heap.size w W → Calls Try.prog 24 #[v] W fun e w' => FairT l e ∧ W = w') := fun W hb => r_fairT l v w.heap.size W (hv.below hb)
  obtain ⟨A, c, rfl, hn, -, hc⟩ := hv
  have HC := Lib.hid hc
  clear hc
  have HST : Hid (∀ (W : World) gj g b V, LJ w W gj g b V q0 ⟨⟨#[98, 97, 115, 101]⟩, [], 2, 0, sizeN 4, false⟩ → TU w (W.alloc (.cells #[] 9)) gj g b V q0 ⟨⟨#[98, 97, 115, 101]⟩, [], 2, 0, sizeN 4, false⟩ (.slice (some ⟨W.heap.size, 0, none⟩) 0 0) [] 1 0) := fun W gj g b V h => t_start h I0 L0 a0 rfl n0 F0 (Nat.le_refl _) rfl
  have NX : Hid (∀ (W : World) (gj g b : Nat) (V : Value) (q : DSt) (j : JSt) (V8 : Value) (rs : List ByteArray) (m i : Nat) (n : Nat), j.next = n → TU w W gj g b V q j V8 rs m i → Calls Try.prog 20 #[.pointer (some ⟨gj, 0, none⟩)] W fun e w' => e = .returned (.int .u32 (n : Nat)) ∧ W = w') := fun W gj g b V q j V8 rs m i n hn h => by
    rw [← hn]; exact p_next q j gj g b V W h.lj.at_
  have BS : Hid (∀ (W : World) (gj g b : Nat) (V : Value) (q : DSt) (j : JSt) (V8 : Value) (rs : List ByteArray) (m i : Nat) (s : ByteArray), j.base = s → TU w W gj g b V q j V8 rs m i → Calls Try.prog 17 #[.pointer (some ⟨gj, 0, none⟩)] W fun e w' => e = .returned (.string s) ∧ TU w w' gj g b V q j V8 rs m i) := fun W gj g b V q j V8 rs m i s hs h => by
    rw [← hs]
    exact (p_base q j gj g b V W h.lj.at_ (inv_texts h.inv).1).mono fun e w' kk => ⟨kk.1, h.more kk.2⟩
  have RC : Hid (∀ (W : World) (gj g b : Nat) (V : Value) (q : DSt) (j : JSt) (V8 : Value) (m i : Nat), TU w W gj g b V q j V8 j.recs m i → Calls Try.prog 19 #[.pointer (some ⟨gj, 0, none⟩)] W fun e w' => ∃ A n c, e = .returned (.slice A n c) ∧ TU w w' gj g b V q j V8 j.recs m i ∧ Txts w' w'.heap.size (.slice A n c) j.recs) := fun W gj g b V q j V8 m i h =>
    (p_records q j gj g b V W h.lj.at_ h.few (inv_texts h.inv).2).mono fun e w' kk => by
      obtain ⟨v, k1, k2, k3⟩ := kk
      have k4 := Els.of_own (l := j.recs) rfl k2
      obtain ⟨A, c, rfl⟩ := Slice.own_slice k2
      exact ⟨A, _, c, k1, h.more k3, k4⟩
  have TX : Hid (∀ (W : World) (gj g b : Nat) (V : Value) (q : DSt) (j : JSt) (V8 : Value) (m i : Nat) (v : Value), TU w W gj g b V q j V8 j.recs m i → Txts W W.heap.size v j.recs → Calls Try.prog 18 #[v, V8] W fun e w' => e = .returned (.bool true) ∧ TU w w' gj g b V q j V8 j.recs m i) := fun W gj g b V q j V8 m i v h hx =>
    (texts_same j.recs v V8 _ _ W hx (Els.of_own (l := j.recs) rfl h.own)).mono fun e w' kk => by
      obtain ⟨k1, n, rfl⟩ := kk
      exact ⟨k1, h.heap n⟩
  have LF : Hid (∀ (W : World) (gj g b : Nat) (V : Value) (q : DSt) (j : JSt) (V8 : Value) (rs : List ByteArray) (m i : Nat), TU w W gj g b V q j V8 rs m i → Calls Try.prog 21 #[.pointer (some ⟨gj, 0, none⟩)] W fun e w' => ∃ L : Int, e = .returned (.int .i64 L) ∧ 0 ≤ L ∧ TU w w' gj g b V q j V8 rs m i) := fun W gj g b V q j V8 rs m i h =>
    (p_left q j gj g b V W h.lj.at_ h.room.2 h.room.1 (inv_fit h.inv)).mono fun e w' kk => by
      obtain ⟨k1, n, rfl⟩ := kk
      exact ⟨_, k1, (left_le h.room.2 (inv_fit h.inv)).1, h.heap n⟩
  have FIT : Hid (∀ i, i < l.length → (l.getD i st0).s.size ≤ 9223372036854775807) := fun i hi => by
    have := (fitl _ (st_in hi)).2.2.2
    unfold maxLen at this
    omega
  clear f0 I0 d0 a0 n0 L0 F0 fitl
  go_enter Try.func7, Try.ntmps7
  go_wp2_with fail
  refine NW.out.mono ?_
  rintro e w1 ⟨g, b, rfl, h1, -⟩
  have H1 := Lib.hid h1
  clear h1 NW
  go_wp2_with fail
  refine (FM.out _ _ _ H1.out).mono ?_
  rintro e w2 ⟨gj, V, rfl, h2⟩
  have H2 := Lib.hid h2
  clear h2 H1 FM
  go_wp2_with fail
  refine (FA.out w2 H2.out.below).mono ?_
  rintro e w3 ⟨⟨B, rfl, hB⟩, rfl⟩
  cases B with
  | false =>
    go_wp2_with fail
    refine (wakes_journal w2).mono ?_
    rintro e w4 ⟨rfl, hb⟩
    have B4 := Lib.hid (H2.out.below.trans (hb.mono H2.out.below.size))
    clear hb
    go_wp2_with fail
    go_ret
    exact ⟨rfl, B4.out⟩
  | true =>
    have h60 := hB rfl
    have HS0 := Lib.hid (HST.out _ _ _ _ _ H2.out)
    clear hB H2 HST FA
    go_wp2_with fail
    go_loopw [7, 8, 9] (fun s7 s8 s9 wr => ∃ (i : Nat) (V : Value) (q : DSt) (j : JSt) (m : Nat) (A8 : Option Addr) (c8 : Nat), i ≤ l.length ∧ s7 = .string j.base ∧ s8 = .slice A8 j.recs.length c8 ∧ s9 = .int .i64 i ∧ Hid (TU w wr gj g b V q j (.slice A8 j.recs.length c8) j.recs m i)) (fun _ _ s9 _ => l.length - (intOf s9).toNat)
    case atStart => exact ⟨0, V, q0, _, 1, _, _, by omega, rfl, rfl, rfl, HS0.out⟩
    case round =>
      clear HS0
      obtain ⟨i, V, q, j, m, A8, c8, hi, rfl, rfl, rfl, H⟩ := hrel
      by_cases hlt : i < l.length
      · have t2 : decide (i < l.length) = true := decide_eq_true hlt
        obtain ⟨b0, off, rfl, hb0, hx⟩ := HC.out (by omega)
        have hz := hx i hlt
        have HZ : Hid (∀ W, Below w.heap.size w W → W.cell? ⟨b0, off + i * 4, none⟩ = some (.int .i64 (l.getD i st0).kind) ∧ W.cell? ⟨b0, off + i * 4 + 3, none⟩ = some (.string (l.getD i st0).s)) := fun W hW => ⟨(hW.cell (p := ⟨b0, off + i * 4, none⟩) hb0).trans hz.1, (hW.cell (p := ⟨b0, off + i * 4 + 3, none⟩) hb0).trans hz.2.2.2⟩
        have HXS := Lib.hid (FIT.out i hlt)
        have h0 : (0 : Int) ≤ i := by omega
        have hi60 : i < 60 := by omega
        clear hx hz
        generalize (l.getD i st0).s = x at *
        generalize (l.getD i st0).kind = kd at *
        generalize hbs : j.base = bs at *
        have HBS0 := Lib.hid hbs
        clear hbs
        obtain ⟨n1, hn1⟩ : ∃ n1, j.next = n1 := ⟨_, rfl⟩
        have hnb : n1 ≤ 100 := by have := H.out.nx; omega
        have HN1 := Lib.hid hn1
        clear hn1
        have f0 : ((n1 : Int) != (n1 : Int)) = false := bne_self_eq_false _
        go_wp2_with fail
        refine (NX.out _ _ _ _ _ _ _ _ _ _ _ n1 HN1.out H.out).mono ?_
        rintro e w3 ⟨rfl, rfl⟩
        obtain ⟨c0, c3⟩ := HZ.out _ H.out.lj.below
        by_cases hk : kd = 1
        · subst hk
          go_wp2_with fail
          refine (t_save H.out hi60 HXS.out).mono ?_
          rintro e w4 ⟨er, rfl, hcase⟩
          clear c0 c3
          rcases hcase with ⟨rfl, V2, q2, j2, m2, e1, e2, e3, h4⟩ | ⟨he, V2, h4⟩
          · obtain ⟨c0, c3⟩ := HZ.out _ h4.lj.below
            have HB := Lib.hid e1
            have RS : (Value.slice none 0 0) = .slice none j2.recs.length 0 := by rw [e2]; rfl
            have H4 : Hid (TU w w4 gj g b V2 q2 j2 (.slice none j2.recs.length 0) j2.recs m2 (i + 1)) := show _ from by rw [e2]; exact h4.none_
            obtain ⟨n2, hn2⟩ : ∃ n2, j2.next = n2 := ⟨_, rfl⟩
            have HN := Lib.hid hn2
            have e3' : n2 = n1 + 1 := by rw [← hn2, e3, HN1.out]
            have f1 : ((n2 : Int) != (n1 : Int)) = true := by rw [bne_iff_ne]; omega
            have f2 : IntKind.u32.wrap ((n1 : Int) + 1) = (n2 : Int) := by rw [IntWalk.u32_in _ (by omega)]; omega
            have f3 : ((n2 : Int) != (n2 : Int)) = false := bne_self_eq_false _
            have F1 := Lib.hid f2
            clear e3' hn2
            clear e1 e2 e3 h4 H
            go_wp2_with fail
            refine (NX.out _ _ _ _ _ _ _ _ _ _ _ n2 HN.out H4.out).mono ?_
            rintro e w5 ⟨rfl, rfl⟩
            go_wp2_with fail
            refine (NX.out _ _ _ _ _ _ _ _ _ _ _ n2 HN.out H4.out).mono ?_
            rintro e w5 ⟨rfl, rfl⟩
            go_wp2_with fail
            refine (BS.out _ _ _ _ _ _ _ _ _ _ _ _ HB.out H4.out).mono ?_
            rintro e w6 ⟨rfl, h6⟩
            have H6 := Lib.hid h6
            clear h6 H4
            go_wp2_with fail
            refine (RC.out _ _ _ _ _ _ _ _ _ _ H6.out).mono ?_
            rintro e w7 ⟨A7, n7, c7, rfl, h7, t7⟩
            have H7 := Lib.hid h7
            have T7 := Lib.hid t7
            clear h7 t7 H6
            go_wp2_with fail
            refine (TX.out _ _ _ _ _ _ _ _ _ _ _ H7.out T7.out).mono ?_
            rintro e w8 ⟨rfl, h8⟩
            have H8 := Lib.hid h8
            clear h8 H7 T7
            go_wp2_with fail
            refine (LF.out _ _ _ _ _ _ _ _ _ _ _ H8.out).mono ?_
            rintro e w9 ⟨L9, rfl, hL9, h9⟩
            have H9 := Lib.hid h9
            have t9 : decide (L9 < 0) = false := decide_eq_false (by omega)
            clear h9 H8 hL9
            go_wp2_with fail
            go_roundw
            case rel => exact ⟨i + 1, V2, q2, j2, m2, none, 0, by omega, by rw [HB.out], (by first | rfl | exact RS), by go_num, H9.out⟩
            case measure => simp [intOf]; omega
          · obtain ⟨c0, c3⟩ := HZ.out _ h4.lj.below
            have HB := HBS0
            have RS : (Value.slice A8 j.recs.length c8) = .slice A8 j.recs.length c8 := rfl
            have H4 := Lib.hid h4
            clear h4 H
            rcases he with rfl | rfl
            · go_wp2_with fail
              refine (NX.out _ _ _ _ _ _ _ _ _ _ _ n1 HN1.out H4.out).mono ?_
              rintro e w5 ⟨rfl, rfl⟩
              go_wp2_with fail
              refine (BS.out _ _ _ _ _ _ _ _ _ _ _ _ HB.out H4.out).mono ?_
              rintro e w6 ⟨rfl, h6⟩
              have H6 := Lib.hid h6
              clear h6 H4
              go_wp2_with fail
              refine (RC.out _ _ _ _ _ _ _ _ _ _ H6.out).mono ?_
              rintro e w7 ⟨A7, n7, c7, rfl, h7, t7⟩
              have H7 := Lib.hid h7
              have T7 := Lib.hid t7
              clear h7 t7 H6
              go_wp2_with fail
              refine (TX.out _ _ _ _ _ _ _ _ _ _ _ H7.out T7.out).mono ?_
              rintro e w8 ⟨rfl, h8⟩
              have H8 := Lib.hid h8
              clear h8 H7 T7
              go_wp2_with fail
              refine (LF.out _ _ _ _ _ _ _ _ _ _ _ H8.out).mono ?_
              rintro e w9 ⟨L9, rfl, hL9, h9⟩
              have H9 := Lib.hid h9
              have t9 : decide (L9 < 0) = false := decide_eq_false (by omega)
              clear h9 H8 hL9
              go_wp2_with fail
              go_roundw
              case rel => exact ⟨i + 1, V2, q, j, m, A8, c8, by omega, by rw [HB.out], (by first | rfl | exact RS), by go_num, H9.out⟩
              case measure => simp [intOf]; omega
            · go_wp2_with fail
              refine (NX.out _ _ _ _ _ _ _ _ _ _ _ n1 HN1.out H4.out).mono ?_
              rintro e w5 ⟨rfl, rfl⟩
              go_wp2_with fail
              refine (BS.out _ _ _ _ _ _ _ _ _ _ _ _ HB.out H4.out).mono ?_
              rintro e w6 ⟨rfl, h6⟩
              have H6 := Lib.hid h6
              clear h6 H4
              go_wp2_with fail
              refine (RC.out _ _ _ _ _ _ _ _ _ _ H6.out).mono ?_
              rintro e w7 ⟨A7, n7, c7, rfl, h7, t7⟩
              have H7 := Lib.hid h7
              have T7 := Lib.hid t7
              clear h7 t7 H6
              go_wp2_with fail
              refine (TX.out _ _ _ _ _ _ _ _ _ _ _ H7.out T7.out).mono ?_
              rintro e w8 ⟨rfl, h8⟩
              have H8 := Lib.hid h8
              clear h8 H7 T7
              go_wp2_with fail
              refine (LF.out _ _ _ _ _ _ _ _ _ _ _ H8.out).mono ?_
              rintro e w9 ⟨L9, rfl, hL9, h9⟩
              have H9 := Lib.hid h9
              have t9 : decide (L9 < 0) = false := decide_eq_false (by omega)
              clear h9 H8 hL9
              go_wp2_with fail
              go_roundw
              case rel => exact ⟨i + 1, V2, q, j, m, A8, c8, by omega, by rw [HB.out], (by first | rfl | exact RS), by go_num, H9.out⟩
              case measure => simp [intOf]; omega
        · have t3 : (kd == (1 : Int)) = false := by simpa using hk
          have t3' : decide (kd = 1) = false := decide_eq_false hk
          go_wp2_with fail
          refine (t_append H.out hi60 HXS.out).mono ?_
          rintro e w4 ⟨er, rfl, hcase⟩
          clear c0 c3
          rcases hcase with ⟨rfl, V2, q2, j2, m2, e1, e2, e3, h4⟩ | ⟨he, V2, h4⟩
          · obtain ⟨c0, c3⟩ := HZ.out _ h4.lj.below
            have HB := Lib.hid (e1.trans HBS0.out)
            have hrl : j.recs.length ≤ 5000 := H.out.few
            have OW := Lib.hid h4.own
            have GR : Hid (∀ W' V8', W'.ownsRow w.heap.size 9 1 V8' (j.recs.length + 1) (j.recs.map Value.string ++ [.string x]) → w4.grownBy W' (Value.slice A8 j.recs.length c8).ownBlock → (∀ k, V8'.ownBlock = some k → (Value.slice A8 j.recs.length c8).ownBlock = some k ∨ w4.heap.size ≤ k) → TU w W' gj g b V2 q2 j2 V8' j2.recs m2 (i + 1)) := fun W' V8' ho hg hv => by
              have ho' : W'.ownsRow w.heap.size 9 1 V8' (j.recs ++ [x]).length ((j.recs ++ [x]).map Value.string) := by rw [List.length_append, List.map_append]; exact ho
              rw [e2]; exact h4.grow hg ho' hv
            have HRL : Hid (j2.recs.length = j.recs.length + 1) := show _ = _ from by rw [e2, List.length_append]; rfl
            have HBS := Lib.hid h4.lj.below.size
            obtain ⟨n2, hn2⟩ : ∃ n2, j2.next = n2 := ⟨_, rfl⟩
            have HN := Lib.hid hn2
            have e3' : n2 = n1 + 1 := by rw [← hn2, e3, HN1.out]
            have f1 : ((n2 : Int) != (n1 : Int)) = true := by rw [bne_iff_ne]; omega
            have f2 : IntKind.u32.wrap ((n1 : Int) + 1) = (n2 : Int) := by rw [IntWalk.u32_in _ (by omega)]; omega
            have f3 : ((n2 : Int) != (n2 : Int)) = false := bne_self_eq_false _
            have F1 := Lib.hid f2
            clear e3' hn2
            clear e1 e2 e3 h4 H
            obtain ⟨j0, hi0, hi1, hi2, hi3⟩ := Frame.str_info
            have HJ0 := Lib.hid hi0
            have HZ0 := Lib.hid hi1
            have HZ1 := Lib.hid hi2
            have HZ2 := Lib.hid hi3
            clear hi0 hi1 hi2 hi3
            generalize hrr : j.recs = rs at *
            go_upto_region 18 with (first
              | (at_builtin
                 refine wpList_append_more rfl (.tmp 87) (.tmp 93) _ rfl w.heap.size 9 j0 (.string ⟨#[]⟩) 16 Try.underlying22 HJ0.out HZ0.out HZ1.out HZ2.out rfl w4 9 (.string x) rfl (.slice A8 rs.length c8) rs.length _ rfl OW.out w4.heap.size rfl rfl (by unfold maxLen; omega) (by omega) HBS.out ?_
                 intro v' w' ho hgr hvv
                 have h5 := GR.out _ _ ho hgr hvv
                 obtain ⟨A9, c9, rfl⟩ := Slice.own_slice ho
                 rw [← HRL.out] at h5
                 have H4 := Lib.hid h5
                 have RS : (Value.slice A9 (rs.length + 1) c9) = .slice A9 j2.recs.length c9 := by rw [HRL.out]
                 clear ho hgr hvv h5 c0 c3))
            go_wp2_with fail
            refine (NX.out _ _ _ _ _ _ _ _ _ _ _ n2 HN.out H4.out).mono ?_
            rintro e w5 ⟨rfl, rfl⟩
            go_wp2_with fail
            refine (NX.out _ _ _ _ _ _ _ _ _ _ _ n2 HN.out H4.out).mono ?_
            rintro e w5 ⟨rfl, rfl⟩
            go_wp2_with fail
            refine (BS.out _ _ _ _ _ _ _ _ _ _ _ _ HB.out H4.out).mono ?_
            rintro e w6 ⟨rfl, h6⟩
            have H6 := Lib.hid h6
            clear h6 H4
            go_wp2_with fail
            refine (RC.out _ _ _ _ _ _ _ _ _ _ H6.out).mono ?_
            rintro e w7 ⟨A7, n7, c7, rfl, h7, t7⟩
            have H7 := Lib.hid h7
            have T7 := Lib.hid t7
            clear h7 t7 H6
            go_wp2_with fail
            refine (TX.out _ _ _ _ _ _ _ _ _ _ _ H7.out T7.out).mono ?_
            rintro e w8 ⟨rfl, h8⟩
            have H8 := Lib.hid h8
            clear h8 H7 T7
            go_wp2_with fail
            refine (LF.out _ _ _ _ _ _ _ _ _ _ _ H8.out).mono ?_
            rintro e w9 ⟨L9, rfl, hL9, h9⟩
            have H9 := Lib.hid h9
            have t9 : decide (L9 < 0) = false := decide_eq_false (by omega)
            clear h9 H8 hL9
            go_wp2_with fail
            go_roundw
            case rel => exact ⟨i + 1, V2, q2, j2, m2, A9, c9, by omega, by rw [HB.out], (by first | rfl | exact RS), by go_num, H9.out⟩
            case measure => simp [intOf]; omega
          · obtain ⟨c0, c3⟩ := HZ.out _ h4.lj.below
            have HB := HBS0
            have RS : (Value.slice A8 j.recs.length c8) = .slice A8 j.recs.length c8 := rfl
            have H4 := Lib.hid h4
            clear h4 H
            rcases he with rfl | rfl
            · go_wp2_with fail
              refine (NX.out _ _ _ _ _ _ _ _ _ _ _ n1 HN1.out H4.out).mono ?_
              rintro e w5 ⟨rfl, rfl⟩
              go_wp2_with fail
              refine (BS.out _ _ _ _ _ _ _ _ _ _ _ _ HB.out H4.out).mono ?_
              rintro e w6 ⟨rfl, h6⟩
              have H6 := Lib.hid h6
              clear h6 H4
              go_wp2_with fail
              refine (RC.out _ _ _ _ _ _ _ _ _ _ H6.out).mono ?_
              rintro e w7 ⟨A7, n7, c7, rfl, h7, t7⟩
              have H7 := Lib.hid h7
              have T7 := Lib.hid t7
              clear h7 t7 H6
              go_wp2_with fail
              refine (TX.out _ _ _ _ _ _ _ _ _ _ _ H7.out T7.out).mono ?_
              rintro e w8 ⟨rfl, h8⟩
              have H8 := Lib.hid h8
              clear h8 H7 T7
              go_wp2_with fail
              refine (LF.out _ _ _ _ _ _ _ _ _ _ _ H8.out).mono ?_
              rintro e w9 ⟨L9, rfl, hL9, h9⟩
              have H9 := Lib.hid h9
              have t9 : decide (L9 < 0) = false := decide_eq_false (by omega)
              clear h9 H8 hL9
              go_wp2_with fail
              go_roundw
              case rel => exact ⟨i + 1, V2, q, j, m, A8, c8, by omega, by rw [HB.out], (by first | rfl | exact RS), by go_num, H9.out⟩
              case measure => simp [intOf]; omega
            · go_wp2_with fail
              refine (NX.out _ _ _ _ _ _ _ _ _ _ _ n1 HN1.out H4.out).mono ?_
              rintro e w5 ⟨rfl, rfl⟩
              go_wp2_with fail
              refine (BS.out _ _ _ _ _ _ _ _ _ _ _ _ HB.out H4.out).mono ?_
              rintro e w6 ⟨rfl, h6⟩
              have H6 := Lib.hid h6
              clear h6 H4
              go_wp2_with fail
              refine (RC.out _ _ _ _ _ _ _ _ _ _ H6.out).mono ?_
              rintro e w7 ⟨A7, n7, c7, rfl, h7, t7⟩
              have H7 := Lib.hid h7
              have T7 := Lib.hid t7
              clear h7 t7 H6
              go_wp2_with fail
              refine (TX.out _ _ _ _ _ _ _ _ _ _ _ H7.out T7.out).mono ?_
              rintro e w8 ⟨rfl, h8⟩
              have H8 := Lib.hid h8
              clear h8 H7 T7
              go_wp2_with fail
              refine (LF.out _ _ _ _ _ _ _ _ _ _ _ H8.out).mono ?_
              rintro e w9 ⟨L9, rfl, hL9, h9⟩
              have H9 := Lib.hid h9
              have t9 : decide (L9 < 0) = false := decide_eq_false (by omega)
              clear h9 H8 hL9
              go_wp2_with fail
              go_roundw
              case rel => exact ⟨i + 1, V2, q, j, m, A8, c8, by omega, by rw [HB.out], (by first | rfl | exact RS), by go_num, H9.out⟩
              case measure => simp [intOf]; omega
      · obtain rfl : i = l.length := by omega
        have t2 : decide (l.length < l.length) = false := decide_eq_false (by omega)
        go_wp2_with fail
        refine (wakes_journal _).mono ?_
        rintro e w4 ⟨rfl, hb⟩
        have B4 := Lib.hid (H.out.lj.below.trans (hb.mono H.out.lj.below.size))
        clear hb
        go_wp2_with fail
        go_ret
        exact ⟨rfl, B4.out⟩

set_option maxRecDepth 100000 in
theorem journalTells_lifted (os : Os) (started : os.Started) (H : Type) (enc : TypeId × Value → H) :
    ReturnsInHanded {} Try.checked os 7 .any (Rows.journalTellsSpec.pre6 enc Try.prog Try.f7 Rows.journalTellsRow.domain false) (Rows.journalTellsSpec.post enc Try.prog Try.f7 false true false false) := by
  refine Shell.law_lifted (C := Try.checked) (tb := 4) (by kernel_rfl) started (by kernel_rfl) Try.func7
    (ChangeSpec.witness6 (enc := enc) (C := Try.checked) false ⟨#[], #[.slice none 0 0], []⟩ 8 (by kernel_rfl) (by kernel_rfl) (by kernel_rfl) (by kernel_rfl))
    (by kernel_rfl) (by kernel_rfl) rfl rfl Try.underlying4 ?_
  intro W base args ds p hval0 hA0
  have hval : ∀ (j : Nat) t v, Try.f7.params[j]? = some t → args[j]? = some v → Value.okWide Try.prog W .any base t v := hval0
  have hA : DataW.TrodAll enc Try.prog W 0 (fun _ => true) true Try.f7.params.toList args.toList ds p := hA0
  clear hval0 hA0
  rw [Try.params7] at hA hval
  obtain ⟨v0, vs0, d0, ds0, p0, q0, hargs, rfl, rfl, h0, r0⟩ := trodAll_cons hA
  obtain ⟨rfl, rfl, rfl⟩ := trodAll_nil r0
  obtain rfl : args = #[v0] := by cases args; simp_all
  refine ⟨rfl, ?_⟩
  obtain ⟨l, hvl, fitl⟩ := open_steps (t := 46) (e := 49) (ti := 3) (ts := 9) Try.underlying46 Try.underlying49 (by kernel_rfl) rfl rfl rfl rfl rfl rfl rfl rfl Try.underlying3 Try.underlying9 (by kernel_rfl) (by kernel_rfl) (hval 0 46 v0 rfl rfl) h0
  exact journal_tells l v0 W hvl fitl

theorem journalTells_over : Rows.journalTellsRow.holds Try.pinned (OpenSpec.ofChange Rows.journalTellsSpec) :=
  OpenClaim.holds_of_wide 7 Try.f7 rfl rfl rfl rfl rfl rfl rfl ⟨rfl, rfl, rfl, rfl, rfl⟩ rfl rfl rfl rfl rfl (by kernel_rfl) Try.func7 (by kernel_rfl)
    (of_decide_eq_true (by kernel_rfl)) (by unfold Func.isWrapper; first | (rw [if_pos (by decide +kernel)]; kernel_rfl) | (rw [if_neg (by decide +kernel)]; exact ⟨rfl, rfl⟩))
    (fun os st H enc _ => journalTells_lifted os st H enc)

/-- The statement. -/
theorem journalTells_proved : Rows.JournalTellsSaid := journalTells_over
end Go.Proofs.Ytdnodampmpdfbaa.Law
