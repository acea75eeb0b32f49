/- Of no one law: a region whose order is drawn, in which a cell is both loaded and stored: what is held holds till a named operation, the first store, has come up. -/
import Derived.Test.YtkddiaiohnbjpaaGreatDoorGA
import Derived.OrdersHeld
import Derived.Deep.RegionHeld
namespace Go.Proofs.YtkddiaiohnbjpaaGreatDoor.Till
open Go.ChangeShapes Go.WideShapes Go.ChangeAt Go.RowKit Slice

section
variable {P : Program} {md : Region.Mode} {ops : Array Oper} {Q : Exit → Act → World → Prop} {S : World → Prop} {m : Nat}

/-- Whatever comes up next; behind it S holds, as long as operation m has not come up. -/
def Goes (P : Program) (md : Region.Mode) (ops : Array Oper) (Q : Exit → Act → World → Prop) (S : World → Prop) (m : Nat) : Nat → Array Bool → Act → World → Prop
  | 0, l, a, w => Region.ready md ops l = [] ∧ Q .normal a w
  | n + 1, l, a, w => (Region.ready md ops l = [] → Q .normal a w) ∧
      ∀ i ∈ Region.ready md ops l, wpOp P ops Q i (fun a' w' => ((l.setIfInBounds i true).getD m true = false → S w') ∧ Goes P md ops Q S m n (l.setIfInBounds i true) a' w') a w
theorem goes_any : ∀ (n : Nat) (l : Array Bool) (a : Act) (w : World), Goes P md ops Q S m n l a w → wpAny P md ops Q n l a w
  | 0, _, _, _, h => h
  | n + 1, _, _, _, h => ⟨h.1, fun i hi => wpOp_mono (fun a' w' k => goes_any n _ a' w' k.2) (h.2 i hi)⟩
/-- The beginning. -/
theorem start {id : Nat} {a : Act} {w : World} (S : World → Prop) (m : Nat) (hm : P.follows .mixedOrders = true)
    (h : Goes P .any ops Q S m ops.size (Array.replicate ops.size false) a w.drew) : (Code.region id ops true).wp P Q a w :=
  wp_region_any hm (goes_any _ _ _ _ h)
/-- The operation i may be taken first: it yields its value whatever the world (fr), or in every world that meets S, and then m waits for it, by a chain of others. -/
theorem first {fr : Bool} {ch : List Nat} {i : Nat} {oi : Oper} {v : Value} (hi : ops[i]? = some oi) (hsel : ∀ (j : Nat) (o : Oper) cs b, ops[j]? = some o → o.op ≠ .select cs b)
    (hQ : ∀ c a w, Q (.panic c) (a.put oi.dst v) w → Q (.panic c) a w) (hmi : m ≠ i)
    (hm : fr = true ∨ m ∈ ch ∧ ∀ c ∈ ch, ∃ oc, ops[c]? = some oc ∧ ∃ e ∈ oc.after, Region.binds md e = true ∧ (e.on = i ∨ e.on ∈ ch)) (n : Nat) :
    ∀ (l : Array Bool) (a : Act) (w : World),
      (∀ j oj, ops[j]? = some oj → j ≠ i → l.getD j true = false → (∀ e ∈ oj.after, Region.binds md e = true → e.on ≠ i) → oi.apart ops oj = true) →
      i ∈ Region.ready md ops l → (fr = true ∨ ∀ c ∈ ch, l.getD c true = false) → YieldsIf P ops (fun w => fr = true ∨ S w) oi v a → (l.getD m true = false → S w) →
      Goes P md ops Q S m n (l.setIfInBounds i true) (a.put oi.dst v) w → Goes P md ops Q S m (n + 1) l a w := by
  have hlm : ∀ {l : Array Bool}, (fr = true ∨ ∀ c ∈ ch, l.getD c true = false) → (fr = true ∨ l.getD m true = false) := fun h => by
    rcases hm with h1 | h1
    · exact Or.inl h1
    · exact h.imp id fun h => h m h1.1
  have itself : ∀ (n : Nat) (l : Array Bool) (a : Act) (w : World), (fr = true ∨ l.getD m true = false) → YieldsIf P ops (fun w => fr = true ∨ S w) oi v a → (l.getD m true = false → S w) →
      Goes P md ops Q S m n (l.setIfInBounds i true) (a.put oi.dst v) w →
      wpOp P ops Q i (fun a' w' => ((l.setIfInBounds i true).getD m true = false → S w') ∧ Goes P md ops Q S m n (l.setIfInBounds i true) a' w') a w :=
    fun n l a w hl hy hS H => hy.wpOp hi (hl.imp id hS) ⟨fun h => hS (by rw [getD_set_ne true (Ne.symm hmi)] at h; exact h), H⟩
  induction n with
  | zero =>
    intro l a w _ hr hl hy hS H
    refine ⟨fun h => (by rw [h] at hr; cases hr), fun j hj => ?_⟩
    have e : j = i := Decidable.byContradiction fun e => by
      have := ready_mono hj e
      rw [H.1] at this
      cases this
    subst e
    exact itself 0 l a w (hlm hl) hy hS H
  | succ n ih =>
    intro l a w hfree hr hl hy hS H
    refine ⟨fun h => (by rw [h] at hr; cases hr), fun j hj => ?_⟩
    by_cases e : j = i
    · subst e
      exact itself (n + 1) l a w (hlm hl) hy hS H
    · obtain ⟨hun, oj, hoj, hall⟩ := mem_ready.1 hj
      have hni : l.getD i false = false := by
        have h0 := (mem_ready.1 hr).1
        rcases Nat.lt_or_ge i l.size with h' | h'
        · simp [h'] at h0 ⊢
          exact h0
        · simp [Array.getElem?_eq_none h']
      have hno : ∀ d ∈ oj.after, Region.binds md d = true → d.on ≠ i := fun d hd hb he => by
        have h1 := hall d hd hb
        rw [he, hni] at h1
        cases h1
      have hjm : fr = true ∨ j ∉ ch := by
        rcases hm with h1 | ⟨-, h1⟩
        · exact Or.inl h1
        · rcases hl with h2 | h2
          · exact Or.inl h2
          · refine Or.inr fun hjc => ?_
            obtain ⟨oc, ho, d, hd, hb, he⟩ := h1 j hjc
            rw [hoj] at ho
            have ho := Option.some.inj ho
            subst ho
            rcases he with he | he
            · exact hno d hd hb he
            · have h3 := h2 _ he
              have h4 := hall d hd hb
              rcases Nat.lt_or_ge d.on l.size with h' | h'
              · simp [h'] at h3 h4
                rw [h3] at h4
                cases h4
              · simp [Array.getElem?_eq_none h'] at h3
      have h2 := wpOp_putIf hoj (hfree j oj hoj e hun hno) (fun cs b => hsel i oi cs b hi) (fun cs b => hsel j oj cs b hoj) hQ hy (H.2 j (ready_mono hj e))
      refine wpOp_mono (fun a' w' h3 => ?_) h2
      have hS' : (l.setIfInBounds j true).getD m true = false → S w' := fun h => h3.2.1 (by
        rw [Array.setIfInBounds_comm _ _ (Ne.symm e), getD_set_ne true (Ne.symm hmi)]
        exact h)
      refine ⟨hS', ih (l.setIfInBounds j true) a' w' (fun k ok hk hki hku hkn => hfree k ok hk hki ?_ hkn) (ready_mono hr (Ne.symm e)) ?_ h3.1 hS' ?_⟩
      · by_cases hjk : j = k
        · subst hjk; exact hun
        · rw [getD_set_ne true hjk] at hku; exact hku
      · rcases hl with h | h
        · exact Or.inl h
        · rcases hjm with h' | h'
          · exact Or.inl h'
          · exact Or.inr fun c hc => by rw [getD_set_ne true (fun e : j = c => h' (by rw [e]; exact hc))]; exact h c hc
      · rw [Array.setIfInBounds_comm _ _ e]
        exact h3.2.2
/-- Does m wait for i by a line of its own? -/
def waits (md : Region.Mode) (ops : Array Oper) (m i : Nat) : Bool := match ops[m]? with
  | some o => o.after.any fun e => Region.binds md e && (e.on == i)
  | none => false
theorem waits_spec {i : Nat} (h : waits md ops m i = true) : ∃ om, ops[m]? = some om ∧ ∃ e ∈ om.after, Region.binds md e = true ∧ e.on = i := by
  unfold waits at h
  cases ho : ops[m]? with
  | none => rw [ho] at h; cases h
  | some o =>
    rw [ho] at h
    obtain ⟨k, hk, -, -, h1⟩ := Array.any_iff_exists.1 h
    simp only [Bool.and_eq_true, beq_iff_eq] at h1
    exact ⟨o, rfl, o.after[k], Array.getElem_mem _, h1.1, h1.2⟩
/-- What yields whatever the world is taken first. -/
theorem take_free {n : Nat} {l : Array Bool} {a : Act} {w : World} {oi : Oper} {v : Value} (i k : Nat) (hi : ops[i]? = some oi) (hd : oi.dst = some k) (hs : Region.noSelect ops = true) (hf : Region.free md ops l i = true) (hr : (Region.ready md ops l).contains i = true)
    (hQ : ∀ c a w, Q (.panic c) (a.put oi.dst v) w → Q (.panic c) a w) (hw : Region.wanted oi (yielded ops a.tmps) = true) (hmi : (m != i) = true) (hy : ∀ w, (execOp a.eval oi).run P w = .ok (.value v) w) (hS : l.getD m true = false → S w)
    (h : Goes P md ops Q S m n (l.setIfInBounds i true) (a.put (some k) v) w) : Goes P md ops Q S m (n + 1) l a w :=
  first (fr := true) (ch := []) hi (Region.noSelect_spec hs) hQ (by simpa using hmi) (Or.inl rfl) n l a w (Region.free_spec hi hf) (by simpa using hr) (Or.inl rfl) (Or.inl ⟨hw, fun w _ => hy w⟩) hS (by rw [hd]; exact h)
/-- What yields wherever S holds is taken first, while m has not come up. -/
theorem take_held {n : Nat} {l : Array Bool} {a : Act} {w : World} {oi : Oper} {v : Value} (i k : Nat) (hi : ops[i]? = some oi) (hd : oi.dst = some k) (hs : Region.noSelect ops = true) (hf : Region.free md ops l i = true) (hr : (Region.ready md ops l).contains i = true)
    (hQ : ∀ c a w, Q (.panic c) (a.put oi.dst v) w → Q (.panic c) a w) (hw : Region.wanted oi (yielded ops a.tmps) = true) (hmi : (m != i) = true) (hm : waits md ops m i = true) (hl : l.getD m true = false) (hy : ∀ w, S w → (execOp a.eval oi).run P w = .ok (.value v) w) (hS : l.getD m true = false → S w)
    (h : Goes P md ops Q S m n (l.setIfInBounds i true) (a.put (some k) v) w) : Goes P md ops Q S m (n + 1) l a w :=
  first (fr := false) (ch := [m]) hi (Region.noSelect_spec hs) hQ (by simpa using hmi) (Or.inr ⟨by simp, fun c hc => by
    obtain rfl : c = m := by simpa using hc
    obtain ⟨oc, h1, e, h2, h3, h4⟩ := waits_spec hm
    exact ⟨oc, h1, e, h2, h3, Or.inl h4⟩⟩) n l a w (Region.free_spec hi hf) (by simpa using hr) (Or.inr fun c hc => by
    obtain rfl : c = m := by simpa using hc
    exact hl) (Or.inl ⟨hw, fun w hw' => hy w (hw'.resolve_left (by decide))⟩) hS (by rw [hd]; exact h)
/-- Does m wait for i, by the others of a list? -/
def chained (md : Region.Mode) (ops : Array Oper) (m i : Nat) (ch : List Nat) : Bool := ch.contains m && ch.all fun c => match ops[c]? with
  | some o => o.after.any fun e => Region.binds md e && (e.on == i || ch.contains e.on)
  | none => false
/-- What yields wherever S holds is taken first, while m has not come up, nor what m waits for it by. -/
theorem take_chain {n : Nat} {l : Array Bool} {a : Act} {w : World} {oi : Oper} {v : Value} (i k : Nat) (ch : List Nat) (hi : ops[i]? = some oi) (hd : oi.dst = some k) (hs : Region.noSelect ops = true) (hf : Region.free md ops l i = true) (hr : (Region.ready md ops l).contains i = true)
    (hQ : ∀ c a w, Q (.panic c) (a.put oi.dst v) w → Q (.panic c) a w) (hw : Region.wanted oi (yielded ops a.tmps) = true) (hmi : (m != i) = true) (hm : chained md ops m i ch = true) (hl : (ch.all fun c => !(l.getD c true)) = true) (hy : ∀ w, S w → (execOp a.eval oi).run P w = .ok (.value v) w) (hS : l.getD m true = false → S w)
    (h : Goes P md ops Q S m n (l.setIfInBounds i true) (a.put (some k) v) w) : Goes P md ops Q S m (n + 1) l a w := by
  unfold chained at hm
  rw [Bool.and_eq_true, List.all_eq_true] at hm
  obtain ⟨h1, h2⟩ := hm
  refine first (fr := false) (ch := ch) hi (Region.noSelect_spec hs) hQ (by simpa using hmi) (Or.inr ⟨by simpa using h1, fun c hc => ?_⟩) n l a w (Region.free_spec hi hf) (by simpa using hr) (Or.inr fun c hc => ?_) (Or.inl ⟨hw, fun w hw' => hy w (hw'.resolve_left (by decide))⟩) hS (by rw [hd]; exact h)
  · have h3 := h2 c hc
    cases ho : ops[c]? with
    | none => rw [ho] at h3; cases h3
    | some o =>
      rw [ho] at h3
      obtain ⟨k, hk, -, -, h4⟩ := Array.any_iff_exists.1 h3
      simp only [Bool.and_eq_true, Bool.or_eq_true, beq_iff_eq, List.contains_iff_mem] at h4
      exact ⟨o, rfl, o.after[k], Array.getElem_mem _, h4.1, h4.2⟩
  · have h3 := (List.all_eq_true.1 hl) c hc
    cases h : l.getD c true with
    | false => rfl
    | true => rw [h] at h3; cases h3
/-- Each of some comes up next. -/
def Next (P : Program) (md : Region.Mode) (ops : Array Oper) (Q : Exit → Act → World → Prop) (S : World → Prop) (m n : Nat) (l : Array Bool) (a : Act) (w : World) (rs : List Nat) : Prop :=
  ∀ i ∈ rs, wpOp P ops Q i (fun a' w' => ((l.setIfInBounds i true).getD m true = false → S w') ∧ Goes P md ops Q S m n (l.setIfInBounds i true) a' w') a w
theorem Next.nil {n : Nat} {l : Array Bool} {a : Act} {w : World} : Next P md ops Q S m n l a w [] := fun _ h => by cases h
theorem Next.cons {n : Nat} {l : Array Bool} {a : Act} {w : World} {i : Nat} {o : Oper} {rs : List Nat} (ho : ops[i]? = some o)
    (h : ∀ K : Act → World → Prop, Shut (∀ a w, ((l.setIfInBounds i true).getD m true = false → S w) → Goes P md ops Q S m n (l.setIfInBounds i true) a w → K a w) → if Region.wanted o (yielded ops a.tmps) = true then Oper.wp P o a w K Q else K (a.put o.dst undef) w)
    (hs : Next P md ops Q S m n l a w rs) : Next P md ops Q S m n l a w (i :: rs) := fun j hj => by
  rcases List.mem_cons.1 hj with rfl | hj
  · exact wpOp_step ho (fun K hK => h K (fun a w hS hW => hK a w ⟨hS, hW⟩))
  · exact hs j hj
theorem goes_next {rs : List Nat} {n : Nat} {l : Array Bool} {a : Act} {w : World} (hr : Region.ready md ops l = rs) (hne : rs ≠ []) (h : Next P md ops Q S m n l a w rs) : Goes P md ops Q S m (n + 1) l a w :=
  ⟨fun h0 => absurd (hr ▸ h0) hne, hr ▸ h⟩
theorem goes_done {l : Array Bool} {a : Act} {w : World} (hr : Region.ready md ops l = []) (h : Q .normal a w) : ∀ n, Goes P md ops Q S m n l a w
  | 0 => ⟨hr, h⟩
  | _ + 1 => ⟨fun _ => h, by rw [hr]; simp⟩
/-- Once m has come up, nothing is held any more. -/
theorem past {b : Bool} {p : Prop} (h : b = true) (k : b = false) : p := by rw [h] at k; cases k
/-- A slice of one value, laid in a block of its own. -/
theorem step_lit {o : Oper} {a : Act} {w : World} {K : Act → World → Prop} {E : Prop} (hw : Region.wanted o (yielded ops a.tmps) = true) (t : TypeId) (p : Operand) (ho : o.op = .buildSlice t 1 #[(0, p)]) (u : Value) (T : TypeId) (hp : a.eval p = u)
    (hr : (Instr.buildSlice t 1 #[(0, u)]).run P w = .ok (.slice (some ⟨w.heap.size, 0, none⟩) 1 1) (w.alloc (.cells #[u] T))) (h : K (a.put o.dst (.slice (some ⟨w.heap.size, 0, none⟩) 1 1)) (w.alloc (.cells #[u] T))) :
    if Region.wanted o (yielded ops a.tmps) = true then Oper.wp P o a w K Q else E := by
  rw [if_pos hw]
  unfold Oper.wp execOp
  simp only [ho, List.map_toArray, List.map_cons, List.map_nil, hp, Sem.run_bind, Sem.run_pure, hr, Result.andThen_ok]
  exact h
/-- One value, laid in a block of its own some time before, appended to a row of the call's own. -/
theorem step_cell {W : World} {o : Oper} {act : Act} {K : Act → World → Prop} {E : Prop} (hgd : o.guard = none) (s x : Operand) (t : TypeId)
    (ho : o.op = .call { callee := .builtin .append, args := #[s, x], argTypes := #[t, t] })
    (base : Nat) (e : TypeId) (i : TypeInfo) (z : Value) (bytes : Nat) (ht : P.underlying t = some (.slice e)) (hi : P.info? e = some i) (hz : i.zero = some z)
    (hsize : i.size = 1) (hby : i.bytes = bytes) (hzs : z.cells.size = 1)
    (u : Value) (h1 : u.oneCell' = true) (v : Value) (n : Nat) (xs : List Value) (hs : act.eval s = v) (hown : W.ownsRow base e 1 v n xs) (g : Nat) (hx : act.eval x = .slice (some ⟨g, 0, none⟩) 1 1) (hc : W.cell? ⟨g, 0, none⟩ = some u)
    (h63 : n + 1 ≤ maxLen) (hbytes : (n + 1) * bytes ≤ 140737488355328) (hbase : base ≤ W.heap.size)
    (h : ∀ v' w', w'.ownsRow base e 1 v' (n + 1) (xs ++ [u]) → W.grownBy w' v.ownBlock → K (act.put o.dst v') w') :
    if Region.wanted o (yielded ops act.tmps) = true then Oper.wp P o act W K Q else E := by
  have hw : Region.wanted o (yielded ops act.tmps) = true := by simp [Region.wanted, hgd]
  rw [if_pos hw]
  exact wp_append_own W s x t ho base e i z 1 bytes ht hi hz hsize hby hzs (by omega) v n xs hs hown ⟨g, 0, none⟩ 1 1 [u] hx rfl
    (fun k y hk => by
      match k, hk with
      | 0, hk =>
        injection hk with hk
        subst hk
        simpa [Addr.add] using hc)
    (fun y hy => by rw [List.mem_singleton] at hy; rw [hy]; exact h1) h63 hbytes hbase (fun v' w' h2 h3 _ => h v' w' h2 h3)
end
end Go.Proofs.YtkddiaiohnbjpaaGreatDoor.Till
