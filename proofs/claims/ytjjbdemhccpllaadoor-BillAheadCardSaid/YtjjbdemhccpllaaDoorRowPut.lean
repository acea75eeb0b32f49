/- Of no one law: a row of structs of the call's own, some cells of it written in place; a struct that lies in a block, appended as one step of a region that draws. -/
import Derived.Test.YtjjbdemhccpllaaDoorBills
namespace Go.Proofs.YtjjbdemhccpllaaDoor.Plan
open Go.ChangeShapes Go.WideShapes Go.ChangeAt Go.RowKit Box Rws Slice

/-- Cells written one behind the other. -/
def putAll (C : Array Value) : Nat → List Value → Array Value
  | _, [] => C
  | o, v :: r => putAll (C.setIfInBounds o v) (o + 1) r
theorem put_size : ∀ (Y : List Value) (C : Array Value) (o : Nat), (putAll C o Y).size = C.size
  | [], _, _ => rfl
  | v :: r, C, o => by rw [putAll, put_size r]; simp
theorem put_list : ∀ (Y P X S : List Value) (C : Array Value), C.toList = P ++ X ++ S → Y.length = X.length → (putAll C P.length Y).toList = P ++ Y ++ S
  | [], P, X, S, C, h, hl => by
    obtain rfl : X = [] := List.eq_nil_of_length_eq_zero hl.symm
    exact h
  | v :: r, P, [], S, C, h, hl => by simp at hl
  | v :: r, P, x :: X, S, C, h, hl => by
    have ih := put_list r (P ++ [v]) X S (C.setIfInBounds P.length v) (by simp [h]) (by simpa using hl)
    rw [List.length_append, List.length_singleton] at ih
    rw [putAll, ih]
    simp
theorem put_boxd : ∀ (Y : List Value) (o g : Nat) (w : World) (C : Array Value) (T : TypeId), Boxd w g C T → Boxd (w.setCells g o Y) g (putAll C o Y) T ∧ One g w (w.setCells g o Y)
  | [], _, g, w, _, _, h => ⟨h, One.refl g w⟩
  | v :: r, o, g, w, C, T, h => by
    obtain ⟨h1, h2⟩ := put_boxd r (o + 1) g (w.setCell ⟨g, o, none⟩ v) (C.setIfInBounds o v) T (boxd_set h rfl)
    exact ⟨h1, (one_set w g o v).trans h2⟩
/-- A whole struct's store into the midst of a block. -/
theorem o_mid {P : Program} {ops : Array Oper} {rest : List Oper} {o : Oper} {a : Act} {w : World} {Q : Exit → Act → World → Prop} (hgd : o.guard = none) (ty : TypeId) (x y : Operand) (ho : o.op = .store ty x y) (hd : o.dst = none)
    (g i : Nat) (D : Array Value) (hx : a.eval x = .pointer (some ⟨g, i, none⟩)) (hy : a.eval y = .agg D) (h1 : D.all (·.oneCell') = true) (T : TypeId) (C : Array Value) (hB : Boxd w g C T) (hi : i + D.size ≤ C.size) (hz : (P.info? ty).map (·.size) = some D.size)
    (h : ∀ w', Boxd w' g (putAll C i D.toList) T → One g w w' → wpList P ops Q rest a w') : wpList P ops Q (o :: rest) a w := by
  refine wpList_store_mid hgd ty x y ho g i D hx hy (fun j hj => ⟨?_, boxd_free hB⟩) hz h1 ?_
  · rw [hB.cell, Array.getElem?_eq_getElem (by omega)]
    rfl
  · rw [hd]
    obtain ⟨q1, q2⟩ := put_boxd D.toList i g w C T hB
    exact h _ q1 q2
theorem own_form {W : World} {B n s : Nat} {e : TypeId} {v : Value} {xs : List Value} (h : W.ownsRow B e s v n xs) (h0 : 0 < n) : ∃ g c, v = .slice (some ⟨g, 0, none⟩) n c ∧ B ≤ g ∧ g < W.heap.size := by
  rcases h.2 with ⟨rfl, rfl⟩ | ⟨g, cap, cur, rfl, hg, hh, -⟩
  · omega
  · refine ⟨g, cap, rfl, hg, ?_⟩
    rcases Nat.lt_or_ge g W.heap.size with k | k
    · exact k
    · rw [Array.getElem?_eq_none k] at hh; cases hh
/-- Cells of a row of the call's own, written in place. -/
theorem own_put {W : World} {B n s g c : Nat} {e : TypeId} {P X S Y : List Value} (h : W.ownsRow B e s (.slice (some ⟨g, 0, none⟩) n c) n (P ++ X ++ S)) (hl : Y.length = X.length) :
    ∃ cur, Boxd W g cur e ∧ P.length + X.length ≤ cur.size ∧ (∀ i v, X[i]? = some v → cur[P.length + i]? = some v) ∧ (∀ W', Boxd W' g (putAll cur P.length Y) e → W.heap.size ≤ W'.heap.size → W'.ownsRow B e s (.slice (some ⟨g, 0, none⟩) n c) n (P ++ Y ++ S)) := by
  obtain ⟨hlen, ⟨h0, -⟩ | ⟨g', cap, cur, h0, hg, hh, hnc, hm, hs, ht⟩⟩ := h
  · cases h0
  · injection h0 with h1 _ h2
    injection h1 with h1
    injection h1 with h1
    subst h1 h2
    have hc : cur.toList = P ++ X ++ (S ++ cur.toList.drop (n * s)) := by
      rw [← List.append_assoc, ← ht, List.take_append_drop]
    have hsz : P.length + X.length ≤ cur.size := by
      have := congrArg List.length hc
      simp only [List.length_append, Array.length_toList] at this
      omega
    refine ⟨cur, hh, hsz, fun i v hi => ?_, fun W' hB _ => ⟨?_, Or.inr ⟨g, c, putAll cur P.length Y, rfl, hg, hB, hnc, hm, by rw [put_size]; exact hs, ?_⟩⟩⟩
    · have hi' : i < X.length := (List.getElem?_eq_some_iff.1 hi).1
      rw [← Array.getElem?_toList, hc, List.append_assoc, List.getElem?_append_right (by omega), Nat.add_sub_cancel_left, List.getElem?_append_left hi']
      exact hi
    · rw [← hlen]
      simp only [List.length_append, hl]
    · rw [put_list Y P X _ cur hc hl, ← List.append_assoc]
      have : (P ++ Y ++ S).length = n * s := by
        rw [← hlen]
        simp only [List.length_append, hl]
      rw [← this, List.take_left]
/-- append of a struct that lies in a block, to a row of the call's own, as one step of a region that draws. -/
theorem step_box {P : Program} {W : World} {ops : Array Oper} {o : Oper} {act : Act} {K : Act → World → Prop} {Q : Exit → Act → World → Prop} {E : Prop} (hgd : o.guard = none) (s x : Operand) (t : TypeId)
    (ho : o.op = .call { callee := .builtin .append, args := #[s, x], argTypes := #[t, t] })
    (base : Nat) (e : TypeId) (i : TypeInfo) (z : Value) (size bytes : Nat) (ht : P.underlying t = some (.slice e)) (hi : P.info? e = some i) (hz : i.zero = some z)
    (hsize : i.size = size) (hby : i.bytes = bytes) (hzs : z.cells.size = size) (hsz : 0 < size)
    (T : TypeId) (C : Array Value) (g : Nat) (hB : Boxd W g C T) (hC : C.toList.length = size) (h1 : C.all (·.oneCell') = true) (v : Value) (n : Nat) (xs : List Value) (hs : act.eval s = v) (hown : W.ownsRow base e size v n xs) (hx : act.eval x = .slice (some ⟨g, 0, none⟩) 1 1)
    (h63 : n + 1 ≤ maxLen) (hbytes : (n + 1) * bytes ≤ 140737488355328) (hbase : base ≤ W.heap.size)
    (d : Nat) (hd : o.dst = some d)
    (h : ∀ v' w', w'.ownsRow base e size v' (n + 1) (xs ++ C.toList) → W.grownBy w' v.ownBlock → K (act.put (some d) v') w') :
    if Region.wanted o (yielded ops act.tmps) = true then Oper.wp P o act W K Q else E := by
  have hw : Region.wanted o (yielded ops act.tmps) = true := by simp [Region.wanted, hgd]
  rw [if_pos hw]
  refine wp_append_own W s x t ho base e i z size bytes ht hi hz hsize hby hzs hsz v n xs hs hown ⟨g, 0, none⟩ 1 1 C.toList hx (by rw [hC, Nat.one_mul]) ?_ ?_ h63 hbytes hbase (fun v' w' h1 h2 _ => by rw [hd]; exact h v' w' h1 h2)
  · intro j y hj
    rw [Go.WideShapes.add_plain, Nat.zero_add, hB.cell]
    simpa using hj
  · intro y hy
    exact (Array.all_eq_true_iff_forall_mem.1 h1) y (by simpa using hy)
/-- A slice literal, as one step of a region that draws. -/
theorem step_slice {P : Program} {ops : Array Oper} {Q : Exit → Act → World → Prop} {o : Oper} {a : Act} {w w' : World} {K : Act → World → Prop} {E : Prop} (hgd : o.guard = none) (t : TypeId) (n : Nat) (ps : Array (Nat × Operand)) (ho : o.op = .buildSlice t n ps) (v : Value) (qs : Array (Nat × Value)) (hq : (ps.map fun p => (p.1, a.eval p.2)) = qs)
    (hr : (Instr.buildSlice t n qs).run P w = .ok v w') (d : Nat) (hd : o.dst = some d) (h : K (a.put (some d) v) w') : if Region.wanted o (yielded ops a.tmps) = true then Oper.wp P o a w K Q else E := by
  have hw : Region.wanted o (yielded ops a.tmps) = true := by simp [Region.wanted, hgd]
  rw [if_pos hw]
  unfold Oper.wp execOp
  simp only [ho, hq, Sem.run_bind, Sem.run_pure, hr, Result.andThen_ok]
  show K (a.put o.dst v) w'
  rw [hd]
  exact h
/-- A struct made of opaque parts. -/
theorem o_build {P : Program} {ops : Array Oper} {rest : List Oper} {o : Oper} {a : Act} {w : World} {Q : Exit → Act → World → Prop} (hw : Region.wanted o (yielded ops a.tmps) = true) (t : TypeId) (ps : Array (Nat × Operand)) (ho : o.op = .build t ps) (v : Value) (qs : Array (Nat × Value)) (hq : (ps.map fun p => (p.1, a.eval p.2)) = qs)
    (hr : (Instr.build t qs).run P w = .ok v w) (h : wpList P ops Q rest (a.put o.dst v) w) : wpList P ops Q (o :: rest) a w :=
  BigFrame.wpList_want hw fun _ hK => by
    have := hK _ _ h
    unfold Oper.wp execOp
    simp only [ho, hq, Sem.run_bind, Sem.run_pure, hr, Result.andThen_ok]
    exact this
/-- The same, as one step of a region that draws. -/
theorem step_build {P : Program} {ops : Array Oper} {Q : Exit → Act → World → Prop} {o : Oper} {a : Act} {w : World} {K : Act → World → Prop} {E : Prop} (hgd : o.guard = none) (t : TypeId) (ps : Array (Nat × Operand)) (ho : o.op = .build t ps) (v : Value) (qs : Array (Nat × Value)) (hq : (ps.map fun p => (p.1, a.eval p.2)) = qs)
    (hr : (Instr.build t qs).run P w = .ok v w) (d : Nat) (hd : o.dst = some d) (h : K (a.put (some d) v) w) : if Region.wanted o (yielded ops a.tmps) = true then Oper.wp P o a w K Q else E := by
  have hw : Region.wanted o (yielded ops a.tmps) = true := by simp [Region.wanted, hgd]
  rw [if_pos hw]
  unfold Oper.wp execOp
  simp only [ho, hq, Sem.run_bind, Sem.run_pure, hr, Result.andThen_ok]
  show K (a.put o.dst v) w
  rw [hd]
  exact h
/-- A whole struct's store, as one step of a region that draws. -/
theorem step_store {P : Program} {ops : Array Oper} {Q : Exit → Act → World → Prop} {o : Oper} {a : Act} {w : World} {K : Act → World → Prop} {E : Prop} (hgd : o.guard = none) (ty : TypeId) (x y : Operand) (ho : o.op = .store ty x y) (hd : o.dst = none)
    (g : Nat) (cells : Array Value) (hx : a.eval x = .pointer (some ⟨g, 0, none⟩)) (hy : a.eval y = .agg cells) (t : TypeId) (old : Array Value) (hg : Boxd w g old t) (hi : (P.info? ty).map (·.size) = some cells.size) (hold : old.size = cells.size) (h1 : cells.all (·.oneCell') = true)
    (h : ∀ w', Boxd w' g cells t → One g w w' → K a w') : if Region.wanted o (yielded ops a.tmps) = true then Oper.wp P o a w K Q else E := by
  have hw : Region.wanted o (yielded ops a.tmps) = true := by simp [Region.wanted, hgd]
  rw [if_pos hw]
  refine wp_store_row ty x y ho g cells hx hy t old hg hi hold h1 ?_
  rw [hd]
  exact h _ (boxd_row hg) (one_row w g cells)
/-- The same behind another, in a region that does not draw. -/
theorem wpList_append_box {P : Program} {W : World} {ops : Array Oper} {rest : List Oper} {o : Oper} {a : Act} {Q : Exit → Act → World → Prop} (hgd : o.guard = none) (s x : Operand) (t : TypeId)
    (ho : o.op = .call { callee := .builtin .append, args := #[s, x], argTypes := #[t, t] })
    (base : Nat) (e : TypeId) (i : TypeInfo) (z : Value) (size bytes : Nat) (ht : P.underlying t = some (.slice e)) (hi : P.info? e = some i) (hz : i.zero = some z)
    (hsize : i.size = size) (hby : i.bytes = bytes) (hzs : z.cells.size = size) (hsz : 0 < size)
    (T : TypeId) (C : Array Value) (g : Nat) (hB : Boxd W g C T) (hC : C.toList.length = size) (h1 : C.all (·.oneCell') = true) (v : Value) (n : Nat) (xs : List Value) (hs : a.eval s = v) (hown : W.ownsRow base e size v n xs) (hx : a.eval x = .slice (some ⟨g, 0, none⟩) 1 1)
    (h63 : n + 1 ≤ maxLen) (hbytes : (n + 1) * bytes ≤ 140737488355328) (hbase : base ≤ W.heap.size)
    (h : ∀ v' w', w'.ownsRow base e size v' (n + 1) (xs ++ C.toList) → W.grownBy w' v.ownBlock → wpList P ops Q rest (a.put o.dst v') w') : wpList P ops Q (o :: rest) a W := by
  refine wpList_append_own _ hgd s x t ho base e i z size bytes ht hi hz hsize hby hzs hsz v n xs hs hown ⟨g, 0, none⟩ 1 1 C.toList hx (by rw [hC, Nat.one_mul]) ?_ ?_ h63 hbytes hbase (fun v' w' h2 h3 _ => h v' w' h2 h3)
  · intro j y hj
    rw [Go.WideShapes.add_plain, Nat.zero_add, hB.cell]
    simpa using hj
  · intro y hy
    exact (Array.all_eq_true_iff_forall_mem.1 h1) y (by simpa using hy)
/-! A row of bills, one of them written. -/
theorem flatB_app (A B : List Bl) : flatB (A ++ B) = flatB A ++ flatB B := by unfold flatB; rw [List.flatMap_append]
theorem flatB_cons (x : Bl) (r : List Bl) : flatB (x :: r) = x.cells.toList ++ flatB r := by unfold flatB; rw [List.flatMap_cons]
theorem flatB_len (M : List Bl) : (flatB M).length = M.length * 6 := flat_len (g := fun x : Bl => x.cells.toList) bl_len M
def five (x : Bl) : List Value := [.int .i64 x.month, .int .i64 x.amount, .int .i64 x.left, .int .i64 x.covered, .int .i64 x.how]
theorem flatB_five (N R : List Bl) (x : Bl) : flatB (N ++ x :: R) = (flatB N ++ five x) ++ [x.v] ++ flatB R := by
  rw [flatB_app, flatB_cons]
  simp [five, Bl.cells]
theorem flatB_one (N R : List Bl) (x : Bl) : flatB (N ++ x :: R) = flatB N ++ x.cells.toList ++ flatB R := by
  rw [flatB_app, flatB_cons, List.append_assoc]
theorem flatB_left (N R : List Bl) (x : Bl) : flatB (N ++ x :: R) = (flatB N ++ [.int .i64 x.month, .int .i64 x.amount]) ++ [.int .i64 x.left] ++ ([.int .i64 x.covered, .int .i64 x.how, x.v] ++ flatB R) := by
  rw [flatB_app, flatB_cons]
  simp [Bl.cells]
theorem flatB_two (N R : List Bl) (x : Bl) : flatB (N ++ x :: R) = (flatB N ++ [.int .i64 x.month, .int .i64 x.amount]) ++ [.int .i64 x.left, .int .i64 x.covered] ++ ([.int .i64 x.how, x.v] ++ flatB R) := by
  rw [flatB_app, flatB_cons]
  simp [Bl.cells]
end Go.Proofs.YtjjbdemhccpllaaDoor.Plan
