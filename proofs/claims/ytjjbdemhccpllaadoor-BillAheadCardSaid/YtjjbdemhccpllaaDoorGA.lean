/- Of no one law: from 'the law returns true, and below the old memory nothing has turned' to the law's row; an array of integers that came in by value, opened. Of no one law: a law whose row lists package-level variables: from 'where they hold what is listed, the law returns true, and below the old memory nothing has turned' to the row; the card out of the row; a listed array of integers, cell by cell. Of no one law: a region that draws, walked by hand: an operation that yields is taken first, and so is one that its guard strikes out; the place that it writes is named. Of no one law: a slice of integers that reads as a list, nil among them; how it is carried from world to world. Of no one law: append of one element to a row of the call's own. Of no one law: append of one element to a row of the call's own: the row's block stays, or it is new. Of no one law: a row of the call's own whose first n cells are known. annuitykeep.Mod, at any divisor from 1 on that is no giant. Of no one law. Of no one law: a block that holds given cells, whole or a cell at a time; memory in which only one block has turned. Of no one law: how many cells an integer has. Of no one law: a slice of structs that reads as a list, nil among them; how it is carried from world to world; its element's load; one struct appended to a row of the call's own. -/
import Derived.Test.YtjjbdemhccpllaaDoorRows
import Derived.WalkKit
import Derived.ProofKit
import Derived.OpenShut
import Derived.Carry
import Derived.Handed
import Derived.LaidMore
import Derived.Lay
import Derived.MakeChecks
import Derived.Lib.LaidTab
import Derived.SevenTiedAt
import Derived.Stop.LaidErr
import Derived.Test.YtjjbdemhccpllaaDoorChecked
import Derived.Deep.RegionHeld3
import Derived.Deep.Draws
import Derived.Laws.AppendOwnNone
import Derived.OwnWalk
import Derived.Laws.AppendOwn
import Derived.Deep.OwnRows
import Derived.Handy
import Derived.Lib.Hide
import Derived.Deep.WholeRow
import Derived.Deep.Heap
import Derived.Deep.MidRow
import Derived.BigFrame
import Derived.Deep.DeepCutAuto
namespace Go.Proofs.YtjjbdemhccpllaaDoor.Shell
open Go.ChangeShapes Go.WideShapes Go.ChangeAt Go.RowKit

section
variable {H : Type} {enc : TypeId × Value → H} {P : Program}

/-- What was read of old memory alone reads as it did, wherever that memory has not turned: all arguments at once. -/
theorem args_stay (hl : laidOutB P = true) {W W' : World} {sp : Nat → Bool} : ∀ (ts : List TypeId), ts.all (fun t => P.readableRec t && decide (t < P.types.size)) = true →
    ∀ (vs : List Value) (ds : List (DataW H)) (ps : List MemPlace), DataW.TrodAll enc P W 0 (fun _ => true) true ts vs ds ps → (∀ p ∈ ps, W.sameAt W' p) → (∀ p ∈ ps, sp p.block = true) →
    DataW.TrodAll enc P W' 0 sp true ts vs ds ps
  | [], _, vs, ds, ps, h, _, _ => by
    obtain ⟨rfl, rfl, rfl⟩ := trodAll_nil h
    exact trodAll_mk0
  | t :: ts, hr, vs, ds, ps, h, hs, hsp => by
    simp only [List.all_cons, Bool.and_eq_true, decide_eq_true_eq] at hr
    obtain ⟨v, vs', d, ds', p, q, rfl, rfl, rfl, h1, h2⟩ := trodAll_cons h
    exact trodAll_cons_mk (WideElems.Trod_stays hl hr.1.1 hr.1.2 h1 (fun x hx => hs x (by simp [hx])) (fun x hx => hsp x (by simp [hx])))
      (args_stay hl ts hr.2 vs' ds' q h2 (fun x hx => hs x (by simp [hx])) (fun x hx => hsp x (by simp [hx])))

theorem law_post {fn : Func} {s : ChangeSpec} {apart fresh handsOn : Bool} {W W' : World} {args : Array Value} {ds : List (DataW H)} {p : List MemPlace} {tb : TypeId}
    (hl : laidOutB P = true) (hr : fn.params.toList.all (fun t => P.readableRec t && decide (t < P.types.size)) = true) (hv : s.vars = [])
    (hrt : fn.resultTypes = #[tb]) (hub : P.underlying tb = some .bool)
    (hs : s.fn H ds = ⟨[.lit (.bool true)], ds, []⟩) (hA : DataW.TrodAll enc P W 0 (fun _ => true) true fn.params.toList args.toList ds p)
    (hW : DataW.Whole enc P fn.params.toList s.vars apart W args.toList ds [] p) (hb : Below W.heap.size W W') :
    s.post enc P fn apart fresh handsOn false W args (.bool true) W' := by
  have hlt : ∀ x ∈ p, x.block < W.heap.size := fun x hx => hW.lt x hx
  refine ⟨ds, [], p, [], p, [], hW, ?_, ?_, ?_, World.keptBut_mono (fun _ h => h.elim) (hb.frame fun _ => False), fun h => by cases h⟩
  · rw [List.append_nil, hs, hrt]
    exact trodAll_mk1 (shut_bool hub true)
  · rw [List.append_nil, hs]
    exact args_stay hl _ hr _ _ _ hA (fun x hx => hb.same (hlt x hx)) (fun x hx => by simpa using hlt x hx)
  · rw [List.append_nil, hs, hv]
    rfl

theorem law_lifted {C : Checked} {os : Os} {f : FuncId} {fn : Func} {s : ChangeSpec} {conds : List PathCond} {apart fresh handsOn : Bool} {tb : TypeId}
    (own : ownKnob C.prog.godebug = none) (started : os.Started) (noInit : C.prog.inits.idxOf? f = none) (hfn : C.prog.funcs[f]? = some fn)
    (witness : ∃ (w : World) (tape : Tape) (i : Input), w.os = os ∧ (w.forCall tape i).Shaped C.prog ∧ i.vars = [] ∧ Input.okWide C.prog (w.forCall tape i) .any w.heap.size f i ∧
      s.pre6 enc C.prog fn conds apart (w.forCall tape i).memory i.args ∧ ({} : Assume).holds C.prog (lone (Frame.enter C.prog f i.args .normal) [] (w.forCall tape i)))
    (hl : laidOutB C.prog = true) (hr : fn.params.toList.all (fun t => C.prog.readableRec t && decide (t < C.prog.types.size)) = true) (hv : s.vars = [])
    (hrt : fn.resultTypes = #[tb]) (hub : C.prog.underlying tb = some .bool)
    (walk : ∀ (W : World) (base : Nat) (args : Array Value) (ds : List (DataW H)) (p : List MemPlace),
      (∀ (j : Nat) t v, fn.params[j]? = some t → args[j]? = some v → Value.okWide C.prog W .any base t v) →
      DataW.TrodAll enc C.prog W 0 (fun _ => true) true fn.params.toList args.toList ds p →
      s.fn H ds = ⟨[.lit (.bool true)], ds, []⟩ ∧ Calls C.prog f args W fun e W' => e = .returned (.bool true) ∧ Below W.heap.size W W') :
    ReturnsInHanded {} C os f .any (s.pre6 enc C.prog fn conds apart) (s.post enc C.prog fn apart fresh handsOn false) := by
  refine returnsInHanded_of_change own started noInit hfn witness ?_
  intro W base args ds gs before hval hW _ _
  have hW' := hW
  obtain ⟨p, q, hA, hV, rfl, hz, hn⟩ := hW
  rw [hv] at hV
  obtain ⟨rfl, rfl⟩ := trodVars_none hV
  rw [List.append_nil] at hW'
  obtain ⟨hs, hc⟩ := walk W base args ds p hval hA
  exact hc.mono fun e W' ⟨he, hb⟩ => ⟨_, he, law_post hl hr hv hrt hub hs hA hW' hb⟩

/-- An array of integers by value. -/
theorem open_arr {w : World} {base b0 n : Nat} {spare : Nat → Bool} {held : Bool} {r : Reach} {t e : TypeId} {k : IntKind} {v : Value} {d : DataW H} {ps : List MemPlace}
    (ht : P.underlying t = some (.array n e)) (he : P.underlying e = some (.int k)) (hce : P.cellsOf e = 1) (hct : P.cellsOf t = n)
    (hval : Value.okWide P w r b0 t v) (hd : DataW.Trod enc P w base spare held t v d ps) :
    ∃ zs : List Int, zs.length = n ∧ v = .agg (zs.map (Value.int k)).toArray ∧ ∀ z ∈ zs, (Lit.int k z).wf = true := by
  obtain ⟨cs, rfl, hsz, -⟩ : ∃ cs, v = .agg cs ∧ cs.size = P.cellsOf t ∧ Row.okWide P w r b0 t cs := by
    simpa [Value.okWide, ht] using hval
  obtain ⟨fuel, hf⟩ := hd
  obtain ⟨xs, m, -, -, hlen, hx, hall⟩ := DataW.trod_array ht hf
  obtain ⟨l⟩ := cs
  have hl : l.length = n := by rw [← hct]; simpa using hsz
  have each : ∀ (i : Nat) (h : i < l.length), ∃ z : Int, l[i] = .int k z ∧ (Lit.int k z).wf = true := by
    intro i hi
    have h := hall i (by omega)
    rw [hce, Nat.mul_one] at h
    have e1 : (l.drop i).take 1 = [l[i]] := by
      rw [List.drop_eq_getElem_cons hi]; rfl
    have e2 : xs[i]? = some xs[i] := List.getElem?_eq_getElem (by omega)
    have hc : (Value.agg ⟨l⟩).cells.toList = l := rfl
    rw [hc, e1, e2] at h
    obtain ⟨z, e3, -, hw⟩ := DataW.trod_int he h
    simp only [List.cons.injEq, and_true] at e3
    exact ⟨z, e3, hw⟩
  refine ⟨l.map intOf, by simpa using hl, ?_, ?_⟩
  · congr 1
    show (⟨l⟩ : Array Value) = ⟨_⟩
    congr 1
    rw [List.map_map]
    refine (List.ext_getElem (by simp) fun i h1 h2 => ?_)
    obtain ⟨z, hz, -⟩ := each i h1
    simp [hz, intOf]
  · intro z hz
    obtain ⟨c, hc, rfl⟩ := List.mem_map.1 hz
    obtain ⟨i, hi, rfl⟩ := List.getElem_of_mem hc
    obtain ⟨z, hz, hw⟩ := each i hi
    rw [hz]; exact hw
end
theorem list2 {α : Type} (l : List α) (h : l.length = 2) : ∃ a b, l = [a, b] := by
  match l, h with
  | [a, b], _ => exact ⟨a, b, rfl⟩
theorem list3 {α : Type} (l : List α) (h : l.length = 3) : ∃ a b c, l = [a, b, c] := by
  match l, h with
  | [a, b, c], _ => exact ⟨a, b, c, rfl⟩
end Go.Proofs.YtjjbdemhccpllaaDoor.Shell
namespace Go.Proofs.YtjjbdemhccpllaaDoor.Door
open Go.ChangeShapes Go.WideShapes Go.ChangeAt Go.RowKit

section
variable {H : Type} {enc : TypeId × Value → H}

theorem law_lifted {C : Checked} {os : Os} {f : FuncId} {fn : Func} {s : ChangeSpec} {conds : List PathCond} {apart fresh handsOn : Bool} {tb : TypeId} {laid : List (String × DataW Unit)}
    (own : ownKnob C.prog.godebug = none) (started : os.Started) (noInit : C.prog.inits.idxOf? f = none) (hfn : C.prog.funcs[f]? = some fn)
    (witness : ∃ (w : World) (tape : Tape) (i : Input), w.os = os ∧ (w.forCall tape i).Shaped C.prog ∧ i.vars = [] ∧ Input.okWide C.prog (w.forCall tape i) .any w.heap.size f i ∧
      ((s.pre enc C.prog fn conds apart (w.forCall tape i).memory i.args ∧ laidMetH C.prog laid (w.forCall tape i).memory) ∧ sizedMet enc C.prog fn (OpenSpec.ofChange s) apart (w.forCall tape i).memory i.args) ∧ ({} : Assume).holds C.prog (lone (Frame.enter C.prog f i.args .normal) [] (w.forCall tape i)))
    (hl : laidOutB C.prog = true) (hr : fn.params.toList.all (fun t => C.prog.readableRec t && decide (t < C.prog.types.size)) = true) (hv : s.vars = [])
    (hrt : fn.resultTypes = #[tb]) (hub : C.prog.underlying tb = some .bool)
    (walk : ∀ (W : World) (base : Nat) (args : Array Value) (ds : List (DataW H)) (p : List MemPlace),
      (∀ (j : Nat) t v, fn.params[j]? = some t → args[j]? = some v → Value.okWide C.prog W .any base t v) →
      DataW.TrodAll enc C.prog W 0 (fun _ => true) true fn.params.toList args.toList ds p → laidMetH C.prog laid W →
      s.fn H ds = ⟨[.lit (.bool true)], ds, []⟩ ∧ Calls C.prog f args W fun e W' => e = .returned (.bool true) ∧ Below W.heap.size W W') :
    ReturnsInHanded {} C os f .any (fun w args => (s.pre enc C.prog fn conds apart w args ∧ laidMetH C.prog laid w) ∧ sizedMet enc C.prog fn (OpenSpec.ofChange s) apart w args) (s.post enc C.prog fn apart fresh handsOn false) := by
  refine returnsInHanded_of_change_and (X := fun w _ => laidMetH C.prog laid w) (fun _ _ _ hh h => h.of_heap hh) own started noInit hfn witness ?_
  intro W base args ds gs before hval hW _ _ hL _
  have hW' := hW
  obtain ⟨p, q, hA, hV, rfl, hz, hn⟩ := hW
  rw [hv] at hV
  obtain ⟨rfl, rfl⟩ := trodVars_none hV
  rw [List.append_nil] at hW'
  obtain ⟨hs, hc⟩ := walk W base args ds p hval hA hL
  exact hc.mono fun e W' ⟨he, hb⟩ => ⟨_, he, Shell.law_post hl hr hv hrt hub hs hA hW' hb⟩
end

/-- A listed table, wherever it stands on the list. -/
theorem tab_of_mem {P : Program} {W : World} {name : String} {k : IntKind} {zs : List Int} {laid : List (String × DataW Unit)} {g : Nat} {t e : TypeId} {n : Nat}
    (hg : P.globalNamed name = some g) (hty : (P.globals[g]?).map (·.type) = some t) (ht : P.underlying t = some (.array n e)) (he : P.underlying e = some (.int k)) (hce : P.cellsOf e = 1) (hct : P.cellsOf t = n)
    (h : laidMet P laid W) (hm : (name, Lib.tabData k zs) ∈ laid) : Lib.TabIs P W name k zs := by
  induction laid with
  | nil => cases hm
  | cons x r ih =>
    rcases List.mem_cons.1 hm with rfl | hm
    · exact Lib.tabIs_of_head hg hty ht he hce hct h
    · exact ih h.tail hm
end Go.Proofs.YtjjbdemhccpllaaDoor.Door
namespace Go.Proofs.YtjjbdemhccpllaaDoor.ByHand
section
variable {P : Program} {ops : Array Oper} {Q : Exit → Act → World → Prop} {md : Region.Mode} {S : World → Prop} {oi : Oper} {v : Value} {fuel : Nat} {listed : Array Bool} {a : Act} {w : World}
theorem take_yes (i k : Nat) (hi : ops[i]? = some oi) (hd : oi.dst = some k) (hs : Region.noSelect ops = true) (hf : Region.free md ops listed i = true) (hr : (Region.ready md ops listed).contains i = true)
    (hQ : ∀ c a w, Q (.panic c) (a.put oi.dst v) w → Q (.panic c) a w) (hw : Region.wanted oi (yielded ops a.tmps) = true) (hy : ∀ w, S w → (execOp a.eval oi).run P w = .ok (.value v) w) (hS : S w)
    (h : wpAnyH P md ops Q S fuel (listed.setIfInBounds i true) (a.put (some k) v) w) : wpAnyH P md ops Q S (fuel + 1) listed a w :=
  wpAnyH_take hi hs hf hr hQ (Or.inl ⟨hw, hy⟩) hS (by rw [hd]; exact h)
theorem take_no (i k : Nat) (hi : ops[i]? = some oi) (hd : oi.dst = some k) (hs : Region.noSelect ops = true) (hf : Region.free md ops listed i = true) (hr : (Region.ready md ops listed).contains i = true)
    (hQ : ∀ c a w, Q (.panic c) (a.put oi.dst undef) w → Q (.panic c) a w) (hw : Region.wanted oi (yielded ops a.tmps) = false) (hS : S w)
    (h : wpAnyH P md ops Q S fuel (listed.setIfInBounds i true) (a.put (some k) undef) w) : wpAnyH P md ops Q S (fuel + 1) listed a w :=
  wpAnyH_take hi hs hf hr hQ (Or.inr ⟨hw, rfl⟩) hS (by rw [hd]; exact h)
end
end Go.Proofs.YtjjbdemhccpllaaDoor.ByHand
namespace Go.Proofs.YtjjbdemhccpllaaDoor.Slice
open Go.ChangeShapes Go.WideShapes Go.ChangeAt Go.RowKit

/-- The value v is a slice of the integers zs, below block B. -/
def Ints (w : World) (B : Nat) (k : IntKind) (v : Value) (zs : List Int) : Prop :=
  ∃ (A : Option Addr) (c : Nat), v = .slice A zs.length c ∧ zs.length ≤ 9223372036854775807 ∧ (A = none → c = 0) ∧
    (0 < zs.length → ∃ b off, A = some ⟨b, off, none⟩ ∧ b < B ∧ ∀ i, i < zs.length → w.cell? ⟨b, off + i, none⟩ = some (.int k (zs.getD i 0)))

section
variable {w w' : World} {B B' : Nat} {k : IntKind} {v : Value} {zs : List Int}
theorem Ints.keep (h : Ints w B k v zs) (hk : ∀ b o, b < B → w'.cell? ⟨b, o, none⟩ = w.cell? ⟨b, o, none⟩) : Ints w' B k v zs := by
  obtain ⟨A, c, rfl, hl, hn, hc⟩ := h
  refine ⟨A, c, rfl, hl, hn, fun h0 => ?_⟩
  obtain ⟨b, off, rfl, hb, hcell⟩ := hc h0
  exact ⟨b, off, rfl, hb, fun i hi => (hk _ _ hb).trans (hcell i hi)⟩
theorem Ints.below (h : Ints w B k v zs) (hb : Below B w w') : Ints w' B k v zs := h.keep fun b o hlt => hb.cell (p := ⟨b, o, none⟩) hlt
theorem Ints.more (h : Ints w B k v zs) (hB : B ≤ B') : Ints w B' k v zs := by
  obtain ⟨A, c, rfl, hl, hn, hc⟩ := h
  refine ⟨A, c, rfl, hl, hn, fun h0 => ?_⟩
  obtain ⟨b, off, rfl, hb, hcell⟩ := hc h0
  exact ⟨b, off, rfl, by omega, hcell⟩
theorem Ints.drewN (h : Ints w B k v zs) (n : Nat) : Ints (w.drewN n) B k v zs := h
theorem Ints.alloc (h : Ints w B k v zs) (hB : B ≤ w.heap.size) (o : Obj) : Ints (w.alloc o) B k v zs := h.keep fun b p hb => World.cell?_alloc_lt (w := w) (o := o) (a := ⟨b, p, none⟩) (by show b < _; omega)
theorem Ints.nil_ (w : World) (B : Nat) (k : IntKind) : Ints w B k (.slice none 0 0) [] := ⟨none, 0, rfl, by simp, fun _ => rfl, fun h => absurd h (by simp)⟩
end

theorem lt_of_cell {w : World} {b o : Nat} {v : Value} (h : w.cell? ⟨b, o, none⟩ = some v) : b < w.heap.size := by
  rcases Nat.lt_or_ge b w.heap.size with hlt | hge
  · exact hlt
  · have e : w.heap[b]? = none := Array.getElem?_eq_none hge
    simp [World.cell?, e] at h

section
variable {H : Type} {enc : TypeId × Value → H} {P : Program}
/-- An argument: a slice of integers that came in. -/
theorem open_slice {w : World} {b0 : Nat} {r : Reach} {t e : TypeId} {k : IntKind} {v : Value} {d : DataW H} {ps : List MemPlace}
    (ht : P.underlying t = some (.slice e)) (he : P.underlying e = some (.int k)) (hc : P.cellsOf e = 1)
    (hval : Value.okWide P w r b0 t v) (hd : DataW.Trod enc P w 0 (fun _ => true) true t v d ps) :
    ∃ zs : List Int, Ints w w.heap.size k v zs ∧ ∀ z ∈ zs, (Lit.int k z).wf = true := by
  obtain ⟨a0, len0, cap0, rfl⟩ := okWide_slice ht hval
  obtain ⟨fuel, hf⟩ := hd
  rcases open_ints ht he hc hf with ⟨h1, -⟩ | ⟨a, len, cap, zs, h1, -, hlc, hm, hlen, -, hcell, hwf⟩
  · simp [Value.cells] at h1
    obtain ⟨rfl, rfl, rfl⟩ := h1
    exact ⟨[], Ints.nil_ _ _ _, by simp⟩
  · simp [Value.cells] at h1
    obtain ⟨rfl, rfl, rfl⟩ := h1
    simp only [if_true] at hlen
    have hl : (zs.take len0).length = len0 := by rw [List.length_take]; omega
    refine ⟨zs.take len0, ⟨some a, cap0, by rw [hl], by rw [hl]; unfold maxLen at hm; omega, fun h => (by cases h), fun h0 => ?_⟩, fun z hz => hwf z (List.mem_of_mem_take hz)⟩
    rw [hl] at h0 ⊢
    obtain ⟨b, off, rfl, hc⟩ := ints_at hcell (by omega)
    refine ⟨b, off, rfl, lt_of_cell (hc 0 (by omega)), fun i hi => ?_⟩
    rw [hc i (by omega)]
    congr 2
    simp only [List.getD_eq_getElem?_getD, List.getElem?_take, hi, if_true]
end

section
variable {P : Program} {w : World}
theorem Ints.of_own {base : Nat} {e : TypeId} {k : IntKind} {v : Value} {n : Nat} {zs : List Int} (hn : n = zs.length) (h : w.ownsRow base e 1 v n (zs.map (Value.int k))) : Ints w w.heap.size k v zs := by
  subst hn
  obtain ⟨hlen, ⟨rfl, h0⟩ | ⟨g, cap, cur, rfl, hg, hh, hnc, hm, hs, ht⟩⟩ := h
  · have : zs = [] := List.eq_nil_of_length_eq_zero h0
    subst this
    exact Ints.nil_ _ _ _
  · unfold maxLen at hm
    refine ⟨_, cap, rfl, by omega, fun h => (by cases h), fun h0 => ⟨g, 0, rfl, ?_, fun i hi => ?_⟩⟩
    · rcases Nat.lt_or_ge g w.heap.size with hlt | hge
      · exact hlt
      · rw [Array.getElem?_eq_none hge] at hh; cases hh
    · have e1 : cur.toList[i]? = some (.int k (zs.getD i 0)) := by
        have : (cur.toList.take (zs.length * 1))[i]? = (zs.map (Value.int k))[i]? := by rw [ht]
        rw [List.getElem?_take_of_lt (by omega)] at this
        rw [this, List.getElem?_map, List.getD_eq_getElem?_getD, List.getElem?_eq_getElem hi]
        rfl
      rw [Nat.zero_add]
      simp only [World.cell?, hh]
      simpa using e1

/-- append of a slice of integers that came in to a row of the call's own. -/
theorem wpList_append_ints {ops : Array Oper} {rest : List Oper} {o : Oper} {a : Act} {Q : Exit → Act → World → Prop} (hgd : o.guard = none) (s x : Operand) (t : TypeId)
    (ho : o.op = .call { callee := .builtin .append, args := #[s, x], argTypes := #[t, t] })
    (base : Nat) (e : TypeId) (i : TypeInfo) (z : Value) (bytes : Nat) (ht : P.underlying t = some (.slice e)) (hi : P.info? e = some i) (hz : i.zero = some z)
    (hsize : i.size = 1) (hby : i.bytes = bytes) (hzs : z.cells.size = 1)
    (v : Value) (n : Nat) (xs : List Value) (hs : a.eval s = v) (hown : w.ownsRow base e 1 v n xs)
    (B : Nat) (k : IntKind) (u : Value) (zs : List Int) (hx : a.eval x = u) (hu : Ints w B k u zs)
    (h63 : n + zs.length ≤ maxLen) (hbytes : (n + zs.length) * bytes ≤ 140737488355328) (hbase : base ≤ w.heap.size)
    (h : ∀ v' w', w'.ownsRow base e 1 v' (n + zs.length) (xs ++ zs.map (Value.int k)) → w.grownBy w' v.ownBlock → wpList P ops Q rest (a.put o.dst v') w') : wpList P ops Q (o :: rest) a w := by
  obtain ⟨A, c, rfl, hl, hn, hc⟩ := hu
  cases A with
  | none =>
    have h0 : zs = [] := by
      rcases Nat.eq_zero_or_pos zs.length with h0 | h0
      · exact List.eq_nil_of_length_eq_zero h0
      · obtain ⟨b, off, hb, -⟩ := hc h0; cases hb
    subst h0
    obtain rfl := hn rfl
    exact wpList_append_own_none hgd s x t ho base e i 1 ht hi v n xs hs hown hx (h v w (by simpa using hown) (World.grownBy.refl _ _))
  | some ad =>
    refine wpList_append_own _ hgd s x t ho base e i z 1 bytes ht hi hz hsize hby hzs (by omega) v n xs hs hown ad zs.length c (zs.map (Value.int k)) hx (by simp) ?_ ?_ h63 hbytes hbase (fun v' w' h1 h2 _ => h v' w' h1 h2)
    · intro j y hj
      have hlt : j < zs.length := by
        rcases Nat.lt_or_ge j zs.length with h | h
        · exact h
        · rw [List.getElem?_eq_none (by simpa using h)] at hj; cases hj
      obtain ⟨b, off, hb, -, hcell⟩ := hc (by omega)
      injection hb with hb
      subst hb
      rw [List.getElem?_map, List.getElem?_eq_getElem hlt] at hj
      injection hj with hj
      subst hj
      rw [Go.WideShapes.add_plain, hcell j hlt, List.getD_eq_getElem?_getD, List.getElem?_eq_getElem hlt]
      rfl
    · intro y hy
      obtain ⟨z', -, rfl⟩ := List.mem_map.1 hy
      rfl
end
end Go.Proofs.YtjjbdemhccpllaaDoor.Slice
namespace Go.Proofs.YtjjbdemhccpllaaDoor.Slice
open Go.ChangeShapes Go.WideShapes Go.ChangeAt Go.RowKit

theorem one_elem (w : World) (u : Value) (T : TypeId) : ∀ k y, [u][k]? = some y → (w.alloc (.cells #[u] T)).cell? ((⟨w.heap.size, 0, none⟩ : Addr).add k) = some y := by
  intro k y h
  match k, h with
  | 0, h =>
    injection h with h
    subst h
    simp [Addr.add]
theorem own_slice {w : World} {base n : Nat} {e : TypeId} {v : Value} {xs : List Value} (h : w.ownsRow base e 1 v n xs) : ∃ A c, v = .slice A n c := by
  rcases h.2 with ⟨rfl, rfl⟩ | ⟨g, cap, cur, rfl, -⟩
  · exact ⟨none, 0, rfl⟩
  · exact ⟨_, _, rfl⟩
theorem grown_new {w w' : World} {o : Obj} {r : Option Nat} (h : (w.alloc o).grownBy w' r) : w.grownBy w' r :=
  ⟨h.os, h.tape, h.output, Nat.le_trans (by simp) h.size, fun i hi hr => (h.block i (by simp; omega) hr).trans (Below.heap_alloc w o i hi)⟩
theorem grown_below {w w' : World} (h : Below w.heap.size w w') (r : Option Nat) : w.grownBy w' r := ⟨h.os, h.tape, h.output, h.size, fun i hi _ => h.block i hi⟩
theorem own_apart {w : World} {base base' n n' : Nat} {e e' : TypeId} {v v' : Value} {xs xs' : List Value} (h : w.ownsRow base e 1 v n xs) (h' : w.ownsRow base' e' 1 v' n' xs') (hne : e ≠ e') : v.ownBlock = none ∨ v.ownBlock ≠ v'.ownBlock := by
  rcases h.2 with ⟨rfl, rfl⟩ | ⟨g, cap, cur, rfl, -, hh, -⟩
  · exact Or.inl rfl
  · right
    rcases h'.2 with ⟨rfl, rfl⟩ | ⟨g', cap', cur', rfl, -, hh', -⟩
    · intro e; simp [Value.ownBlock] at e
    · intro e
      have eg : g = g' := by simpa [Value.ownBlock] using e
      subst eg
      rw [hh] at hh'
      injection hh' with hh'
      injection hh' with _ ht
      exact hne ht
theorem wpList_append_one {P : Program} {ops : Array Oper} {rest : List Oper} {o : Oper} {a : Act} {Q : Exit → Act → World → Prop} (hgd : o.guard = none) (s x : Operand) (t : TypeId)
    (ho : o.op = .call { callee := .builtin .append, args := #[s, x], argTypes := #[t, t] })
    (base : Nat) (e : TypeId) (i : TypeInfo) (z : Value) (bytes : Nat) (ht : P.underlying t = some (.slice e)) (hi : P.info? e = some i) (hz : i.zero = some z)
    (hsize : i.size = 1) (hby : i.bytes = bytes) (hzs : z.cells.size = 1)
    (w : World) (T : TypeId) (u : Value) (h1 : u.oneCell' = true) (v : Value) (n : Nat) (xs : List Value) (hs : a.eval s = v) (hown : w.ownsRow base e 1 v n xs) (g : Nat) (hx : a.eval x = .slice (some ⟨g, 0, none⟩) 1 1) (hgw : g = w.heap.size)
    (h63 : n + 1 ≤ maxLen) (hbytes : (n + 1) * bytes ≤ 140737488355328) (hbase : base ≤ w.heap.size)
    (h : ∀ v' w', w'.ownsRow base e 1 v' (n + 1) (xs ++ [u]) → w.grownBy w' v.ownBlock → wpList P ops Q rest (a.put o.dst v') w') : wpList P ops Q (o :: rest) a (w.alloc (.cells #[u] T)) :=
  wpList_append_own _ hgd s x t ho base e i z 1 bytes ht hi hz hsize hby hzs (by omega) v n xs hs (hown.alloc _) ⟨w.heap.size, 0, none⟩ 1 1 [u] (by rw [hx, hgw]) rfl (one_elem w u T)
    (fun y hy => by rw [List.mem_singleton] at hy; rw [hy]; exact h1) h63 hbytes (by simp; omega) (fun v' w' h2 h3 _ => h v' w' h2 (grown_new h3))
/-- append of a slice of integers to a row of the call's own, as one step of a region that draws. -/
theorem step_ints {P : Program} {W : World} {ops : Array Oper} {o : Oper} {act : Act} {K : Act → World → Prop} {Q : Exit → Act → World → Prop} {E : Prop} (hgd : o.guard = none) (s x : Operand) (t : TypeId)
    (ho : o.op = .call { callee := .builtin .append, args := #[s, x], argTypes := #[t, t] })
    (base : Nat) (e : TypeId) (i : TypeInfo) (z : Value) (bytes : Nat) (ht : P.underlying t = some (.slice e)) (hi : P.info? e = some i) (hz : i.zero = some z)
    (hsize : i.size = 1) (hby : i.bytes = bytes) (hzs : z.cells.size = 1)
    (v : Value) (n : Nat) (xs : List Value) (hs : act.eval s = v) (hown : W.ownsRow base e 1 v n xs)
    (B : Nat) (k : IntKind) (u : Value) (zs : List Int) (hx : act.eval x = u) (hu : Ints W B k u zs)
    (h63 : n + zs.length ≤ maxLen) (hbytes : (n + zs.length) * bytes ≤ 140737488355328) (hbase : base ≤ W.heap.size)
    (h : ∀ v' w', w'.ownsRow base e 1 v' (n + zs.length) (xs ++ zs.map (Value.int k)) → W.grownBy w' v.ownBlock → K (act.put o.dst v') w') :
    if Region.wanted o (yielded ops act.tmps) = true then Oper.wp P o act W K Q else E := by
  have hw : Region.wanted o (yielded ops act.tmps) = true := by simp [Region.wanted, hgd]
  rw [if_pos hw]
  obtain ⟨A, c, rfl, hl, hn, hc⟩ := hu
  cases A with
  | none =>
    have h0 : zs = [] := by
      rcases Nat.eq_zero_or_pos zs.length with h0 | h0
      · exact List.eq_nil_of_length_eq_zero h0
      · obtain ⟨b, off, hb, -⟩ := hc h0; cases hb
    subst h0
    obtain rfl := hn rfl
    have hrun := run_append_owned_none (P := P) (w := W) base t o.type e i 1 ht hi v n xs hown
    unfold Oper.wp
    simp [execOp, ho, resolve, invoke, builtin, hs, hx, hrun, Result.andThen]
    exact h v W (by simpa using hown) (World.grownBy.refl _ _)
  | some ad =>
    refine wp_append_own W s x t ho base e i z 1 bytes ht hi hz hsize hby hzs (by omega) v n xs hs hown ad zs.length c (zs.map (Value.int k)) hx (by simp) ?_ ?_ h63 hbytes hbase (fun v' w' h1 h2 _ => h v' w' h1 h2)
    · intro j y hj
      have hlt : j < zs.length := by
        rcases Nat.lt_or_ge j zs.length with h | h
        · exact h
        · rw [List.getElem?_eq_none (by simpa using h)] at hj; cases hj
      obtain ⟨b, off, hb, -, hcell⟩ := hc (by omega)
      injection hb with hb
      subst hb
      rw [List.getElem?_map, List.getElem?_eq_getElem hlt] at hj
      injection hj with hj
      subst hj
      rw [Go.WideShapes.add_plain, hcell j hlt, List.getD_eq_getElem?_getD, List.getElem?_eq_getElem hlt]
      rfl
    · intro y hy
      obtain ⟨z', -, rfl⟩ := List.mem_map.1 hy
      rfl
theorem one_of_cell {w : World} {g : Nat} {k : IntKind} {z : Int} (h : w.cell? ⟨g, 0, none⟩ = some (.int k z)) : Ints w w.heap.size k (.slice (some ⟨g, 0, none⟩) 1 1) [z] :=
  ⟨some ⟨g, 0, none⟩, 1, rfl, by simp, fun h => (by cases h), fun _ => ⟨g, 0, rfl, lt_of_cell h, fun i hi => by
    match i, hi with
    | 0, _ => exact h⟩⟩
theorem one_lit {w : World} {g : Nat} {T : TypeId} {k : IntKind} {z : Int} (hg : g = w.heap.size) : Ints (w.alloc (.cells #[.int k z] T)) (w.alloc (.cells #[.int k z] T)).heap.size k (.slice (some ⟨g, 0, none⟩) 1 1) [z] := by
  subst hg
  refine one_of_cell ?_
  rw [World.cell?_alloc_new]; rfl
/-- A block of one integer, laid ahead of an empty row, or behind it, when that row has grown. -/
theorem one_first {D w' : World} {g : Nat} {T T' : TypeId} {k : IntKind} {z : Int} {r : Option Nat} (hg : g = D.heap.size) (h : ((D.alloc (.cells #[.int k z] T)).alloc (.cells #[] T')).grownBy w' r) (hr : r ≠ some D.heap.size) :
    Ints w' w'.heap.size k (.slice (some ⟨g, 0, none⟩) 1 1) [z] := by
  subst hg
  refine one_of_cell (h.cell (a := ⟨D.heap.size, 0, none⟩) ?_ (Ne.symm hr))
  refine (World.cell?_alloc_lt (w := D.alloc (.cells #[.int k z] T)) (o := .cells #[] T') (a := ⟨D.heap.size, 0, none⟩) (by simp)).trans ?_
  rw [World.cell?_alloc_new]; rfl
theorem one_second {D w' : World} {g : Nat} {T T' : TypeId} {k : IntKind} {z : Int} {r : Option Nat} (hg : g = D.heap.size + 1) (h : ((D.alloc (.cells #[] T')).alloc (.cells #[.int k z] T)).grownBy w' r) (hr : r ≠ some (D.heap.size + 1)) :
    Ints w' w'.heap.size k (.slice (some ⟨g, 0, none⟩) 1 1) [z] := by
  subst hg
  refine one_of_cell (h.cell (a := ⟨D.heap.size + 1, 0, none⟩) ?_ (Ne.symm hr))
  have := World.cell?_alloc_new (D.alloc (.cells #[] T')) #[.int k z] T 0
  rw [show (D.alloc (.cells #[] T')).heap.size = D.heap.size + 1 by simp] at this
  rw [this]; rfl
theorem below_of {a W w' : World} {r : Option Nat} (hg : W.grownBy w' r) (h : Below a.heap.size a W) (hr : ∀ g, r = some g → a.heap.size ≤ g) : Below a.heap.size a w' := h.grown hg h.size hr
theorem ints_take {w : World} {B q c0 : Nat} {k : IntKind} {A : Option Addr} {c : List Int} (h : Ints w B k (.slice A c.length c0) c) (hq : q ≤ c.length) : Ints w B k (.slice A q c0) (c.take q) := by
  obtain ⟨A', c', e, hl, hn, hc⟩ := h
  injection e with e1 e2 e3
  subst e1
  subst e3
  have hlen : (c.take q).length = q := by rw [List.length_take]; omega
  refine ⟨A, c0, by rw [hlen], by omega, hn, fun h0 => ?_⟩
  obtain ⟨b, off, rfl, hb, hcell⟩ := hc (by omega)
  refine ⟨b, off, rfl, hb, fun i hi => ?_⟩
  rw [hcell i (by omega)]
  congr 2
  rw [hlen] at hi
  simp only [List.getD_eq_getElem?_getD, List.getElem?_take, hi, if_true]
theorem ints_drop {w : World} {B q c0 : Nat} {k : IntKind} {ad : Addr} {c : List Int} (h : Ints w B k (.slice (some ad) c.length c0) c) (hq : q ≤ c.length) (hc0 : c.length ≤ c0) :
    Ints w B k (.slice (some (if c0 = q then ad else ad.add (q * 1))) (c.length - q) (c0 - q)) (c.drop q) := by
  obtain ⟨A', c', e, hl, hn, hc⟩ := h
  injection e with e1 e2 e3
  subst e1
  subst e3
  have hlen : (c.drop q).length = c.length - q := List.length_drop
  refine ⟨_, _, by rw [hlen], by omega, fun h => (by cases h), fun h0 => ?_⟩
  rw [hlen] at h0
  obtain ⟨b, off, e, hb, hcell⟩ := hc (by omega)
  injection e with e
  subst e
  rw [if_neg (by omega), Go.WideShapes.add_plain, Nat.mul_one]
  refine ⟨b, off + q, rfl, hb, fun i hi => ?_⟩
  rw [hlen] at hi
  rw [Nat.add_assoc, hcell (q + i) (by omega)]
  congr 2
  simp only [List.getD_eq_getElem?_getD, List.getElem?_drop]
end Go.Proofs.YtjjbdemhccpllaaDoor.Slice
namespace Go.Proofs.YtjjbdemhccpllaaDoor.Slice
open Go.ChangeShapes Go.WideShapes Go.ChangeAt Go.RowKit

theorem run_append_more {P : Program} (w : World) (t ty : TypeId) (base : Nat) (e : TypeId) (i : TypeInfo) (z : Value) (bytes : Nat) (ht : P.underlying t = some (.slice e)) (hi : P.info? e = some i) (hz : i.zero = some z)
    (hsize : i.size = 1) (hby : i.bytes = bytes) (hzs : z.cells.size = 1)
    (v : Value) (n : Nat) (xs : List Value) (hown : w.ownsRow base e 1 v n xs) (ad : Addr) (c : Nat) (u : Value) (hnews : w.cell? (ad.add 0) = some u) (h1 : u.oneCell' = true)
    (h63 : n + 1 ≤ maxLen) (hbytes : (n + 1) * bytes ≤ 140737488355328) (hbase : base ≤ w.heap.size) :
    ∃ v' w', (Builtin.append_ #[t, t] ty #[v, .slice (some ad) 1 c]).run P w = .ok v' w' ∧ w'.ownsRow base e 1 v' (n + 1) (xs ++ [u]) ∧ w.grownBy w' v.ownBlock ∧ ∀ k, v'.ownBlock = some k → v.ownBlock = some k ∨ w.heap.size ≤ k := by
  have hnn : ∀ j y, [u][j]? = some y → w.cell? (ad.add j) = some y := fun j y h => by
    match j, h with
    | 0, h => injection h with h; subst h; exact hnews
  have hall : ∀ y ∈ [u], y.oneCell' = true := fun y hy => by rw [List.mem_singleton] at hy; rw [hy]; exact h1
  have h63' : ((n + 1 : Nat) : Int) ≤ 9223372036854775807 := by simp only [maxLen] at h63; omega
  obtain ⟨v', w', hr, h2, h3, -⟩ := run_append_own (P := P) w base t ty e i z 1 bytes ht hi hz hsize hby hzs (by omega) v n xs hown ad 1 c [u] rfl hnn hall h63 hbytes hbase
  refine ⟨v', w', hr, h2, h3, fun k hk => ?_⟩
  rcases hown.2 with ⟨rfl, rfl⟩ | ⟨g, cap, cur, rfl, hbg, hg, hnc, hcm, hcs, htake⟩
  · have := run_append_nil (P := P) w t ty e i z ht hi hz ad 1 c [u] (by rw [hsize]; rfl) hnn (by omega) (by omega) (by rw [hby]; omega)
    rw [this] at hr
    injection hr with hr _
    rw [← hr] at hk
    injection hk with hk
    exact Or.inr (by rw [← hk]; exact Nat.le_refl _)
  · by_cases hroom : n + 1 ≤ cap
    · have := run_append_room (P := P) w t ty e i ht hi g n cap cur hg ad 1 c [u] (by rw [hsize]; rfl) hnn hall hroom (by rw [hsize, hcs]; simp; omega)
      rw [this] at hr
      injection hr with hr _
      rw [← hr] at hk
      exact Or.inl hk
    · have := run_append_grow (P := P) w t ty e i z ht hi hz ⟨g, 0, none⟩ n cap xs (by rw [hsize]; exact hown.1) (hown.cells (g := g) rfl) ad 1 c [u] (by rw [hsize]; rfl) hnn (by omega) h63' (by rw [hby]; exact growslice_fits (by omega) hbytes)
      rw [this] at hr
      injection hr with hr _
      rw [← hr] at hk
      injection hk with hk
      exact Or.inr (by rw [← hk]; exact Nat.le_refl _)
theorem step_more {P : Program} {W : World} {ops : Array Oper} {o : Oper} {act : Act} {K : Act → World → Prop} {Q : Exit → Act → World → Prop} {E : Prop} (hgd : o.guard = none) (s x : Operand) (t : TypeId)
    (ho : o.op = .call { callee := .builtin .append, args := #[s, x], argTypes := #[t, t] })
    (base : Nat) (e : TypeId) (i : TypeInfo) (z : Value) (bytes : Nat) (ht : P.underlying t = some (.slice e)) (hi : P.info? e = some i) (hz : i.zero = some z)
    (hsize : i.size = 1) (hby : i.bytes = bytes) (hzs : z.cells.size = 1)
    (T : TypeId) (u : Value) (h1 : u.oneCell' = true) (v : Value) (n : Nat) (xs : List Value) (hs : act.eval s = v) (hown : W.ownsRow base e 1 v n xs) (g : Nat) (hx : act.eval x = .slice (some ⟨g, 0, none⟩) 1 1) (hgw : g = W.heap.size)
    (h63 : n + 1 ≤ maxLen) (hbytes : (n + 1) * bytes ≤ 140737488355328) (hbase : base ≤ W.heap.size)
    (h : ∀ v' w', w'.ownsRow base e 1 v' (n + 1) (xs ++ [u]) → W.grownBy w' v.ownBlock → (∀ k, v'.ownBlock = some k → v.ownBlock = some k ∨ W.heap.size ≤ k) → K (act.put o.dst v') w') :
    if Region.wanted o (yielded ops act.tmps) = true then Oper.wp P o act (W.alloc (.cells #[u] T)) K Q else E := by
  have hw : Region.wanted o (yielded ops act.tmps) = true := by simp [Region.wanted, hgd]
  rw [if_pos hw]
  obtain ⟨v', w', hr, h2, h3, h4⟩ := run_append_more (P := P) (W.alloc (.cells #[u] T)) t o.type base e i z bytes ht hi hz hsize hby hzs v n xs (hown.alloc _) ⟨W.heap.size, 0, none⟩ 1 u (one_elem W u T 0 u rfl) h1 h63 hbytes (by simp; omega)
  unfold Oper.wp execOp
  simp only [ho, resolve, invoke, builtin, Sem.run_bind, Sem.run_pure, Result.andThen_ok, List.map_toArray, List.map_cons, List.map_nil, hs, hx, hgw, hr]
  exact h v' w' h2 (grown_new h3) (fun k hk => (h4 k hk).imp id (fun h => by simp at h; omega))
end Go.Proofs.YtjjbdemhccpllaaDoor.Slice
namespace Go.Proofs.YtjjbdemhccpllaaDoor.Slice
open Go.ChangeShapes Go.WideShapes Go.ChangeAt Go.RowKit

/-- Block g is a row of type e, its first n cells being X 0, X 1, .. -/
def Over (w : World) (g : Nat) (e : TypeId) (n : Nat) (X : Nat → Value) : Prop := ∃ cap f, n ≤ cap ∧ w.rowIs g e cap f ∧ ∀ i, i < n → f i = X i
section
variable {w w' : World} {g g' n n' : Nat} {e e' : TypeId} {X Y : Nat → Value}
theorem Over.cell (h : Over w g e n X) {i : Nat} (hi : i < n) : w.cell? ⟨g, i, none⟩ = some (X i) := by
  obtain ⟨cap, f, hc, hr, hf⟩ := h
  rw [← hf i hi]; exact hr.cell (by omega)
theorem Over.frozen (h : Over w g e n X) (i : Nat) : w.frozen? ⟨g, i, none⟩ = false := by
  obtain ⟨cap, f, -, hr, -⟩ := h
  exact hr.frozen i
theorem Over.lt (h : Over w g e n X) : g < w.heap.size := by
  obtain ⟨cap, f, -, hr, -⟩ := h
  exact hr.lt
theorem Over.block (h : Over w g e n X) (hb : w'.heap[g]? = w.heap[g]?) : Over w' g e n X := by
  obtain ⟨cap, f, hc, hr, hf⟩ := h
  exact ⟨cap, f, hc, hr.of_block hb, hf⟩
theorem Over.other (h : Over w g e n X) {a : Addr} (ha : g ≠ a.block) (v : Value) : Over (w.setCell a v) g e n X := by
  obtain ⟨cap, f, hc, hr, hf⟩ := h
  exact ⟨cap, f, hc, hr.setOther ha v, hf⟩
theorem Over.set (h : Over w g e n X) (p : Nat) (v : Value) (hY : ∀ i, i < n → Y i = if i = p then v else X i) : Over (w.setCell ⟨g, p, none⟩ v) g e n Y := by
  obtain ⟨cap, f, hc, hr, hf⟩ := h
  refine ⟨cap, _, hc, hr.set p v, fun i hi => ?_⟩
  rw [hY i hi]
  by_cases z : i = p
  · rw [if_pos z, if_pos z]
  · rw [if_neg z, if_neg z, hf i hi]
theorem Over.congr (h : Over w g e n X) (hY : ∀ i, i < n → X i = Y i) : Over w g e n Y := by
  obtain ⟨cap, f, hc, hr, hf⟩ := h
  exact ⟨cap, f, hc, hr, fun i hi => (hf i hi).trans (hY i hi)⟩
theorem Over.alloc (h : Over w g e n X) (o : Obj) : Over (w.alloc o) g e n X := by
  obtain ⟨cap, f, hc, hr, hf⟩ := h
  exact ⟨cap, f, hc, hr.alloc o, hf⟩
theorem Over.drewN (h : Over w g e n X) (m : Nat) : Over (w.drewN m) g e n X := h
theorem Over.apart (h : Over w g e n X) (h' : Over w g' e' n' Y) (hne : e ≠ e') : g ≠ g' := by
  rintro rfl
  obtain ⟨cap, f, -, ⟨c, hb, -⟩, -⟩ := h
  obtain ⟨cap', f', -, ⟨c', hb', -⟩, -⟩ := h'
  rw [hb] at hb'
  injection hb' with hb'
  injection hb' with _ ht
  exact hne ht
theorem Over.of_own {base : Nat} {v : Value} {xs : List Value} (h : w.ownsRow base e 1 v n xs) (hn : 0 < n) (hx : ∀ i, i < n → xs[i]? = some (X i)) : ∃ g c, v = .slice (some ⟨g, 0, none⟩) n c ∧ base ≤ g ∧ Over w g e n X := by
  rcases h.2 with ⟨rfl, rfl⟩ | ⟨g, cap, cur, rfl, hg, hh, hnc, hm, hs, ht⟩
  · omega
  · refine ⟨g, cap, rfl, hg, cap, fun i => (cur[i]?).getD default, hnc, ⟨cur, hh, by omega, fun i hi => ?_⟩, fun i hi => ?_⟩
    · show cur[i]? = some ((cur[i]?).getD default)
      rw [Array.getElem?_eq_getElem (by omega)]; rfl
    · have e1 : cur.toList[i]? = some (X i) := by
        have : (cur.toList.take (n * 1))[i]? = xs[i]? := by rw [ht]
        rw [List.getElem?_take_of_lt (by omega), hx i hi] at this
        exact this
      have e2 : cur[i]? = some (X i) := by simpa using e1
      show (cur[i]?).getD default = X i
      rw [e2]; rfl
theorem Over.ints {k : IntKind} {zs : List Int} (h : Over w g e n X) (hn : zs.length = n) (hm : n ≤ 9223372036854775807) (hX : ∀ i, i < n → X i = .int k (zs.getD i 0)) (c : Nat) : Ints w w.heap.size k (.slice (some ⟨g, 0, none⟩) n c) zs := by
  subst hn
  refine ⟨some ⟨g, 0, none⟩, c, rfl, hm, fun h => (by cases h), fun h0 => ⟨g, 0, rfl, h.lt, fun i hi => ?_⟩⟩
  rw [Nat.zero_add, h.cell hi, hX i hi]
end
end Go.Proofs.YtjjbdemhccpllaaDoor.Slice
namespace Go.Proofs.YtjjbdemhccpllaaDoor.Mod
open Go.ChangeShapes Go.WideShapes Go.ChangeAt Go.RowKit

theorem tmod_range (x n : Int) (h : 0 < n) : -n < x.tmod n ∧ x.tmod n < n := ⟨Int.lt_tmod_of_pos x h, Int.tmod_lt_of_pos x h⟩
theorem mod_facts (x n : Int) (h : 1 ≤ n) (h2 : n ≤ 1000000000) : wrap64 (x.tmod n + n) = x.tmod n + n ∧ 0 ≤ (x.tmod n + n).tmod n ∧ (x.tmod n + n).tmod n < n := by
  obtain ⟨h3, h4⟩ := tmod_range x n (by omega)
  refine ⟨by unfold wrap64; omega, ?_, ?_⟩
  · rw [Int.tmod_eq_emod_of_nonneg (by omega)]; exact Int.emod_nonneg _ (by omega)
  · rw [Int.tmod_eq_emod_of_nonneg (by omega)]; exact Int.emod_lt_of_pos _ (by omega)
theorem mod_any (x n : Int) (w : World) (h : 1 ≤ n) (h2 : n ≤ 1000000000) : Calls Tryd.prog 25 #[.int .i64 x, .int .i64 n] w fun e w' => (∃ p : Nat, (p : Int) < n ∧ e = .returned (.int .i64 (p : Int))) ∧ w = w' := by
  obtain ⟨W1, W2, W3⟩ := mod_facts x n h h2
  have W2 := Lib.hid W2
  have W3 := Lib.hid W3
  have hn : (n == 0) = false := by rw [beq_eq_false_iff_ne]; omega
  have hn1 : decide (n < 1) = false := decide_eq_false (by omega)
  have hn2 : ¬ n = -1 := by omega
  have hn3 : (n == -1) = false := by rw [beq_eq_false_iff_ne]; exact hn2
  clear h2
  go_enter Tryd.func25, Tryd.ntmps25
  go_wp2
  go_ret
  refine ⟨⟨((x.tmod n + n).tmod n).toNat, ?_, ?_⟩, rfl⟩
  · rw [Int.toNat_of_nonneg W2.out]; exact W3.out
  · rw [Int.toNat_of_nonneg W2.out]; rfl
theorem u8_nat {s : Int} (h : (Lit.int .u8 s).wf = true) : ∃ n : Nat, s = n ∧ n < 256 := by
  have h1 : 0 ≤ s ∧ s ≤ 255 := by simpa [Lit.wf, IntKind.min, IntKind.max, IntKind.bits, IntKind.signed] using h
  exact ⟨s.toNat, by omega, by omega⟩
end Go.Proofs.YtjjbdemhccpllaaDoor.Mod
namespace Go.Proofs.YtjjbdemhccpllaaDoor.Box
open Go.ChangeShapes Go.WideShapes Go.ChangeAt Go.RowKit

/-- Block g holds these cells. -/
def Boxd (w : World) (g : Nat) (C : Array Value) (T : TypeId) : Prop := w.heap[g]? = some (.cells C T (0, 0))
theorem Boxd.lt {w : World} {g : Nat} {C : Array Value} {T : TypeId} (h : Boxd w g C T) : g < w.heap.size := by
  rcases Nat.lt_or_ge g w.heap.size with hlt | hge
  · exact hlt
  · unfold Boxd at h; rw [Array.getElem?_eq_none hge] at h; cases h
theorem Boxd.below {w w' : World} {g : Nat} {C : Array Value} {T : TypeId} (h : Boxd w g C T) (hb : Below w.heap.size w w') : Boxd w' g C T :=
  (hb.block g h.lt).trans h
theorem boxd_new (w : World) (C : Array Value) (T : TypeId) : ∃ g wb, g = w.heap.size ∧ wb = w.alloc (.cells C T) ∧ Boxd wb g C T ∧ Below w.heap.size w wb :=
  ⟨_, _, rfl, rfl, heap_alloc_last _ _, (Below.refl _ w).alloc (Nat.le_refl _) _⟩
theorem Boxd.cell {w : World} {g i : Nat} {C : Array Value} {T : TypeId} (h : Boxd w g C T) : w.cell? ⟨g, i, none⟩ = C[i]? := by
  simp only [World.cell?]
  rw [h]
  rfl
theorem boxd_set {w : World} {g i : Nat} {v : Value} {C D : Array Value} {T : TypeId} (h : Boxd w g C T) (hd : C.setIfInBounds i v = D) : Boxd (w.setCell ⟨g, i, none⟩ v) g D T := by
  unfold Boxd at *
  subst hd
  simp [World.setCell, Array.getElem?_modify, h]
theorem boxd_free {w : World} {g i : Nat} {C : Array Value} {T : TypeId} (h : Boxd w g C T) : w.frozen? ⟨g, i, none⟩ = false := by
  unfold Boxd at h
  simp [World.frozen?, h]
theorem boxd_row {w : World} {g : Nat} {C D : Array Value} {T : TypeId} (h : Boxd w g C T) : Boxd (w.setRow g D) g D T := setRow_heap _ _ _ _ _ _ h
theorem below_one (w : World) (o : Obj) : Below w.heap.size w (w.alloc o) := (Below.refl _ _).alloc (Nat.le_refl _) o
theorem below_row {B : Nat} {w w' : World} {g : Nat} (h : Below B w w') (hg : B ≤ g) (D : Array Value) : Below B w (w'.setRow g D) :=
  ⟨h.os, h.tape, h.output, by simpa using h.size, fun i hi => (setRow_other _ _ _ _ (by omega)).trans (h.block i hi)⟩
theorem below_to {a b c : World} (h : Below a.heap.size a b) (k : Below b.heap.size b c) : Below a.heap.size a c := h.trans (k.mono h.size)
theorem below_drawn {B : Nat} {a w : World} (h : Below B a w) : Below B a w.drew := ⟨h.os, h.tape, h.output, h.size, h.block⟩
theorem drawn_below {n : Nat} {a b : World} (h : Below n a.drew b) : Below n a b := ⟨h.os, h.tape, h.output, h.size, h.block⟩
/-- Only block g, and new ones, have turned. -/
structure One (g : Nat) (w w' : World) : Prop where
  os : w'.os = w.os
  tape : w'.tape = w.tape
  output : w'.output = w.output
  size : w.heap.size ≤ w'.heap.size
  block : ∀ i, i < w.heap.size → ¬ i = g → w'.heap[i]? = w.heap[i]?
theorem One.refl (g : Nat) (w : World) : One g w w := ⟨rfl, rfl, rfl, Nat.le_refl _, fun _ _ _ => rfl⟩
theorem One.of {g : Nat} {w w' : World} (h : Below w.heap.size w w') : One g w w' := ⟨h.os, h.tape, h.output, h.size, fun i hi _ => h.block i hi⟩
theorem One.trans {g : Nat} {w w1 w2 : World} (h : One g w w1) (k : One g w1 w2) : One g w w2 :=
  ⟨k.os.trans h.os, k.tape.trans h.tape, k.output.trans h.output, Nat.le_trans h.size k.size, fun i hi hf => (k.block i (Nat.lt_of_lt_of_le hi h.size) hf).trans (h.block i hi hf)⟩
theorem One.then {g : Nat} {w w1 w2 : World} (h : One g w w1) (k : Below w1.heap.size w1 w2) : One g w w2 := h.trans (One.of k)
theorem One.after {g : Nat} {w w1 w2 : World} (h : One g w1 w2) (k : Below w.heap.size w w1) : One g w w2 := (One.of k).trans h
theorem One.drawn {g : Nat} {w w' : World} (h : One g w w') : One g w w'.drew := ⟨h.os, h.tape, h.output, h.size, h.block⟩
theorem one_set (w : World) (g i : Nat) (v : Value) : One g w (w.setCell ⟨g, i, none⟩ v) :=
  ⟨rfl, rfl, rfl, by simp [World.setCell], fun j _ hf => Below.heap_setCell w ⟨g, i, none⟩ v j hf⟩
theorem one_row (w : World) (g : Nat) (D : Array Value) : One g w (w.setRow g D) := ⟨rfl, rfl, rfl, by simp, fun i _ hf => setRow_other _ _ _ _ hf⟩
theorem one_far {k g : Nat} {w w1 w2 : World} (h : One k w w1) (ho : One g w1 w2) (hg : w.heap.size ≤ g) : One k w w2 :=
  ⟨ho.os.trans h.os, ho.tape.trans h.tape, ho.output.trans h.output, Nat.le_trans h.size ho.size, fun i hi hf => (ho.block i (Nat.lt_of_lt_of_le hi h.size) (by omega)).trans (h.block i hi hf)⟩
theorem Boxd.one {g k : Nat} {w w' : World} {C : Array Value} {T : TypeId} (h : Boxd w k C T) (ho : One g w w') (hk : ¬ k = g) : Boxd w' k C T := (ho.block k h.lt hk).trans h
theorem below_one_of {B g : Nat} {w w1 w2 : World} (h : Below B w w1) (ho : One g w1 w2) (hB : B ≤ g) (hs : B ≤ w1.heap.size) : Below B w w2 :=
  ⟨ho.os.trans h.os, ho.tape.trans h.tape, ho.output.trans h.output, Nat.le_trans h.size ho.size, fun i hi => (ho.block i (by omega) (by omega)).trans (h.block i hi)⟩
theorem o_load {P : Program} {ops : Array Oper} {rest : List Oper} {o : Oper} {a : Act} {w : World} {Q : Exit → Act → World → Prop} (hw : Region.wanted o (yielded ops a.tmps) = true) (ty : TypeId) (x : Operand) (ho : o.op = .load ty x)
    (g : Nat) (hx : a.eval x = .pointer (some ⟨g, 0, none⟩)) (t : TypeId) (cs : Array Value) (d : TypeDesc) (hg : Boxd w g cs t)
    (hu : P.underlying ty = some d) (hd : (match d with | .struct _ | .array _ _ => true | _ => false) = true) (hi : (P.info? ty).map (·.size) = some cs.size)
    (h : wpList P ops Q rest (a.put o.dst (.agg cs)) w) : wpList P ops Q (o :: rest) a w :=
  BigFrame.wpList_want hw fun _ hK => wp_load_row ty x ho g hx t cs (0, 0) d hg hu hd hi (hK _ _ h)
/-- A whole struct's store: what follows knows the block's cells alone. -/
theorem o_store {P : Program} {ops : Array Oper} {rest : List Oper} {o : Oper} {a : Act} {w : World} {Q : Exit → Act → World → Prop} (hgd : o.guard = none) (ty : TypeId) (x y : Operand) (ho : o.op = .store ty x y) (hd : o.dst = none)
    (g : Nat) (cells : Array Value) (hx : a.eval x = .pointer (some ⟨g, 0, none⟩)) (hy : a.eval y = .agg cells)
    (t : TypeId) (old : Array Value) (hg : Boxd w g old t) (hi : (P.info? ty).map (·.size) = some cells.size)
    (hold : old.size = cells.size) (h1 : cells.all (·.oneCell') = true)
    (h : ∀ w', Boxd w' g cells t → One g w w' → wpList P ops Q rest a w') : wpList P ops Q (o :: rest) a w :=
  wpList_store_row hgd ty x y ho g cells hx hy t old hg hi hold h1 (by rw [hd]; exact h _ (boxd_row hg) (one_row w g cells))
theorem run_put {P : Program} (w : World) (g i : Nat) (T ty : TypeId) (C : Array Value) (v : Value) (hB : Boxd w g C T) (hi : i < C.size) (hz : (P.info? ty).map (·.size) = some 1)
    (h1 : v.oneCell' = true) : (storeVar ty ⟨g, i, none⟩ v).run P w = .ok () (w.setCell ⟨g, i, none⟩ v) := by
  have hc : v.cells = #[v] := by cases v <;> first | rfl | cases h1
  have c0 : w.cell? ⟨g, i, none⟩ = some C[i] := by rw [hB.cell, Array.getElem?_eq_getElem hi]
  have f0 := boxd_free (i := i) hB
  have e0 : (⟨g, i, none⟩ : Addr).add 0 = ⟨g, i, none⟩ := rfl
  cases hq : P.info? ty with
  | none => simp [hq] at hz
  | some q =>
    have hs : q.size = 1 := by simpa [hq] using hz
    simp [storeVar, sizeOf, typeInfo, hq, hc, hs, storeCells, run_store P w _ v _ h1, e0, c0, f0]
/-- A cell's store. -/
theorem o_put {P : Program} {ops : Array Oper} {rest : List Oper} {o : Oper} {a : Act} {w : World} {Q : Exit → Act → World → Prop} (hgd : o.guard = none) (ty : TypeId) (x y : Operand) (ho : o.op = .store ty x y) (hd : o.dst = none)
    (g i : Nat) (v : Value) (hx : a.eval x = .pointer (some ⟨g, i, none⟩)) (hy : a.eval y = v) (h1 : v.oneCell' = true) (T : TypeId) (C : Array Value) (hB : Boxd w g C T) (hi : i < C.size) (hz : (P.info? ty).map (·.size) = some 1)
    (h : ∀ w', Boxd w' g (C.setIfInBounds i v) T → One g w w' → wpList P ops Q rest a w') : wpList P ops Q (o :: rest) a w :=
  wpList_plain hgd fun _ hK => by
    unfold Oper.wp execOp
    simp only [ho, hx, hy, Instr.storeAt, Instr.sureAddr, Sem.run_bind, Sem.run_pure, Result.andThen_ok, run_put w g i T ty C v hB hi hz h1]
    exact hK _ _ (by rw [hd]; exact h _ (boxd_set hB rfl) (one_set w g i v))
/-- A whole struct's load, taken first in a region whose order is drawn. -/
theorem take_row {P : Program} {ops : Array Oper} {Q : Exit → Act → World → Prop} {md : Region.Mode} {S : World → Prop} {oi : Oper} {fuel : Nat} {listed : Array Bool} {a : Act} {w : World}
    (i k : Nat) (hi : ops[i]? = some oi) (hd : oi.dst = some k) (hs : Region.noSelect ops = true) (hf : Region.free md ops listed i = true) (hr : (Region.ready md ops listed).contains i = true)
    (T : TypeId) (x : Operand) (ho : oi.op = .load T x) (g : Nat) (hx : a.eval x = .pointer (some ⟨g, 0, none⟩)) (C : Array Value) (d : TypeDesc) (hu : P.underlying T = some d) (ht : (match d with | .struct _ | .array _ _ => true | _ => false) = true) (hz : (P.info? T).map (·.size) = some C.size)
    (hB : ∀ w, S w → Boxd w g C T)
    (hQ : ∀ c a w, Q (.panic c) (a.put oi.dst (.agg C)) w → Q (.panic c) a w) (hw : Region.wanted oi (yielded ops a.tmps) = true) (hS : S w)
    (h : wpAnyH P md ops Q S fuel (listed.setIfInBounds i true) (a.put (some k) (.agg C)) w) : wpAnyH P md ops Q S (fuel + 1) listed a w :=
  ByHand.take_yes (v := .agg C) i k hi hd hs hf hr hQ hw (fun W hW => by
    unfold execOp
    simp only [ho, hx, Instr.loadAt, Instr.sureAddr, Sem.run_bind, Sem.run_pure, Result.andThen_ok, run_loadVar_row W g T T C (0, 0) d (hB W hW) hu ht hz]) hS h
/-- A cell's store, at the end of a region whose order is drawn. -/
theorem wp_put {P : Program} {o : Oper} {a : Act} {w : World} {K : Act → World → Prop} {Q : Exit → Act → World → Prop} (ty : TypeId) (x y : Operand) (ho : o.op = .store ty x y) (hd : o.dst = none)
    (g i : Nat) (v : Value) (hx : a.eval x = .pointer (some ⟨g, i, none⟩)) (hy : a.eval y = v) (h1 : v.oneCell' = true) (T : TypeId) (C : Array Value) (hB : Boxd w g C T) (hi : i < C.size) (hz : (P.info? ty).map (·.size) = some 1)
    (h : ∀ w', Boxd w' g (C.setIfInBounds i v) T → One g w w' → K a w') : o.wp P a w K Q := by
  unfold Oper.wp execOp
  simp only [ho, hx, hy, Instr.storeAt, Instr.sureAddr, Sem.run_bind, Sem.run_pure, Result.andThen_ok, run_put w g i T ty C v hB hi hz h1]
  have := h _ (boxd_set hB rfl) (one_set w g i v)
  rw [show a = a.put o.dst undef by rw [hd]; rfl] at this
  exact this
/-- A struct and a cell, both told from memory. -/
theorem results_pair {P : Program} {fn : Func} {p q : Tmp} {ty te : TypeId} (h : fn.results = #[.cell p ty, .cell q te]) (tmps : Array Value) (w : World) (g g2 : Nat) (t : TypeId) (cs : Array Value) (d : TypeDesc) (v : Value)
    (hp : tmps.getD p undef = .pointer (some ⟨g, 0, none⟩)) (hq : tmps.getD q undef = .pointer (some ⟨g2, 0, none⟩)) (hg : Boxd w g cs t)
    (hu : P.underlying ty = some d) (hd : (match d with | .struct _ | .array _ _ => true | _ => false) = true) (hi : (P.info? ty).map (·.size) = some cs.size) (hl : (loadVar te ⟨g2, 0, none⟩).run P w = .ok v w) :
    (results fn tmps).run P w = .ok (.tuple #[.agg cs, v]) w := by
  have hp' : tmps[p]?.getD undef = .pointer (some ⟨g, 0, none⟩) := by simpa using hp
  have hq' : tmps[q]?.getD undef = .pointer (some ⟨g2, 0, none⟩) := by simpa using hq
  simp [results, h, hp', hq', asAddr, run_loadVar_row w g t ty cs (0, 0) d hg hu hd hi, hl]
/-- A struct told from memory, and a value beside it. -/
theorem results_two {P : Program} {fn : Func} {p q : Tmp} {ty : TypeId} (h : fn.results = #[.cell p ty, .tmp q]) (tmps : Array Value) (w : World) (g : Nat) (t : TypeId) (cs : Array Value) (d : TypeDesc) (v : Value)
    (hp : tmps.getD p undef = .pointer (some ⟨g, 0, none⟩)) (hg : Boxd w g cs t)
    (hu : P.underlying ty = some d) (hd : (match d with | .struct _ | .array _ _ => true | _ => false) = true) (hi : (P.info? ty).map (·.size) = some cs.size) (hq : tmps.getD q undef = v) :
    (results fn tmps).run P w = .ok (.tuple #[.agg cs, v]) w := by
  have hp' : tmps[p]?.getD undef = .pointer (some ⟨g, 0, none⟩) := by simpa using hp
  have hq' : tmps[q]?.getD undef = v := by simpa using hq
  simp [results, h, hp', hq', asAddr, run_loadVar_row w g t ty cs (0, 0) d hg hu hd hi]
theorem results_three {P : Program} {fn : Func} {p q r : Tmp} {ty : TypeId} (h : fn.results = #[.cell p ty, .tmp q, .tmp r]) (tmps : Array Value) (w : World) (g : Nat) (t : TypeId) (cs : Array Value) (d : TypeDesc) (v u : Value)
    (hp : tmps.getD p undef = .pointer (some ⟨g, 0, none⟩)) (hg : Boxd w g cs t)
    (hu : P.underlying ty = some d) (hd : (match d with | .struct _ | .array _ _ => true | _ => false) = true) (hi : (P.info? ty).map (·.size) = some cs.size) (hq : tmps.getD q undef = v) (hr : tmps.getD r undef = u) :
    (results fn tmps).run P w = .ok (.tuple #[.agg cs, v, u]) w := by
  have hp' : tmps[p]?.getD undef = .pointer (some ⟨g, 0, none⟩) := by simpa using hp
  have hq' : tmps[q]?.getD undef = v := by simpa using hq
  have hr' : tmps[r]?.getD undef = u := by simpa using hr
  simp [results, h, hp', hq', hr', asAddr, run_loadVar_row w g t ty cs (0, 0) d hg hu hd hi]
theorem make_fn (fn : Fn) (first cap : Array Value) (w : World) : (Instr.makeFunc fn first cap).run Tryd.prog w = .ok (.func fn first cap) w := rfl
end Go.Proofs.YtjjbdemhccpllaaDoor.Box
namespace Go.Proofs.YtjjbdemhccpllaaDoor.Loan

theorem one_i : Tryd.prog.cellsOf 3 = 1 := by kernel_rfl
theorem one_l : Tryd.prog.cellsOf 2 = 1 := by kernel_rfl
end Go.Proofs.YtjjbdemhccpllaaDoor.Loan
namespace Go.Proofs.YtjjbdemhccpllaaDoor.Rws
open Go.ChangeShapes Go.WideShapes Go.ChangeAt Go.RowKit Slice Box

/-- The value v is a slice of the elements l, each of them the c cells that f has, below block B. -/
def Rws {α : Type} (f : α → Array Value) (c : Nat) (w : World) (B : Nat) (v : Value) (l : List α) : Prop :=
  ∃ (A : Option Addr) (k : Nat), v = .slice A l.length k ∧ l.length ≤ 9223372036854775807 ∧ ((A = none → k = 0) ∧ l.length ≤ k) ∧
    (0 < l.length → ∃ b off, A = some ⟨b, off, none⟩ ∧ b < B ∧ ∀ i x, l[i]? = some x → w.rangeAt b (off + i * c) (f x).toList)
section
variable {α : Type} {f : α → Array Value} {c : Nat} {w w' : World} {B B' : Nat} {v : Value} {l : List α}
theorem Rws.keep (h : Rws f c w B v l) (hk : ∀ b o, b < B → w'.cell? ⟨b, o, none⟩ = w.cell? ⟨b, o, none⟩) : Rws f c w' B v l := by
  obtain ⟨A, k, rfl, hl, hn, hc⟩ := h
  refine ⟨A, k, rfl, hl, hn, fun h0 => ?_⟩
  obtain ⟨b, off, rfl, hb, hcell⟩ := hc h0
  exact ⟨b, off, rfl, hb, fun i x hi j y hj => (hk _ _ hb).trans (hcell i x hi j y hj)⟩
theorem Rws.below (h : Rws f c w B v l) (hb : Below B w w') : Rws f c w' B v l := h.keep fun b o hlt => hb.cell (p := ⟨b, o, none⟩) hlt
theorem Rws.more (h : Rws f c w B v l) (hB : B ≤ B') : Rws f c w B' v l := by
  obtain ⟨A, k, rfl, hl, hn, hc⟩ := h
  refine ⟨A, k, rfl, hl, hn, fun h0 => ?_⟩
  obtain ⟨b, off, rfl, hb, hcell⟩ := hc h0
  exact ⟨b, off, rfl, by omega, hcell⟩
theorem Rws.drewN (h : Rws f c w B v l) (n : Nat) : Rws f c (w.drewN n) B v l := h
theorem Rws.alloc (h : Rws f c w B v l) (hB : B ≤ w.heap.size) (o : Obj) : Rws f c (w.alloc o) B v l := h.keep fun b p hb => World.cell?_alloc_lt (w := w) (o := o) (a := ⟨b, p, none⟩) (by show b < _; omega)
theorem Rws.shape (h : Rws f c w B v l) : ∃ A k, v = .slice A l.length k := by
  obtain ⟨A, k, rfl, -⟩ := h
  exact ⟨A, k, rfl⟩
theorem Rws.nil_ (w : World) (B : Nat) : Rws f c w B (.slice none 0 0) ([] : List α) := ⟨none, 0, rfl, by simp, ⟨fun _ => rfl, Nat.le_refl _⟩, fun h => absurd h (by simp)⟩
theorem Rws.len (h : Rws f c w B v l) : l.length ≤ 9223372036854775807 := by
  obtain ⟨A, k, -, hl, -⟩ := h
  exact hl
theorem flat_at {g : α → List Value} (hg : ∀ x, (g x).length = c) : ∀ (l : List α) (i j : Nat) (x : α) (y : Value), l[i]? = some x → (g x)[j]? = some y → (l.flatMap g)[i * c + j]? = some y
  | [], i, j, x, y, h, _ => by simp at h
  | a :: r, 0, j, x, y, h, hy => by
    have e : a = x := by simpa using h
    subst e
    have hj : j < (g a).length := (List.getElem?_eq_some_iff.1 hy).1
    rw [Nat.zero_mul, Nat.zero_add, List.flatMap_cons, List.getElem?_append_left hj]
    exact hy
  | a :: r, i + 1, j, x, y, h, hy => by
    have h' : r[i]? = some x := by simpa using h
    have ih := flat_at hg r i j x y h' hy
    rw [List.flatMap_cons, List.getElem?_append_right (by rw [hg, Nat.add_mul]; omega), hg, show (i + 1) * c + j - c = i * c + j by rw [Nat.add_mul]; omega]
    exact ih
theorem flat_len {g : α → List Value} (hg : ∀ x, (g x).length = c) : ∀ l : List α, (l.flatMap g).length = l.length * c
  | [] => by simp
  | a :: r => by rw [List.flatMap_cons, List.length_append, hg, flat_len hg r, List.length_cons, Nat.add_mul]; omega
theorem Rws.of_own {base : Nat} {e : TypeId} {n : Nat} (hf : ∀ x, (f x).toList.length = c) (hn : n = l.length) (h : w.ownsRow base e c v n (l.flatMap fun x => (f x).toList)) : Rws f c w w.heap.size v l := by
  subst hn
  obtain ⟨hlen, ⟨rfl, h0⟩ | ⟨g, cap, cur, rfl, hg, hh, hnc, hm, hs, ht⟩⟩ := h
  · have : l = [] := List.eq_nil_of_length_eq_zero h0
    subst this
    exact Rws.nil_ _ _
  · unfold maxLen at hm
    refine ⟨_, cap, rfl, by omega, ⟨fun h => (by cases h), hnc⟩, fun h0 => ⟨g, 0, rfl, ?_, fun i x hi j y hy => ?_⟩⟩
    · rcases Nat.lt_or_ge g w.heap.size with hlt | hge
      · exact hlt
      · rw [Array.getElem?_eq_none hge] at hh; cases hh
    · have hlt : i < l.length := (List.getElem?_eq_some_iff.1 hi).1
      have hj : j < c := by rw [← hf x]; exact (List.getElem?_eq_some_iff.1 hy).1
      have e0 := flat_at (g := fun x => (f x).toList) hf l i j x y hi hy
      have e1 : cur.toList[i * c + j]? = some y := by
        rw [← ht] at e0
        rwa [List.getElem?_take_of_lt (by
          calc i * c + j < i * c + c := by omega
            _ = (i + 1) * c := by rw [Nat.add_mul]; omega
            _ ≤ l.length * c := Nat.mul_le_mul_right _ hlt)] at e0
      rw [Nat.zero_add]
      simp only [World.cell?, hh]
      simpa using e1
/-- What lies at place i, once the slice's place is known. -/
theorem Rws.at_ {b off k : Nat} (h : Rws f c w B (.slice (some ⟨b, off, none⟩) l.length k) l) {i : Nat} {x : α} (hi : l[i]? = some x) : w.rangeAt b (off + i * c) (f x).toList := by
  obtain ⟨A, k', e, -, -, hc⟩ := h
  injection e with e1 e2 e3
  obtain ⟨b', off', e', -, hcell⟩ := hc (by have := (List.getElem?_eq_some_iff.1 hi).1; omega)
  rw [e'] at e1
  injection e1 with e1
  injection e1 with e1 e2
  subst e1
  subst e2
  exact hcell i x hi
theorem Rws.open (h : Rws f c w B v l) (h0 : 0 < l.length) : ∃ b off k, v = .slice (some ⟨b, off, none⟩) l.length k ∧ b < B ∧ l.length ≤ k := by
  obtain ⟨A, k, rfl, -, hn, hc⟩ := h
  obtain ⟨b, off, rfl, hb, -⟩ := hc h0
  exact ⟨b, off, k, rfl, hb, hn.2⟩
end
theorem load_mid_want {P : Program} {ops : Array Oper} {rest : List Oper} {op : Oper} {a : Act} {w : World} {Q : Exit → Act → World → Prop} (hw : Region.wanted op (yielded ops a.tmps) = true) (ty : TypeId) (x : Operand) (ho : op.op = .load ty x)
    (b o : Nat) (hx : a.eval x = .pointer (some ⟨b, o, none⟩)) (cs : Array Value) (d : TypeDesc) (hc : w.rangeAt b o cs.toList)
    (hu : P.underlying ty = some d) (hd : d.isRow = true) (hi : (P.info? ty).map (·.size) = some cs.toList.length)
    (h : wpList P ops Q rest (a.put op.dst (.agg cs)) w) : wpList P ops Q (op :: rest) a w :=
  BigFrame.wpList_want hw fun _ hK => wp_load_mid ty x ho b o hx cs.toList d hc hu hd hi (hK _ _ (by simpa using h))
theorem range_box {w : World} {g : Nat} {C : Array Value} {T : TypeId} (h : Boxd w g C T) : w.rangeAt g 0 C.toList := fun j v hj => by
  rw [Nat.zero_add, h.cell]
  simpa using hj
theorem range_keep {w w' : World} {b o B : Nat} {cs : List Value} (h : w.rangeAt b o cs) (hb : Below B w w') (hlt : b < B) : w'.rangeAt b o cs := fun j v hj => (hb.cell (p := ⟨b, o + j, none⟩) hlt).trans (h j v hj)
theorem wpList_slice {P : Program} {ops : Array Oper} {rest : List Oper} {o : Oper} {a : Act} {w w' : World} {Q : Exit → Act → World → Prop} (hw : Region.wanted o (yielded ops a.tmps) = true) (t : TypeId) (n : Nat) (ps : Array (Nat × Operand)) (ho : o.op = .buildSlice t n ps) (v : Value) (qs : Array (Nat × Value)) (hq : (ps.map fun p => (p.1, a.eval p.2)) = qs)
    (hr : (Instr.buildSlice t n qs).run P w = .ok v w') (h : wpList P ops Q rest (a.put o.dst v) w') : wpList P ops Q (o :: rest) a w :=
  BigFrame.wpList_want hw fun _ hK => by
    have := hK _ _ h
    unfold Oper.wp execOp
    simp only [ho, hq, Sem.run_bind, Sem.run_pure, hr, Result.andThen_ok]
    exact this
/-- One struct, laid in a block of its own just now, appended to a row of the call's own. -/
theorem wpList_append_row {P : Program} {ops : Array Oper} {rest : List Oper} {o : Oper} {a : Act} {Q : Exit → Act → World → Prop} (hgd : o.guard = none) (s x : Operand) (t : TypeId)
    (ho : o.op = .call { callee := .builtin .append, args := #[s, x], argTypes := #[t, t] })
    (base : Nat) (e : TypeId) (i : TypeInfo) (z : Value) (size bytes : Nat) (ht : P.underlying t = some (.slice e)) (hi : P.info? e = some i) (hz : i.zero = some z)
    (hsize : i.size = size) (hby : i.bytes = bytes) (hzs : z.cells.size = size) (hsz : 0 < size)
    (w : World) (T : TypeId) (C : Array Value) (hC : C.toList.length = size) (h1 : C.all (·.oneCell') = true) (v : Value) (n : Nat) (xs : List Value) (hs : a.eval s = v) (hown : w.ownsRow base e size v n xs) (g : Nat) (hx : a.eval x = .slice (some ⟨g, 0, none⟩) 1 1) (hgw : g = w.heap.size)
    (h63 : n + 1 ≤ maxLen) (hbytes : (n + 1) * bytes ≤ 140737488355328) (hbase : base ≤ w.heap.size)
    (h : ∀ v' w', w'.ownsRow base e size v' (n + 1) (xs ++ C.toList) → w.grownBy w' v.ownBlock → wpList P ops Q rest (a.put o.dst v') w') : wpList P ops Q (o :: rest) a (w.alloc (.cells C T)) := by
  subst hgw
  refine wpList_append_own _ hgd s x t ho base e i z size bytes ht hi hz hsize hby hzs hsz v n xs hs (hown.alloc _) ⟨w.heap.size, 0, none⟩ 1 1 C.toList hx (by rw [hC, Nat.one_mul]) ?_ ?_ h63 hbytes (by simp; omega) (fun v' w' h2 h3 _ => h v' w' h2 (grown_new h3))
  · intro j y hj
    rw [Go.WideShapes.add_plain, World.cell?_alloc_new]
    simpa using hj
  · intro y hy
    exact (Array.all_eq_true_iff_forall_mem.1 h1) y (by simpa using hy)
/-- append of a slice of structs that came in to a row of the call's own. -/
theorem wpList_append_rwsM {α : Type} {f : α → Array Value} {c : Nat} {P : Program} {w : World} {ops : Array Oper} {rest : List Oper} {o : Oper} {a : Act} {Q : Exit → Act → World → Prop} (hgd : o.guard = none) (s x : Operand) (t : TypeId)
    (ho : o.op = .call { callee := .builtin .append, args := #[s, x], argTypes := #[t, t] })
    (base : Nat) (e : TypeId) (i : TypeInfo) (z : Value) (bytes : Nat) (ht : P.underlying t = some (.slice e)) (hi : P.info? e = some i) (hz : i.zero = some z)
    (hsize : i.size = c) (hby : i.bytes = bytes) (hzs : z.cells.size = c) (hsz : 0 < c) (hf : ∀ x, (f x).toList.length = c) 
    (v : Value) (n : Nat) (xs : List Value) (hs : a.eval s = v) (hown : w.ownsRow base e c v n xs)
    (B : Nat) (u : Value) (l : List α) (hx : a.eval x = u) (hu : Rws f c w B u l) (h1 : ∀ x ∈ l, (f x).all (·.oneCell') = true)
    (h63 : n + l.length ≤ maxLen) (hbytes : (n + l.length) * bytes ≤ 140737488355328) (hbase : base ≤ w.heap.size)
    (h : ∀ v' w', w'.ownsRow base e c v' (n + l.length) (xs ++ l.flatMap fun x => (f x).toList) → w.grownBy w' v.ownBlock → wpList P ops Q rest (a.put o.dst v') w') : wpList P ops Q (o :: rest) a w := by
  obtain ⟨A, k, rfl, hl, hn, hc⟩ := hu
  cases A with
  | none =>
    have h0 : l = [] := by
      rcases Nat.eq_zero_or_pos l.length with h0 | h0
      · exact List.eq_nil_of_length_eq_zero h0
      · obtain ⟨b, off, hb, -⟩ := hc h0; cases hb
    subst h0
    obtain rfl := hn.1 rfl
    exact wpList_append_own_none hgd s x t ho base e i c ht hi v n xs hs hown hx (h v w (by simpa using hown) (World.grownBy.refl _ _))
  | some ad =>
    refine wpList_append_own _ hgd s x t ho base e i z c bytes ht hi hz hsize hby hzs hsz v n xs hs hown ad l.length k (l.flatMap fun x => (f x).toList) hx (flat_len hf l) ?_ ?_ h63 hbytes hbase (fun v' w' h1 h2 _ => h v' w' h1 h2)
    · intro j y hj
      have hlt : j < l.length * c := by rw [← flat_len (g := fun x => (f x).toList) hf l]; exact (List.getElem?_eq_some_iff.1 hj).1
      have hq : j / c < l.length := (Nat.div_lt_iff_lt_mul hsz).2 hlt
      obtain ⟨b, off, hb, -, hcell⟩ := hc (Nat.lt_of_le_of_lt (Nat.zero_le _) hq)
      injection hb with hb
      subst hb
      have e0 := Nat.div_add_mod j c
      have hx' : l[j / c]? = some l[j / c] := List.getElem?_eq_getElem hq
      have hm : j % c < (f l[j / c]).toList.length := by rw [hf]; exact Nat.mod_lt _ hsz
      have e1 := flat_at (g := fun x => (f x).toList) hf l (j / c) (j % c) _ _ hx' (List.getElem?_eq_getElem hm)
      rw [Nat.mul_comm, e0] at e1
      rw [hj] at e1
      injection e1 with e1
      rw [Go.WideShapes.add_plain, e1]
      have := hcell (j / c) _ hx' (j % c) _ (List.getElem?_eq_getElem hm)
      rw [← this]
      congr 2
      rw [Nat.add_assoc, Nat.mul_comm (j / c) c, e0]
    · intro y hy
      obtain ⟨x, hxm, hx⟩ := List.mem_flatMap.1 hy
      exact (Array.all_eq_true_iff_forall_mem.1 (h1 x hxm)) y (by simpa using hx)
/-- append of a slice of structs that came in to a row of the call's own. -/
theorem wpList_append_rws {α : Type} {f : α → Array Value} {c : Nat} {P : Program} {w : World} {ops : Array Oper} {rest : List Oper} {o : Oper} {a : Act} {Q : Exit → Act → World → Prop} (hgd : o.guard = none) (s x : Operand) (t : TypeId)
    (ho : o.op = .call { callee := .builtin .append, args := #[s, x], argTypes := #[t, t] })
    (base : Nat) (e : TypeId) (i : TypeInfo) (z : Value) (bytes : Nat) (ht : P.underlying t = some (.slice e)) (hi : P.info? e = some i) (hz : i.zero = some z)
    (hsize : i.size = c) (hby : i.bytes = bytes) (hzs : z.cells.size = c) (hsz : 0 < c) (hf : ∀ x, (f x).toList.length = c) (h1 : ∀ x, (f x).all (·.oneCell') = true)
    (v : Value) (n : Nat) (xs : List Value) (hs : a.eval s = v) (hown : w.ownsRow base e c v n xs)
    (B : Nat) (u : Value) (l : List α) (hx : a.eval x = u) (hu : Rws f c w B u l)
    (h63 : n + l.length ≤ maxLen) (hbytes : (n + l.length) * bytes ≤ 140737488355328) (hbase : base ≤ w.heap.size)
    (h : ∀ v' w', w'.ownsRow base e c v' (n + l.length) (xs ++ l.flatMap fun x => (f x).toList) → w.grownBy w' v.ownBlock → wpList P ops Q rest (a.put o.dst v') w') : wpList P ops Q (o :: rest) a w :=
  wpList_append_rwsM hgd s x t ho base e i z bytes ht hi hz hsize hby hzs hsz hf v n xs hs hown B u l hx hu (fun x _ => h1 x) h63 hbytes hbase h
theorem lt_of {w : World} {b o : Nat} {v : Value} (h : w.cell? ⟨b, o, none⟩ = some v) : b < w.heap.size := lt_of_cell h
/-- A struct's load out of the midst of a block, taken first in a region whose order is drawn. -/
theorem take_mid {P : Program} {ops : Array Oper} {Q : Exit → Act → World → Prop} {md : Region.Mode} {S : World → Prop} {oi : Oper} {fuel : Nat} {listed : Array Bool} {a : Act} {w : World}
    (i k : Nat) (hi : ops[i]? = some oi) (hd : oi.dst = some k) (hs : Region.noSelect ops = true) (hf : Region.free md ops listed i = true) (hr : (Region.ready md ops listed).contains i = true)
    (T : TypeId) (x : Operand) (ho : oi.op = .load T x) (b o : Nat) (hx : a.eval x = .pointer (some ⟨b, o, none⟩)) (C : Array Value) (d : TypeDesc) (hu : P.underlying T = some d) (ht : d.isRow = true) (hz : (P.info? T).map (·.size) = some C.toList.length)
    (hB : ∀ w, S w → w.rangeAt b o C.toList)
    (hQ : ∀ c a w, Q (.panic c) (a.put oi.dst (.agg C)) w → Q (.panic c) a w) (hw : Region.wanted oi (yielded ops a.tmps) = true) (hS : S w)
    (h : wpAnyH P md ops Q S fuel (listed.setIfInBounds i true) (a.put (some k) (.agg C)) w) : wpAnyH P md ops Q S (fuel + 1) listed a w :=
  ByHand.take_yes (v := .agg C) i k hi hd hs hf hr hQ hw (fun W hW => by
    unfold execOp
    simp only [ho, hx, Instr.loadAt, Instr.sureAddr, Sem.run_bind, Sem.run_pure, Result.andThen_ok, run_loadVar_mid W b o T C.toList d (hB W hW) hu ht hz, Array.toArray_toList]) hS h
end Go.Proofs.YtjjbdemhccpllaaDoor.Rws
