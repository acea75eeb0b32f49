/- Of no one law: from 'the law returns true, and below the old memory nothing has turned' to the law's row; an array of integers that came in by value, opened. Of no one law: a law whose row lists package-level variables: from 'where they hold what is listed, the law returns true, and below the old memory nothing has turned' to the row; the card out of the row; a listed array of integers, cell by cell. Of no one law: a region that draws, walked by hand: an operation that yields is taken first, and so is one that its guard strikes out; the place that it writes is named. Of no one law: a slice of integers that reads as a list, nil among them; how it is carried from world to world. Of no one law: append of one element to a row of the call's own. Of no one law: append of one element to a row of the call's own: the row's block stays, or it is new. Of no one law: a row of the call's own whose first n cells are known. annuitykeep.Mod, at any divisor from 1 on that is no giant. Of no one law. -/
import Derived.Test.YtkddiaiohnbjpaaGreatDoorRows
import Derived.WalkKit
import Derived.ProofKit
import Derived.OpenShut
import Derived.Carry
import Derived.Handed
import Derived.LaidMore
import Derived.Lay
import Derived.MakeChecks
import Derived.Lib.LaidTab
import Derived.SevenTiedAt
import Derived.Stop.LaidErr
import Derived.Test.YtkddiaiohnbjpaaGreatDoorChecked
import Derived.Deep.RegionHeld3
import Derived.Deep.Draws
import Derived.Laws.AppendOwnNone
import Derived.OwnWalk
import Derived.Laws.AppendOwn
import Derived.Deep.OwnRows
import Derived.Handy
import Derived.Lib.Hide
namespace Go.Proofs.YtkddiaiohnbjpaaGreatDoor.Shell
open Go.ChangeShapes Go.WideShapes Go.ChangeAt Go.RowKit

section
variable {H : Type} {enc : TypeId × Value → H} {P : Program}

/-- What was read of old memory alone reads as it did, wherever that memory has not turned: all arguments at once. -/
theorem args_stay (hl : laidOutB P = true) {W W' : World} {sp : Nat → Bool} : ∀ (ts : List TypeId), ts.all (fun t => P.readableRec t && decide (t < P.types.size)) = true →
    ∀ (vs : List Value) (ds : List (DataW H)) (ps : List MemPlace), DataW.TrodAll enc P W 0 (fun _ => true) true ts vs ds ps → (∀ p ∈ ps, W.sameAt W' p) → (∀ p ∈ ps, sp p.block = true) →
    DataW.TrodAll enc P W' 0 sp true ts vs ds ps
  | [], _, vs, ds, ps, h, _, _ => by
    obtain ⟨rfl, rfl, rfl⟩ := trodAll_nil h
    exact trodAll_mk0
  | t :: ts, hr, vs, ds, ps, h, hs, hsp => by
    simp only [List.all_cons, Bool.and_eq_true, decide_eq_true_eq] at hr
    obtain ⟨v, vs', d, ds', p, q, rfl, rfl, rfl, h1, h2⟩ := trodAll_cons h
    exact trodAll_cons_mk (WideElems.Trod_stays hl hr.1.1 hr.1.2 h1 (fun x hx => hs x (by simp [hx])) (fun x hx => hsp x (by simp [hx])))
      (args_stay hl ts hr.2 vs' ds' q h2 (fun x hx => hs x (by simp [hx])) (fun x hx => hsp x (by simp [hx])))

theorem law_post {fn : Func} {s : ChangeSpec} {apart fresh handsOn : Bool} {W W' : World} {args : Array Value} {ds : List (DataW H)} {p : List MemPlace} {tb : TypeId}
    (hl : laidOutB P = true) (hr : fn.params.toList.all (fun t => P.readableRec t && decide (t < P.types.size)) = true) (hv : s.vars = [])
    (hrt : fn.resultTypes = #[tb]) (hub : P.underlying tb = some .bool)
    (hs : s.fn H ds = ⟨[.lit (.bool true)], ds, []⟩) (hA : DataW.TrodAll enc P W 0 (fun _ => true) true fn.params.toList args.toList ds p)
    (hW : DataW.Whole enc P fn.params.toList s.vars apart W args.toList ds [] p) (hb : Below W.heap.size W W') :
    s.post enc P fn apart fresh handsOn false W args (.bool true) W' := by
  have hlt : ∀ x ∈ p, x.block < W.heap.size := fun x hx => hW.lt x hx
  refine ⟨ds, [], p, [], p, [], hW, ?_, ?_, ?_, World.keptBut_mono (fun _ h => h.elim) (hb.frame fun _ => False), fun h => by cases h⟩
  · rw [List.append_nil, hs, hrt]
    exact trodAll_mk1 (shut_bool hub true)
  · rw [List.append_nil, hs]
    exact args_stay hl _ hr _ _ _ hA (fun x hx => hb.same (hlt x hx)) (fun x hx => by simpa using hlt x hx)
  · rw [List.append_nil, hs, hv]
    rfl

theorem law_lifted {C : Checked} {os : Os} {f : FuncId} {fn : Func} {s : ChangeSpec} {conds : List PathCond} {apart fresh handsOn : Bool} {tb : TypeId}
    (own : ownKnob C.prog.godebug = none) (started : os.Started) (noInit : C.prog.inits.idxOf? f = none) (hfn : C.prog.funcs[f]? = some fn)
    (witness : ∃ (w : World) (tape : Tape) (i : Input), w.os = os ∧ (w.forCall tape i).Shaped C.prog ∧ i.vars = [] ∧ Input.okWide C.prog (w.forCall tape i) .any w.heap.size f i ∧
      s.pre6 enc C.prog fn conds apart (w.forCall tape i).memory i.args ∧ ({} : Assume).holds C.prog (lone (Frame.enter C.prog f i.args .normal) [] (w.forCall tape i)))
    (hl : laidOutB C.prog = true) (hr : fn.params.toList.all (fun t => C.prog.readableRec t && decide (t < C.prog.types.size)) = true) (hv : s.vars = [])
    (hrt : fn.resultTypes = #[tb]) (hub : C.prog.underlying tb = some .bool)
    (walk : ∀ (W : World) (base : Nat) (args : Array Value) (ds : List (DataW H)) (p : List MemPlace),
      (∀ (j : Nat) t v, fn.params[j]? = some t → args[j]? = some v → Value.okWide C.prog W .any base t v) →
      DataW.TrodAll enc C.prog W 0 (fun _ => true) true fn.params.toList args.toList ds p →
      s.fn H ds = ⟨[.lit (.bool true)], ds, []⟩ ∧ Calls C.prog f args W fun e W' => e = .returned (.bool true) ∧ Below W.heap.size W W') :
    ReturnsInHanded {} C os f .any (s.pre6 enc C.prog fn conds apart) (s.post enc C.prog fn apart fresh handsOn false) := by
  refine returnsInHanded_of_change own started noInit hfn witness ?_
  intro W base args ds gs before hval hW _ _
  have hW' := hW
  obtain ⟨p, q, hA, hV, rfl, hz, hn⟩ := hW
  rw [hv] at hV
  obtain ⟨rfl, rfl⟩ := trodVars_none hV
  rw [List.append_nil] at hW'
  obtain ⟨hs, hc⟩ := walk W base args ds p hval hA
  exact hc.mono fun e W' ⟨he, hb⟩ => ⟨_, he, law_post hl hr hv hrt hub hs hA hW' hb⟩

/-- An array of integers by value. -/
theorem open_arr {w : World} {base b0 n : Nat} {spare : Nat → Bool} {held : Bool} {r : Reach} {t e : TypeId} {k : IntKind} {v : Value} {d : DataW H} {ps : List MemPlace}
    (ht : P.underlying t = some (.array n e)) (he : P.underlying e = some (.int k)) (hce : P.cellsOf e = 1) (hct : P.cellsOf t = n)
    (hval : Value.okWide P w r b0 t v) (hd : DataW.Trod enc P w base spare held t v d ps) :
    ∃ zs : List Int, zs.length = n ∧ v = .agg (zs.map (Value.int k)).toArray ∧ ∀ z ∈ zs, (Lit.int k z).wf = true := by
  obtain ⟨cs, rfl, hsz, -⟩ : ∃ cs, v = .agg cs ∧ cs.size = P.cellsOf t ∧ Row.okWide P w r b0 t cs := by
    simpa [Value.okWide, ht] using hval
  obtain ⟨fuel, hf⟩ := hd
  obtain ⟨xs, m, -, -, hlen, hx, hall⟩ := DataW.trod_array ht hf
  obtain ⟨l⟩ := cs
  have hl : l.length = n := by rw [← hct]; simpa using hsz
  have each : ∀ (i : Nat) (h : i < l.length), ∃ z : Int, l[i] = .int k z ∧ (Lit.int k z).wf = true := by
    intro i hi
    have h := hall i (by omega)
    rw [hce, Nat.mul_one] at h
    have e1 : (l.drop i).take 1 = [l[i]] := by
      rw [List.drop_eq_getElem_cons hi]; rfl
    have e2 : xs[i]? = some xs[i] := List.getElem?_eq_getElem (by omega)
    have hc : (Value.agg ⟨l⟩).cells.toList = l := rfl
    rw [hc, e1, e2] at h
    obtain ⟨z, e3, -, hw⟩ := DataW.trod_int he h
    simp only [List.cons.injEq, and_true] at e3
    exact ⟨z, e3, hw⟩
  refine ⟨l.map intOf, by simpa using hl, ?_, ?_⟩
  · congr 1
    show (⟨l⟩ : Array Value) = ⟨_⟩
    congr 1
    rw [List.map_map]
    refine (List.ext_getElem (by simp) fun i h1 h2 => ?_)
    obtain ⟨z, hz, -⟩ := each i h1
    simp [hz, intOf]
  · intro z hz
    obtain ⟨c, hc, rfl⟩ := List.mem_map.1 hz
    obtain ⟨i, hi, rfl⟩ := List.getElem_of_mem hc
    obtain ⟨z, hz, hw⟩ := each i hi
    rw [hz]; exact hw
end
theorem list2 {α : Type} (l : List α) (h : l.length = 2) : ∃ a b, l = [a, b] := by
  match l, h with
  | [a, b], _ => exact ⟨a, b, rfl⟩
theorem list3 {α : Type} (l : List α) (h : l.length = 3) : ∃ a b c, l = [a, b, c] := by
  match l, h with
  | [a, b, c], _ => exact ⟨a, b, c, rfl⟩
end Go.Proofs.YtkddiaiohnbjpaaGreatDoor.Shell
namespace Go.Proofs.YtkddiaiohnbjpaaGreatDoor.Door
open Go.ChangeShapes Go.WideShapes Go.ChangeAt Go.RowKit

section
variable {H : Type} {enc : TypeId × Value → H}

theorem law_lifted {C : Checked} {os : Os} {f : FuncId} {fn : Func} {s : ChangeSpec} {conds : List PathCond} {apart fresh handsOn : Bool} {tb : TypeId} {laid : List (String × DataW Unit)}
    (own : ownKnob C.prog.godebug = none) (started : os.Started) (noInit : C.prog.inits.idxOf? f = none) (hfn : C.prog.funcs[f]? = some fn)
    (witness : ∃ (w : World) (tape : Tape) (i : Input), w.os = os ∧ (w.forCall tape i).Shaped C.prog ∧ i.vars = [] ∧ Input.okWide C.prog (w.forCall tape i) .any w.heap.size f i ∧
      ((s.pre enc C.prog fn conds apart (w.forCall tape i).memory i.args ∧ laidMetH C.prog laid (w.forCall tape i).memory) ∧ sizedMet enc C.prog fn (OpenSpec.ofChange s) apart (w.forCall tape i).memory i.args) ∧ ({} : Assume).holds C.prog (lone (Frame.enter C.prog f i.args .normal) [] (w.forCall tape i)))
    (hl : laidOutB C.prog = true) (hr : fn.params.toList.all (fun t => C.prog.readableRec t && decide (t < C.prog.types.size)) = true) (hv : s.vars = [])
    (hrt : fn.resultTypes = #[tb]) (hub : C.prog.underlying tb = some .bool)
    (walk : ∀ (W : World) (base : Nat) (args : Array Value) (ds : List (DataW H)) (p : List MemPlace),
      (∀ (j : Nat) t v, fn.params[j]? = some t → args[j]? = some v → Value.okWide C.prog W .any base t v) →
      DataW.TrodAll enc C.prog W 0 (fun _ => true) true fn.params.toList args.toList ds p → laidMetH C.prog laid W →
      s.fn H ds = ⟨[.lit (.bool true)], ds, []⟩ ∧ Calls C.prog f args W fun e W' => e = .returned (.bool true) ∧ Below W.heap.size W W') :
    ReturnsInHanded {} C os f .any (fun w args => (s.pre enc C.prog fn conds apart w args ∧ laidMetH C.prog laid w) ∧ sizedMet enc C.prog fn (OpenSpec.ofChange s) apart w args) (s.post enc C.prog fn apart fresh handsOn false) := by
  refine returnsInHanded_of_change_and (X := fun w _ => laidMetH C.prog laid w) (fun _ _ _ hh h => h.of_heap hh) own started noInit hfn witness ?_
  intro W base args ds gs before hval hW _ _ hL _
  have hW' := hW
  obtain ⟨p, q, hA, hV, rfl, hz, hn⟩ := hW
  rw [hv] at hV
  obtain ⟨rfl, rfl⟩ := trodVars_none hV
  rw [List.append_nil] at hW'
  obtain ⟨hs, hc⟩ := walk W base args ds p hval hA hL
  exact hc.mono fun e W' ⟨he, hb⟩ => ⟨_, he, Shell.law_post hl hr hv hrt hub hs hA hW' hb⟩
end

/-- A listed table, wherever it stands on the list. -/
theorem tab_of_mem {P : Program} {W : World} {name : String} {k : IntKind} {zs : List Int} {laid : List (String × DataW Unit)} {g : Nat} {t e : TypeId} {n : Nat}
    (hg : P.globalNamed name = some g) (hty : (P.globals[g]?).map (·.type) = some t) (ht : P.underlying t = some (.array n e)) (he : P.underlying e = some (.int k)) (hce : P.cellsOf e = 1) (hct : P.cellsOf t = n)
    (h : laidMet P laid W) (hm : (name, Lib.tabData k zs) ∈ laid) : Lib.TabIs P W name k zs := by
  induction laid with
  | nil => cases hm
  | cons x r ih =>
    rcases List.mem_cons.1 hm with rfl | hm
    · exact Lib.tabIs_of_head hg hty ht he hce hct h
    · exact ih h.tail hm
end Go.Proofs.YtkddiaiohnbjpaaGreatDoor.Door
namespace Go.Proofs.YtkddiaiohnbjpaaGreatDoor.ByHand
section
variable {P : Program} {ops : Array Oper} {Q : Exit → Act → World → Prop} {md : Region.Mode} {S : World → Prop} {oi : Oper} {v : Value} {fuel : Nat} {listed : Array Bool} {a : Act} {w : World}
theorem take_yes (i k : Nat) (hi : ops[i]? = some oi) (hd : oi.dst = some k) (hs : Region.noSelect ops = true) (hf : Region.free md ops listed i = true) (hr : (Region.ready md ops listed).contains i = true)
    (hQ : ∀ c a w, Q (.panic c) (a.put oi.dst v) w → Q (.panic c) a w) (hw : Region.wanted oi (yielded ops a.tmps) = true) (hy : ∀ w, S w → (execOp a.eval oi).run P w = .ok (.value v) w) (hS : S w)
    (h : wpAnyH P md ops Q S fuel (listed.setIfInBounds i true) (a.put (some k) v) w) : wpAnyH P md ops Q S (fuel + 1) listed a w :=
  wpAnyH_take hi hs hf hr hQ (Or.inl ⟨hw, hy⟩) hS (by rw [hd]; exact h)
theorem take_no (i k : Nat) (hi : ops[i]? = some oi) (hd : oi.dst = some k) (hs : Region.noSelect ops = true) (hf : Region.free md ops listed i = true) (hr : (Region.ready md ops listed).contains i = true)
    (hQ : ∀ c a w, Q (.panic c) (a.put oi.dst undef) w → Q (.panic c) a w) (hw : Region.wanted oi (yielded ops a.tmps) = false) (hS : S w)
    (h : wpAnyH P md ops Q S fuel (listed.setIfInBounds i true) (a.put (some k) undef) w) : wpAnyH P md ops Q S (fuel + 1) listed a w :=
  wpAnyH_take hi hs hf hr hQ (Or.inr ⟨hw, rfl⟩) hS (by rw [hd]; exact h)
end
end Go.Proofs.YtkddiaiohnbjpaaGreatDoor.ByHand
namespace Go.Proofs.YtkddiaiohnbjpaaGreatDoor.Slice
open Go.ChangeShapes Go.WideShapes Go.ChangeAt Go.RowKit

/-- The value v is a slice of the integers zs, below block B. -/
def Ints (w : World) (B : Nat) (k : IntKind) (v : Value) (zs : List Int) : Prop :=
  ∃ (A : Option Addr) (c : Nat), v = .slice A zs.length c ∧ zs.length ≤ 9223372036854775807 ∧ (A = none → c = 0) ∧
    (0 < zs.length → ∃ b off, A = some ⟨b, off, none⟩ ∧ b < B ∧ ∀ i, i < zs.length → w.cell? ⟨b, off + i, none⟩ = some (.int k (zs.getD i 0)))

section
variable {w w' : World} {B B' : Nat} {k : IntKind} {v : Value} {zs : List Int}
theorem Ints.keep (h : Ints w B k v zs) (hk : ∀ b o, b < B → w'.cell? ⟨b, o, none⟩ = w.cell? ⟨b, o, none⟩) : Ints w' B k v zs := by
  obtain ⟨A, c, rfl, hl, hn, hc⟩ := h
  refine ⟨A, c, rfl, hl, hn, fun h0 => ?_⟩
  obtain ⟨b, off, rfl, hb, hcell⟩ := hc h0
  exact ⟨b, off, rfl, hb, fun i hi => (hk _ _ hb).trans (hcell i hi)⟩
theorem Ints.below (h : Ints w B k v zs) (hb : Below B w w') : Ints w' B k v zs := h.keep fun b o hlt => hb.cell (p := ⟨b, o, none⟩) hlt
theorem Ints.more (h : Ints w B k v zs) (hB : B ≤ B') : Ints w B' k v zs := by
  obtain ⟨A, c, rfl, hl, hn, hc⟩ := h
  refine ⟨A, c, rfl, hl, hn, fun h0 => ?_⟩
  obtain ⟨b, off, rfl, hb, hcell⟩ := hc h0
  exact ⟨b, off, rfl, by omega, hcell⟩
theorem Ints.drewN (h : Ints w B k v zs) (n : Nat) : Ints (w.drewN n) B k v zs := h
theorem Ints.alloc (h : Ints w B k v zs) (hB : B ≤ w.heap.size) (o : Obj) : Ints (w.alloc o) B k v zs := h.keep fun b p hb => World.cell?_alloc_lt (w := w) (o := o) (a := ⟨b, p, none⟩) (by show b < _; omega)
theorem Ints.nil_ (w : World) (B : Nat) (k : IntKind) : Ints w B k (.slice none 0 0) [] := ⟨none, 0, rfl, by simp, fun _ => rfl, fun h => absurd h (by simp)⟩
end

theorem lt_of_cell {w : World} {b o : Nat} {v : Value} (h : w.cell? ⟨b, o, none⟩ = some v) : b < w.heap.size := by
  rcases Nat.lt_or_ge b w.heap.size with hlt | hge
  · exact hlt
  · have e : w.heap[b]? = none := Array.getElem?_eq_none hge
    simp [World.cell?, e] at h

section
variable {H : Type} {enc : TypeId × Value → H} {P : Program}
/-- An argument: a slice of integers that came in. -/
theorem open_slice {w : World} {b0 : Nat} {r : Reach} {t e : TypeId} {k : IntKind} {v : Value} {d : DataW H} {ps : List MemPlace}
    (ht : P.underlying t = some (.slice e)) (he : P.underlying e = some (.int k)) (hc : P.cellsOf e = 1)
    (hval : Value.okWide P w r b0 t v) (hd : DataW.Trod enc P w 0 (fun _ => true) true t v d ps) :
    ∃ zs : List Int, Ints w w.heap.size k v zs ∧ ∀ z ∈ zs, (Lit.int k z).wf = true := by
  obtain ⟨a0, len0, cap0, rfl⟩ := okWide_slice ht hval
  obtain ⟨fuel, hf⟩ := hd
  rcases open_ints ht he hc hf with ⟨h1, -⟩ | ⟨a, len, cap, zs, h1, -, hlc, hm, hlen, -, hcell, hwf⟩
  · simp [Value.cells] at h1
    obtain ⟨rfl, rfl, rfl⟩ := h1
    exact ⟨[], Ints.nil_ _ _ _, by simp⟩
  · simp [Value.cells] at h1
    obtain ⟨rfl, rfl, rfl⟩ := h1
    simp only [if_true] at hlen
    have hl : (zs.take len0).length = len0 := by rw [List.length_take]; omega
    refine ⟨zs.take len0, ⟨some a, cap0, by rw [hl], by rw [hl]; unfold maxLen at hm; omega, fun h => (by cases h), fun h0 => ?_⟩, fun z hz => hwf z (List.mem_of_mem_take hz)⟩
    rw [hl] at h0 ⊢
    obtain ⟨b, off, rfl, hc⟩ := ints_at hcell (by omega)
    refine ⟨b, off, rfl, lt_of_cell (hc 0 (by omega)), fun i hi => ?_⟩
    rw [hc i (by omega)]
    congr 2
    simp only [List.getD_eq_getElem?_getD, List.getElem?_take, hi, if_true]
end

section
variable {P : Program} {w : World}
theorem Ints.of_own {base : Nat} {e : TypeId} {k : IntKind} {v : Value} {n : Nat} {zs : List Int} (hn : n = zs.length) (h : w.ownsRow base e 1 v n (zs.map (Value.int k))) : Ints w w.heap.size k v zs := by
  subst hn
  obtain ⟨hlen, ⟨rfl, h0⟩ | ⟨g, cap, cur, rfl, hg, hh, hnc, hm, hs, ht⟩⟩ := h
  · have : zs = [] := List.eq_nil_of_length_eq_zero h0
    subst this
    exact Ints.nil_ _ _ _
  · unfold maxLen at hm
    refine ⟨_, cap, rfl, by omega, fun h => (by cases h), fun h0 => ⟨g, 0, rfl, ?_, fun i hi => ?_⟩⟩
    · rcases Nat.lt_or_ge g w.heap.size with hlt | hge
      · exact hlt
      · rw [Array.getElem?_eq_none hge] at hh; cases hh
    · have e1 : cur.toList[i]? = some (.int k (zs.getD i 0)) := by
        have : (cur.toList.take (zs.length * 1))[i]? = (zs.map (Value.int k))[i]? := by rw [ht]
        rw [List.getElem?_take_of_lt (by omega)] at this
        rw [this, List.getElem?_map, List.getD_eq_getElem?_getD, List.getElem?_eq_getElem hi]
        rfl
      rw [Nat.zero_add]
      simp only [World.cell?, hh]
      simpa using e1

/-- append of a slice of integers that came in to a row of the call's own. -/
theorem wpList_append_ints {ops : Array Oper} {rest : List Oper} {o : Oper} {a : Act} {Q : Exit → Act → World → Prop} (hgd : o.guard = none) (s x : Operand) (t : TypeId)
    (ho : o.op = .call { callee := .builtin .append, args := #[s, x], argTypes := #[t, t] })
    (base : Nat) (e : TypeId) (i : TypeInfo) (z : Value) (bytes : Nat) (ht : P.underlying t = some (.slice e)) (hi : P.info? e = some i) (hz : i.zero = some z)
    (hsize : i.size = 1) (hby : i.bytes = bytes) (hzs : z.cells.size = 1)
    (v : Value) (n : Nat) (xs : List Value) (hs : a.eval s = v) (hown : w.ownsRow base e 1 v n xs)
    (B : Nat) (k : IntKind) (u : Value) (zs : List Int) (hx : a.eval x = u) (hu : Ints w B k u zs)
    (h63 : n + zs.length ≤ maxLen) (hbytes : (n + zs.length) * bytes ≤ 140737488355328) (hbase : base ≤ w.heap.size)
    (h : ∀ v' w', w'.ownsRow base e 1 v' (n + zs.length) (xs ++ zs.map (Value.int k)) → w.grownBy w' v.ownBlock → wpList P ops Q rest (a.put o.dst v') w') : wpList P ops Q (o :: rest) a w := by
  obtain ⟨A, c, rfl, hl, hn, hc⟩ := hu
  cases A with
  | none =>
    have h0 : zs = [] := by
      rcases Nat.eq_zero_or_pos zs.length with h0 | h0
      · exact List.eq_nil_of_length_eq_zero h0
      · obtain ⟨b, off, hb, -⟩ := hc h0; cases hb
    subst h0
    obtain rfl := hn rfl
    exact wpList_append_own_none hgd s x t ho base e i 1 ht hi v n xs hs hown hx (h v w (by simpa using hown) (World.grownBy.refl _ _))
  | some ad =>
    refine wpList_append_own _ hgd s x t ho base e i z 1 bytes ht hi hz hsize hby hzs (by omega) v n xs hs hown ad zs.length c (zs.map (Value.int k)) hx (by simp) ?_ ?_ h63 hbytes hbase (fun v' w' h1 h2 _ => h v' w' h1 h2)
    · intro j y hj
      have hlt : j < zs.length := by
        rcases Nat.lt_or_ge j zs.length with h | h
        · exact h
        · rw [List.getElem?_eq_none (by simpa using h)] at hj; cases hj
      obtain ⟨b, off, hb, -, hcell⟩ := hc (by omega)
      injection hb with hb
      subst hb
      rw [List.getElem?_map, List.getElem?_eq_getElem hlt] at hj
      injection hj with hj
      subst hj
      rw [Go.WideShapes.add_plain, hcell j hlt, List.getD_eq_getElem?_getD, List.getElem?_eq_getElem hlt]
      rfl
    · intro y hy
      obtain ⟨z', -, rfl⟩ := List.mem_map.1 hy
      rfl
end
end Go.Proofs.YtkddiaiohnbjpaaGreatDoor.Slice
namespace Go.Proofs.YtkddiaiohnbjpaaGreatDoor.Slice
open Go.ChangeShapes Go.WideShapes Go.ChangeAt Go.RowKit

theorem one_elem (w : World) (u : Value) (T : TypeId) : ∀ k y, [u][k]? = some y → (w.alloc (.cells #[u] T)).cell? ((⟨w.heap.size, 0, none⟩ : Addr).add k) = some y := by
  intro k y h
  match k, h with
  | 0, h =>
    injection h with h
    subst h
    simp [Addr.add]
theorem own_slice {w : World} {base n : Nat} {e : TypeId} {v : Value} {xs : List Value} (h : w.ownsRow base e 1 v n xs) : ∃ A c, v = .slice A n c := by
  rcases h.2 with ⟨rfl, rfl⟩ | ⟨g, cap, cur, rfl, -⟩
  · exact ⟨none, 0, rfl⟩
  · exact ⟨_, _, rfl⟩
theorem grown_new {w w' : World} {o : Obj} {r : Option Nat} (h : (w.alloc o).grownBy w' r) : w.grownBy w' r :=
  ⟨h.os, h.tape, h.output, Nat.le_trans (by simp) h.size, fun i hi hr => (h.block i (by simp; omega) hr).trans (Below.heap_alloc w o i hi)⟩
theorem grown_below {w w' : World} (h : Below w.heap.size w w') (r : Option Nat) : w.grownBy w' r := ⟨h.os, h.tape, h.output, h.size, fun i hi _ => h.block i hi⟩
theorem own_apart {w : World} {base base' n n' : Nat} {e e' : TypeId} {v v' : Value} {xs xs' : List Value} (h : w.ownsRow base e 1 v n xs) (h' : w.ownsRow base' e' 1 v' n' xs') (hne : e ≠ e') : v.ownBlock = none ∨ v.ownBlock ≠ v'.ownBlock := by
  rcases h.2 with ⟨rfl, rfl⟩ | ⟨g, cap, cur, rfl, -, hh, -⟩
  · exact Or.inl rfl
  · right
    rcases h'.2 with ⟨rfl, rfl⟩ | ⟨g', cap', cur', rfl, -, hh', -⟩
    · intro e; simp [Value.ownBlock] at e
    · intro e
      have eg : g = g' := by simpa [Value.ownBlock] using e
      subst eg
      rw [hh] at hh'
      injection hh' with hh'
      injection hh' with _ ht
      exact hne ht
theorem wpList_append_one {P : Program} {ops : Array Oper} {rest : List Oper} {o : Oper} {a : Act} {Q : Exit → Act → World → Prop} (hgd : o.guard = none) (s x : Operand) (t : TypeId)
    (ho : o.op = .call { callee := .builtin .append, args := #[s, x], argTypes := #[t, t] })
    (base : Nat) (e : TypeId) (i : TypeInfo) (z : Value) (bytes : Nat) (ht : P.underlying t = some (.slice e)) (hi : P.info? e = some i) (hz : i.zero = some z)
    (hsize : i.size = 1) (hby : i.bytes = bytes) (hzs : z.cells.size = 1)
    (w : World) (T : TypeId) (u : Value) (h1 : u.oneCell' = true) (v : Value) (n : Nat) (xs : List Value) (hs : a.eval s = v) (hown : w.ownsRow base e 1 v n xs) (g : Nat) (hx : a.eval x = .slice (some ⟨g, 0, none⟩) 1 1) (hgw : g = w.heap.size)
    (h63 : n + 1 ≤ maxLen) (hbytes : (n + 1) * bytes ≤ 140737488355328) (hbase : base ≤ w.heap.size)
    (h : ∀ v' w', w'.ownsRow base e 1 v' (n + 1) (xs ++ [u]) → w.grownBy w' v.ownBlock → wpList P ops Q rest (a.put o.dst v') w') : wpList P ops Q (o :: rest) a (w.alloc (.cells #[u] T)) :=
  wpList_append_own _ hgd s x t ho base e i z 1 bytes ht hi hz hsize hby hzs (by omega) v n xs hs (hown.alloc _) ⟨w.heap.size, 0, none⟩ 1 1 [u] (by rw [hx, hgw]) rfl (one_elem w u T)
    (fun y hy => by rw [List.mem_singleton] at hy; rw [hy]; exact h1) h63 hbytes (by simp; omega) (fun v' w' h2 h3 _ => h v' w' h2 (grown_new h3))
/-- append of a slice of integers to a row of the call's own, as one step of a region that draws. -/
theorem step_ints {P : Program} {W : World} {ops : Array Oper} {o : Oper} {act : Act} {K : Act → World → Prop} {Q : Exit → Act → World → Prop} {E : Prop} (hgd : o.guard = none) (s x : Operand) (t : TypeId)
    (ho : o.op = .call { callee := .builtin .append, args := #[s, x], argTypes := #[t, t] })
    (base : Nat) (e : TypeId) (i : TypeInfo) (z : Value) (bytes : Nat) (ht : P.underlying t = some (.slice e)) (hi : P.info? e = some i) (hz : i.zero = some z)
    (hsize : i.size = 1) (hby : i.bytes = bytes) (hzs : z.cells.size = 1)
    (v : Value) (n : Nat) (xs : List Value) (hs : act.eval s = v) (hown : W.ownsRow base e 1 v n xs)
    (B : Nat) (k : IntKind) (u : Value) (zs : List Int) (hx : act.eval x = u) (hu : Ints W B k u zs)
    (h63 : n + zs.length ≤ maxLen) (hbytes : (n + zs.length) * bytes ≤ 140737488355328) (hbase : base ≤ W.heap.size)
    (h : ∀ v' w', w'.ownsRow base e 1 v' (n + zs.length) (xs ++ zs.map (Value.int k)) → W.grownBy w' v.ownBlock → K (act.put o.dst v') w') :
    if Region.wanted o (yielded ops act.tmps) = true then Oper.wp P o act W K Q else E := by
  have hw : Region.wanted o (yielded ops act.tmps) = true := by simp [Region.wanted, hgd]
  rw [if_pos hw]
  obtain ⟨A, c, rfl, hl, hn, hc⟩ := hu
  cases A with
  | none =>
    have h0 : zs = [] := by
      rcases Nat.eq_zero_or_pos zs.length with h0 | h0
      · exact List.eq_nil_of_length_eq_zero h0
      · obtain ⟨b, off, hb, -⟩ := hc h0; cases hb
    subst h0
    obtain rfl := hn rfl
    have hrun := run_append_owned_none (P := P) (w := W) base t o.type e i 1 ht hi v n xs hown
    unfold Oper.wp
    simp [execOp, ho, resolve, invoke, builtin, hs, hx, hrun, Result.andThen]
    exact h v W (by simpa using hown) (World.grownBy.refl _ _)
  | some ad =>
    refine wp_append_own W s x t ho base e i z 1 bytes ht hi hz hsize hby hzs (by omega) v n xs hs hown ad zs.length c (zs.map (Value.int k)) hx (by simp) ?_ ?_ h63 hbytes hbase (fun v' w' h1 h2 _ => h v' w' h1 h2)
    · intro j y hj
      have hlt : j < zs.length := by
        rcases Nat.lt_or_ge j zs.length with h | h
        · exact h
        · rw [List.getElem?_eq_none (by simpa using h)] at hj; cases hj
      obtain ⟨b, off, hb, -, hcell⟩ := hc (by omega)
      injection hb with hb
      subst hb
      rw [List.getElem?_map, List.getElem?_eq_getElem hlt] at hj
      injection hj with hj
      subst hj
      rw [Go.WideShapes.add_plain, hcell j hlt, List.getD_eq_getElem?_getD, List.getElem?_eq_getElem hlt]
      rfl
    · intro y hy
      obtain ⟨z', -, rfl⟩ := List.mem_map.1 hy
      rfl
theorem one_of_cell {w : World} {g : Nat} {k : IntKind} {z : Int} (h : w.cell? ⟨g, 0, none⟩ = some (.int k z)) : Ints w w.heap.size k (.slice (some ⟨g, 0, none⟩) 1 1) [z] :=
  ⟨some ⟨g, 0, none⟩, 1, rfl, by simp, fun h => (by cases h), fun _ => ⟨g, 0, rfl, lt_of_cell h, fun i hi => by
    match i, hi with
    | 0, _ => exact h⟩⟩
theorem one_lit {w : World} {g : Nat} {T : TypeId} {k : IntKind} {z : Int} (hg : g = w.heap.size) : Ints (w.alloc (.cells #[.int k z] T)) (w.alloc (.cells #[.int k z] T)).heap.size k (.slice (some ⟨g, 0, none⟩) 1 1) [z] := by
  subst hg
  refine one_of_cell ?_
  rw [World.cell?_alloc_new]; rfl
/-- A block of one integer, laid ahead of an empty row, or behind it, when that row has grown. -/
theorem one_first {D w' : World} {g : Nat} {T T' : TypeId} {k : IntKind} {z : Int} {r : Option Nat} (hg : g = D.heap.size) (h : ((D.alloc (.cells #[.int k z] T)).alloc (.cells #[] T')).grownBy w' r) (hr : r ≠ some D.heap.size) :
    Ints w' w'.heap.size k (.slice (some ⟨g, 0, none⟩) 1 1) [z] := by
  subst hg
  refine one_of_cell (h.cell (a := ⟨D.heap.size, 0, none⟩) ?_ (Ne.symm hr))
  refine (World.cell?_alloc_lt (w := D.alloc (.cells #[.int k z] T)) (o := .cells #[] T') (a := ⟨D.heap.size, 0, none⟩) (by simp)).trans ?_
  rw [World.cell?_alloc_new]; rfl
theorem one_second {D w' : World} {g : Nat} {T T' : TypeId} {k : IntKind} {z : Int} {r : Option Nat} (hg : g = D.heap.size + 1) (h : ((D.alloc (.cells #[] T')).alloc (.cells #[.int k z] T)).grownBy w' r) (hr : r ≠ some (D.heap.size + 1)) :
    Ints w' w'.heap.size k (.slice (some ⟨g, 0, none⟩) 1 1) [z] := by
  subst hg
  refine one_of_cell (h.cell (a := ⟨D.heap.size + 1, 0, none⟩) ?_ (Ne.symm hr))
  have := World.cell?_alloc_new (D.alloc (.cells #[] T')) #[.int k z] T 0
  rw [show (D.alloc (.cells #[] T')).heap.size = D.heap.size + 1 by simp] at this
  rw [this]; rfl
theorem below_of {a W w' : World} {r : Option Nat} (hg : W.grownBy w' r) (h : Below a.heap.size a W) (hr : ∀ g, r = some g → a.heap.size ≤ g) : Below a.heap.size a w' := h.grown hg h.size hr
theorem ints_take {w : World} {B q c0 : Nat} {k : IntKind} {A : Option Addr} {c : List Int} (h : Ints w B k (.slice A c.length c0) c) (hq : q ≤ c.length) : Ints w B k (.slice A q c0) (c.take q) := by
  obtain ⟨A', c', e, hl, hn, hc⟩ := h
  injection e with e1 e2 e3
  subst e1
  subst e3
  have hlen : (c.take q).length = q := by rw [List.length_take]; omega
  refine ⟨A, c0, by rw [hlen], by omega, hn, fun h0 => ?_⟩
  obtain ⟨b, off, rfl, hb, hcell⟩ := hc (by omega)
  refine ⟨b, off, rfl, hb, fun i hi => ?_⟩
  rw [hcell i (by omega)]
  congr 2
  rw [hlen] at hi
  simp only [List.getD_eq_getElem?_getD, List.getElem?_take, hi, if_true]
theorem ints_drop {w : World} {B q c0 : Nat} {k : IntKind} {ad : Addr} {c : List Int} (h : Ints w B k (.slice (some ad) c.length c0) c) (hq : q ≤ c.length) (hc0 : c.length ≤ c0) :
    Ints w B k (.slice (some (if c0 = q then ad else ad.add (q * 1))) (c.length - q) (c0 - q)) (c.drop q) := by
  obtain ⟨A', c', e, hl, hn, hc⟩ := h
  injection e with e1 e2 e3
  subst e1
  subst e3
  have hlen : (c.drop q).length = c.length - q := List.length_drop
  refine ⟨_, _, by rw [hlen], by omega, fun h => (by cases h), fun h0 => ?_⟩
  rw [hlen] at h0
  obtain ⟨b, off, e, hb, hcell⟩ := hc (by omega)
  injection e with e
  subst e
  rw [if_neg (by omega), Go.WideShapes.add_plain, Nat.mul_one]
  refine ⟨b, off + q, rfl, hb, fun i hi => ?_⟩
  rw [hlen] at hi
  rw [Nat.add_assoc, hcell (q + i) (by omega)]
  congr 2
  simp only [List.getD_eq_getElem?_getD, List.getElem?_drop]
end Go.Proofs.YtkddiaiohnbjpaaGreatDoor.Slice
namespace Go.Proofs.YtkddiaiohnbjpaaGreatDoor.Slice
open Go.ChangeShapes Go.WideShapes Go.ChangeAt Go.RowKit

theorem run_append_more {P : Program} (w : World) (t ty : TypeId) (base : Nat) (e : TypeId) (i : TypeInfo) (z : Value) (bytes : Nat) (ht : P.underlying t = some (.slice e)) (hi : P.info? e = some i) (hz : i.zero = some z)
    (hsize : i.size = 1) (hby : i.bytes = bytes) (hzs : z.cells.size = 1)
    (v : Value) (n : Nat) (xs : List Value) (hown : w.ownsRow base e 1 v n xs) (ad : Addr) (c : Nat) (u : Value) (hnews : w.cell? (ad.add 0) = some u) (h1 : u.oneCell' = true)
    (h63 : n + 1 ≤ maxLen) (hbytes : (n + 1) * bytes ≤ 140737488355328) (hbase : base ≤ w.heap.size) :
    ∃ v' w', (Builtin.append_ #[t, t] ty #[v, .slice (some ad) 1 c]).run P w = .ok v' w' ∧ w'.ownsRow base e 1 v' (n + 1) (xs ++ [u]) ∧ w.grownBy w' v.ownBlock ∧ ∀ k, v'.ownBlock = some k → v.ownBlock = some k ∨ w.heap.size ≤ k := by
  have hnn : ∀ j y, [u][j]? = some y → w.cell? (ad.add j) = some y := fun j y h => by
    match j, h with
    | 0, h => injection h with h; subst h; exact hnews
  have hall : ∀ y ∈ [u], y.oneCell' = true := fun y hy => by rw [List.mem_singleton] at hy; rw [hy]; exact h1
  have h63' : ((n + 1 : Nat) : Int) ≤ 9223372036854775807 := by simp only [maxLen] at h63; omega
  obtain ⟨v', w', hr, h2, h3, -⟩ := run_append_own (P := P) w base t ty e i z 1 bytes ht hi hz hsize hby hzs (by omega) v n xs hown ad 1 c [u] rfl hnn hall h63 hbytes hbase
  refine ⟨v', w', hr, h2, h3, fun k hk => ?_⟩
  rcases hown.2 with ⟨rfl, rfl⟩ | ⟨g, cap, cur, rfl, hbg, hg, hnc, hcm, hcs, htake⟩
  · have := run_append_nil (P := P) w t ty e i z ht hi hz ad 1 c [u] (by rw [hsize]; rfl) hnn (by omega) (by omega) (by rw [hby]; omega)
    rw [this] at hr
    injection hr with hr _
    rw [← hr] at hk
    injection hk with hk
    exact Or.inr (by rw [← hk]; exact Nat.le_refl _)
  · by_cases hroom : n + 1 ≤ cap
    · have := run_append_room (P := P) w t ty e i ht hi g n cap cur hg ad 1 c [u] (by rw [hsize]; rfl) hnn hall hroom (by rw [hsize, hcs]; simp; omega)
      rw [this] at hr
      injection hr with hr _
      rw [← hr] at hk
      exact Or.inl hk
    · have := run_append_grow (P := P) w t ty e i z ht hi hz ⟨g, 0, none⟩ n cap xs (by rw [hsize]; exact hown.1) (hown.cells (g := g) rfl) ad 1 c [u] (by rw [hsize]; rfl) hnn (by omega) h63' (by rw [hby]; exact growslice_fits (by omega) hbytes)
      rw [this] at hr
      injection hr with hr _
      rw [← hr] at hk
      injection hk with hk
      exact Or.inr (by rw [← hk]; exact Nat.le_refl _)
theorem step_more {P : Program} {W : World} {ops : Array Oper} {o : Oper} {act : Act} {K : Act → World → Prop} {Q : Exit → Act → World → Prop} {E : Prop} (hgd : o.guard = none) (s x : Operand) (t : TypeId)
    (ho : o.op = .call { callee := .builtin .append, args := #[s, x], argTypes := #[t, t] })
    (base : Nat) (e : TypeId) (i : TypeInfo) (z : Value) (bytes : Nat) (ht : P.underlying t = some (.slice e)) (hi : P.info? e = some i) (hz : i.zero = some z)
    (hsize : i.size = 1) (hby : i.bytes = bytes) (hzs : z.cells.size = 1)
    (T : TypeId) (u : Value) (h1 : u.oneCell' = true) (v : Value) (n : Nat) (xs : List Value) (hs : act.eval s = v) (hown : W.ownsRow base e 1 v n xs) (g : Nat) (hx : act.eval x = .slice (some ⟨g, 0, none⟩) 1 1) (hgw : g = W.heap.size)
    (h63 : n + 1 ≤ maxLen) (hbytes : (n + 1) * bytes ≤ 140737488355328) (hbase : base ≤ W.heap.size)
    (h : ∀ v' w', w'.ownsRow base e 1 v' (n + 1) (xs ++ [u]) → W.grownBy w' v.ownBlock → (∀ k, v'.ownBlock = some k → v.ownBlock = some k ∨ W.heap.size ≤ k) → K (act.put o.dst v') w') :
    if Region.wanted o (yielded ops act.tmps) = true then Oper.wp P o act (W.alloc (.cells #[u] T)) K Q else E := by
  have hw : Region.wanted o (yielded ops act.tmps) = true := by simp [Region.wanted, hgd]
  rw [if_pos hw]
  obtain ⟨v', w', hr, h2, h3, h4⟩ := run_append_more (P := P) (W.alloc (.cells #[u] T)) t o.type base e i z bytes ht hi hz hsize hby hzs v n xs (hown.alloc _) ⟨W.heap.size, 0, none⟩ 1 u (one_elem W u T 0 u rfl) h1 h63 hbytes (by simp; omega)
  unfold Oper.wp execOp
  simp only [ho, resolve, invoke, builtin, Sem.run_bind, Sem.run_pure, Result.andThen_ok, List.map_toArray, List.map_cons, List.map_nil, hs, hx, hgw, hr]
  exact h v' w' h2 (grown_new h3) (fun k hk => (h4 k hk).imp id (fun h => by simp at h; omega))
end Go.Proofs.YtkddiaiohnbjpaaGreatDoor.Slice
namespace Go.Proofs.YtkddiaiohnbjpaaGreatDoor.Slice
open Go.ChangeShapes Go.WideShapes Go.ChangeAt Go.RowKit

/-- Block g is a row of type e, its first n cells being X 0, X 1, .. -/
def Over (w : World) (g : Nat) (e : TypeId) (n : Nat) (X : Nat → Value) : Prop := ∃ cap f, n ≤ cap ∧ w.rowIs g e cap f ∧ ∀ i, i < n → f i = X i
section
variable {w w' : World} {g g' n n' : Nat} {e e' : TypeId} {X Y : Nat → Value}
theorem Over.cell (h : Over w g e n X) {i : Nat} (hi : i < n) : w.cell? ⟨g, i, none⟩ = some (X i) := by
  obtain ⟨cap, f, hc, hr, hf⟩ := h
  rw [← hf i hi]; exact hr.cell (by omega)
theorem Over.frozen (h : Over w g e n X) (i : Nat) : w.frozen? ⟨g, i, none⟩ = false := by
  obtain ⟨cap, f, -, hr, -⟩ := h
  exact hr.frozen i
theorem Over.lt (h : Over w g e n X) : g < w.heap.size := by
  obtain ⟨cap, f, -, hr, -⟩ := h
  exact hr.lt
theorem Over.block (h : Over w g e n X) (hb : w'.heap[g]? = w.heap[g]?) : Over w' g e n X := by
  obtain ⟨cap, f, hc, hr, hf⟩ := h
  exact ⟨cap, f, hc, hr.of_block hb, hf⟩
theorem Over.other (h : Over w g e n X) {a : Addr} (ha : g ≠ a.block) (v : Value) : Over (w.setCell a v) g e n X := by
  obtain ⟨cap, f, hc, hr, hf⟩ := h
  exact ⟨cap, f, hc, hr.setOther ha v, hf⟩
theorem Over.set (h : Over w g e n X) (p : Nat) (v : Value) (hY : ∀ i, i < n → Y i = if i = p then v else X i) : Over (w.setCell ⟨g, p, none⟩ v) g e n Y := by
  obtain ⟨cap, f, hc, hr, hf⟩ := h
  refine ⟨cap, _, hc, hr.set p v, fun i hi => ?_⟩
  rw [hY i hi]
  by_cases z : i = p
  · rw [if_pos z, if_pos z]
  · rw [if_neg z, if_neg z, hf i hi]
theorem Over.congr (h : Over w g e n X) (hY : ∀ i, i < n → X i = Y i) : Over w g e n Y := by
  obtain ⟨cap, f, hc, hr, hf⟩ := h
  exact ⟨cap, f, hc, hr, fun i hi => (hf i hi).trans (hY i hi)⟩
theorem Over.alloc (h : Over w g e n X) (o : Obj) : Over (w.alloc o) g e n X := by
  obtain ⟨cap, f, hc, hr, hf⟩ := h
  exact ⟨cap, f, hc, hr.alloc o, hf⟩
theorem Over.drewN (h : Over w g e n X) (m : Nat) : Over (w.drewN m) g e n X := h
theorem Over.apart (h : Over w g e n X) (h' : Over w g' e' n' Y) (hne : e ≠ e') : g ≠ g' := by
  rintro rfl
  obtain ⟨cap, f, -, ⟨c, hb, -⟩, -⟩ := h
  obtain ⟨cap', f', -, ⟨c', hb', -⟩, -⟩ := h'
  rw [hb] at hb'
  injection hb' with hb'
  injection hb' with _ ht
  exact hne ht
theorem Over.of_own {base : Nat} {v : Value} {xs : List Value} (h : w.ownsRow base e 1 v n xs) (hn : 0 < n) (hx : ∀ i, i < n → xs[i]? = some (X i)) : ∃ g c, v = .slice (some ⟨g, 0, none⟩) n c ∧ base ≤ g ∧ Over w g e n X := by
  rcases h.2 with ⟨rfl, rfl⟩ | ⟨g, cap, cur, rfl, hg, hh, hnc, hm, hs, ht⟩
  · omega
  · refine ⟨g, cap, rfl, hg, cap, fun i => (cur[i]?).getD default, hnc, ⟨cur, hh, by omega, fun i hi => ?_⟩, fun i hi => ?_⟩
    · show cur[i]? = some ((cur[i]?).getD default)
      rw [Array.getElem?_eq_getElem (by omega)]; rfl
    · have e1 : cur.toList[i]? = some (X i) := by
        have : (cur.toList.take (n * 1))[i]? = xs[i]? := by rw [ht]
        rw [List.getElem?_take_of_lt (by omega), hx i hi] at this
        exact this
      have e2 : cur[i]? = some (X i) := by simpa using e1
      show (cur[i]?).getD default = X i
      rw [e2]; rfl
theorem Over.ints {k : IntKind} {zs : List Int} (h : Over w g e n X) (hn : zs.length = n) (hm : n ≤ 9223372036854775807) (hX : ∀ i, i < n → X i = .int k (zs.getD i 0)) (c : Nat) : Ints w w.heap.size k (.slice (some ⟨g, 0, none⟩) n c) zs := by
  subst hn
  refine ⟨some ⟨g, 0, none⟩, c, rfl, hm, fun h => (by cases h), fun h0 => ⟨g, 0, rfl, h.lt, fun i hi => ?_⟩⟩
  rw [Nat.zero_add, h.cell hi, hX i hi]
end
end Go.Proofs.YtkddiaiohnbjpaaGreatDoor.Slice
namespace Go.Proofs.YtkddiaiohnbjpaaGreatDoor.Mod
open Go.ChangeShapes Go.WideShapes Go.ChangeAt Go.RowKit

theorem tmod_range (x n : Int) (h : 0 < n) : -n < x.tmod n ∧ x.tmod n < n := ⟨Int.lt_tmod_of_pos x h, Int.tmod_lt_of_pos x h⟩
theorem mod_facts (x n : Int) (h : 1 ≤ n) (h2 : n ≤ 1000000000) : wrap64 (x.tmod n + n) = x.tmod n + n ∧ 0 ≤ (x.tmod n + n).tmod n ∧ (x.tmod n + n).tmod n < n := by
  obtain ⟨h3, h4⟩ := tmod_range x n (by omega)
  refine ⟨by unfold wrap64; omega, ?_, ?_⟩
  · rw [Int.tmod_eq_emod_of_nonneg (by omega)]; exact Int.emod_nonneg _ (by omega)
  · rw [Int.tmod_eq_emod_of_nonneg (by omega)]; exact Int.emod_lt_of_pos _ (by omega)
theorem mod_any (x n : Int) (w : World) (h : 1 ≤ n) (h2 : n ≤ 1000000000) : Calls Tryz.prog 22 #[.int .i64 x, .int .i64 n] w fun e w' => (∃ p : Nat, (p : Int) < n ∧ e = .returned (.int .i64 (p : Int))) ∧ w = w' := by
  obtain ⟨W1, W2, W3⟩ := mod_facts x n h h2
  have W2 := Lib.hid W2
  have W3 := Lib.hid W3
  have hn : (n == 0) = false := by rw [beq_eq_false_iff_ne]; omega
  have hn1 : decide (n < 1) = false := decide_eq_false (by omega)
  have hn2 : ¬ n = -1 := by omega
  have hn3 : (n == -1) = false := by rw [beq_eq_false_iff_ne]; exact hn2
  clear h2
  go_enter Tryz.func22, Tryz.ntmps22
  go_wp2
  go_ret
  refine ⟨⟨((x.tmod n + n).tmod n).toNat, ?_, ?_⟩, rfl⟩
  · rw [Int.toNat_of_nonneg W2.out]; exact W3.out
  · rw [Int.toNat_of_nonneg W2.out]; rfl
theorem u8_nat {s : Int} (h : (Lit.int .u8 s).wf = true) : ∃ n : Nat, s = n ∧ n < 256 := by
  have h1 : 0 ≤ s ∧ s ≤ 255 := by simpa [Lit.wf, IntKind.min, IntKind.max, IntKind.bits, IntKind.signed] using h
  exact ⟨s.toNat, by omega, by omega⟩
end Go.Proofs.YtkddiaiohnbjpaaGreatDoor.Mod
