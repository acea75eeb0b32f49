/- What the walk of the document's own joined wants: how what has come together lies in memory, round by round. -/
import Derived.Test.YtjcgclfcompioaaRefCuts
import Derived.Test.YtjcgclfcompioaaSpanMath3
import Derived.Laws.OwnMore
namespace Go.Proofs.Ytjcgclfcompioaa.Span
open Go.ChangeShapes Go.WideShapes Go.ChangeAt Go.RowKit Pairs Slice

theorem quiet_left {P : Program} {f : FuncId} {args : Array Value} {w : World} {n : Nat} {v : Value} (h : Calls P f args (w.drewN n) fun e w' => e = .returned v ∧ w.drewN n = w') :
    Calls P f args (w.drewN n) fun e w'' => e = .returned v ∧ ∃ m, w'' = w.drewN m :=
  h.mono fun _ _ ⟨he, hm⟩ => ⟨he, n, hm.symm⟩
def resL (zs : List (Int × Int)) : List (Int × Int) := if zs.length ≤ 1000 then zs else []
def resE (zs : List (Int × Int)) : Int := if zs.length ≤ 1000 then 0 else 3
structure JState (f : Bool → Bool → Bool) (a b : List (Int × Int)) (c : List Int) (W : World) (i : Nat) (out : List (Int × Int)) (u : Value) (wr : World) : Prop where
  below : Below W.heap.size W wr
  own : wr.ownsRow W.heap.size 53 2 u out.length (flat out)
  joins : 0 < c.length → Joins f a b c i out
  none : c.length = 0 → out = []
  len : out.length ≤ i
theorem last_nil {c : List Int} {a b : List (Int × Int)} (h : Ended a b c) {i : Nat} (hi : i < c.length) : lastTo (-1) ([] : List (Int × Int)) ≠ c.getD i 0 := by
  have := h.low _ (getD_mem hi)
  show (-1 : Int) ≠ _
  omega
theorem nil_or_end {α : Type} (l : List α) : l = [] ∨ ∃ init q, l = init ++ [q] := by
  cases h : l with
  | nil => exact Or.inl rfl
  | cons x r => exact Or.inr ⟨(x :: r).dropLast, (x :: r).getLast (by simp), (List.dropLast_concat_getLast (by simp)).symm⟩
section
variable {f : Bool → Bool → Bool} {a b out : List (Int × Int)} {c : List Int} {W wr : World} {i : Nat} {u : Value}
theorem jState_skip (h : JState f a b c W i out u wr) (hlt : i + 1 < c.length) (hj : Joins f a b c (i + 1) out) (n : Nat) : JState f a b c W (i + 1) out u (wr.drewN n) :=
  ⟨below_drewN h.below n, h.own, fun _ => hj, fun h0 => by omega, by have := h.len; omega⟩
theorem jState_new {w0 w3 : World} {v : Value} {p : Int × Int} (h : JState f a b c W i out u wr) (hlt : i + 1 < c.length) (hj : Joins f a b c (i + 1) (out ++ [p]))
    (hb : Below wr.heap.size wr w0) (ho : w3.ownsRow W.heap.size 53 2 v (out.length + 1) (flat out ++ flat [p])) (hg : w0.grownBy w3 u.ownBlock) : JState f a b c W (i + 1) (out ++ [p]) v w3 := by
  refine ⟨(below_via h.below hb).grown hg (Nat.le_trans h.below.size hb.size) (fun g hg => (h.own.lt g hg).1), ?_, fun _ => hj, fun h0 => by omega, by have := h.len; simp; omega⟩
  rw [flat_append, List.length_append]
  exact ho
theorem jState_end {init : List (Int × Int)} {q p : Int × Int} {w0 w3 : World} {v : Value} (h : JState f a b c W i (init ++ [q]) u wr) (hlt : i + 1 < c.length) (hj : Joins f a b c (i + 1) (init ++ [q] ++ [p]))
    (hb : Below wr.heap.size wr w0) (ho : w3.ownsRow W.heap.size 53 2 v (init.length + 1 + 1) (flat (init ++ [q]) ++ flat [p])) (hg : w0.grownBy w3 u.ownBlock) : JState f a b c W (i + 1) (init ++ [q] ++ [p]) v w3 :=
  jState_new h hlt hj hb (by rw [show (init ++ [q]).length = init.length + 1 by simp]; exact ho) hg
theorem jState_own {init : List (Int × Int)} {q : Int × Int} (h : JState f a b c W i (init ++ [q]) u wr) : wr.ownsRow W.heap.size 53 2 u (init.length + 1) (flat (init ++ [q])) := by
  have := h.own
  rw [show (init ++ [q]).length = init.length + 1 by simp] at this
  exact this
theorem small_facts {n : Nat} (h : n + 1 ≤ 4000) : wrap64 ((n : Int) + 1 - 1) = (n : Int) ∧ IntKind.i64.wrap ((n : Int) + 1 - 1) = (n : Int) ∧ IntKind.i64.wrap (n : Int) = (n : Int) ∧ wrap64 (n : Int) = (n : Int) ∧ decide ((0 : Int) < (n : Int) + 1) = true ∧ (n : Int) < (n : Int) + 1 ∧ (0 : Int) ≤ (n : Int) := by
  refine ⟨?_, ?_, ?_, ?_, ?_, ?_, ?_⟩
  · unfold wrap64; omega
  · rw [IntKind.wrap_i64]; omega
  · rw [IntKind.wrap_i64]; omega
  · unfold wrap64; omega
  · exact decide_eq_true (by omega)
  · omega
  · omega
theorem next_facts {i n : Nat} (h : i + 1 < n) (hn : n ≤ 4000) : decide ((i : Int) + 1 < (n : Int)) = true ∧ (i : Int) + 1 < (n : Int) ∧ (i : Int) < (n : Int) ∧ IntKind.i64.wrap ((i : Int) + 1) = (i : Int) + 1 ∧ ((i : Int) + 1).toNat = i + 1 ∧ (0 : Int) ≤ (i : Int) + 1 := by
  refine ⟨decide_eq_true (by omega), by omega, by omega, ?_, by omega, by omega⟩
  rw [IntKind.wrap_i64]; omega
theorem last_facts {i n : Nat} (h : ¬ i + 1 < n) : decide ((i : Int) + 1 < (n : Int)) = false := decide_eq_false (by omega)
theorem big_facts {n : Nat} (h : n ≤ 1000) : decide (1000 < n) = false ∧ decide ((1000 : Int) < (n : Int)) = false := ⟨decide_eq_false (by omega), decide_eq_false (by omega)⟩
theorem big_facts' {n : Nat} (h : ¬ n ≤ 1000) : decide (1000 < n) = true ∧ decide ((1000 : Int) < (n : Int)) = true := ⟨decide_eq_true (by omega), decide_eq_true (by omega)⟩
theorem small_room {n : Nat} (h : n ≤ 4000) : n + 1 ≤ maxLen ∧ (n + 1) * 16 ≤ 140737488355328 := by unfold maxLen; omega
theorem flat_set (init : List (Int × Int)) (q : Int × Int) (x : Int) : (flat (init ++ [q])).set (init.length * 2 + 1) (.int .i64 x) = flat (init ++ [(q.1, x)]) := by
  rw [flat_append, flat_append, List.set_append_right _ _ (by rw [flat_length]; omega), flat_length, show init.length * 2 + 1 - init.length * 2 = 1 by omega]
  rfl
theorem jState_grow {init : List (Int × Int)} {q : Int × Int} {g cap : Nat} (h : JState f a b c W i (init ++ [q]) (.slice (some ⟨g, 0, none⟩) (init.length + 1) cap) wr) (hlt : i + 1 < c.length) {x : Int} (hj : Joins f a b c (i + 1) (init ++ [(q.1, x)])) (n : Nat) :
    JState f a b c W (i + 1) (init ++ [(q.1, x)]) (.slice (some ⟨g, 0, none⟩) (init.length + 1) cap) ((wr.drewN n).setCell ⟨g, init.length * 2 + 1, none⟩ (.int .i64 x)) := by
  have ho := h.own
  rw [show (init ++ [q]).length = init.length + 1 by simp] at ho
  have hs := World.ownsRow.stored (w := wr.drewN n) (show (wr.drewN n).ownsRow _ _ _ _ _ _ from ho) (init.length * 2 + 1) (.int .i64 x)
  refine ⟨(below_drewN h.below n).setCell (ho.lt g rfl).1 _, ?_, fun _ => hj, fun h0 => by omega, by have := h.len; simp at this ⊢; omega⟩
  rw [show (init ++ [(q.1, x)]).length = init.length + 1 by simp, ← flat_set]
  exact hs.1
theorem jState_form {init : List (Int × Int)} {q : Int × Int} (h : JState f a b c W i (init ++ [q]) u wr) : ∃ g cap, u = .slice (some ⟨g, 0, none⟩) (init.length + 1) cap ∧
    wr.cell? ⟨g, init.length * 2 + 1, none⟩ = some (.int .i64 q.2) ∧ wr.frozen? ⟨g, init.length * 2 + 1, none⟩ = false := by
  have ho := h.own
  rw [show (init ++ [q]).length = init.length + 1 by simp] at ho
  rcases ho.2 with ⟨-, h0⟩ | ⟨g, cap, cur, rfl, -⟩
  · omega
  · refine ⟨g, cap, rfl, ?_, ho.frozenAt _⟩
    rw [ho.cellAt _ (by omega)]
    have := flat_get1 (init ++ [q]) init.length (by simp)
    rw [this]
    simp [List.getD_eq_getElem?_getD]
end
end Go.Proofs.Ytjcgclfcompioaa.Span
