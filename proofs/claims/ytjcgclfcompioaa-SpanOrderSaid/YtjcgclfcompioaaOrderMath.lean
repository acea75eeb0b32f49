/- Sets of days as stretches, in plain lists: stretches that are put in one by one, in whatever order. Of no one law. -/
import Derived.Test.YtjcgclfcompioaaRefSpan3
namespace Go.Proofs.Ytjcgclfcompioaa.Span
open Go.ChangeShapes Go.WideShapes Go.ChangeAt Go.RowKit

/-- The stretch that two words tell: where it begins, and how long it is. -/
def strP (p : Int × Int) : Int × Int := (p.1, p.1 + 1 + p.2.tmod 20000)
def strL (l : List (Int × Int)) : List (Int × Int) := l.map strP
def WordsIn (l : List (Int × Int)) : Prop := ∀ p ∈ l, 0 ≤ p.1 ∧ p.1 ≤ 65535 ∧ 0 ≤ p.2 ∧ p.2 ≤ 65535
theorem str_range {p : Int × Int} (h : 0 ≤ p.1 ∧ p.1 ≤ 65535 ∧ 0 ≤ p.2 ∧ p.2 ≤ 65535) : 0 ≤ (strP p).1 ∧ (strP p).1 < (strP p).2 ∧ (strP p).2 ≤ 85535 ∧ 0 ≤ p.2.tmod 20000 ∧ p.2.tmod 20000 < 20000 := by
  have h1 : 0 ≤ p.2.tmod 20000 := by rw [Int.tmod_eq_emod_of_nonneg h.2.2.1]; omega
  have h2 : p.2.tmod 20000 < 20000 := by rw [Int.tmod_eq_emod_of_nonneg h.2.2.1]; omega
  show 0 ≤ p.1 ∧ p.1 < p.1 + 1 + p.2.tmod 20000 ∧ p.1 + 1 + p.2.tmod 20000 ≤ 85535 ∧ _
  omega
theorem words_at {l : List (Int × Int)} (h : WordsIn l) {j : Nat} (hj : j < l.length) : 0 ≤ (l.getD j (0, 0)).1 ∧ (l.getD j (0, 0)).1 ≤ 65535 ∧ 0 ≤ (l.getD j (0, 0)).2 ∧ (l.getD j (0, 0)).2 ≤ 65535 := by
  refine h _ ?_
  rw [List.getD_eq_getElem?_getD, List.getElem?_eq_getElem hj]
  exact List.getElem_mem _
theorem words_perm {l k : List (Int × Int)} (h : WordsIn l) (hp : k.Perm l) : WordsIn k := fun p hm => h p (hp.mem_iff.1 hm)
theorem str_arg {p : Int × Int} (h : 0 ≤ p.1 ∧ p.1 ≤ 65535 ∧ 0 ≤ p.2 ∧ p.2 ≤ 65535) : argB (strP p).1 (strP p).2 = true := by
  have := str_range h
  exact decide_eq_true (by omega)
/-- The first j stretches of a list, put together. -/
structure Put (l : List (Int × Int)) (j : Nat) (a : List (Int × Int)) : Prop where
  norm : normB (-1) a = true
  has : ∀ d, hasB a d = hasB (strL (l.take j)) d
  few : a.length ≤ j
theorem put_none (l : List (Int × Int)) : Put l 0 [] := ⟨rfl, fun _ => rfl, Nat.le_refl _⟩
theorem good_few {a : List (Int × Int)} (h : normB (-1) a = true) (hl : a.length ≤ 1000) : goodB a = true := by
  unfold goodB
  rw [h, decide_eq_true hl]; rfl
theorem put_good {l a : List (Int × Int)} {j : Nat} (h : Put l j a) (hj : j ≤ 1000) : goodB a = true := good_few h.norm (Nat.le_trans h.few hj)
theorem put_next {l a zs : List (Int × Int)} {j : Nat} {n : Int} (h : Put l j a) (hj : j < l.length) (hl : l.length ≤ 40) (hw : WordsIn l)
    (hc : Chg orF a [((strP (l.getD j (0, 0))).1, (strP (l.getD j (0, 0))).2)] (goodB a) (argB (strP (l.getD j (0, 0))).1 (strP (l.getD j (0, 0))).2) zs n) : n = 0 ∧ Put l (j + 1) zs := by
  have hr := words_at hw hj
  obtain ⟨js, hjs, rfl, rfl⟩ := hc.yes (put_good h (by omega)) (str_arg hr)
  have hone : normB (-1) [((strP (l.getD j (0, 0))).1, (strP (l.getD j (0, 0))).2)] = true := (good_norm (one_good (str_arg hr))).1
  have hlen := either_few h.norm hone hjs
  have hf := h.few
  simp only [List.length_singleton] at hlen
  unfold resE resL
  rw [if_pos (by omega), if_pos (by omega)]
  refine ⟨rfl, hjs.1, fun d => ?_, by omega⟩
  rw [hjs.2 d, h.has d]
  have e : strL (l.take (j + 1)) = strL (l.take j) ++ [strP (l.getD j (0, 0))] := by
    unfold strL
    rw [take_next l j hj, List.map_append]; rfl
  rw [e, has_append]
  rfl
theorem has_perm {l k : List (Int × Int)} (hp : k.Perm l) (d : Int) : hasB (strL k) d = hasB (strL l) d := by
  rw [Bool.eq_iff_iff]
  unfold hasB
  rw [List.any_eq_true, List.any_eq_true]
  have hm := hp.map strP
  exact ⟨fun ⟨p, h1, h2⟩ => ⟨p, hm.mem_iff.1 h1, h2⟩, fun ⟨p, h1, h2⟩ => ⟨p, hm.mem_iff.2 h1, h2⟩⟩
/-- Whatever order they come in, the set is one. -/
theorem put_same {l k a b : List (Int × Int)} (hp : k.Perm l) (ha : Put l l.length a) (hb : Put k l.length b) : a = b := by
  refine norm_same ha.norm hb.norm fun d => ?_
  rw [ha.has d, hb.has d, List.take_length, ← hp.length_eq, List.take_length, has_perm hp]
theorem put_low {l a : List (Int × Int)} {j : Nat} (h : Put l j a) (hw : WordsIn l) {d : Int} (hd : 86000 ≤ d) : hasB a d = false := by
  rw [h.has d]
  cases hh : hasB (strL (l.take j)) d with
  | false => rfl
  | true =>
    unfold hasB at hh
    rw [List.any_eq_true] at hh
    obtain ⟨p, h1, h2⟩ := hh
    obtain ⟨q, h3, rfl⟩ := List.mem_map.1 h1
    have := str_range (hw q (List.mem_of_mem_take h3))
    have := of_decide_eq_true h2
    omega
/-- Days above all of them: in, and out again. -/
theorem put_more {l a zs : List (Int × Int)} {j : Nat} {n : Int} (h : Put l j a) (hj : j ≤ 40) (hw : WordsIn l) (hc : Chg orF a [(86000, 87000)] (goodB a) (argB 86000 87000) zs n) :
    n = 0 ∧ zs.length ≤ 41 ∧ goodB zs = true ∧ daysV zs = daysV a + 1000 ∧ wrap64 (daysV a + 1000) = daysV a + 1000 ∧ IsJ orF a [(86000, 87000)] zs := by
  have ga := put_good h (by omega)
  obtain ⟨js, hjs, rfl, rfl⟩ := hc.yes ga (by decide)
  have hone : normB (-1) [((86000 : Int), (87000 : Int))] = true := by decide
  have hlen := either_few h.norm hone hjs
  have hf := h.few
  simp only [List.length_singleton] at hlen
  unfold resE resL
  rw [if_pos (by omega), if_pos (by omega)]
  have gz := good_few hjs.1 (show js.length ≤ 1000 by omega)
  have hd := days_apart h.norm hone hjs fun d hd => by
    have h1 := of_decide_eq_true (p := 86000 ≤ d ∧ d < 87000) (by have := hd.2; rwa [has_one] at this)
    have h2 := put_low h hw h1.1
    rw [h2] at hd
    exact absurd hd.1 (by simp)
  have hr := days_range h.norm
  have hl := last_le h.norm (by omega)
  have ha : daysV a = daysL a := by unfold daysV; rw [ga]; rfl
  have hz : daysV js = daysL js := by unfold daysV; rw [gz]; rfl
  have h1 : daysL [((86000 : Int), (87000 : Int))] = 1000 := by decide
  refine ⟨rfl, by omega, gz, by rw [hz, ha]; omega, by rw [ha]; unfold wrap64; omega, hjs⟩
theorem put_back {l a c zs : List (Int × Int)} {j : Nat} {n : Int} (h : Put l j a) (hj : j ≤ 40) (hw : WordsIn l) (hi : IsJ orF a [(86000, 87000)] c) (gc : goodB c = true) (hc : Chg lessF c [(86000, 87000)] (goodB c) (argB 86000 87000) zs n) : n = 0 ∧ zs = a := by
  obtain ⟨js, hjs, rfl, rfl⟩ := hc.yes gc (by decide)
  have e : js = a := norm_same hjs.1 h.norm fun d => by
    rw [hjs.2 d, hi.2 d, has_one]
    show ((hasB a d || decide (86000 ≤ d ∧ d < 87000)) && !decide (86000 ≤ d ∧ d < 87000)) = hasB a d
    by_cases hd : 86000 ≤ d ∧ d < 87000
    · rw [put_low h hw hd.1, decide_eq_true hd]; rfl
    · rw [decide_eq_false hd]; simp
  subst e
  have hf := h.few
  unfold resE resL
  rw [if_pos (by omega), if_pos (by omega)]
  exact ⟨rfl, rfl⟩
end Go.Proofs.Ytjcgclfcompioaa.Span
