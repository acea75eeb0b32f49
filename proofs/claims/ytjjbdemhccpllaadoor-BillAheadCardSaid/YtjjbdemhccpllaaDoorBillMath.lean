/- Of layer 19, plain: which bills are good, which one is found, how they are covered; no condition. -/
import Derived.Test.YtjjbdemhccpllaaDoorBills
import Derived.Test.YtjjbdemhccpllaaDoorGCal
import Derived.Test.YtjjbdemhccpllaaDoorGNum
namespace Go.Proofs.YtjjbdemhccpllaaDoor.Bill
open Plan Date Cal Money

/-- Money, and not below 0. -/
def moneyB (n : Int) : Bool := decide (0 ≤ n) && goodB n
theorem money_iff {n : Int} : moneyB n = true ↔ 0 ≤ n ∧ n ≤ 10000000000000 := by
  unfold moneyB goodB
  simp only [Bool.and_eq_true, decide_eq_true_eq]
  omega
theorem money_neg {n : Int} (h : n < 0) : moneyB n = false := by
  unfold moneyB
  rw [decide_eq_false (by omega)]
  rfl
theorem money_pos {n : Int} (h : 0 ≤ n) : moneyB n = goodB n := by
  unfold moneyB
  rw [decide_eq_true h]
  rfl
/-- What is asked of one bill. -/
def okB (b : Bl) : Bool := decide (0 ≤ b.month ∧ b.month ≤ 2879) && moneyB b.amount && decide (0 ≤ b.left ∧ b.left ≤ b.amount) && (if b.left = 0 then dayB b.covered else (b.covered == -1))
structure Ok (b : Bl) : Prop where
  m0 : 0 ≤ b.month
  m1 : b.month ≤ 2879
  money : moneyB b.amount = true
  l0 : 0 ≤ b.left
  l1 : b.left ≤ b.amount
  cov : (b.left = 0 ∧ dayB b.covered = true) ∨ (0 < b.left ∧ b.covered = -1)
theorem ok_iff {b : Bl} : okB b = true ↔ Ok b := by
  unfold okB
  simp only [Bool.and_eq_true, decide_eq_true_eq]
  constructor
  · rintro ⟨⟨⟨⟨h1, h2⟩, h3⟩, h4, h5⟩, h6⟩
    refine ⟨h1, h2, h3, h4, h5, ?_⟩
    by_cases h : b.left = 0
    · rw [if_pos h] at h6; exact Or.inl ⟨h, h6⟩
    · rw [if_neg h] at h6; exact Or.inr ⟨by omega, by simpa using h6⟩
  · rintro ⟨h1, h2, h3, h4, h5, h6⟩
    refine ⟨⟨⟨⟨h1, h2⟩, h3⟩, h4, h5⟩, ?_⟩
    rcases h6 with ⟨h, h6⟩ | ⟨h, h6⟩
    · rw [if_pos h]; exact h6
    · rw [if_neg (by omega), h6]; rfl
/-- Good from a month on. -/
def goodF : Int → List Bl → Bool
  | _, [] => true
  | n, b :: r => decide (n ≤ b.month) && okB b && goodF (b.month + 1) r
def goodM (M : List Bl) : Bool := goodF 0 M
theorem good_low {n : Int} {b : Bl} {r : List Bl} (h : b.month < n) : goodF n (b :: r) = false := by
  unfold goodF
  rw [decide_eq_false (by omega)]
  rfl
theorem good_bad {n : Int} {b : Bl} {r : List Bl} (h : okB b = false) : goodF n (b :: r) = false := by
  unfold goodF
  rw [h, Bool.and_false]
  rfl
theorem good_step {n : Int} {b : Bl} {r : List Bl} (h : n ≤ b.month) (hb : okB b = true) : goodF n (b :: r) = goodF (b.month + 1) r := by
  conv => lhs; unfold goodF
  rw [decide_eq_true h, hb]
  rfl
/-- The first bill of which this is said: its place, or -1. -/
def idx (p : Bl → Bool) : List Bl → Int
  | [] => -1
  | b :: r => if p b = true then 0 else if idx p r < 0 then -1 else idx p r + 1
theorem idx_at {p : Bl → Bool} : ∀ {M : List Bl} {i : Nat} {x : Bl}, M[i]? = some x → p x = true → (∀ j, j < i → ∀ y, M[j]? = some y → p y = false) → idx p M = i
  | [], i, x, h, _, _ => by simp at h
  | b :: r, 0, x, h, hp, _ => by
    obtain rfl : b = x := by simpa using h
    unfold idx
    rw [if_pos hp]
    rfl
  | b :: r, i + 1, x, h, hp, hl => by
    have ih := idx_at (M := r) (i := i) (by simpa using h) hp (fun j hj y hy => hl (j + 1) (by omega) y (by simpa using hy))
    have h0 := hl 0 (by omega) b rfl
    unfold idx
    rw [h0, ih, if_neg (by simp), if_neg (by omega)]
    omega
theorem idx_none {p : Bl → Bool} : ∀ {M : List Bl}, (∀ j, j < M.length → ∀ y, M[j]? = some y → p y = false) → idx p M = -1
  | [], _ => rfl
  | b :: r, hl => by
    have ih := idx_none (M := r) (fun j hj y hy => hl (j + 1) (by simpa using hj) y (by simpa using hy))
    have h0 := hl 0 (by simp) b rfl
    unfold idx
    rw [h0, ih, if_neg (by simp), if_pos (by omega)]
theorem idx_cases (p : Bl → Bool) : ∀ M : List Bl, (idx p M = -1 ∧ ∀ y ∈ M, p y = false) ∨ ∃ (i : Nat) (x : Bl), i < M.length ∧ M[i]? = some x ∧ p x = true ∧ idx p M = i ∧ ∀ j, j < i → ∀ y, M[j]? = some y → p y = false
  | [] => Or.inl ⟨rfl, by simp⟩
  | b :: r => by
    unfold idx
    by_cases h : p b = true
    · exact Or.inr ⟨0, b, by simp, rfl, h, by rw [if_pos h]; rfl, fun j hj => by omega⟩
    · have h' : p b = false := by simpa using h
      rcases idx_cases p r with ⟨h1, h2⟩ | ⟨i, x, h1, h2, h3, h4, h5⟩
      · refine Or.inl ⟨by rw [if_neg h, h1]; rfl, fun y hy => ?_⟩
        rcases List.mem_cons.1 hy with rfl | hy
        · exact h'
        · exact h2 y hy
      · refine Or.inr ⟨i + 1, x, by simpa using h1, by simpa using h2, h3, by rw [if_neg h, h4, if_neg (by omega)]; omega, fun j hj y hy => ?_⟩
        cases j with
        | zero =>
          obtain rfl : b = y := by simpa using hy
          exact h'
        | succ j => exact h5 j (by omega) y (by simpa using hy)
/-- Is something left? -/
def someB (b : Bl) : Bool := decide (0 < b.left)
def openI (M : List Bl) : Int := if goodM M = true then idx someB M else -1
def lateI (M : List Bl) (d : Int) : Int := if 0 ≤ openI M ∧ dayB d = true then max (d - firV (M.getD (openI M).toNat bl0).month) 0 else 0
def isB (m : Int) (b : Bl) : Bool := b.month == m
def findI (M : List Bl) (m : Int) : Int := if goodM M = true then idx (isB m) M else -1
/-- A bill of which an amount covers what it can. -/
def covB (b : Bl) (a d : Int) : Bl := { b with left := b.left - min b.left a, covered := if b.left - min b.left a = 0 then d else b.covered }
/-- All of them, the first ones first. -/
def crB (d : Int) : List Bl → Int → List Bl × Int
  | [], a => ([], a)
  | b :: r, a => if b.left = 0 then (b :: (crB d r a).1, (crB d r a).2) else (covB b a d :: (crB d r (a - min b.left a)).1, (crB d r (a - min b.left a)).2)
theorem cr_skip {d a : Int} {b : Bl} {r : List Bl} (h : b.left = 0) : crB d (b :: r) a = (b :: (crB d r a).1, (crB d r a).2) := by
  rw [crB, if_pos h]
theorem cr_take {d a : Int} {b : Bl} {r : List Bl} (h : b.left ≠ 0) : crB d (b :: r) a = (covB b a d :: (crB d r (a - min b.left a)).1, (crB d r (a - min b.left a)).2) := by
  rw [crB, if_neg h]
theorem cov_none {b : Bl} {d : Int} (h : b.left ≠ 0) (h0 : 0 ≤ b.left) : covB b 0 d = b := by
  unfold covB
  rw [show min b.left 0 = 0 by omega, Int.sub_zero, if_neg h]
theorem cr_zero (d : Int) : ∀ {M : List Bl}, (∀ b ∈ M, 0 ≤ b.left) → crB d M 0 = (M, 0)
  | [], _ => rfl
  | b :: r, h => by
    have ih := cr_zero d (M := r) (fun x hx => h x (List.mem_cons_of_mem _ hx))
    by_cases hb : b.left = 0
    · rw [cr_skip hb, ih]
    · have h0 := h b List.mem_cons_self
      rw [cr_take hb, cov_none hb h0, show (0 : Int) - min b.left 0 = 0 by omega, ih]
theorem cr_len (d : Int) : ∀ (M : List Bl) (a : Int), (crB d M a).1.length = M.length
  | [], _ => rfl
  | b :: r, a => by
    by_cases hb : b.left = 0
    · rw [cr_skip hb]; simp [cr_len d r]
    · rw [cr_take hb]; simp [cr_len d r]
/-- A new bill, of which what was paid ahead covers what it can. -/
def newB (m a : Int) (how : Int) (ids : List Int) (ahead : Int) : Bl := covB ⟨m, a, a, -1, how, .slice none 0 0, ids⟩ ahead (firV m)
def follB (M : List Bl) (m : Int) : Bool := match M.getLast? with
  | none => true
  | some x => decide (x.month < m)
/-- The error that Issue tells. -/
def issE (M : List Bl) (m a ahead : Int) : Int := if goodM M = true then (if decide (0 ≤ m ∧ m ≤ 2879) = true ∧ follB M m = true ∧ moneyB a = true ∧ moneyB ahead = true then 0 else 1) else 11
def creE (M : List Bl) (a d : Int) : Int := if goodM M = true then (if moneyB a = true ∧ dayB d = true then 0 else 1) else 11

theorem good_all : ∀ {M : List Bl} {n : Int}, goodF n M = true → ∀ b ∈ M, okB b = true
  | [], _, _, b, hb => by cases hb
  | x :: r, n, h, b, hb => by
    unfold goodF at h
    simp only [Bool.and_eq_true] at h
    rcases List.mem_cons.1 hb with rfl | hb
    · exact h.1.2
    · exact good_all h.2 b hb
theorem good_left {M : List Bl} (h : goodM M = true) : ∀ b ∈ M, 0 ≤ b.left ∧ b.left ≤ 10000000000000 := fun b hb => by
  have k := ok_iff.1 (good_all h b hb)
  have := (money_iff.1 k.money).2
  have := k.l0
  have := k.l1
  omega
/-- What Credit tells. -/
def creL (M : List Bl) (a d : Int) : List Bl := if creE M a d = 0 then (crB d M a).1 else []
def creK (M : List Bl) (a d : Int) : Int := if creE M a d = 0 then (crB d M a).2 else 0
/-- What Issue tells. -/
def issL (M : List Bl) (m a ahead how : Int) (ids : List Int) : List Bl := if issE M m a ahead = 0 then M ++ [newB m a how ids ahead] else []
def issK (M : List Bl) (m a ahead : Int) : Int := if issE M m a ahead = 0 then ahead - min a ahead else 0

/-! Bills that differ in nothing but where their ids lie. -/
def bare (b : Bl) : Bl := { b with v := .slice none 0 0 }
theorem alike_iff {M M' : List Bl} : AlikeB M M' ↔ M'.map bare = M.map bare := by
  constructor
  · rintro ⟨h1, h2⟩
    apply List.ext_getElem?
    intro i
    rw [List.getElem?_map, List.getElem?_map]
    cases h : M[i]? with
    | none =>
      have : M'[i]? = none := by rw [List.getElem?_eq_none_iff] at h ⊢; omega
      rw [this]
    | some x =>
      obtain ⟨v, hv⟩ := h2 i x h
      rw [hv]
      rfl
  · intro h
    have hl : M'.length = M.length := by simpa using congrArg List.length h
    refine ⟨hl, fun i x hx => ?_⟩
    have hi : i < M'.length := by rw [hl]; exact (List.getElem?_eq_some_iff.1 hx).1
    obtain ⟨y, hy⟩ : ∃ y, M'[i]? = some y := ⟨_, List.getElem?_eq_getElem hi⟩
    have e := congrArg (fun l => l[i]?) h
    simp only [List.getElem?_map, hx, hy, Option.map_some] at e
    have e := Option.some.inj e
    refine ⟨y.v, ?_⟩
    rw [hy]
    obtain ⟨x1, x2, x3, x4, x5, x6, x7⟩ := x
    obtain ⟨z1, z2, z3, z4, z5, z6, z7⟩ := y
    simp only [bare, Bl.mk.injEq] at e
    obtain ⟨rfl, rfl, rfl, rfl, rfl, -, rfl⟩ := e
    rfl
theorem alike_trans {A B C : List Bl} (h : AlikeB A B) (k : AlikeB B C) : AlikeB A C := by
  rw [alike_iff] at *
  rw [k, h]
theorem alike_symm {A B : List Bl} (h : AlikeB A B) : AlikeB B A := by
  rw [alike_iff] at *
  exact h.symm
theorem alike_append {A A' B B' : List Bl} (h : AlikeB A A') (k : AlikeB B B') : AlikeB (A ++ B) (A' ++ B') := by
  rw [alike_iff] at *
  rw [List.map_append, List.map_append, h, k]
theorem alike_mem {M M' : List Bl} (h : AlikeB M M') {b : Bl} (hb : b ∈ M') : ∃ x ∈ M, bare b = bare x := by
  have h1 := alike_iff.1 h
  have h2 : bare b ∈ M.map bare := by rw [← h1]; exact List.mem_map_of_mem hb
  obtain ⟨x, hx, e⟩ := List.mem_map.1 h2
  exact ⟨x, hx, e.symm⟩
theorem alike_ids {M M' : List Bl} {n : Nat} (h : AlikeB M M') (hM : ∀ b ∈ M, b.ids.length ≤ n) : ∀ b ∈ M', b.ids.length ≤ n := fun b hb => by
  obtain ⟨x, hx, e⟩ := alike_mem h hb
  have e2 : (bare b).ids = (bare x).ids := by rw [e]
  have e3 : b.ids = x.ids := e2
  rw [e3]
  exact hM x hx
theorem ok_bare (b : Bl) : okB (bare b) = okB b := rfl
theorem good_bare : ∀ (M : List Bl) (n : Int), goodF n (M.map bare) = goodF n M
  | [], _ => rfl
  | b :: r, n => by
    rw [List.map_cons]
    unfold goodF
    rw [good_bare r, ok_bare]
    rfl
theorem good_alike {M M' : List Bl} (h : AlikeB M M') : goodM M' = goodM M := by
  unfold goodM
  rw [← good_bare M', alike_iff.1 h, good_bare]
theorem idx_bare {p : Bl → Bool} (hp : ∀ b, p (bare b) = p b) : ∀ M : List Bl, idx p (M.map bare) = idx p M
  | [] => rfl
  | b :: r => by
    rw [List.map_cons]
    unfold idx
    rw [idx_bare hp r, hp]
theorem idx_alike {M M' : List Bl} {p : Bl → Bool} (hp : ∀ b, p (bare b) = p b) (h : AlikeB M M') : idx p M' = idx p M := by
  rw [← idx_bare hp M', alike_iff.1 h, idx_bare hp]
theorem open_alike {M M' : List Bl} (h : AlikeB M M') : openI M' = openI M := by
  unfold openI
  rw [good_alike h, idx_alike (fun _ => rfl) h]
theorem find_alike {M M' : List Bl} (m : Int) (h : AlikeB M M') : findI M' m = findI M m := by
  unfold findI
  rw [good_alike h, idx_alike (fun _ => rfl) h]
theorem month_bare (M : List Bl) (k : Nat) : ((M.map bare).getD k bl0).month = (M.getD k bl0).month := by
  rw [List.getD_eq_getElem?_getD, List.getD_eq_getElem?_getD, List.getElem?_map]
  cases M[k]? <;> rfl
theorem late_alike {M M' : List Bl} (d : Int) (h : AlikeB M M') : lateI M' d = lateI M d := by
  unfold lateI
  rw [open_alike h, ← month_bare M', alike_iff.1 h, month_bare]
theorem cov_bare (b : Bl) (a d : Int) : bare (covB b a d) = covB (bare b) a d := rfl
theorem cr_bare (d : Int) : ∀ (M : List Bl) (a : Int), crB d (M.map bare) a = ((crB d M a).1.map bare, (crB d M a).2)
  | [], _ => rfl
  | b :: r, a => by
    rw [List.map_cons]
    by_cases hb : b.left = 0
    · rw [cr_skip (b := bare b) hb, cr_skip hb, cr_bare d r]; rfl
    · rw [cr_take (b := bare b) hb, cr_take hb, show (bare b).left = b.left from rfl, cr_bare d r]; rfl
theorem cr_alike {M M' : List Bl} (d a : Int) (h : AlikeB M M') : AlikeB (crB d M a).1 (crB d M' a).1 ∧ (crB d M' a).2 = (crB d M a).2 := by
  have e := cr_bare d M' a
  rw [alike_iff.1 h, cr_bare d M a] at e
  injection e with e1 e2
  exact ⟨alike_iff.2 e1.symm, e2.symm⟩
theorem foll_alike {M M' : List Bl} (m : Int) (h : AlikeB M M') : follB M' m = follB M m := by
  have e := congrArg List.getLast? (alike_iff.1 h)
  rw [List.getLast?_map, List.getLast?_map] at e
  unfold follB
  cases h1 : M.getLast? <;> cases h2 : M'.getLast? <;> rw [h1, h2] at e <;> simp only [Option.map_some, Option.map_none] at e
  · cases e
  · cases e
  · rename_i x y
    have e' : bare y = bare x := Option.some.inj e
    have k : (bare y).month = (bare x).month := by rw [e']
    replace k : y.month = x.month := k
    show decide (y.month < m) = decide (x.month < m)
    rw [k]
theorem issE_alike {M M' : List Bl} (m a ahead : Int) (h : AlikeB M M') : issE M' m a ahead = issE M m a ahead := by
  unfold issE
  rw [good_alike h, foll_alike m h]
theorem creE_alike {M M' : List Bl} (a d : Int) (h : AlikeB M M') : creE M' a d = creE M a d := by
  unfold creE
  rw [good_alike h]
theorem creL_alike {M M' : List Bl} (a d : Int) (h : AlikeB M M') : AlikeB (creL M a d) (creL M' a d) ∧ creK M' a d = creK M a d := by
  unfold creL creK
  rw [creE_alike a d h]
  by_cases k : creE M a d = 0
  · rw [if_pos k, if_pos k, if_pos k, if_pos k]
    exact cr_alike d a h
  · rw [if_neg k, if_neg k, if_neg k, if_neg k]
    exact ⟨AlikeB.refl _, rfl⟩
theorem issL_alike {M M' : List Bl} (m a ahead how : Int) (ids : List Int) (h : AlikeB M M') : AlikeB (issL M m a ahead how ids) (issL M' m a ahead how ids) ∧ issK M' m a ahead = issK M m a ahead := by
  unfold issL issK
  rw [issE_alike m a ahead h]
  by_cases k : issE M m a ahead = 0
  · rw [if_pos k, if_pos k, if_pos k]
    exact ⟨alike_append h (AlikeB.refl _), rfl⟩
  · rw [if_neg k, if_neg k, if_neg k]
    exact ⟨AlikeB.refl _, rfl⟩
end Go.Proofs.YtjjbdemhccpllaaDoor.Bill
