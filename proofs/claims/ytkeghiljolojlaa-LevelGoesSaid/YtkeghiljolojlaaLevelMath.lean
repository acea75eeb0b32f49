/- A balance month by month, and the least payment that pays it off: plain numbers. -/
import Derived.Test.YtkeghiljolojlaaRnd
import Derived.Test.YtkeghiljolojlaaAddSub
namespace Go.Proofs.Ytkeghiljolojlaa.Level
open Go.ChangeShapes Go.WideShapes Go.ChangeAt Go.RowKit Money

/-- a balance with its month's interest. -/
def gr (b r : Int) : Int := b + rnd b r 12000000 1
/-- a balance behind a month. -/
def moO (b p r : Int) : Option Int := if gr b r ≤ 10000000000000 then some (max (gr b r - p) 0) else none
/-- a balance behind so many months. -/
def lfO (p r : Int) : Nat → Int → Option Int
  | 0, b => some b
  | n + 1, b => match moO b p r with
    | none => none
    | some c => lfO p r n c
/-- the balances behind each month. -/
def tbO (p r : Int) : Nat → Int → Option (List Int)
  | 0, _ => some []
  | n + 1, b => match moO b p r with
    | none => none
    | some c => match tbO p r n c with
      | none => none
      | some l => some (c :: l)
/-- whether so many months of a payment leave nothing. -/
def pays (b p r : Int) (n : Nat) : Bool := decide (lfO p r n b = some 0)
/-- the least payment below q by which nothing is left, where all above it leave nothing; else q. -/
def least (f : Nat → Bool) : Nat → Nat
  | 0 => 0
  | q + 1 => if f q = true then least f q else q + 1
def ofQ (b r : Int) (n : Nat) : Int := least (fun p => pays b p r n) (gr b r).toNat

theorem rnd_prod (b r : Int) : rnd b r 12000000 1 = rnd (b * r) 1 12000000 1 := by unfold rnd; rw [Int.mul_one]
theorem gr_mono {b b' r r' : Int} (h0 : 0 ≤ b') (h : b' ≤ b) (k0 : 0 ≤ r') (k : r' ≤ r) : gr b' r' ≤ gr b r := by
  unfold gr
  rw [rnd_prod b', rnd_prod b]
  have : rnd (b' * r') 1 12000000 1 ≤ rnd (b * r) 1 12000000 1 := rnd_more (by
    rw [Int.mul_one, Int.mul_one]; exact Int.mul_le_mul h k k0 (by omega)) (by omega)
  omega
theorem rnd_zero (r : Int) : rnd 0 r 12000000 1 = 0 := by rw [rnd_up, Int.zero_mul]; decide
theorem rnd_none (b : Int) : rnd b 0 12000000 1 = 0 := by rw [rnd_up, Int.mul_zero]; decide
theorem gr_zero (r : Int) : gr 0 r = 0 := by unfold gr; rw [rnd_zero]; rfl
theorem gr_none (b : Int) : gr b 0 = b := by unfold gr; rw [rnd_none]; omega
theorem int_ge {b r : Int} (h : 0 ≤ b) (k : 0 ≤ r) : 0 ≤ rnd b r 12000000 1 := by
  have h1 := rnd_ge b r 12000000 1
  have h2 : 0 ≤ b * r / 12000000 := Int.ediv_nonneg (Int.mul_nonneg h k) (by omega)
  omega
theorem gr_ge {b r : Int} (h : 0 ≤ b) (k : 0 ≤ r) : b ≤ gr b r := by
  have := int_ge h k
  unfold gr; omega
theorem int_le {b r : Int} (h1 : b ≤ 10000000000000) (k : 0 ≤ r) (k1 : r ≤ 1000000) : rnd b r 12000000 1 ≤ 833333333334 := by
  have p : b * r ≤ 10000000000000 * 1000000 := Int.mul_le_mul h1 k1 k (by omega)
  have h2 := rnd_le b r 12000000 1
  have h3 : b * r / 12000000 ≤ 10000000000000 * 1000000 / 12000000 := Int.ediv_le_ediv (by omega) p
  omega
theorem gr_le {b r : Int} (h1 : b ≤ 10000000000000) (k : 0 ≤ r) (k1 : r ≤ 1000000) : gr b r ≤ 10833333333334 := by
  have := int_le h1 k k1
  unfold gr; omega

theorem mo_some {b p r : Int} (h : gr b r ≤ 10000000000000) : moO b p r = some (max (gr b r - p) 0) := if_pos h
theorem mo_none {b p r : Int} (h : ¬ gr b r ≤ 10000000000000) : moO b p r = none := if_neg h
theorem mo_is {b p r c : Int} (h : moO b p r = some c) : gr b r ≤ 10000000000000 ∧ c = max (gr b r - p) 0 := by
  unfold moO at h
  split at h
  · rename_i g; cases h; exact ⟨g, rfl⟩
  · cases h
theorem mo_in {b p r c : Int} (p0 : 0 ≤ p) (h : moO b p r = some c) : 0 ≤ c ∧ c ≤ 10000000000000 := by
  obtain ⟨h1, h2⟩ := mo_is h
  omega
theorem mo_mono {b b' p p' r r' c : Int} (h : moO b p r = some c) (b0 : 0 ≤ b') (hb : b' ≤ b) (hp : p ≤ p') (r0 : 0 ≤ r') (hr : r' ≤ r) : ∃ c', moO b' p' r' = some c' ∧ c' ≤ c := by
  obtain ⟨h1, h2⟩ := mo_is h
  have g := gr_mono b0 hb r0 hr
  exact ⟨_, mo_some (by omega), by omega⟩

theorem lf_zero (p r b : Int) : lfO p r 0 b = some b := rfl
theorem lf_some {p r b c : Int} (n : Nat) (h : moO b p r = some c) : lfO p r (n + 1) b = lfO p r n c := by
  show (match moO b p r with | none => none | some c => lfO p r n c) = _
  rw [h]
theorem lf_none {p r b : Int} (n : Nat) (h : moO b p r = none) : lfO p r (n + 1) b = none := by
  show (match moO b p r with | none => none | some c => lfO p r n c) = _
  rw [h]
theorem lf_in {p r : Int} (p0 : 0 ≤ p) (n : Nat) : ∀ {b x : Int}, 0 ≤ b → b ≤ 10000000000000 → lfO p r n b = some x → 0 ≤ x ∧ x ≤ 10000000000000 := by
  induction n with
  | zero => intro b x h0 h1 h; cases h; exact ⟨h0, h1⟩
  | succ n ih =>
    intro b x _ _ h
    cases hm : moO b p r with
    | none => rw [lf_none n hm] at h; cases h
    | some c => rw [lf_some n hm] at h; obtain ⟨c0, c1⟩ := mo_in p0 hm; exact ih c0 c1 h
theorem lf_mono {p p' r r' : Int} (p0 : 0 ≤ p) (hp : p ≤ p') (r0 : 0 ≤ r') (hr : r' ≤ r) (n : Nat) : ∀ {b b' x : Int}, 0 ≤ b' → b' ≤ b → lfO p r n b = some x → ∃ x', lfO p' r' n b' = some x' ∧ x' ≤ x := by
  induction n with
  | zero => intro b b' x _ h1 h; cases h; exact ⟨b', rfl, h1⟩
  | succ n ih =>
    intro b b' x h0 h1 h
    cases hm : moO b p r with
    | none => rw [lf_none n hm] at h; cases h
    | some c =>
      rw [lf_some n hm] at h
      obtain ⟨c', k1, k2⟩ := mo_mono hm h0 h1 hp r0 hr
      rw [lf_some n k1]
      exact ih (mo_in (by omega) k1).1 k2 h
/-- nothing stays nothing. -/
theorem lf_nought {p r : Int} (p0 : 0 ≤ p) (n : Nat) : lfO p r n 0 = some 0 := by
  induction n with
  | zero => rfl
  | succ n ih =>
    rw [lf_some n (mo_some (by rw [gr_zero]; omega)), gr_zero, show max (0 - p) 0 = 0 from by omega]
    exact ih
theorem lf_more {p r : Int} (p0 : 0 ≤ p) (k n : Nat) : ∀ {b : Int}, lfO p r n b = some 0 → lfO p r (n + k) b = some 0 := by
  induction n with
  | zero => intro b h; cases h; rw [Nat.zero_add]; exact lf_nought p0 k
  | succ n ih =>
    intro b h
    cases hm : moO b p r with
    | none => rw [lf_none n hm] at h; cases h
    | some c =>
      rw [lf_some n hm] at h
      rw [show n + 1 + k = n + k + 1 from by omega, lf_some _ hm]
      exact ih h
/-- what doesn't shrink in one month never does. -/
theorem lf_stuck {p r b : Int} (r0 : 0 ≤ r) (b0 : 0 ≤ b) (h : ∀ c, moO b p r = some c → b ≤ c) (n : Nat) : ∀ {b' x : Int}, b ≤ b' → lfO p r n b' = some x → b ≤ x := by
  induction n with
  | zero => intro b' x h1 k; cases k; exact h1
  | succ n ih =>
    intro b' x h1 k
    cases hm : moO b' p r with
    | none => rw [lf_none n hm] at k; cases k
    | some c =>
      rw [lf_some n hm] at k
      obtain ⟨c', k1, k2⟩ := mo_mono hm b0 h1 (Int.le_refl p) r0 (Int.le_refl r)
      exact ih (by have := h c' k1; omega) k
theorem pays_stuck {p r b : Int} (p0 : 0 ≤ p) (r0 : 0 ≤ r) (b0 : 0 ≤ b) (h : ∀ c, moO b p r = some c → b ≤ c) (n : Nat) : pays b p r n = decide (b = 0) := by
  unfold pays
  apply decide_eq_decide.2
  constructor
  · intro k
    have := lf_stuck r0 b0 h n (Int.le_refl b) k
    omega
  · rintro rfl; exact lf_nought p0 n
theorem pays_step {p r b c : Int} (n : Nat) (h : moO b p r = some c) : pays b p r (n + 1) = pays c p r n := by
  unfold pays; rw [lf_some n h]

theorem least_le (f : Nat → Bool) (q : Nat) : least f q ≤ q := by
  induction q with
  | zero => exact Nat.le_refl _
  | succ q ih =>
    show (if f q = true then least f q else q + 1) ≤ q + 1
    split <;> omega
theorem least_is (f : Nat → Bool) (hf : ∀ x y, x ≤ y → f x = true → f y = true) (q : Nat) : ∀ x, x < q → (f x = true ↔ least f q ≤ x) := by
  induction q with
  | zero => intro x h; omega
  | succ q ih =>
    intro x h
    show _ ↔ (if f q = true then least f q else q + 1) ≤ x
    split
    · rename_i g
      by_cases hx : x = q
      · subst hx; exact ⟨fun _ => least_le f x, fun _ => g⟩
      · exact ih x (by omega)
    · rename_i g
      constructor
      · intro k; exact absurd (hf x q (by omega) k) g
      · intro k; omega

theorem of_ge (b r : Int) (n : Nat) : 0 ≤ ofQ b r n := by unfold ofQ; omega
theorem of_le {b r : Int} (n : Nat) (b0 : 0 ≤ b) (r0 : 0 ≤ r) : ofQ b r n ≤ gr b r := by
  have h1 := least_le (fun p => pays b p r n) (gr b r).toNat
  have h2 := gr_ge b0 r0
  unfold ofQ; omega
/-- who pays what is owed behind the first month pays off. -/
theorem pays_all {b p r : Int} (n : Nat) (hg : gr b r ≤ 10000000000000) (p0 : 0 ≤ p) (hp : gr b r ≤ p) : lfO p r (n + 1) b = some 0 := by
  rw [lf_some n (mo_some hg), show max (gr b r - p) 0 = 0 from by omega]
  exact lf_nought p0 n
theorem of_iff {b p r : Int} (n : Nat) (b0 : 0 ≤ b) (r0 : 0 ≤ r) (hg : gr b r ≤ 10000000000000) (p0 : 0 ≤ p) : lfO p r (n + 1) b = some 0 ↔ ofQ b r (n + 1) ≤ p := by
  by_cases hp : gr b r ≤ p
  · have := of_le (n + 1) b0 r0
    exact ⟨fun _ => by omega, fun _ => pays_all n hg p0 hp⟩
  · have hf : ∀ x y : Nat, x ≤ y → (fun p : Nat => pays b p r (n + 1)) x = true → (fun p : Nat => pays b p r (n + 1)) y = true := by
      intro x y hxy hx
      have hx' : lfO x r (n + 1) b = some 0 := of_decide_eq_true hx
      obtain ⟨z, k1, k2⟩ := lf_mono (by omega) (show (x : Int) ≤ y by omega) r0 (Int.le_refl r) (n + 1) b0 (Int.le_refl b) hx'
      have := (lf_in (show (0 : Int) ≤ y by omega) (n + 1) b0 (by have := gr_ge b0 r0; omega) k1).1
      have hz : z = 0 := by omega
      subst hz
      exact decide_eq_true k1
    have h := least_is _ hf (gr b r).toNat p.toNat (by have := gr_ge b0 r0; omega)
    have hc : ((p.toNat : Nat) : Int) = p := by omega
    have h' : lfO p r (n + 1) b = some 0 ↔ least (fun p => pays b p r (n + 1)) (gr b r).toNat ≤ p.toNat := by
      rw [← h]
      show _ ↔ decide (lfO ((p.toNat : Nat) : Int) r (n + 1) b = some 0) = true
      rw [hc, decide_eq_true_iff]
    rw [h']
    unfold ofQ; omega
theorem of_pays {b p r : Int} (n : Nat) (b0 : 0 ≤ b) (r0 : 0 ≤ r) (hg : gr b r ≤ 10000000000000) (p0 : 0 ≤ p) : pays b p r (n + 1) = decide (ofQ b r (n + 1) ≤ p) := decide_eq_decide.2 (of_iff n b0 r0 hg p0)
theorem of_is {b q r : Int} (n : Nat) (b0 : 0 ≤ b) (r0 : 0 ≤ r) (hg : gr b r ≤ 10000000000000) (q0 : 0 < q) (h1 : lfO q r (n + 1) b = some 0) (h2 : lfO (q - 1) r (n + 1) b ≠ some 0) : ofQ b r (n + 1) = q := by
  have k1 := (of_iff n b0 r0 hg (by omega)).1 h1
  have k2 : ¬ ofQ b r (n + 1) ≤ q - 1 := fun k => h2 ((of_iff n b0 r0 hg (by omega)).2 k)
  omega

/-! What the calls tell. -/
def okL (b p r : Int) : Bool := decide (0 ≤ b ∧ b ≤ 10000000000000 ∧ 0 ≤ p ∧ p ≤ 10000000000000 ∧ 0 ≤ r ∧ r ≤ 1000000)
def okM (b p r n : Int) : Bool := okL b p r && decide (0 ≤ n ∧ n ≤ 360)
def okOf (b r n : Int) : Bool := okL b 0 r && decide (1 ≤ n ∧ n ≤ 360)
def mV (b p r : Int) : Int := if okL b p r then valO (moO b p r) else 0
def mE (b p r : Int) : Int := if okL b p r then errO (moO b p r) else 1
def lV (b p r n : Int) : Int := if okM b p r n then valO (lfO p r n.toNat b) else 0
def lE (b p r n : Int) : Int := if okM b p r n then errO (lfO p r n.toNat b) else 1
def oV (b r n : Int) : Int := if okOf b r n then (if gr b r ≤ 10000000000000 then ofQ b r n.toNat else 0) else 0
def oE (b r n : Int) : Int := if okOf b r n then (if gr b r ≤ 10000000000000 then 0 else 14) else 1
def lstO : Option (List Int) → List Int
  | none => []
  | some l => l
def errL : Option (List Int) → Int
  | none => 14
  | some _ => 0
def tL (b p r n : Int) : List Int := if okM b p r n then lstO (tbO p r n.toNat b) else []
def tE (b p r n : Int) : Int := if okM b p r n then errL (tbO p r n.toNat b) else 1

theorem okL_iff {b p r : Int} : okL b p r = true ↔ (0 ≤ b ∧ b ≤ 10000000000000 ∧ 0 ≤ p ∧ p ≤ 10000000000000 ∧ 0 ≤ r ∧ r ≤ 1000000) := by unfold okL; simp
theorem okM_iff {b p r n : Int} : okM b p r n = true ↔ (okL b p r = true ∧ 0 ≤ n ∧ n ≤ 360) := by unfold okM; simp
theorem okOf_iff {b r n : Int} : okOf b r n = true ↔ (okL b 0 r = true ∧ 1 ≤ n ∧ n ≤ 360) := by unfold okOf; simp
theorem mV_yes {b p r : Int} (h : okL b p r = true) : mV b p r = valO (moO b p r) ∧ mE b p r = errO (moO b p r) := by unfold mV mE; rw [h]; exact ⟨rfl, rfl⟩
theorem mV_no {b p r : Int} (h : okL b p r = false) : mV b p r = 0 ∧ mE b p r = 1 := by unfold mV mE; rw [h]; exact ⟨rfl, rfl⟩
theorem lV_yes {b p r n : Int} (h : okM b p r n = true) : lV b p r n = valO (lfO p r n.toNat b) ∧ lE b p r n = errO (lfO p r n.toNat b) := by unfold lV lE; rw [h]; exact ⟨rfl, rfl⟩
theorem lV_no {b p r n : Int} (h : okM b p r n = false) : lV b p r n = 0 ∧ lE b p r n = 1 := by unfold lV lE; rw [h]; exact ⟨rfl, rfl⟩
theorem tL_yes {b p r n : Int} (h : okM b p r n = true) : tL b p r n = lstO (tbO p r n.toNat b) ∧ tE b p r n = errL (tbO p r n.toNat b) := by unfold tL tE; rw [h]; exact ⟨rfl, rfl⟩
theorem tL_no {b p r n : Int} (h : okM b p r n = false) : tL b p r n = [] ∧ tE b p r n = 1 := by unfold tL tE; rw [h]; exact ⟨rfl, rfl⟩
theorem oV_yes {b r n : Int} (h : okOf b r n = true) (g : gr b r ≤ 10000000000000) : oV b r n = ofQ b r n.toNat ∧ oE b r n = 0 := by
  unfold oV oE; rw [h, if_pos rfl, if_pos rfl, if_pos g, if_pos g]; exact ⟨rfl, rfl⟩
theorem oV_over {b r n : Int} (h : okOf b r n = true) (g : ¬ gr b r ≤ 10000000000000) : oV b r n = 0 ∧ oE b r n = 14 := by
  unfold oV oE; rw [h, if_pos rfl, if_pos rfl, if_neg g, if_neg g]; exact ⟨rfl, rfl⟩
theorem oV_no {b r n : Int} (h : okOf b r n = false) : oV b r n = 0 ∧ oE b r n = 1 := by
  unfold oV oE; rw [h]; exact ⟨rfl, rfl⟩

/-! The table, one month behind the other; its last balance is what is left. -/
theorem tb_some {p r b c : Int} (n : Nat) (h : moO b p r = some c) : tbO p r (n + 1) b = (match tbO p r n c with | none => none | some l => some (c :: l)) := by
  show (match moO b p r with | none => none | some c => match tbO p r n c with | none => none | some l => some (c :: l)) = _
  rw [h]
theorem tb_none {p r b : Int} (n : Nat) (h : moO b p r = none) : tbO p r (n + 1) b = none := by
  show (match moO b p r with | none => none | some c => match tbO p r n c with | none => none | some l => some (c :: l)) = _
  rw [h]
/-- the table behind n months more, as lists: l is what stands. -/
def tbF (l : List Int) : Option (List Int) → Option (List Int)
  | none => none
  | some k => some (l ++ k)
theorem tb_more {p r b c : Int} (n : Nat) (l : List Int) (h : moO b p r = some c) : tbF l (tbO p r (n + 1) b) = tbF (l ++ [c]) (tbO p r n c) := by
  rw [tb_some n h]
  cases tbO p r n c with
  | none => rfl
  | some k => show some _ = some _; rw [List.append_assoc]; rfl
theorem tb_len {p r : Int} (n : Nat) : ∀ {b : Int} {l : List Int}, tbO p r n b = some l → l.length = n := by
  induction n with
  | zero => intro b l h; cases h; rfl
  | succ n ih =>
    intro b l h
    cases hm : moO b p r with
    | none => rw [tb_none n hm] at h; cases h
    | some c =>
      rw [tb_some n hm] at h
      cases ht : tbO p r n c with
      | none => rw [ht] at h; cases h
      | some k => rw [ht] at h; cases h; rw [List.length_cons, ih ht]
/-- what is left, from the table: none, the last one, or the balance. -/
theorem tb_left {p r : Int} (n : Nat) : ∀ {b : Int}, (tbO p r n b = none → lfO p r n b = none) ∧ (∀ l, tbO p r n b = some l → lfO p r n b = some ((b :: l).getD l.length 0)) := by
  induction n with
  | zero => intro b; exact ⟨fun h => (by cases h), fun l h => (by cases h; rfl)⟩
  | succ n ih =>
    intro b
    cases hm : moO b p r with
    | none => rw [tb_none n hm, lf_none n hm]; exact ⟨fun _ => rfl, fun l h => (by cases h)⟩
    | some c =>
      rw [tb_some n hm, lf_some n hm]
      obtain ⟨i1, i2⟩ := @ih c
      cases ht : tbO p r n c with
      | none => exact ⟨fun _ => i1 ht, fun l h => (by cases h)⟩
      | some k => exact ⟨fun h => (by cases h), fun l h => (by cases h; rw [i2 k ht]; rfl)⟩
end Go.Proofs.Ytkeghiljolojlaa.Level
