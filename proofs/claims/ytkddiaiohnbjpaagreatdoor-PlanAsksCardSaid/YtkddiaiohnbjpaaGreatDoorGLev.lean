/- A balance month by month, and the least payment that pays it off: plain numbers. level's tests, a balance with its interest, and a month, at every input that is one. Behind so many months: what is left, and whether nothing is. The balances behind each month, in a slice that is made beforehand. sort.Search over a closure that tells 'no' below a number and 'yes' from there on; level.Of. -/
import Derived.Test.YtkddiaiohnbjpaaGreatDoorGNum
import Derived.Test.YtkddiaiohnbjpaaGreatDoorGAdd
import Derived.Test.YtkddiaiohnbjpaaGreatDoorGA
import Derived.Deep.OwnRows
namespace Go.Proofs.YtkddiaiohnbjpaaGreatDoor.Level
open Go.ChangeShapes Go.WideShapes Go.ChangeAt Go.RowKit Money

/-- a balance with its month's interest. -/
def gr (b r : Int) : Int := b + rnd b r 12000000 1
/-- a balance behind a month. -/
def moO (b p r : Int) : Option Int := if gr b r ≤ 10000000000000 then some (max (gr b r - p) 0) else none
/-- a balance behind so many months. -/
def lfO (p r : Int) : Nat → Int → Option Int
  | 0, b => some b
  | n + 1, b => match moO b p r with
    | none => none
    | some c => lfO p r n c
/-- the balances behind each month. -/
def tbO (p r : Int) : Nat → Int → Option (List Int)
  | 0, _ => some []
  | n + 1, b => match moO b p r with
    | none => none
    | some c => match tbO p r n c with
      | none => none
      | some l => some (c :: l)
/-- whether so many months of a payment leave nothing. -/
def pays (b p r : Int) (n : Nat) : Bool := decide (lfO p r n b = some 0)
/-- the least payment below q by which nothing is left, where all above it leave nothing; else q. -/
def least (f : Nat → Bool) : Nat → Nat
  | 0 => 0
  | q + 1 => if f q = true then least f q else q + 1
def ofQ (b r : Int) (n : Nat) : Int := least (fun p => pays b p r n) (gr b r).toNat

theorem rnd_prod (b r : Int) : rnd b r 12000000 1 = rnd (b * r) 1 12000000 1 := by unfold rnd; rw [Int.mul_one]
theorem gr_mono {b b' r r' : Int} (h0 : 0 ≤ b') (h : b' ≤ b) (k0 : 0 ≤ r') (k : r' ≤ r) : gr b' r' ≤ gr b r := by
  unfold gr
  rw [rnd_prod b', rnd_prod b]
  have : rnd (b' * r') 1 12000000 1 ≤ rnd (b * r) 1 12000000 1 := rnd_more (by
    rw [Int.mul_one, Int.mul_one]; exact Int.mul_le_mul h k k0 (by omega)) (by omega)
  omega
theorem rnd_zero (r : Int) : rnd 0 r 12000000 1 = 0 := by rw [rnd_up, Int.zero_mul]; decide
theorem rnd_none (b : Int) : rnd b 0 12000000 1 = 0 := by rw [rnd_up, Int.mul_zero]; decide
theorem gr_zero (r : Int) : gr 0 r = 0 := by unfold gr; rw [rnd_zero]; rfl
theorem gr_none (b : Int) : gr b 0 = b := by unfold gr; rw [rnd_none]; omega
theorem int_ge {b r : Int} (h : 0 ≤ b) (k : 0 ≤ r) : 0 ≤ rnd b r 12000000 1 := by
  have h1 := rnd_ge b r 12000000 1
  have h2 : 0 ≤ b * r / 12000000 := Int.ediv_nonneg (Int.mul_nonneg h k) (by omega)
  omega
theorem gr_ge {b r : Int} (h : 0 ≤ b) (k : 0 ≤ r) : b ≤ gr b r := by
  have := int_ge h k
  unfold gr; omega
theorem int_le {b r : Int} (h1 : b ≤ 10000000000000) (k : 0 ≤ r) (k1 : r ≤ 1000000) : rnd b r 12000000 1 ≤ 833333333334 := by
  have p : b * r ≤ 10000000000000 * 1000000 := Int.mul_le_mul h1 k1 k (by omega)
  have h2 := rnd_le b r 12000000 1
  have h3 : b * r / 12000000 ≤ 10000000000000 * 1000000 / 12000000 := Int.ediv_le_ediv (by omega) p
  omega
theorem gr_le {b r : Int} (h1 : b ≤ 10000000000000) (k : 0 ≤ r) (k1 : r ≤ 1000000) : gr b r ≤ 10833333333334 := by
  have := int_le h1 k k1
  unfold gr; omega

theorem mo_some {b p r : Int} (h : gr b r ≤ 10000000000000) : moO b p r = some (max (gr b r - p) 0) := if_pos h
theorem mo_none {b p r : Int} (h : ¬ gr b r ≤ 10000000000000) : moO b p r = none := if_neg h
theorem mo_is {b p r c : Int} (h : moO b p r = some c) : gr b r ≤ 10000000000000 ∧ c = max (gr b r - p) 0 := by
  unfold moO at h
  split at h
  · rename_i g; cases h; exact ⟨g, rfl⟩
  · cases h
theorem mo_in {b p r c : Int} (p0 : 0 ≤ p) (h : moO b p r = some c) : 0 ≤ c ∧ c ≤ 10000000000000 := by
  obtain ⟨h1, h2⟩ := mo_is h
  omega
theorem mo_mono {b b' p p' r r' c : Int} (h : moO b p r = some c) (b0 : 0 ≤ b') (hb : b' ≤ b) (hp : p ≤ p') (r0 : 0 ≤ r') (hr : r' ≤ r) : ∃ c', moO b' p' r' = some c' ∧ c' ≤ c := by
  obtain ⟨h1, h2⟩ := mo_is h
  have g := gr_mono b0 hb r0 hr
  exact ⟨_, mo_some (by omega), by omega⟩

theorem lf_zero (p r b : Int) : lfO p r 0 b = some b := rfl
theorem lf_some {p r b c : Int} (n : Nat) (h : moO b p r = some c) : lfO p r (n + 1) b = lfO p r n c := by
  show (match moO b p r with | none => none | some c => lfO p r n c) = _
  rw [h]
theorem lf_none {p r b : Int} (n : Nat) (h : moO b p r = none) : lfO p r (n + 1) b = none := by
  show (match moO b p r with | none => none | some c => lfO p r n c) = _
  rw [h]
theorem lf_in {p r : Int} (p0 : 0 ≤ p) (n : Nat) : ∀ {b x : Int}, 0 ≤ b → b ≤ 10000000000000 → lfO p r n b = some x → 0 ≤ x ∧ x ≤ 10000000000000 := by
  induction n with
  | zero => intro b x h0 h1 h; cases h; exact ⟨h0, h1⟩
  | succ n ih =>
    intro b x _ _ h
    cases hm : moO b p r with
    | none => rw [lf_none n hm] at h; cases h
    | some c => rw [lf_some n hm] at h; obtain ⟨c0, c1⟩ := mo_in p0 hm; exact ih c0 c1 h
theorem lf_mono {p p' r r' : Int} (p0 : 0 ≤ p) (hp : p ≤ p') (r0 : 0 ≤ r') (hr : r' ≤ r) (n : Nat) : ∀ {b b' x : Int}, 0 ≤ b' → b' ≤ b → lfO p r n b = some x → ∃ x', lfO p' r' n b' = some x' ∧ x' ≤ x := by
  induction n with
  | zero => intro b b' x _ h1 h; cases h; exact ⟨b', rfl, h1⟩
  | succ n ih =>
    intro b b' x h0 h1 h
    cases hm : moO b p r with
    | none => rw [lf_none n hm] at h; cases h
    | some c =>
      rw [lf_some n hm] at h
      obtain ⟨c', k1, k2⟩ := mo_mono hm h0 h1 hp r0 hr
      rw [lf_some n k1]
      exact ih (mo_in (by omega) k1).1 k2 h
/-- nothing stays nothing. -/
theorem lf_nought {p r : Int} (p0 : 0 ≤ p) (n : Nat) : lfO p r n 0 = some 0 := by
  induction n with
  | zero => rfl
  | succ n ih =>
    rw [lf_some n (mo_some (by rw [gr_zero]; omega)), gr_zero, show max (0 - p) 0 = 0 from by omega]
    exact ih
theorem lf_more {p r : Int} (p0 : 0 ≤ p) (k n : Nat) : ∀ {b : Int}, lfO p r n b = some 0 → lfO p r (n + k) b = some 0 := by
  induction n with
  | zero => intro b h; cases h; rw [Nat.zero_add]; exact lf_nought p0 k
  | succ n ih =>
    intro b h
    cases hm : moO b p r with
    | none => rw [lf_none n hm] at h; cases h
    | some c =>
      rw [lf_some n hm] at h
      rw [show n + 1 + k = n + k + 1 from by omega, lf_some _ hm]
      exact ih h
/-- what doesn't shrink in one month never does. -/
theorem lf_stuck {p r b : Int} (r0 : 0 ≤ r) (b0 : 0 ≤ b) (h : ∀ c, moO b p r = some c → b ≤ c) (n : Nat) : ∀ {b' x : Int}, b ≤ b' → lfO p r n b' = some x → b ≤ x := by
  induction n with
  | zero => intro b' x h1 k; cases k; exact h1
  | succ n ih =>
    intro b' x h1 k
    cases hm : moO b' p r with
    | none => rw [lf_none n hm] at k; cases k
    | some c =>
      rw [lf_some n hm] at k
      obtain ⟨c', k1, k2⟩ := mo_mono hm b0 h1 (Int.le_refl p) r0 (Int.le_refl r)
      exact ih (by have := h c' k1; omega) k
theorem pays_stuck {p r b : Int} (p0 : 0 ≤ p) (r0 : 0 ≤ r) (b0 : 0 ≤ b) (h : ∀ c, moO b p r = some c → b ≤ c) (n : Nat) : pays b p r n = decide (b = 0) := by
  unfold pays
  apply decide_eq_decide.2
  constructor
  · intro k
    have := lf_stuck r0 b0 h n (Int.le_refl b) k
    omega
  · rintro rfl; exact lf_nought p0 n
theorem pays_step {p r b c : Int} (n : Nat) (h : moO b p r = some c) : pays b p r (n + 1) = pays c p r n := by
  unfold pays; rw [lf_some n h]

theorem least_le (f : Nat → Bool) (q : Nat) : least f q ≤ q := by
  induction q with
  | zero => exact Nat.le_refl _
  | succ q ih =>
    show (if f q = true then least f q else q + 1) ≤ q + 1
    split <;> omega
theorem least_is (f : Nat → Bool) (hf : ∀ x y, x ≤ y → f x = true → f y = true) (q : Nat) : ∀ x, x < q → (f x = true ↔ least f q ≤ x) := by
  induction q with
  | zero => intro x h; omega
  | succ q ih =>
    intro x h
    show _ ↔ (if f q = true then least f q else q + 1) ≤ x
    split
    · rename_i g
      by_cases hx : x = q
      · subst hx; exact ⟨fun _ => least_le f x, fun _ => g⟩
      · exact ih x (by omega)
    · rename_i g
      constructor
      · intro k; exact absurd (hf x q (by omega) k) g
      · intro k; omega

theorem of_ge (b r : Int) (n : Nat) : 0 ≤ ofQ b r n := by unfold ofQ; omega
theorem of_le {b r : Int} (n : Nat) (b0 : 0 ≤ b) (r0 : 0 ≤ r) : ofQ b r n ≤ gr b r := by
  have h1 := least_le (fun p => pays b p r n) (gr b r).toNat
  have h2 := gr_ge b0 r0
  unfold ofQ; omega
/-- who pays what is owed behind the first month pays off. -/
theorem pays_all {b p r : Int} (n : Nat) (hg : gr b r ≤ 10000000000000) (p0 : 0 ≤ p) (hp : gr b r ≤ p) : lfO p r (n + 1) b = some 0 := by
  rw [lf_some n (mo_some hg), show max (gr b r - p) 0 = 0 from by omega]
  exact lf_nought p0 n
theorem of_iff {b p r : Int} (n : Nat) (b0 : 0 ≤ b) (r0 : 0 ≤ r) (hg : gr b r ≤ 10000000000000) (p0 : 0 ≤ p) : lfO p r (n + 1) b = some 0 ↔ ofQ b r (n + 1) ≤ p := by
  by_cases hp : gr b r ≤ p
  · have := of_le (n + 1) b0 r0
    exact ⟨fun _ => by omega, fun _ => pays_all n hg p0 hp⟩
  · have hf : ∀ x y : Nat, x ≤ y → (fun p : Nat => pays b p r (n + 1)) x = true → (fun p : Nat => pays b p r (n + 1)) y = true := by
      intro x y hxy hx
      have hx' : lfO x r (n + 1) b = some 0 := of_decide_eq_true hx
      obtain ⟨z, k1, k2⟩ := lf_mono (by omega) (show (x : Int) ≤ y by omega) r0 (Int.le_refl r) (n + 1) b0 (Int.le_refl b) hx'
      have := (lf_in (show (0 : Int) ≤ y by omega) (n + 1) b0 (by have := gr_ge b0 r0; omega) k1).1
      have hz : z = 0 := by omega
      subst hz
      exact decide_eq_true k1
    have h := least_is _ hf (gr b r).toNat p.toNat (by have := gr_ge b0 r0; omega)
    have hc : ((p.toNat : Nat) : Int) = p := by omega
    have h' : lfO p r (n + 1) b = some 0 ↔ least (fun p => pays b p r (n + 1)) (gr b r).toNat ≤ p.toNat := by
      rw [← h]
      show _ ↔ decide (lfO ((p.toNat : Nat) : Int) r (n + 1) b = some 0) = true
      rw [hc, decide_eq_true_iff]
    rw [h']
    unfold ofQ; omega
theorem of_pays {b p r : Int} (n : Nat) (b0 : 0 ≤ b) (r0 : 0 ≤ r) (hg : gr b r ≤ 10000000000000) (p0 : 0 ≤ p) : pays b p r (n + 1) = decide (ofQ b r (n + 1) ≤ p) := decide_eq_decide.2 (of_iff n b0 r0 hg p0)
theorem of_is {b q r : Int} (n : Nat) (b0 : 0 ≤ b) (r0 : 0 ≤ r) (hg : gr b r ≤ 10000000000000) (q0 : 0 < q) (h1 : lfO q r (n + 1) b = some 0) (h2 : lfO (q - 1) r (n + 1) b ≠ some 0) : ofQ b r (n + 1) = q := by
  have k1 := (of_iff n b0 r0 hg (by omega)).1 h1
  have k2 : ¬ ofQ b r (n + 1) ≤ q - 1 := fun k => h2 ((of_iff n b0 r0 hg (by omega)).2 k)
  omega

/-! What the calls tell. -/
def okL (b p r : Int) : Bool := decide (0 ≤ b ∧ b ≤ 10000000000000 ∧ 0 ≤ p ∧ p ≤ 10000000000000 ∧ 0 ≤ r ∧ r ≤ 1000000)
def okM (b p r n : Int) : Bool := okL b p r && decide (0 ≤ n ∧ n ≤ 360)
def okOf (b r n : Int) : Bool := okL b 0 r && decide (1 ≤ n ∧ n ≤ 360)
def mV (b p r : Int) : Int := if okL b p r then valO (moO b p r) else 0
def mE (b p r : Int) : Int := if okL b p r then errO (moO b p r) else 1
def lV (b p r n : Int) : Int := if okM b p r n then valO (lfO p r n.toNat b) else 0
def lE (b p r n : Int) : Int := if okM b p r n then errO (lfO p r n.toNat b) else 1
def oV (b r n : Int) : Int := if okOf b r n then (if gr b r ≤ 10000000000000 then ofQ b r n.toNat else 0) else 0
def oE (b r n : Int) : Int := if okOf b r n then (if gr b r ≤ 10000000000000 then 0 else 14) else 1
def lstO : Option (List Int) → List Int
  | none => []
  | some l => l
def errL : Option (List Int) → Int
  | none => 14
  | some _ => 0
def tL (b p r n : Int) : List Int := if okM b p r n then lstO (tbO p r n.toNat b) else []
def tE (b p r n : Int) : Int := if okM b p r n then errL (tbO p r n.toNat b) else 1

theorem okL_iff {b p r : Int} : okL b p r = true ↔ (0 ≤ b ∧ b ≤ 10000000000000 ∧ 0 ≤ p ∧ p ≤ 10000000000000 ∧ 0 ≤ r ∧ r ≤ 1000000) := by unfold okL; simp
theorem okM_iff {b p r n : Int} : okM b p r n = true ↔ (okL b p r = true ∧ 0 ≤ n ∧ n ≤ 360) := by unfold okM; simp
theorem okOf_iff {b r n : Int} : okOf b r n = true ↔ (okL b 0 r = true ∧ 1 ≤ n ∧ n ≤ 360) := by unfold okOf; simp
theorem mV_yes {b p r : Int} (h : okL b p r = true) : mV b p r = valO (moO b p r) ∧ mE b p r = errO (moO b p r) := by unfold mV mE; rw [h]; exact ⟨rfl, rfl⟩
theorem mV_no {b p r : Int} (h : okL b p r = false) : mV b p r = 0 ∧ mE b p r = 1 := by unfold mV mE; rw [h]; exact ⟨rfl, rfl⟩
theorem lV_yes {b p r n : Int} (h : okM b p r n = true) : lV b p r n = valO (lfO p r n.toNat b) ∧ lE b p r n = errO (lfO p r n.toNat b) := by unfold lV lE; rw [h]; exact ⟨rfl, rfl⟩
theorem lV_no {b p r n : Int} (h : okM b p r n = false) : lV b p r n = 0 ∧ lE b p r n = 1 := by unfold lV lE; rw [h]; exact ⟨rfl, rfl⟩
theorem tL_yes {b p r n : Int} (h : okM b p r n = true) : tL b p r n = lstO (tbO p r n.toNat b) ∧ tE b p r n = errL (tbO p r n.toNat b) := by unfold tL tE; rw [h]; exact ⟨rfl, rfl⟩
theorem tL_no {b p r n : Int} (h : okM b p r n = false) : tL b p r n = [] ∧ tE b p r n = 1 := by unfold tL tE; rw [h]; exact ⟨rfl, rfl⟩
theorem oV_yes {b r n : Int} (h : okOf b r n = true) (g : gr b r ≤ 10000000000000) : oV b r n = ofQ b r n.toNat ∧ oE b r n = 0 := by
  unfold oV oE; rw [h, if_pos rfl, if_pos rfl, if_pos g, if_pos g]; exact ⟨rfl, rfl⟩
theorem oV_over {b r n : Int} (h : okOf b r n = true) (g : ¬ gr b r ≤ 10000000000000) : oV b r n = 0 ∧ oE b r n = 14 := by
  unfold oV oE; rw [h, if_pos rfl, if_pos rfl, if_neg g, if_neg g]; exact ⟨rfl, rfl⟩
theorem oV_no {b r n : Int} (h : okOf b r n = false) : oV b r n = 0 ∧ oE b r n = 1 := by
  unfold oV oE; rw [h]; exact ⟨rfl, rfl⟩

/-! The table, one month behind the other; its last balance is what is left. -/
theorem tb_some {p r b c : Int} (n : Nat) (h : moO b p r = some c) : tbO p r (n + 1) b = (match tbO p r n c with | none => none | some l => some (c :: l)) := by
  show (match moO b p r with | none => none | some c => match tbO p r n c with | none => none | some l => some (c :: l)) = _
  rw [h]
theorem tb_none {p r b : Int} (n : Nat) (h : moO b p r = none) : tbO p r (n + 1) b = none := by
  show (match moO b p r with | none => none | some c => match tbO p r n c with | none => none | some l => some (c :: l)) = _
  rw [h]
/-- the table behind n months more, as lists: l is what stands. -/
def tbF (l : List Int) : Option (List Int) → Option (List Int)
  | none => none
  | some k => some (l ++ k)
theorem tb_more {p r b c : Int} (n : Nat) (l : List Int) (h : moO b p r = some c) : tbF l (tbO p r (n + 1) b) = tbF (l ++ [c]) (tbO p r n c) := by
  rw [tb_some n h]
  cases tbO p r n c with
  | none => rfl
  | some k => show some _ = some _; rw [List.append_assoc]; rfl
theorem tb_len {p r : Int} (n : Nat) : ∀ {b : Int} {l : List Int}, tbO p r n b = some l → l.length = n := by
  induction n with
  | zero => intro b l h; cases h; rfl
  | succ n ih =>
    intro b l h
    cases hm : moO b p r with
    | none => rw [tb_none n hm] at h; cases h
    | some c =>
      rw [tb_some n hm] at h
      cases ht : tbO p r n c with
      | none => rw [ht] at h; cases h
      | some k => rw [ht] at h; cases h; rw [List.length_cons, ih ht]
/-- what is left, from the table: none, the last one, or the balance. -/
theorem tb_left {p r : Int} (n : Nat) : ∀ {b : Int}, (tbO p r n b = none → lfO p r n b = none) ∧ (∀ l, tbO p r n b = some l → lfO p r n b = some ((b :: l).getD l.length 0)) := by
  induction n with
  | zero => intro b; exact ⟨fun h => (by cases h), fun l h => (by cases h; rfl)⟩
  | succ n ih =>
    intro b
    cases hm : moO b p r with
    | none => rw [tb_none n hm, lf_none n hm]; exact ⟨fun _ => rfl, fun l h => (by cases h)⟩
    | some c =>
      rw [tb_some n hm, lf_some n hm]
      obtain ⟨i1, i2⟩ := @ih c
      cases ht : tbO p r n c with
      | none => exact ⟨fun _ => i1 ht, fun l h => (by cases h)⟩
      | some k => exact ⟨fun h => (by cases h), fun l h => (by cases h; rw [i2 k ht]; rfl)⟩
end Go.Proofs.YtkddiaiohnbjpaaGreatDoor.Level
namespace Go.Proofs.YtkddiaiohnbjpaaGreatDoor.Level
open Go.ChangeShapes Go.WideShapes Go.ChangeAt Go.RowKit Bits Law

theorem ret_b {a b : Bool} (h : a = b) : Ending.returned (.bool a) = .returned (.bool b) := by rw [h]

theorem within_any (n m : Int) (w : World) : Calls Tryz.prog 102 #[.int .i64 n, .int .i64 m] w fun e w' => e = .returned (.bool (decide (0 ≤ n ∧ n ≤ m))) ∧ w = w' := by
  obtain ⟨B, hB⟩ : ∃ B : Bool, B = decide (0 ≤ n ∧ n ≤ m) := ⟨_, rfl⟩
  rw [← hB]
  by_cases h1 : 0 ≤ n
  · by_cases h2 : n ≤ m
    · have H : Hid (B = true) := hB.trans (decide_eq_true (And.intro h1 h2))
      clear hB
      go_enter Tryz.func102, Tryz.ntmps102
      go_wp2
      go_ret
      exact ⟨ret_b H.out.symm, rfl⟩
    · have H : Hid (B = false) := hB.trans (decide_eq_false (fun h => h2 h.2))
      clear hB
      go_enter Tryz.func102, Tryz.ntmps102
      go_wp2
      go_ret
      exact ⟨ret_b H.out.symm, rfl⟩
  · have H : Hid (B = false) := hB.trans (decide_eq_false (fun h => h1 h.1))
    clear hB
    go_enter Tryz.func102, Tryz.ntmps102
    go_wp2
    go_ret
    exact ⟨ret_b H.out.symm, rfl⟩
theorem within_is (n m : Int) (b : Bool) (w : World) (h : Hid (decide (0 ≤ n ∧ n ≤ m) = b)) : Calls Tryz.prog 102 #[.int .i64 n, .int .i64 m] w fun e w' => e = .returned (.bool b) ∧ w = w' := by
  have t := within_any n m w
  rw [h.out] at t; exact t

theorem good_any (b p r : Int) (w : World) : Calls Tryz.prog 60 #[.int .i64 b, .int .i64 p, .int .i64 r] w fun e w' => e = .returned (.bool (okL b p r)) ∧ w = w' := by
  have H : okL b p r = (decide (0 ≤ b ∧ b ≤ 10000000000000) && decide (0 ≤ p ∧ p ≤ 10000000000000) && decide (0 ≤ r ∧ r ≤ 1000000)) := by
    unfold okL
    rw [Bool.eq_iff_iff]
    simp only [Bool.and_eq_true, decide_eq_true_eq]
    omega
  rw [H]
  clear H
  have K1 := Lib.hid (fun W => within_any b 10000000000000 W)
  have K2 := Lib.hid (fun W => within_any p 10000000000000 W)
  have K3 := Lib.hid (fun W => within_any r 1000000 W)
  generalize decide (0 ≤ b ∧ b ≤ 10000000000000) = x at *
  generalize decide (0 ≤ p ∧ p ≤ 10000000000000) = y at *
  generalize decide (0 ≤ r ∧ r ≤ 1000000) = z at *
  go_enter Tryz.func60, Tryz.ntmps60
  cases x with
  | false =>
    go_wp2_with fail
    refine (K1.out _).mono ?_
    rintro e w' ⟨rfl, rfl⟩
    go_wp2_with fail
    go_ret
    exact ⟨rfl, rfl⟩
  | true =>
    cases y with
    | false =>
      go_wp2_with fail
      refine (K1.out _).mono ?_
      rintro e w' ⟨rfl, rfl⟩
      go_wp2_with fail
      refine (K2.out _).mono ?_
      rintro e w' ⟨rfl, rfl⟩
      go_wp2_with fail
      go_ret
      exact ⟨rfl, rfl⟩
    | true =>
      go_wp2_with fail
      refine (K1.out _).mono ?_
      rintro e w' ⟨rfl, rfl⟩
      go_wp2_with fail
      refine (K2.out _).mono ?_
      rintro e w' ⟨rfl, rfl⟩
      go_wp2_with fail
      refine (K3.out _).mono ?_
      rintro e w' ⟨rfl, rfl⟩
      go_wp2_with fail
      go_ret
      exact ⟨rfl, rfl⟩
theorem good_is (b p r : Int) (x : Bool) (w : World) (h : Hid (okL b p r = x)) : Calls Tryz.prog 60 #[.int .i64 b, .int .i64 p, .int .i64 r] w fun e w' => e = .returned (.bool x) ∧ w = w' := by
  have t := good_any b p r w
  rw [h.out] at t; exact t

/-- the interest of a month is money. -/
theorem interest (b r : Int) (w : World) (h : okL b 0 r = true) : Calls Tryz.prog 103 #[.int .i64 b, .int .i64 r, .int .i64 12000000, .int .i64 1] w fun e w' => e = .returned (.tuple #[.int .i64 (Money.rnd b r 12000000 1), .int .i64 0]) ∧ ∃ n, w' = w.drewN n := by
  obtain ⟨b0, b1, -, -, r0, r1⟩ := okL_iff.1 h
  have t := Money.muldiv_any b r 12000000 1 w (by omega) (by omega) (by omega)
  obtain ⟨e1, e2⟩ := Money.md_in (a := b) (b := r) (c := 12000000) (how := 1) (by unfold Money.mdBad; omega) (by have := int_le b1 r0 r1; omega)
  rw [e1, e2] at t
  exact t
/-- what a balance with its interest is told as. -/
def grO (b r : Int) : Option Int := if gr b r ≤ 10000000000000 then some (gr b r) else none
theorem gr_plus {b r : Int} (h : okL b 0 r = true) : Money.plusO b (Money.rnd b r 12000000 1) = grO b r := by
  obtain ⟨b0, b1, -, -, r0, r1⟩ := okL_iff.1 h
  have i0 := int_ge b0 r0
  have i1 := int_le b1 r0 r1
  unfold grO gr
  by_cases g : b + Money.rnd b r 12000000 1 ≤ 10000000000000
  · rw [if_pos g]
    exact Money.plusO_some ⟨(Money.goodB_iff _).2 (by omega), (Money.goodB_iff _).2 (by omega), (Money.goodB_iff _).2 (by omega)⟩
  · rw [if_neg g]
    exact Money.plusO_none (fun k => g ((Money.goodB_iff _).1 k.2.2).2)
theorem grown_any (b r : Int) (w : World) (h : okL b 0 r = true) : Calls Tryz.prog 61 #[.int .i64 b, .int .i64 r] w fun e w' => e = .returned (.tuple #[.int .i64 (Money.valO (grO b r)), .int .i64 (Money.errO (grO b r))]) ∧ Below w.heap.size w w' := by
  have K1 := Lib.hid (fun W => interest b r W h)
  have K2 := Lib.hid (fun W => Money.add_tells b (Money.rnd b r 12000000 1) W)
  rw [gr_plus h] at K2
  clear h
  generalize Money.rnd b r 12000000 1 = q at *
  generalize Money.valO (grO b r) = v at *
  generalize Money.errO (grO b r) = x at *
  go_enter Tryz.func61, Tryz.ntmps61
  go_wp2_with fail
  refine (K1.out _).mono ?_
  rintro e w1 ⟨rfl, n, rfl⟩
  go_wp2_with fail
  refine (K2.out _).mono ?_
  rintro e w1 ⟨rfl, hb⟩
  have HB := Lib.hid hb
  clear hb
  go_wp2_with fail
  go_ret2
  exact ⟨rfl, below_via (below_drewN (Below.refl _ _) n) HB.out⟩
theorem grown_in (b r v : Int) (w : World) (h : okL b 0 r = true) (hv : gr b r = v) (g : v ≤ 10000000000000) : Calls Tryz.prog 61 #[.int .i64 b, .int .i64 r] w fun e w' => e = .returned (.tuple #[.int .i64 v, .int .i64 0]) ∧ Below w.heap.size w w' := by
  have t := grown_any b r w h
  have e1 : grO b r = some v := by unfold grO; rw [hv]; exact if_pos g
  rw [e1] at t; exact t
theorem grown_over (b r : Int) (w : World) (h : okL b 0 r = true) (g : ¬ gr b r ≤ 10000000000000) : Calls Tryz.prog 61 #[.int .i64 b, .int .i64 r] w fun e w' => e = .returned (.tuple #[.int .i64 0, .int .i64 14]) ∧ Below w.heap.size w w' := by
  have t := grown_any b r w h
  have e1 : grO b r = none := by unfold grO; exact if_neg g
  rw [e1] at t; exact t
theorem okL_less {b p r : Int} (h : okL b p r = true) : okL b 0 r = true := by
  obtain ⟨b0, b1, -, -, r0, r1⟩ := okL_iff.1 h
  exact okL_iff.2 ⟨b0, b1, by omega, by omega, r0, r1⟩
theorem okL_next {b p r c : Int} (h : okL b p r = true) (k : moO b p r = some c) : okL c p r = true := by
  obtain ⟨b0, b1, p0, p1, r0, r1⟩ := okL_iff.1 h
  obtain ⟨c0, c1⟩ := mo_in p0 k
  exact okL_iff.2 ⟨c0, c1, p0, p1, r0, r1⟩

theorem month_some (b p r c : Int) (w : World) (h : okL b p r = true) (k : moO b p r = some c) : Calls Tryz.prog 105 #[.int .i64 b, .int .i64 p, .int .i64 r] w fun e w' => e = .returned (.tuple #[.int .i64 c, .int .i64 0]) ∧ Below w.heap.size w w' := by
  obtain ⟨b0, b1, p0, p1, r0, r1⟩ := okL_iff.1 h
  obtain ⟨k1, k2⟩ := mo_is k
  have k0 := gr_ge b0 r0
  have K1 := Lib.hid (fun W => grown_in b r _ W (okL_less h) rfl k1)
  clear k h
  generalize gr b r = g at *
  have hw : IntKind.i64.wrap (g - p) = g - p := IntWalk.i64_in _ (by omega)
  by_cases hg : g - p < 0
  · have hc : c = 0 := by omega
    subst hc
    clear k2 k0 b0 b1 p0 p1 r0 r1
    go_enter Tryz.func105, Tryz.ntmps105
    go_wp2_with fail
    refine (K1.out _).mono ?_
    rintro e w1 ⟨rfl, hb⟩
    have HB := Lib.hid hb
    clear hb
    go_wp2_with fail
    go_ret2
    exact ⟨rfl, HB.out⟩
  · have hc : g - p = c := by omega
    rw [hc] at hw hg
    clear k2 k0 b0 b1 p0 p1 r0 r1
    go_enter Tryz.func105, Tryz.ntmps105
    go_wp2_with fail
    refine (K1.out _).mono ?_
    rintro e w1 ⟨rfl, hb⟩
    have HB := Lib.hid hb
    clear hb
    go_wp2_with fail
    go_ret2
    exact ⟨rfl, HB.out⟩
theorem month_none (b p r : Int) (w : World) (h : okL b p r = true) (k : moO b p r = none) : Calls Tryz.prog 105 #[.int .i64 b, .int .i64 p, .int .i64 r] w fun e w' => e = .returned (.tuple #[.int .i64 0, .int .i64 14]) ∧ Below w.heap.size w w' := by
  have k1 : ¬ gr b r ≤ 10000000000000 := fun g => by rw [mo_some g] at k; cases k
  have K1 := Lib.hid (fun W => grown_over b r W (okL_less h) k1)
  clear k1 k h
  go_enter Tryz.func105, Tryz.ntmps105
  go_wp2_with fail
  refine (K1.out _).mono ?_
  rintro e w1 ⟨rfl, hb⟩
  have HB := Lib.hid hb
  clear hb
  go_wp2_with fail
  go_ret2
  exact ⟨rfl, HB.out⟩
end Go.Proofs.YtkddiaiohnbjpaaGreatDoor.Level
namespace Go.Proofs.YtkddiaiohnbjpaaGreatDoor.Level
open Go.ChangeShapes Go.WideShapes Go.ChangeAt Go.RowKit Bits Law

theorem month_err (b p r : Int) (w : World) (h : okL b p r = true) : Calls Tryz.prog 105 #[.int .i64 b, .int .i64 p, .int .i64 r] w fun e w' => e = .returned (.tuple #[.int .i64 (Money.valO (moO b p r)), .int .i64 (Money.errO (moO b p r))]) ∧ Below w.heap.size w w' := by
  cases k : moO b p r with
  | none => exact month_none b p r w h k
  | some c => exact month_some b p r c w h k

set_option maxHeartbeats 400000 in
theorem c_pays (b p r : Int) (N : Nat) (w : World) (h : okL b p r = true) (hN : N ≤ 360) :
    Calls Tryz.prog 64 #[.int .i64 b, .int .i64 p, .int .i64 r, .int .i64 (N : Int)] w fun e w' => e = .returned (.bool (pays b p r N)) ∧ Below w.heap.size w w' := by
  obtain ⟨R, hR⟩ : ∃ R, R = pays b p r N := ⟨_, rfl⟩
  rw [← hR]
  have HR := Lib.hid hR
  have HO := Lib.hid h
  clear hR h
  go_enter Tryz.func64, Tryz.ntmps64
  go_wp2_with fail
  go_loopw [0, 12] (fun s t wr => ∃ (j : Nat) (c : Int), j ≤ N ∧ t = .int .i64 j ∧ s = .int .i64 c ∧ Hid (okL c p r = true ∧ pays c p r (N - j) = R ∧ Below w.heap.size w wr)) (fun _ t _ => N - (intOf t).toNat)
  case atStart => exact ⟨0, b, Nat.zero_le _, rfl, rfl, HO.out, HR.out.symm, Below.refl _ _⟩
  case round =>
    obtain ⟨j, c, hj, rfl, rfl, HX⟩ := hrel
    by_cases hlt : j < N
    · have HE : Hid (pays c p r (N - (j + 1) + 1) = R) := by
        have := HX.out.2.1
        rw [show N - j = N - (j + 1) + 1 from by omega] at this
        exact this
      obtain ⟨c0, c1, p0, p1, r0, r1⟩ := okL_iff.1 HX.out.1
      cases hm : moO c p r with
      | none =>
        have K := Lib.hid (fun W => month_none c p r W HX.out.1 hm)
        have HV : Hid (R = (c == 0)) := show R = _ by
          rw [← HE.out, pays_stuck p0 r0 c0 (fun d hd => by rw [hm] at hd; cases hd)]; rfl
        clear hm HE c0 c1 p0 p1 r0 r1
        go_wp2_with fail
        refine (K.out _).mono ?_
        rintro e w1 ⟨rfl, hb⟩
        have HB : Hid (Below w.heap.size w w1) := show Below _ _ _ from HX.out.2.2.trans (hb.mono HX.out.2.2.size)
        clear hb
        go_wp2_with fail
        go_ret
        exact ⟨by rw [HV.out]; rfl, HB.out⟩
      | some d =>
        have K := Lib.hid (fun W => month_some c p r d W HX.out.1 hm)
        by_cases hd : c ≤ d
        · have HV : Hid (R = (c == 0)) := show R = _ by
            rw [← HE.out, pays_stuck p0 r0 c0 (fun d' hd' => by rw [hm] at hd'; cases hd'; exact hd)]; rfl
          clear hm HE c0 c1 p0 p1 r0 r1
          go_wp2_with fail
          refine (K.out _).mono ?_
          rintro e w1 ⟨rfl, hb⟩
          have HB : Hid (Below w.heap.size w w1) := show Below _ _ _ from HX.out.2.2.trans (hb.mono HX.out.2.2.size)
          clear hb
          go_wp2_with fail
          go_ret
          exact ⟨by rw [HV.out]; rfl, HB.out⟩
        · have HV : Hid (okL d p r = true ∧ pays d p r (N - (j + 1)) = R) := show _ ∧ _ from ⟨okL_next HX.out.1 hm, by rw [← HE.out]; exact (pays_step _ hm).symm⟩
          clear hm HE c0 c1 p0 p1 r0 r1
          go_wp2_with fail
          refine (K.out _).mono ?_
          rintro e w1 ⟨rfl, hb⟩
          have HB : Hid (Below w.heap.size w w1) := show Below _ _ _ from HX.out.2.2.trans (hb.mono HX.out.2.2.size)
          clear hb HX
          go_wp2_with fail
          go_roundw
          case rel => exact ⟨j + 1, d, by omega, by go_num, rfl, HV.out.1, HV.out.2, HB.out⟩
          case measure => simp [intOf]; omega
    · have HV : Hid (R = (c == 0)) := show R = _ by
        have := HX.out.2.1
        rw [show N - j = 0 from by omega] at this
        rw [← this]; unfold pays; rw [lf_zero]
        rw [Bool.eq_iff_iff]; simp
      go_wp2_with fail
      go_ret
      exact ⟨by rw [HV.out]; rfl, HX.out.2.2⟩
end Go.Proofs.YtkddiaiohnbjpaaGreatDoor.Level
namespace Go.Proofs.YtkddiaiohnbjpaaGreatDoor.Level
open Go.ChangeShapes Go.WideShapes Go.ChangeAt Go.RowKit Bits Law Slice

theorem i64_info : (Tryz.prog.info? 2).map (fun i => (i.zero, i.size, i.bytes)) = some (some (.int .i64 0), 1, 8) := by kernel_rfl
/-- a row whose first cells are the list, the others 0. -/
def rowL (l : List Int) (i : Nat) : Value := .int .i64 (l.getD i 0)
theorem rowL_step {w : World} {b : Nat} {t : TypeId} {n : Nat} {l : List Int} {d : Int} (h : (w.setCell ⟨b, l.length, none⟩ (.int .i64 d)).rowIs b t n (fun i => if i = l.length then .int .i64 d else rowL l i)) :
    (w.setCell ⟨b, l.length, none⟩ (.int .i64 d)).rowIs b t n (rowL (l ++ [d])) :=
  h.congr fun i _ => by
    unfold rowL
    by_cases e : i = l.length
    · subst e
      rw [if_pos rfl]
      simp [List.getD_eq_getElem?_getD]
    · rw [if_neg e]
      by_cases h1 : i < l.length
      · simp [List.getD_eq_getElem?_getD, List.getElem?_append_left h1]
      · have h2 : (l ++ [d]).length ≤ i := by simp; omega
        simp only [List.getD_eq_getElem?_getD]
        rw [List.getElem?_eq_none (by omega), List.getElem?_eq_none h2]
theorem ints_rowL {w : World} {g : Nat} {t : TypeId} {l : List Int} (hm : l.length ≤ 9223372036854775807) (h : w.rowIs g t l.length (rowL l)) : Ints w w.heap.size .i64 (.slice (some ⟨g, 0, none⟩) l.length l.length) l :=
  ⟨some ⟨g, 0, none⟩, _, rfl, hm, fun h => (by cases h), fun _ => ⟨g, 0, rfl, h.lt, fun i hi => by rw [Nat.zero_add, h.cell hi]; rfl⟩⟩
/-- what a table is told as. -/
def Tabled (o : Option (List Int)) (w : World) (e : Ending) (w' : World) : Prop :=
  ∃ v, e = .returned (.tuple #[v, .int .i64 (errL o)]) ∧ Ints w' w'.heap.size .i64 v (lstO o) ∧ Below w.heap.size w w'

theorem tbF_nil (o : Option (List Int)) : tbF [] o = o := by cases o <;> rfl

end Go.Proofs.YtkddiaiohnbjpaaGreatDoor.Level
namespace Go.Proofs.YtkddiaiohnbjpaaGreatDoor.Level
open Go.ChangeShapes Go.WideShapes Go.ChangeAt Go.RowKit Bits Law

set_option maxHeartbeats 400000 in
theorem search_any (F : FuncId) (cap : Array Value) (q N : Nat) (w : World) (hF : ∀ (args : Array Value) (w : World), (callFunc F args).run Tryz.prog w = .ok (.enter F args) w) (hq : q ≤ N) (hN : N ≤ 10000000000000)
    (hc : ∀ W, Below w.heap.size w W → ∀ h : Nat, h < N → Calls Tryz.prog F (#[.int .i64 (h : Int)] ++ cap) W fun e w' => e = .returned (.bool (decide (q ≤ h))) ∧ Below W.heap.size W w') :
    Calls Tryz.prog 62 #[.int .i64 (N : Int), .func (.func F) #[] cap] w fun e w' => e = .returned (.int .i64 (q : Int)) ∧ Below w.heap.size w w' := by
  have HC := Lib.hid hc
  clear hc
  go_enter Tryz.func62, Tryz.ntmps62
  go_wp2_with fail
  go_loopw [5, 6] (fun s t wr => ∃ (i j : Nat), i ≤ q ∧ q ≤ j ∧ j ≤ N ∧ s = .int .i64 i ∧ t = .int .i64 j ∧ Hid (Below w.heap.size w wr)) (fun s t _ => (intOf t).toNat - (intOf s).toNat)
  case atStart => exact ⟨0, N, Nat.zero_le _, hq, Nat.le_refl _, rfl, rfl, Below.refl _ _⟩
  case round =>
    obtain ⟨i, j, h1, h2, h3, rfl, rfl, HB⟩ := hrel
    by_cases hlt : i < j
    · obtain ⟨k, hk⟩ : ∃ k : Nat, k = (i + j) / 2 := ⟨_, rfl⟩
      have k1 : i ≤ k := by omega
      have k2 : k < j := by omega
      have w1 : IntKind.i64.wrap ((i : Int) + j) = (i : Int) + j := IntWalk.i64_in _ (by omega)
      have w2 : IntKind.u64.wrap ((i : Int) + j) = (i : Int) + j := IntWalk.u64_in _ (by omega)
      have w3 : ((i : Int) + j) / 2 = k := by omega
      have w4 : IntKind.u64.wrap (k : Int) = k := IntWalk.u64_in _ (by omega)
      have w5 : IntKind.i64.wrap (k : Int) = k := IntWalk.i64_in _ (by omega)
      have w6 : IntKind.i64.wrap ((k : Int) + 1) = (k : Int) + 1 := IntWalk.i64_in _ (by omega)
      have K := Lib.hid (HC.out _ HB.out k (by omega))
      have HK := Lib.hid hk
      clear hk
      by_cases hle : q ≤ k
      · rw [decide_eq_true hle] at K
        go_wp2_with fail
        refine (K.out).mono ?_
        rintro e w1 ⟨rfl, hb⟩
        have HB1 : Hid (Below w.heap.size w w1) := show Below _ _ _ from HB.out.trans (hb.mono HB.out.size)
        clear hb
        go_wp2_with fail
        go_roundw
        case rel => exact ⟨i, k, h1, hle, by omega, rfl, rfl, HB1⟩
        case measure => simp [intOf]; omega
      · rw [decide_eq_false hle] at K
        go_wp2_with fail
        refine (K.out).mono ?_
        rintro e w1 ⟨rfl, hb⟩
        have HB1 : Hid (Below w.heap.size w w1) := show Below _ _ _ from HB.out.trans (hb.mono HB.out.size)
        clear hb
        go_wp2_with fail
        go_roundw
        case rel => exact ⟨k + 1, j, by omega, h2, h3, by go_num, rfl, HB1⟩
        case measure => simp [intOf]; omega
    · have hi : i = q := by omega
      go_wp2_with fail
      go_ret
      exact ⟨by rw [← hi]; rfl, HB.out⟩

theorem of_enters : ∀ (args : Array Value) (w : World), (callFunc 63 args).run Tryz.prog w = .ok (.enter 63 args) w :=
  enters_of Tryz.func63 (by kernel_rfl) rfl
theorem of_fn (b r : Int) (N p g1 g2 g3 : Nat) (w : World) (h : okL b p r = true) (hN : N ≤ 360) (c1 : w.cell? ⟨g1, 0, none⟩ = some (.int .i64 b)) (c2 : w.cell? ⟨g2, 0, none⟩ = some (.int .i64 r)) (c3 : w.cell? ⟨g3, 0, none⟩ = some (.int .i64 (N : Int))) :
    Calls Tryz.prog 63 #[.int .i64 (p : Int), .pointer (some ⟨g1, 0, none⟩), .pointer (some ⟨g2, 0, none⟩), .pointer (some ⟨g3, 0, none⟩)] w fun e w' => e = .returned (.bool (pays b p r N)) ∧ Below w.heap.size w w' := by
  have K := Lib.hid (c_pays b p r N w h hN)
  generalize pays b p r N = x at *
  clear h
  go_enter Tryz.func63, Tryz.ntmps63
  go_wp2_with fail
  refine (K.out).mono ?_
  rintro e w1 ⟨rfl, hb⟩
  have HB := Lib.hid hb
  clear hb
  go_wp2_with fail
  go_ret
  exact ⟨rfl, HB.out⟩

theorem below_three (w : World) (a b c : Obj) : Below w.heap.size w (((w.alloc a).alloc b).alloc c) := below_new (below_new (below_new (Below.refl _ _) _) _) _
theorem c_of_no (b r n : Int) (w : World) (x y z : Bool) (h : (x && y && z) = false) (h1 : Hid (okL b 0 r = x)) (h2 : decide (n < 1) = !y) (h3 : decide (360 < n) = !z) :
    Calls Tryz.prog 25 #[.int .i64 b, .int .i64 r, .int .i64 n] w fun e w' => e = .returned (.tuple #[.int .i64 0, .int .i64 1]) ∧ Below w.heap.size w w' := by
  have HB := Lib.hid (below_three w (.cells #[.int .i64 b] 2) (.cells #[.int .i64 r] 3) (.cells #[.int .i64 n] 3))
  have K1 := Lib.hid (fun W => good_is b 0 r x W h1)
  clear h1
  go_enter Tryz.func25, Tryz.ntmps25
  cases x with
  | false =>
    go_wp2_with fail
    refine (K1.out _).mono ?_
    rintro e w' ⟨rfl, rfl⟩
    go_wp2_with fail
    go_ret2
    exact ⟨rfl, HB.out⟩
  | true =>
    cases y with
    | false =>
      go_wp2_with fail
      refine (K1.out _).mono ?_
      rintro e w' ⟨rfl, rfl⟩
      go_wp2_with fail
      go_ret2
      exact ⟨rfl, HB.out⟩
    | true =>
      cases z with
      | true => cases h
      | false =>
        go_wp2_with fail
        refine (K1.out _).mono ?_
        rintro e w' ⟨rfl, rfl⟩
        go_wp2_with fail
        go_ret2
        exact ⟨rfl, HB.out⟩
theorem c_of_over (b r : Int) (N : Nat) (w : World) (h : okL b 0 r = true) (n0 : 1 ≤ N) (n1 : N ≤ 360) (g : ¬ gr b r ≤ 10000000000000) :
    Calls Tryz.prog 25 #[.int .i64 b, .int .i64 r, .int .i64 (N : Int)] w fun e w' => e = .returned (.tuple #[.int .i64 0, .int .i64 14]) ∧ Below w.heap.size w w' := by
  have HB := Lib.hid (below_three w (.cells #[.int .i64 b] 2) (.cells #[.int .i64 r] 3) (.cells #[.int .i64 (N : Int)] 3))
  have K1 := Lib.hid (fun W => good_is b 0 r true W h)
  have K2 := Lib.hid (fun W => grown_over b r W h g)
  have t1 : decide ((N : Int) < 1) = false := decide_eq_false (by omega)
  have t2 : decide (360 < (N : Int)) = false := decide_eq_false (by omega)
  clear h g
  go_enter Tryz.func25, Tryz.ntmps25
  go_wp2_with fail
  refine (K1.out _).mono ?_
  rintro e w' ⟨rfl, rfl⟩
  go_wp2_with fail
  refine (K2.out _).mono ?_
  rintro e w1 ⟨rfl, hb⟩
  have HB1 := Lib.hid hb
  clear hb
  go_wp2_with fail
  go_ret2
  exact ⟨rfl, below_via HB.out HB1.out⟩
theorem c_of_yes (b r : Int) (N : Nat) (w : World) (h : okL b 0 r = true) (n0 : 1 ≤ N) (n1 : N ≤ 360) (g : gr b r ≤ 10000000000000) :
    Calls Tryz.prog 25 #[.int .i64 b, .int .i64 r, .int .i64 (N : Int)] w fun e w' => e = .returned (.tuple #[.int .i64 (ofQ b r N), .int .i64 0]) ∧ Below w.heap.size w w' := by
  have hmf : ∀ (fn : Fn) (first cap : Array Value) (w : World), (Instr.makeFunc fn first cap).run Tryz.prog w = .ok (.func fn first cap) w := fun _ _ _ _ => rfl
  obtain ⟨b0, b1, -, -, r0, r1⟩ := okL_iff.1 h
  obtain ⟨M, rfl⟩ : ∃ M, N = M + 1 := ⟨N - 1, by omega⟩
  obtain ⟨G, hG⟩ : ∃ G : Nat, gr b r = G := ⟨(gr b r).toNat, by have := gr_ge b0 r0; omega⟩
  obtain ⟨q, hq⟩ : ∃ q : Nat, ofQ b r (M + 1) = q := ⟨(ofQ b r (M + 1)).toNat, by have := of_ge b r (M + 1); omega⟩
  have q1 : q ≤ G := by have := of_le (M + 1) b0 r0; omega
  have HP : Hid (∀ p : Nat, p < G → okL b p r = true ∧ pays b p r (M + 1) = decide (q ≤ p)) := fun p hp => ⟨okL_iff.2 ⟨b0, b1, by omega, by omega, r0, r1⟩, by
    rw [of_pays M b0 r0 g (by omega), hq]; exact decide_eq_decide.2 (by omega)⟩
  have HB := Lib.hid (below_three w (.cells #[.int .i64 b] 2) (.cells #[.int .i64 r] 3) (.cells #[.int .i64 ((M + 1 : Nat) : Int)] 3))
  have K1 := Lib.hid (fun W => good_is b 0 r true W h)
  have K2 := Lib.hid (fun W => grown_in b r G W h hG (by omega))
  have G1 : (G : Int) ≤ 10000000000000 := by omega
  rw [hq]
  clear h g hG hq b0 b1 r0 r1
  generalize hN : M + 1 = N at *
  clear hN
  have t1 : decide ((N : Int) < 1) = false := decide_eq_false (by omega)
  have t2 : decide (360 < (N : Int)) = false := decide_eq_false (by omega)
  go_enter Tryz.func25, Tryz.ntmps25
  go_wp2_with fail
  refine (K1.out _).mono ?_
  rintro e w' ⟨rfl, rfl⟩
  go_wp2_with fail
  refine (K2.out _).mono ?_
  rintro e w1 ⟨rfl, hb⟩
  have HB1 : Hid (Below w.heap.size w w1) := show Below _ _ _ from below_via HB.out hb
  have HC : Hid (w.heap.size + 2 < w1.heap.size ∧ w1.cell? ⟨w.heap.size, 0, none⟩ = some (.int .i64 b) ∧ w1.cell? ⟨w.heap.size + 1, 0, none⟩ = some (.int .i64 r) ∧ w1.cell? ⟨w.heap.size + 2, 0, none⟩ = some (.int .i64 (N : Int))) :=
    ⟨Nat.lt_of_lt_of_le (by simp) hb.size, (hb.cell (p := ⟨w.heap.size, 0, none⟩) (by simp <;> omega)).trans (by simp [go_sem]), (hb.cell (p := ⟨w.heap.size + 1, 0, none⟩) (by simp <;> omega)).trans (by simp [go_sem]), (hb.cell (p := ⟨w.heap.size + 2, 0, none⟩) (by simp <;> omega)).trans (by simp [go_sem])⟩
  clear hb
  go_wp2_with fail
  refine (search_any 63 _ q G _ of_enters q1 (by omega) (fun W hW p hp => ?_)).mono ?_
  · have k := of_fn b r N p w.heap.size (w.heap.size + 1) (w.heap.size + 2) W (HP.out p hp).1 n1
      ((hW.cell (p := ⟨w.heap.size, 0, none⟩) (by have := HC.out.1; show w.heap.size < _; omega)).trans HC.out.2.1)
      ((hW.cell (p := ⟨w.heap.size + 1, 0, none⟩) (by have := HC.out.1; show w.heap.size + 1 < _; omega)).trans HC.out.2.2.1)
      ((hW.cell (p := ⟨w.heap.size + 2, 0, none⟩) (by have := HC.out.1; show w.heap.size + 2 < _; omega)).trans HC.out.2.2.2)
    rw [(HP.out p hp).2] at k
    exact k
  rintro e w2 ⟨rfl, hb⟩
  have HB2 := Lib.hid hb
  clear hb
  go_wp2_with fail
  go_ret2
  exact ⟨rfl, HB1.out.trans (HB2.out.mono HB1.out.size)⟩

/-! The calls, whatever they are given. -/
theorem c_of (b r n : Int) (w : World) : Calls Tryz.prog 25 #[.int .i64 b, .int .i64 r, .int .i64 n] w fun e w' => e = .returned (.tuple #[.int .i64 (oV b r n), .int .i64 (oE b r n)]) ∧ Below w.heap.size w w' := by
  cases h : okOf b r n with
  | false =>
    rw [(oV_no h).1, (oV_no h).2]
    refine c_of_no b r n w (okL b 0 r) (!decide (n < 1)) (!decide (360 < n)) ?_ (Lib.hid rfl) (Bool.not_not _).symm (Bool.not_not _).symm
    rw [Bool.eq_false_iff]
    intro k
    simp only [Bool.and_eq_true, Bool.not_eq_true', decide_eq_false_iff_not] at k
    have : okOf b r n = true := okOf_iff.2 ⟨k.1.1, by omega, by omega⟩
    rw [h] at this; cases this
  | true =>
    obtain ⟨h1, h2, h3⟩ := okOf_iff.1 h
    obtain ⟨N, rfl⟩ : ∃ N : Nat, n = N := ⟨n.toNat, by omega⟩
    by_cases g : gr b r ≤ 10000000000000
    · rw [(oV_yes h g).1, (oV_yes h g).2, Int.toNat_natCast]
      exact c_of_yes b r N w h1 (by omega) (by omega) g
    · rw [(oV_over h g).1, (oV_over h g).2]
      exact c_of_over b r N w h1 (by omega) (by omega) g
end Go.Proofs.YtkddiaiohnbjpaaGreatDoor.Level
