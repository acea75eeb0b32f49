/- The sum of a text, in plain numbers: what one bit does, what many do, that it is linear. Of no one law. -/
namespace Go.Proofs.YtmohlhnifkmcbaaDoor.Crc

/-- What a bit 0 makes of a number of 32 bits. -/
def L (c : Nat) : Nat := (c / 2) ^^^ (if c % 2 = 1 then 3988292384 else 0)
theorem xor_half (a b : Nat) : (a ^^^ b) / 2 = a / 2 ^^^ b / 2 := by
  have := Nat.shiftRight_xor_distrib (a := a) (b := b) (i := 1)
  simpa [Nat.shiftRight_succ] using this
theorem xor_odd (a b : Nat) : (a ^^^ b) % 2 = 1 ↔ ¬ (a % 2 = 1 ↔ b % 2 = 1) := by
  have h : decide ((a ^^^ b) % 2 = 1) = (decide (a % 2 = 1) ^^ decide (b % 2 = 1)) := by
    rw [← Nat.testBit_zero, ← Nat.testBit_zero, ← Nat.testBit_zero]
    exact Nat.testBit_xor ..
  by_cases ha : a % 2 = 1 <;> by_cases hb : b % 2 = 1 <;> simp_all
theorem L_xor (a b : Nat) : L (a ^^^ b) = L a ^^^ L b := by
  unfold L
  rw [xor_half]
  by_cases ha : a % 2 = 1 <;> by_cases hb : b % 2 = 1
  · rw [if_pos ha, if_pos hb, if_neg (by rw [xor_odd]; simp [ha, hb])]
    rw [Nat.xor_zero, Nat.xor_assoc, Nat.xor_comm 3988292384, Nat.xor_assoc, Nat.xor_self, Nat.xor_zero]
  · rw [if_pos ha, if_neg hb, if_pos (by rw [xor_odd]; simp [ha, hb])]
    rw [Nat.xor_zero, Nat.xor_assoc, Nat.xor_assoc, Nat.xor_comm (b / 2)]
  · rw [if_neg ha, if_pos hb, if_pos (by rw [xor_odd]; simp [ha, hb])]
    rw [Nat.xor_zero, Nat.xor_assoc]
  · rw [if_neg ha, if_neg hb, if_neg (by rw [xor_odd]; simp [ha, hb])]
    rw [Nat.xor_zero, Nat.xor_zero, Nat.xor_zero]
theorem L_zero : L 0 = 0 := by decide
theorem L_even (m : Nat) : L (2 * m) = m := by
  unfold L
  rw [if_neg (by omega), Nat.xor_zero]
  omega
theorem L_lt {c : Nat} (h : c < 4294967296) : L c < 4294967296 := by
  unfold L
  refine Nat.xor_lt_two_pow (n := 32) (by omega) ?_
  split <;> decide
theorem L_none {c : Nat} (h : c < 4294967296) (h0 : L c = 0) : c = 0 := by
  unfold L at h0
  split at h0
  · exfalso
    have e : c / 2 = 3988292384 := by
      have := congrArg (· ^^^ 3988292384) h0
      simpa [Nat.xor_assoc] using this
    omega
  · rw [Nat.xor_zero] at h0
    omega
/-- What many bits 0 make of it. -/
def Ln : Nat → Nat → Nat
  | 0, c => c
  | n + 1, c => Ln n (L c)
theorem Ln_succ (n c : Nat) : Ln (n + 1) c = Ln n (L c) := rfl
theorem Ln_add : ∀ (n m c : Nat), Ln (n + m) c = Ln m (Ln n c)
  | 0, m, c => by rw [Nat.zero_add]; rfl
  | n + 1, m, c => by rw [Nat.add_right_comm, Ln_succ, Ln_succ, Ln_add n m]
theorem Ln_last (n c : Nat) : Ln (n + 1) c = L (Ln n c) := by rw [Ln_add n 1]; rfl
theorem Ln_xor : ∀ (n a b : Nat), Ln n (a ^^^ b) = Ln n a ^^^ Ln n b
  | 0, _, _ => rfl
  | n + 1, a, b => by rw [Ln_succ, L_xor, Ln_xor n, Ln_succ, Ln_succ]
theorem Ln_zero : ∀ n, Ln n 0 = 0
  | 0 => rfl
  | n + 1 => by rw [Ln_succ, L_zero, Ln_zero n]
theorem Ln_lt : ∀ {n c : Nat}, c < 4294967296 → Ln n c < 4294967296
  | 0, _, h => h
  | _ + 1, _, h => by rw [Ln_succ]; exact Ln_lt (L_lt h)
theorem Ln_none : ∀ {n c : Nat}, c < 4294967296 → Ln n c = 0 → c = 0
  | 0, _, _, h => h
  | _ + 1, _, hc, h => L_none hc (Ln_none (L_lt hc) h)
theorem Ln_up : ∀ (n m : Nat), Ln n (2 ^ n * m) = m
  | 0, m => by rw [Nat.pow_zero, Nat.one_mul]; rfl
  | n + 1, m => by rw [Ln_succ, Nat.pow_succ, Nat.mul_comm (2 ^ n) 2, Nat.mul_assoc, L_even, Ln_up n]
/-- One bit of a text goes in. -/
def St (c b : Nat) : Nat := if c % 2 ≠ b then (c / 2) ^^^ 3988292384 else c / 2
theorem St_eq {c b : Nat} (hb : b < 2) : St c b = L (c ^^^ b) := by
  unfold St L
  rw [xor_half, show b / 2 = 0 by omega, Nat.xor_zero]
  have h := xor_odd c b
  by_cases hc : c % 2 ≠ b
  · rw [if_pos hc, if_pos (by rw [h]; omega)]
  · rw [if_neg hc, if_neg (by rw [h]; omega), Nat.xor_zero]
/-- Many bits of a number go in, the lowest first. -/
def Bits : Nat → Nat → Nat → Nat
  | 0, c, _ => c
  | k + 1, c, b => Bits k (St c (b % 2)) (b / 2)
theorem xor_split (b : Nat) : b = (b % 2) ^^^ (2 * (b / 2)) := by
  have h := Nat.two_pow_add_eq_or_of_lt (i := 1) (b := b % 2) (by omega) (b / 2)
  apply Nat.eq_of_testBit_eq
  intro i
  rw [Nat.testBit_xor]
  cases i with
  | zero => simp [Nat.testBit_zero]
  | succ i =>
    rw [Nat.testBit_succ, Nat.testBit_succ (b % 2), Nat.testBit_succ (2 * (b / 2))]
    rw [show b % 2 / 2 = 0 by omega, show 2 * (b / 2) / 2 = b / 2 by omega]
    simp
theorem Bits_eq : ∀ (k c b : Nat), b < 2 ^ k → Bits k c b = Ln k (c ^^^ b)
  | 0, c, b, h => by
    have : b = 0 := by simpa using h
    subst this
    show c = c ^^^ 0
    rw [Nat.xor_zero]
  | k + 1, c, b, h => by
    show Bits k (St c (b % 2)) (b / 2) = Ln k (L (c ^^^ b))
    rw [Bits_eq k _ _ (by rw [Nat.pow_succ] at h; omega), St_eq (by omega)]
    conv => rhs; rw [xor_split b, ← Nat.xor_assoc, L_xor, L_even]
/-- The bits up to place k of it have gone in, that are left are these. -/
theorem Bits_last : ∀ (k c b : Nat), Bits (k + 1) c b = St (Bits k c b) (b / 2 ^ k % 2)
  | 0, c, b => by show St c (b % 2) = St c (b / 1 % 2); rw [Nat.div_one]
  | k + 1, c, b => by
    show Bits (k + 1) (St c (b % 2)) (b / 2) = St (Bits k (St c (b % 2)) (b / 2)) _
    rw [Bits_last k, Nat.div_div_eq_div_mul, Nat.pow_succ, Nat.mul_comm 2]
/-- A text, its bytes' bits one behind the other, as one number. -/
def T : List Nat → Nat
  | [] => 0
  | b :: r => b ^^^ (256 * T r)
/-- A number goes on through a text. -/
def G (c : Nat) : List Nat → Nat
  | [] => c
  | b :: r => G (Ln 8 (c ^^^ b)) r
theorem G_append : ∀ (c : Nat) (s t : List Nat), G c (s ++ t) = G (G c s) t
  | _, [], _ => rfl
  | c, b :: r, t => G_append (Ln 8 (c ^^^ b)) r t
theorem G_one (c b : Nat) : G c [b] = Ln 8 (c ^^^ b) := rfl
theorem G_eq : ∀ (c : Nat) (s : List Nat), G c s = Ln (8 * s.length) (c ^^^ T s)
  | c, [] => by show c = c ^^^ 0; rw [Nat.xor_zero]
  | c, b :: r => by
    show G (Ln 8 (c ^^^ b)) r = Ln (8 * (r.length + 1)) (c ^^^ (b ^^^ (256 * T r)))
    rw [G_eq, show 8 * (r.length + 1) = 8 + 8 * r.length by omega, Ln_add, ← Nat.xor_assoc, Ln_xor 8 (c ^^^ b), show 256 * T r = 2 ^ 8 * T r from rfl, Ln_up]
theorem G_lt : ∀ {c : Nat} {s : List Nat}, c < 4294967296 → (∀ b ∈ s, b < 256) → G c s < 4294967296
  | _, [], h, _ => h
  | c, b :: r, h, hs => by
    refine G_lt (c := Ln 8 (c ^^^ b)) (s := r) (Ln_lt (Nat.xor_lt_two_pow (n := 32) h ?_)) (fun x hx => hs x (List.mem_cons_of_mem _ hx))
    have := hs b (List.mem_cons_self ..)
    omega
theorem G_xor (a d : Nat) (s : List Nat) : G (a ^^^ d) s = G a s ^^^ Ln (8 * s.length) d := by
  rw [G_eq, G_eq, ← Ln_xor, Nat.xor_assoc, Nat.xor_comm d, Nat.xor_assoc]
/-- All bits turned over. -/
def F : Nat := 4294967295
theorem F_lt : F < 4294967296 := by decide
theorem not_xor {x : Nat} (h : x < 4294967296) : 4294967295 - x = F ^^^ x := by
  apply Nat.eq_of_testBit_eq
  intro i
  have h1 := Nat.testBit_two_pow_sub_succ (n := 32) h i
  have h2 := Nat.testBit_two_pow_sub_one 32 i
  rw [show 2 ^ 32 - (x + 1) = 4294967295 - x by omega] at h1
  rw [show 2 ^ 32 - 1 = F by decide] at h2
  rw [h1, Nat.testBit_xor, h2]
  by_cases hi : i < 32
  · simp [hi]
  · have h3 : x.testBit i = false := Nat.testBit_lt_two_pow (Nat.lt_of_lt_of_le h (show 4294967296 ≤ 2 ^ i from Nat.pow_le_pow_right (n := 2) (by decide) (show 32 ≤ i by omega)))
    simp [hi, h3]
/-- The sum of a text; of any sum, and a text behind it; of two sums. -/
def again (c : Nat) (s : List Nat) : Nat := F ^^^ G (F ^^^ c) s
def sum (s : List Nat) : Nat := again 0 s
def join (a b n : Nat) : Nat := Ln (8 * n) a ^^^ b
theorem sum_eq (s : List Nat) : sum s = F ^^^ G F s := by unfold sum again; rw [Nat.xor_zero]
theorem again_sum (s t : List Nat) : again (sum s) t = sum (s ++ t) := by
  rw [sum_eq, sum_eq, G_append]
  unfold again
  rw [← Nat.xor_assoc, Nat.xor_self, Nat.zero_xor]
theorem join_sum (s t : List Nat) : join (sum s) (sum t) t.length = sum (s ++ t) := by
  rw [← again_sum]
  unfold join again
  rw [G_xor, sum_eq t, Nat.xor_comm, Nat.xor_assoc]
theorem again_lt {c : Nat} {s : List Nat} (h : c < 4294967296) (hs : ∀ b ∈ s, b < 256) : again c s < 4294967296 :=
  Nat.xor_lt_two_pow (n := 32) F_lt (G_lt (Nat.xor_lt_two_pow (n := 32) F_lt h) hs)
theorem sum_lt {s : List Nat} (hs : ∀ b ∈ s, b < 256) : sum s < 4294967296 := again_lt (by decide) hs
theorem join_lt {a b n : Nat} (ha : a < 4294967296) (hb : b < 4294967296) : join a b n < 4294967296 := Nat.xor_lt_two_pow (n := 32) (Ln_lt ha) hb
theorem join_three (a b c n m : Nat) : join (join a b n) c m = join a (join b c m) (n + m) := by
  unfold join
  rw [Ln_xor, Nat.mul_add, Ln_add, Nat.xor_assoc]
theorem join_none (a : Nat) : join a 0 0 = a := by unfold join; rw [Nat.xor_zero]; rfl
/-- A number's four bytes, the lowest first. -/
def four (n : Nat) : List Nat := [n % 256, n / 256 % 256, n / 65536 % 256, n / 16777216 % 256]
theorem T_four {n : Nat} (h : n < 4294967296) : T (four n) = n := by
  show (n % 256) ^^^ (256 * ((n / 256 % 256) ^^^ (256 * ((n / 65536 % 256) ^^^ (256 * ((n / 16777216 % 256) ^^^ (256 * 0))))))) = n
  have e : ∀ a b : Nat, a < 256 → a ^^^ (256 * b) = a + 256 * b := fun a b ha => by
    have := Nat.two_pow_add_eq_or_of_lt (i := 8) (b := a) (by omega) b
    have h2 : a ^^^ (2 ^ 8 * b) = (2 ^ 8 * b) ||| a := by
      apply Nat.eq_of_testBit_eq
      intro i
      rw [Nat.testBit_xor, Nat.testBit_or, Nat.testBit_two_pow_mul]
      by_cases hi : 8 ≤ i
      · have h3 : a.testBit i = false := Nat.testBit_lt_two_pow (Nat.lt_of_lt_of_le ha (show 256 ≤ 2 ^ i from Nat.pow_le_pow_right (n := 2) (by decide) hi))
        simp [hi, h3]
      · simp [hi]
    show a ^^^ (2 ^ 8 * b) = _
    rw [h2, ← this]
    omega
  rw [e _ _ (by omega), e _ _ (by omega), e _ _ (by omega), e _ _ (by omega)]
  omega
/-- A text with its own sum behind it. -/
theorem sum_own {s : List Nat} (hs : ∀ b ∈ s, b < 256) : sum (s ++ four (sum s)) = 558161692 := by
  have hn := sum_lt hs
  have e : G F s = F ^^^ sum s := by rw [sum_eq, ← Nat.xor_assoc, Nat.xor_self, Nat.zero_xor]
  rw [sum_eq, G_append, e, G_eq, T_four hn, Nat.xor_assoc, Nat.xor_self, Nat.xor_zero]
  show F ^^^ Ln 32 F = 558161692
  decide
theorem up_xor (k a b : Nat) : 2 ^ k * (a ^^^ b) = 2 ^ k * a ^^^ 2 ^ k * b := by
  have := Nat.shiftLeft_xor_distrib (a := a) (b := b) (i := k)
  rw [Nat.shiftLeft_eq, Nat.shiftLeft_eq, Nat.shiftLeft_eq] at this
  rw [Nat.mul_comm, this, Nat.mul_comm a, Nat.mul_comm b]
theorem low_next (f i : Nat) : f % 2 ^ (i + 1) = (f % 2 ^ i) ^^^ (2 ^ i * (f / 2 ^ i % 2)) := by
  have hb : f / 2 ^ i % 2 < 2 := Nat.mod_lt _ (by decide)
  apply Nat.eq_of_testBit_eq
  intro j
  rw [Nat.testBit_mod_two_pow, Nat.testBit_xor, Nat.testBit_mod_two_pow, Nat.testBit_two_pow_mul, ← Nat.toNat_testBit]
  by_cases hj : j < i
  · simp [hj, show j < i + 1 by omega, show ¬ i ≤ j by omega]
  · by_cases he : j = i
    · subst he
      cases hf : f.testBit j <;> simp
    · have : (f.testBit i).toNat.testBit (j - i) = false := by
        refine Nat.testBit_lt_two_pow (Nat.lt_of_lt_of_le (show (f.testBit i).toNat < 2 by cases f.testBit i <;> decide) ?_)
        exact Nat.pow_le_pow_right (n := 2) (by decide) (show 1 ≤ j - i by omega)
      simp [show ¬ j < i + 1 by omega, show ¬ j < i by omega, this]
theorem low_split (c : Nat) : c = (c % 256) ^^^ (2 ^ 8 * (c / 256)) := by
  apply Nat.eq_of_testBit_eq
  intro j
  rw [Nat.testBit_xor, show (256 : Nat) = 2 ^ 8 from rfl, Nat.testBit_mod_two_pow, Nat.testBit_two_pow_mul, Nat.testBit_div_two_pow]
  by_cases hj : j < 8
  · simp [hj, show ¬ 8 ≤ j by omega]
  · simp [hj, show 8 ≤ j by omega, show j - 8 + 8 = j by omega]
/-- What an array of what becomes of each bit makes of a number: of the bits below n that are in it. -/
def mx (m : Nat → Nat) : Nat → Nat → Nat
  | 0, _ => 0
  | n + 1, v => mx m n v ^^^ (if v / 2 ^ n % 2 = 1 then m n else 0)
/-- Eight bits at once. -/
theorem Ln_eight (c : Nat) : Ln 8 c = Ln 8 (c % 256) ^^^ (c / 256) := by
  have e : c = (c % 256) ^^^ (2 ^ 8 * (c / 256)) := by
    have h := low_split c
    exact h
  conv => lhs; rw [e, Ln_xor, Ln_up]
/-- Some bits turned over. -/
theorem T_set : ∀ (s : List Nat) (q x : Nat), q < s.length → T (s.set q (s.getD q 0 ^^^ x)) = T s ^^^ (256 ^ q * x)
  | b :: r, 0, x, _ => by
    show (b ^^^ x) ^^^ (256 * T r) = (b ^^^ (256 * T r)) ^^^ (1 * x)
    rw [Nat.one_mul, Nat.xor_assoc, Nat.xor_comm x, ← Nat.xor_assoc]
  | b :: r, q + 1, x, h => by
    show b ^^^ (256 * T (r.set q (r.getD q 0 ^^^ x))) = (b ^^^ (256 * T r)) ^^^ (256 ^ (q + 1) * x)
    rw [T_set r q x (by simpa using h), Nat.xor_assoc]
    have e : 256 * (T r ^^^ (256 ^ q * x)) = 256 * T r ^^^ 256 * (256 ^ q * x) := up_xor 8 _ _
    rw [e, Nat.pow_succ, Nat.mul_comm (256 ^ q) 256, Nat.mul_assoc]
theorem sum_turned {s s' : List Nat} {first d : Nat} (hl : s'.length = s.length) (hT : T s' = T s ^^^ (2 ^ first * d)) (hf : first ≤ 8 * s.length) (hd : d < 4294967296) : sum s' = sum s ↔ d = 0 := by
  have h1 : sum s' = sum s ^^^ Ln (8 * s.length - first) d := by
    have e : 8 * s.length = first + (8 * s.length - first) := by omega
    have h2 : Ln (8 * s.length) (2 ^ first * d) = Ln (8 * s.length - first) d := by
      conv => lhs; rw [e, Ln_add, Ln_up]
    rw [sum_eq, sum_eq, G_eq, G_eq, hl, hT, ← Nat.xor_assoc, Ln_xor, h2, Nat.xor_assoc]
  rw [h1]
  constructor
  · intro h
    have h3 : Ln (8 * s.length - first) d = 0 := by
      have := congrArg (sum s ^^^ ·) h
      simpa [← Nat.xor_assoc] using this
    exact Ln_none hd h3
  · rintro rfl
    rw [Ln_zero, Nat.xor_zero]
theorem mx_eq {m : Nat → Nat} {k : Nat} : ∀ (n v : Nat), (∀ i, i < n → m i = Ln k (2 ^ i)) → mx m n v = Ln k (v % 2 ^ n)
  | 0, v, _ => by rw [Nat.pow_zero, Nat.mod_one, Ln_zero]; rfl
  | n + 1, v, h => by
    show mx m n v ^^^ (if v / 2 ^ n % 2 = 1 then m n else 0) = _
    rw [mx_eq n v (fun i hi => h i (by omega)), low_next, Ln_xor]
    congr 1
    have h2 := Nat.mod_lt (v / 2 ^ n) (show 0 < 2 by decide)
    by_cases hb : v / 2 ^ n % 2 = 1
    · rw [if_pos hb, hb, Nat.mul_one, h n (by omega)]
    · rw [if_neg hb, show v / 2 ^ n % 2 = 0 by omega, Nat.mul_zero, Ln_zero]
theorem mx_all {m : Nat → Nat} {k v : Nat} (h : ∀ i, i < 32 → m i = Ln k (2 ^ i)) (hv : v < 4294967296) : mx m 32 v = Ln k v := by
  rw [mx_eq 32 v h, Nat.mod_eq_of_lt hv]
end Go.Proofs.YtmohlhnifkmcbaaDoor.Crc
