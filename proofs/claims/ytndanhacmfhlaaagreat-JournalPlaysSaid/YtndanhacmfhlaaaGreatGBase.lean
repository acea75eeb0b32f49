/- The sum of a text, in plain numbers: what one bit does, what many do, that it is linear. Of no one law. The document's own Go, Sum, Again, at any text. A record's sectors, and the record of any sectors, in plain values. Of no one law. What follows of a record's sectors: one that is left out, one of another number, one that is torn. Of no one law. The sectors of a record that is there are those that its text has: only one way to write it. Of no one law. annuitykeep.Mod, at any divisor from 1 on that is no giant. Of no one law. annuitykeep.Mod, its answer named ahead of the call. Of no one law. -/
import Derived.Test.YtndanhacmfhlaaaGreatChecked
import Derived.WalkKit
import Derived.ProofKit
import Derived.OpenShut
import Derived.Handy
import Derived.Lib.Hide
import Derived.Laws.BitsAllLaws
import Derived.Test.YtndanhacmfhlaaaGreatGPack
namespace Go.Proofs.YtndanhacmfhlaaaGreat.Crc

/-- What a bit 0 makes of a number of 32 bits. -/
def L (c : Nat) : Nat := (c / 2) ^^^ (if c % 2 = 1 then 3988292384 else 0)
theorem xor_half (a b : Nat) : (a ^^^ b) / 2 = a / 2 ^^^ b / 2 := by
  have := Nat.shiftRight_xor_distrib (a := a) (b := b) (i := 1)
  simpa [Nat.shiftRight_succ] using this
theorem xor_odd (a b : Nat) : (a ^^^ b) % 2 = 1 ↔ ¬ (a % 2 = 1 ↔ b % 2 = 1) := by
  have h : decide ((a ^^^ b) % 2 = 1) = (decide (a % 2 = 1) ^^ decide (b % 2 = 1)) := by
    rw [← Nat.testBit_zero, ← Nat.testBit_zero, ← Nat.testBit_zero]
    exact Nat.testBit_xor ..
  by_cases ha : a % 2 = 1 <;> by_cases hb : b % 2 = 1 <;> simp_all
theorem L_xor (a b : Nat) : L (a ^^^ b) = L a ^^^ L b := by
  unfold L
  rw [xor_half]
  by_cases ha : a % 2 = 1 <;> by_cases hb : b % 2 = 1
  · rw [if_pos ha, if_pos hb, if_neg (by rw [xor_odd]; simp [ha, hb])]
    rw [Nat.xor_zero, Nat.xor_assoc, Nat.xor_comm 3988292384, Nat.xor_assoc, Nat.xor_self, Nat.xor_zero]
  · rw [if_pos ha, if_neg hb, if_pos (by rw [xor_odd]; simp [ha, hb])]
    rw [Nat.xor_zero, Nat.xor_assoc, Nat.xor_assoc, Nat.xor_comm (b / 2)]
  · rw [if_neg ha, if_pos hb, if_pos (by rw [xor_odd]; simp [ha, hb])]
    rw [Nat.xor_zero, Nat.xor_assoc]
  · rw [if_neg ha, if_neg hb, if_neg (by rw [xor_odd]; simp [ha, hb])]
    rw [Nat.xor_zero, Nat.xor_zero, Nat.xor_zero]
theorem L_zero : L 0 = 0 := by decide
theorem L_even (m : Nat) : L (2 * m) = m := by
  unfold L
  rw [if_neg (by omega), Nat.xor_zero]
  omega
theorem L_lt {c : Nat} (h : c < 4294967296) : L c < 4294967296 := by
  unfold L
  refine Nat.xor_lt_two_pow (n := 32) (by omega) ?_
  split <;> decide
theorem L_none {c : Nat} (h : c < 4294967296) (h0 : L c = 0) : c = 0 := by
  unfold L at h0
  split at h0
  · exfalso
    have e : c / 2 = 3988292384 := by
      have := congrArg (· ^^^ 3988292384) h0
      simpa [Nat.xor_assoc] using this
    omega
  · rw [Nat.xor_zero] at h0
    omega
/-- What many bits 0 make of it. -/
def Ln : Nat → Nat → Nat
  | 0, c => c
  | n + 1, c => Ln n (L c)
theorem Ln_succ (n c : Nat) : Ln (n + 1) c = Ln n (L c) := rfl
theorem Ln_add : ∀ (n m c : Nat), Ln (n + m) c = Ln m (Ln n c)
  | 0, m, c => by rw [Nat.zero_add]; rfl
  | n + 1, m, c => by rw [Nat.add_right_comm, Ln_succ, Ln_succ, Ln_add n m]
theorem Ln_last (n c : Nat) : Ln (n + 1) c = L (Ln n c) := by rw [Ln_add n 1]; rfl
theorem Ln_xor : ∀ (n a b : Nat), Ln n (a ^^^ b) = Ln n a ^^^ Ln n b
  | 0, _, _ => rfl
  | n + 1, a, b => by rw [Ln_succ, L_xor, Ln_xor n, Ln_succ, Ln_succ]
theorem Ln_zero : ∀ n, Ln n 0 = 0
  | 0 => rfl
  | n + 1 => by rw [Ln_succ, L_zero, Ln_zero n]
theorem Ln_lt : ∀ {n c : Nat}, c < 4294967296 → Ln n c < 4294967296
  | 0, _, h => h
  | _ + 1, _, h => by rw [Ln_succ]; exact Ln_lt (L_lt h)
theorem Ln_none : ∀ {n c : Nat}, c < 4294967296 → Ln n c = 0 → c = 0
  | 0, _, _, h => h
  | _ + 1, _, hc, h => L_none hc (Ln_none (L_lt hc) h)
theorem Ln_up : ∀ (n m : Nat), Ln n (2 ^ n * m) = m
  | 0, m => by rw [Nat.pow_zero, Nat.one_mul]; rfl
  | n + 1, m => by rw [Ln_succ, Nat.pow_succ, Nat.mul_comm (2 ^ n) 2, Nat.mul_assoc, L_even, Ln_up n]
/-- One bit of a text goes in. -/
def St (c b : Nat) : Nat := if c % 2 ≠ b then (c / 2) ^^^ 3988292384 else c / 2
theorem St_eq {c b : Nat} (hb : b < 2) : St c b = L (c ^^^ b) := by
  unfold St L
  rw [xor_half, show b / 2 = 0 by omega, Nat.xor_zero]
  have h := xor_odd c b
  by_cases hc : c % 2 ≠ b
  · rw [if_pos hc, if_pos (by rw [h]; omega)]
  · rw [if_neg hc, if_neg (by rw [h]; omega), Nat.xor_zero]
/-- Many bits of a number go in, the lowest first. -/
def Bits : Nat → Nat → Nat → Nat
  | 0, c, _ => c
  | k + 1, c, b => Bits k (St c (b % 2)) (b / 2)
theorem xor_split (b : Nat) : b = (b % 2) ^^^ (2 * (b / 2)) := by
  have h := Nat.two_pow_add_eq_or_of_lt (i := 1) (b := b % 2) (by omega) (b / 2)
  apply Nat.eq_of_testBit_eq
  intro i
  rw [Nat.testBit_xor]
  cases i with
  | zero => simp [Nat.testBit_zero]
  | succ i =>
    rw [Nat.testBit_succ, Nat.testBit_succ (b % 2), Nat.testBit_succ (2 * (b / 2))]
    rw [show b % 2 / 2 = 0 by omega, show 2 * (b / 2) / 2 = b / 2 by omega]
    simp
theorem Bits_eq : ∀ (k c b : Nat), b < 2 ^ k → Bits k c b = Ln k (c ^^^ b)
  | 0, c, b, h => by
    have : b = 0 := by simpa using h
    subst this
    show c = c ^^^ 0
    rw [Nat.xor_zero]
  | k + 1, c, b, h => by
    show Bits k (St c (b % 2)) (b / 2) = Ln k (L (c ^^^ b))
    rw [Bits_eq k _ _ (by rw [Nat.pow_succ] at h; omega), St_eq (by omega)]
    conv => rhs; rw [xor_split b, ← Nat.xor_assoc, L_xor, L_even]
/-- The bits up to place k of it have gone in, that are left are these. -/
theorem Bits_last : ∀ (k c b : Nat), Bits (k + 1) c b = St (Bits k c b) (b / 2 ^ k % 2)
  | 0, c, b => by show St c (b % 2) = St c (b / 1 % 2); rw [Nat.div_one]
  | k + 1, c, b => by
    show Bits (k + 1) (St c (b % 2)) (b / 2) = St (Bits k (St c (b % 2)) (b / 2)) _
    rw [Bits_last k, Nat.div_div_eq_div_mul, Nat.pow_succ, Nat.mul_comm 2]
/-- A text, its bytes' bits one behind the other, as one number. -/
def T : List Nat → Nat
  | [] => 0
  | b :: r => b ^^^ (256 * T r)
/-- A number goes on through a text. -/
def G (c : Nat) : List Nat → Nat
  | [] => c
  | b :: r => G (Ln 8 (c ^^^ b)) r
theorem G_append : ∀ (c : Nat) (s t : List Nat), G c (s ++ t) = G (G c s) t
  | _, [], _ => rfl
  | c, b :: r, t => G_append (Ln 8 (c ^^^ b)) r t
theorem G_one (c b : Nat) : G c [b] = Ln 8 (c ^^^ b) := rfl
theorem G_eq : ∀ (c : Nat) (s : List Nat), G c s = Ln (8 * s.length) (c ^^^ T s)
  | c, [] => by show c = c ^^^ 0; rw [Nat.xor_zero]
  | c, b :: r => by
    show G (Ln 8 (c ^^^ b)) r = Ln (8 * (r.length + 1)) (c ^^^ (b ^^^ (256 * T r)))
    rw [G_eq, show 8 * (r.length + 1) = 8 + 8 * r.length by omega, Ln_add, ← Nat.xor_assoc, Ln_xor 8 (c ^^^ b), show 256 * T r = 2 ^ 8 * T r from rfl, Ln_up]
theorem G_lt : ∀ {c : Nat} {s : List Nat}, c < 4294967296 → (∀ b ∈ s, b < 256) → G c s < 4294967296
  | _, [], h, _ => h
  | c, b :: r, h, hs => by
    refine G_lt (c := Ln 8 (c ^^^ b)) (s := r) (Ln_lt (Nat.xor_lt_two_pow (n := 32) h ?_)) (fun x hx => hs x (List.mem_cons_of_mem _ hx))
    have := hs b (List.mem_cons_self ..)
    omega
theorem G_xor (a d : Nat) (s : List Nat) : G (a ^^^ d) s = G a s ^^^ Ln (8 * s.length) d := by
  rw [G_eq, G_eq, ← Ln_xor, Nat.xor_assoc, Nat.xor_comm d, Nat.xor_assoc]
/-- All bits turned over. -/
def F : Nat := 4294967295
theorem F_lt : F < 4294967296 := by decide
theorem not_xor {x : Nat} (h : x < 4294967296) : 4294967295 - x = F ^^^ x := by
  apply Nat.eq_of_testBit_eq
  intro i
  have h1 := Nat.testBit_two_pow_sub_succ (n := 32) h i
  have h2 := Nat.testBit_two_pow_sub_one 32 i
  rw [show 2 ^ 32 - (x + 1) = 4294967295 - x by omega] at h1
  rw [show 2 ^ 32 - 1 = F by decide] at h2
  rw [h1, Nat.testBit_xor, h2]
  by_cases hi : i < 32
  · simp [hi]
  · have h3 : x.testBit i = false := Nat.testBit_lt_two_pow (Nat.lt_of_lt_of_le h (show 4294967296 ≤ 2 ^ i from Nat.pow_le_pow_right (n := 2) (by decide) (show 32 ≤ i by omega)))
    simp [hi, h3]
/-- The sum of a text; of any sum, and a text behind it; of two sums. -/
def again (c : Nat) (s : List Nat) : Nat := F ^^^ G (F ^^^ c) s
def sum (s : List Nat) : Nat := again 0 s
def join (a b n : Nat) : Nat := Ln (8 * n) a ^^^ b
theorem sum_eq (s : List Nat) : sum s = F ^^^ G F s := by unfold sum again; rw [Nat.xor_zero]
theorem again_sum (s t : List Nat) : again (sum s) t = sum (s ++ t) := by
  rw [sum_eq, sum_eq, G_append]
  unfold again
  rw [← Nat.xor_assoc, Nat.xor_self, Nat.zero_xor]
theorem join_sum (s t : List Nat) : join (sum s) (sum t) t.length = sum (s ++ t) := by
  rw [← again_sum]
  unfold join again
  rw [G_xor, sum_eq t, Nat.xor_comm, Nat.xor_assoc]
theorem again_lt {c : Nat} {s : List Nat} (h : c < 4294967296) (hs : ∀ b ∈ s, b < 256) : again c s < 4294967296 :=
  Nat.xor_lt_two_pow (n := 32) F_lt (G_lt (Nat.xor_lt_two_pow (n := 32) F_lt h) hs)
theorem sum_lt {s : List Nat} (hs : ∀ b ∈ s, b < 256) : sum s < 4294967296 := again_lt (by decide) hs
theorem join_lt {a b n : Nat} (ha : a < 4294967296) (hb : b < 4294967296) : join a b n < 4294967296 := Nat.xor_lt_two_pow (n := 32) (Ln_lt ha) hb
theorem join_three (a b c n m : Nat) : join (join a b n) c m = join a (join b c m) (n + m) := by
  unfold join
  rw [Ln_xor, Nat.mul_add, Ln_add, Nat.xor_assoc]
theorem join_none (a : Nat) : join a 0 0 = a := by unfold join; rw [Nat.xor_zero]; rfl
/-- A number's four bytes, the lowest first. -/
def four (n : Nat) : List Nat := [n % 256, n / 256 % 256, n / 65536 % 256, n / 16777216 % 256]
theorem T_four {n : Nat} (h : n < 4294967296) : T (four n) = n := by
  show (n % 256) ^^^ (256 * ((n / 256 % 256) ^^^ (256 * ((n / 65536 % 256) ^^^ (256 * ((n / 16777216 % 256) ^^^ (256 * 0))))))) = n
  have e : ∀ a b : Nat, a < 256 → a ^^^ (256 * b) = a + 256 * b := fun a b ha => by
    have := Nat.two_pow_add_eq_or_of_lt (i := 8) (b := a) (by omega) b
    have h2 : a ^^^ (2 ^ 8 * b) = (2 ^ 8 * b) ||| a := by
      apply Nat.eq_of_testBit_eq
      intro i
      rw [Nat.testBit_xor, Nat.testBit_or, Nat.testBit_two_pow_mul]
      by_cases hi : 8 ≤ i
      · have h3 : a.testBit i = false := Nat.testBit_lt_two_pow (Nat.lt_of_lt_of_le ha (show 256 ≤ 2 ^ i from Nat.pow_le_pow_right (n := 2) (by decide) hi))
        simp [hi, h3]
      · simp [hi]
    show a ^^^ (2 ^ 8 * b) = _
    rw [h2, ← this]
    omega
  rw [e _ _ (by omega), e _ _ (by omega), e _ _ (by omega), e _ _ (by omega)]
  omega
/-- A text with its own sum behind it. -/
theorem sum_own {s : List Nat} (hs : ∀ b ∈ s, b < 256) : sum (s ++ four (sum s)) = 558161692 := by
  have hn := sum_lt hs
  have e : G F s = F ^^^ sum s := by rw [sum_eq, ← Nat.xor_assoc, Nat.xor_self, Nat.zero_xor]
  rw [sum_eq, G_append, e, G_eq, T_four hn, Nat.xor_assoc, Nat.xor_self, Nat.xor_zero]
  show F ^^^ Ln 32 F = 558161692
  decide
theorem up_xor (k a b : Nat) : 2 ^ k * (a ^^^ b) = 2 ^ k * a ^^^ 2 ^ k * b := by
  have := Nat.shiftLeft_xor_distrib (a := a) (b := b) (i := k)
  rw [Nat.shiftLeft_eq, Nat.shiftLeft_eq, Nat.shiftLeft_eq] at this
  rw [Nat.mul_comm, this, Nat.mul_comm a, Nat.mul_comm b]
theorem low_next (f i : Nat) : f % 2 ^ (i + 1) = (f % 2 ^ i) ^^^ (2 ^ i * (f / 2 ^ i % 2)) := by
  have hb : f / 2 ^ i % 2 < 2 := Nat.mod_lt _ (by decide)
  apply Nat.eq_of_testBit_eq
  intro j
  rw [Nat.testBit_mod_two_pow, Nat.testBit_xor, Nat.testBit_mod_two_pow, Nat.testBit_two_pow_mul, ← Nat.toNat_testBit]
  by_cases hj : j < i
  · simp [hj, show j < i + 1 by omega, show ¬ i ≤ j by omega]
  · by_cases he : j = i
    · subst he
      cases hf : f.testBit j <;> simp
    · have : (f.testBit i).toNat.testBit (j - i) = false := by
        refine Nat.testBit_lt_two_pow (Nat.lt_of_lt_of_le (show (f.testBit i).toNat < 2 by cases f.testBit i <;> decide) ?_)
        exact Nat.pow_le_pow_right (n := 2) (by decide) (show 1 ≤ j - i by omega)
      simp [show ¬ j < i + 1 by omega, show ¬ j < i by omega, this]
theorem low_split (c : Nat) : c = (c % 256) ^^^ (2 ^ 8 * (c / 256)) := by
  apply Nat.eq_of_testBit_eq
  intro j
  rw [Nat.testBit_xor, show (256 : Nat) = 2 ^ 8 from rfl, Nat.testBit_mod_two_pow, Nat.testBit_two_pow_mul, Nat.testBit_div_two_pow]
  by_cases hj : j < 8
  · simp [hj, show ¬ 8 ≤ j by omega]
  · simp [hj, show 8 ≤ j by omega, show j - 8 + 8 = j by omega]
/-- What an array of what becomes of each bit makes of a number: of the bits below n that are in it. -/
def mx (m : Nat → Nat) : Nat → Nat → Nat
  | 0, _ => 0
  | n + 1, v => mx m n v ^^^ (if v / 2 ^ n % 2 = 1 then m n else 0)
/-- Eight bits at once. -/
theorem Ln_eight (c : Nat) : Ln 8 c = Ln 8 (c % 256) ^^^ (c / 256) := by
  have e : c = (c % 256) ^^^ (2 ^ 8 * (c / 256)) := by
    have h := low_split c
    exact h
  conv => lhs; rw [e, Ln_xor, Ln_up]
/-- Some bits turned over. -/
theorem T_set : ∀ (s : List Nat) (q x : Nat), q < s.length → T (s.set q (s.getD q 0 ^^^ x)) = T s ^^^ (256 ^ q * x)
  | b :: r, 0, x, _ => by
    show (b ^^^ x) ^^^ (256 * T r) = (b ^^^ (256 * T r)) ^^^ (1 * x)
    rw [Nat.one_mul, Nat.xor_assoc, Nat.xor_comm x, ← Nat.xor_assoc]
  | b :: r, q + 1, x, h => by
    show b ^^^ (256 * T (r.set q (r.getD q 0 ^^^ x))) = (b ^^^ (256 * T r)) ^^^ (256 ^ (q + 1) * x)
    rw [T_set r q x (by simpa using h), Nat.xor_assoc]
    have e : 256 * (T r ^^^ (256 ^ q * x)) = 256 * T r ^^^ 256 * (256 ^ q * x) := up_xor 8 _ _
    rw [e, Nat.pow_succ, Nat.mul_comm (256 ^ q) 256, Nat.mul_assoc]
theorem sum_turned {s s' : List Nat} {first d : Nat} (hl : s'.length = s.length) (hT : T s' = T s ^^^ (2 ^ first * d)) (hf : first ≤ 8 * s.length) (hd : d < 4294967296) : sum s' = sum s ↔ d = 0 := by
  have h1 : sum s' = sum s ^^^ Ln (8 * s.length - first) d := by
    have e : 8 * s.length = first + (8 * s.length - first) := by omega
    have h2 : Ln (8 * s.length) (2 ^ first * d) = Ln (8 * s.length - first) d := by
      conv => lhs; rw [e, Ln_add, Ln_up]
    rw [sum_eq, sum_eq, G_eq, G_eq, hl, hT, ← Nat.xor_assoc, Ln_xor, h2, Nat.xor_assoc]
  rw [h1]
  constructor
  · intro h
    have h3 : Ln (8 * s.length - first) d = 0 := by
      have := congrArg (sum s ^^^ ·) h
      simpa [← Nat.xor_assoc] using this
    exact Ln_none hd h3
  · rintro rfl
    rw [Ln_zero, Nat.xor_zero]
theorem mx_eq {m : Nat → Nat} {k : Nat} : ∀ (n v : Nat), (∀ i, i < n → m i = Ln k (2 ^ i)) → mx m n v = Ln k (v % 2 ^ n)
  | 0, v, _ => by rw [Nat.pow_zero, Nat.mod_one, Ln_zero]; rfl
  | n + 1, v, h => by
    show mx m n v ^^^ (if v / 2 ^ n % 2 = 1 then m n else 0) = _
    rw [mx_eq n v (fun i hi => h i (by omega)), low_next, Ln_xor]
    congr 1
    have h2 := Nat.mod_lt (v / 2 ^ n) (show 0 < 2 by decide)
    by_cases hb : v / 2 ^ n % 2 = 1
    · rw [if_pos hb, hb, Nat.mul_one, h n (by omega)]
    · rw [if_neg hb, show v / 2 ^ n % 2 = 0 by omega, Nat.mul_zero, Ln_zero]
theorem mx_all {m : Nat → Nat} {k v : Nat} (h : ∀ i, i < 32 → m i = Ln k (2 ^ i)) (hv : v < 4294967296) : mx m 32 v = Ln k v := by
  rw [mx_eq 32 v h, Nat.mod_eq_of_lt hv]
end Go.Proofs.YtndanhacmfhlaaaGreat.Crc
namespace Go.Proofs.YtndanhacmfhlaaaGreat.Crc
open Go.ChangeShapes Go.WideShapes Go.ChangeAt Go.RowKit

/-- The bytes of a text. -/
def bs (s : ByteArray) : List Nat := s.data.toList.map UInt8.toNat
theorem bs_length (s : ByteArray) : (bs s).length = s.size := by
  unfold bs
  rw [List.length_map, Array.length_toList]; rfl
theorem bs_lt (s : ByteArray) : ∀ b ∈ bs s, b < 256 := by
  intro b hb
  obtain ⟨x, -, rfl⟩ := List.mem_map.1 hb
  exact x.toNat_lt
theorem bs_at (s : ByteArray) {j : Nat} (h : j < s.size) : (bs s).getD j 0 = s[j].toNat := by
  unfold bs
  rw [List.getD_eq_getElem?_getD, List.getElem?_map]
  have : s.data.toList[j]? = some s[j] := by
    rw [Array.getElem?_toList]
    exact Array.getElem?_eq_getElem h
  rw [this]; rfl
theorem and_one {y : Nat} (h : y < 4294967296) : bits .and .u32 (y : Int) 1 = ((y % 2 : Nat) : Int) := by
  have := u32_and_nat y 1 h (by decide)
  rw [Nat.and_one_is_mod] at this
  exact this
theorem bit_of (b k : Nat) (h : b < 256) : bits .and .u32 ((b : Int) / 2 ^ k) 1 = ((b / 2 ^ k % 2 : Nat) : Int) := by
  have e : ((b : Int) / 2 ^ k) = ((b / 2 ^ k : Nat) : Int) := by
    norm_cast
  rw [e]
  exact and_one (Nat.lt_of_le_of_lt (Nat.div_le_self _ _) (by omega))
theorem xor_poly {y : Nat} (h : y < 4294967296) : bits .xor .u32 ((y : Int) / 2) 3988292384 = (((y / 2) ^^^ 3988292384 : Nat) : Int) :=
  u32_xor_nat (y / 2) 3988292384 (by omega) (by decide)
theorem bit_at {f i : Nat} (hf : f < 4294967296) : bits .and .u32 ((f : Int) / 2 ^ i) 1 = ((f / 2 ^ i % 2 : Nat) : Int) := by
  have e : ((f : Int) / 2 ^ i) = ((f / 2 ^ i : Nat) : Int) := by norm_cast
  rw [e]
  exact and_one (Nat.lt_of_le_of_lt (Nat.div_le_self _ _) hf)
theorem bit_set {f i : Nat} (hf : f < 4294967296) (h : f / 2 ^ i % 2 = 1) : (bits .and .u32 ((f : Int) / 2 ^ i) 1 == 1) = true := by rw [bit_at hf, h]; rfl
theorem bit_not {f i : Nat} (hf : f < 4294967296) (h : ¬ f / 2 ^ i % 2 = 1) : (bits .and .u32 ((f : Int) / 2 ^ i) 1 == 1) = false := by
  rw [bit_at hf, beq_eq_false_iff_ne]
  omega
theorem bit_true {y b k : Nat} (hy : y < 4294967296) (hb : b < 256) (h : y % 2 ≠ b / 2 ^ k % 2) : (bits .and .u32 (y : Int) 1 != bits .and .u32 ((b : Int) / 2 ^ k) 1) = true := by
  rw [and_one hy, bit_of b k hb, bne_iff_ne]
  omega
theorem bit_false {y b k : Nat} (hy : y < 4294967296) (hb : b < 256) (h : ¬ y % 2 ≠ b / 2 ^ k % 2) : (bits .and .u32 (y : Int) 1 != bits .and .u32 ((b : Int) / 2 ^ k) 1) = false := by
  rw [and_one hy, bit_of b k hb, bne_eq_false_iff_eq]
  omega
theorem st_true {x b k y : Nat} (hy : y = Bits k x b) (h : y % 2 ≠ b / 2 ^ k % 2) : (y / 2) ^^^ 3988292384 = Bits (k + 1) x b := by
  rw [Bits_last, ← hy]; unfold St; rw [if_pos h]
theorem st_false {x b k y : Nat} (hy : y = Bits k x b) (h : ¬ y % 2 ≠ b / 2 ^ k % 2) : y / 2 = Bits (k + 1) x b := by
  rw [Bits_last, ← hy]; unfold St; rw [if_neg h]
theorem half_lt {y : Nat} (h : y < 4294967296) : (y / 2) ^^^ 3988292384 < 4294967296 := Nat.xor_lt_two_pow (n := 32) (by omega) (by decide)
theorem go_next (c : Nat) (l : List Nat) {j : Nat} (h : j < l.length) : G c (l.take (j + 1)) = Ln 8 (G c (l.take j) ^^^ l.getD j 0) := by
  rw [List.take_add_one, List.getElem?_eq_getElem h, List.getD_eq_getElem?_getD, List.getElem?_eq_getElem h]
  show G c (l.take j ++ [l[j]]) = _
  rw [G_append]; rfl
theorem r_go (c : Nat) (s : ByteArray) (w : World) (hc : c < 4294967296) (hl : s.size ≤ 9223372036854775807) :
    Calls Tryz.prog 78 #[.int .u32 c, .string s] w fun e w' => e = .returned (.int .u32 (G c (bs s) : Nat)) ∧ w = w' := by
  have HC := Lib.hid hc
  clear hc
  go_enter Tryz.func78, Tryz.ntmps78
  go_wp2_with fail
  go_loop [0, 5] (fun u t => ∃ (j x : Nat), j ≤ s.size ∧ t = .int .i64 j ∧ u = .int .u32 x ∧ Hid (x = G c ((bs s).take j)) ∧ Hid (x < 4294967296)) (fun _ t => s.size - (intOf t).toNat)
  case atStart => exact ⟨0, c, Nat.zero_le _, rfl, rfl, rfl, HC⟩
  case round =>
    obtain ⟨j, x, hj, rfl, rfl, hx, hxl⟩ := hrel
    by_cases hlt : j < s.size
    · have h0 : (0 : Int) ≤ j := by omega
      obtain ⟨b, hb⟩ : ∃ b, s[j].toNat = b := ⟨_, rfl⟩
      have hb8 : b < 256 := by rw [← hb]; exact s[j].toNat_lt
      have HN := Lib.hid ((go_next c (bs s) (j := j) (by rw [bs_length]; exact hlt)).trans (by rw [bs_at s hlt, hb, ← hx.out]))
      have HB8 := Lib.hid hb8
      go_wp2_with fail
      go_loop [0, 6] (fun u t => ∃ (k y : Nat), k ≤ 8 ∧ t = .int .i64 k ∧ u = .int .u32 y ∧ Hid (y = Bits k x b) ∧ Hid (y < 4294967296)) (fun _ t => 8 - (intOf t).toNat)
      case atStart => exact ⟨0, x, Nat.zero_le _, rfl, rfl, rfl, hxl⟩
      case round =>
        obtain ⟨k, y, hk, rfl, rfl, hy, hyl⟩ := hrel
        by_cases hk8 : k < 8
        · have k0 : (0 : Int) ≤ k := by omega
          by_cases hbit : y % 2 ≠ b / 2 ^ k % 2
          · have t1 := bit_true hyl.out HB8.out hbit
            have t2 := xor_poly hyl.out
            have S1 := Lib.hid (st_true hy.out hbit)
            clear hbit
            go_wp2_with fail
            go_round
            case rel => exact ⟨k + 1, _, by omega, by go_num, by first | rfl | rw [t2], S1, half_lt hyl.out⟩
            case measure => simp [intOf]; omega
          · have t1 := bit_false hyl.out HB8.out hbit
            have S1 := Lib.hid (st_false hy.out hbit)
            clear hbit
            go_wp2_with fail
            go_round
            case rel => exact ⟨k + 1, y / 2, by omega, by go_num, rfl, S1, show y / 2 < 4294967296 by have := hyl.out; omega⟩
            case measure => simp [intOf]; omega
        · obtain rfl : k = 8 := by omega
          have E := Lib.hid (hy.out.trans (Bits_eq 8 x b HB8.out))
          go_wp2_with fail
          go_round
          case rel => exact ⟨j + 1, y, by omega, by go_num, rfl, E.out.trans HN.out.symm, hyl⟩
          case measure => simp [intOf]; omega
    · obtain rfl : j = s.size := by omega
      have E : Hid (x = G c (bs s)) := show _ = _ by have := hx.out; rwa [← bs_length, List.take_length] at this
      have E := E.out
      clear hx
      subst E
      go_wp2_with fail
      go_ret
      exact ⟨rfl, rfl⟩
/-- The document's own Sum, Again. -/
theorem max_xor {x : Nat} (h : x < 4294967296) : bits .xor .u32 IntKind.u32.max (x : Int) = ((F ^^^ x : Nat) : Int) := u32_xor_nat 4294967295 x (by decide) h
theorem r_sum (s : ByteArray) (w : World) (hl : s.size ≤ 9223372036854775807) :
    Calls Tryz.prog 69 #[.string s] w fun e w' => e = .returned (.int .u32 (sum (bs s) : Nat)) ∧ w = w' := by
  have R := r_go F s w F_lt hl
  have t2 := max_xor (G_lt F_lt (bs_lt s))
  have E := Lib.hid (sum_eq (bs s))
  rw [E.out]
  go_enter Tryz.func69, Tryz.ntmps69
  go_wp2_with fail
  refine R.mono ?_
  rintro e w1 ⟨rfl, rfl⟩
  go_wp2_with fail
  go_ret
  exact ⟨rfl, rfl⟩
end Go.Proofs.YtndanhacmfhlaaaGreat.Crc
namespace Go.Proofs.YtndanhacmfhlaaaGreat.Frame
open Pack Crc

def sizeN (n : Nat) : Nat := (n + 251) / 244
def sizeV (n : Int) : Int := if 0 ≤ n ∧ n ≤ 60000 then (sizeN n.toNat : Nat) else 0
theorem size_room (n : Nat) : n + 8 ≤ sizeN n * 244 ∧ sizeN n * 244 < n + 252 := by unfold sizeN; omega
theorem size_most {n : Nat} (h : n ≤ 60000) : 1 ≤ sizeN n ∧ sizeN n ≤ 246 := by unfold sizeN; omega
def sumS (s : ByteArray) : Nat := Crc.sum (bs s)
theorem sumS_lt (s : ByteArray) : sumS s < 4294967296 := Crc.sum_lt (bs_lt s)
/-- A text with its length ahead; with the sum of that behind it; filled up. -/
def headS (s : ByteArray) : ByteArray := lowS s.size 4 ++ s
theorem head_size (s : ByteArray) : (headS s).size = 4 + s.size := by unfold headS; rw [ByteArray.size_append, low_size]
def recS (s : ByteArray) : ByteArray := headS s ++ lowS (sumS (headS s)) 4
theorem rec_size (s : ByteArray) : (recS s).size = s.size + 8 := by unfold recS; rw [ByteArray.size_append, head_size, low_size]; omega
def fullS (s : ByteArray) : ByteArray := recS s ++ nulls (sizeN s.size * 244 - (s.size + 8))
theorem full_size (s : ByteArray) : (fullS s).size = sizeN s.size * 244 := by
  have := size_room s.size
  unfold fullS
  rw [ByteArray.size_append, rec_size, nulls_size]
  omega
/-- A sector: the record's number, the piece's place, how many there are, the piece, the number again. -/
def secS (num n i : Nat) (p : ByteArray) : ByteArray := lowS num 4 ++ lowS i 2 ++ lowS n 2 ++ p ++ lowS num 4
section
variable {num n i : Nat} {p : ByteArray}
theorem sec_size (hp : p.size = 244) : (secS num n i p).size = 256 := by
  unfold secS
  simp only [ByteArray.size_append, low_size]
  omega
theorem sec_four : (secS num n i p).extract 0 4 = lowS num 4 := by
  unfold secS
  rw [ByteArray.append_assoc, ByteArray.append_assoc, ByteArray.append_assoc, ext_left (by rw [low_size]; omega)]
  have := ext_all (lowS num 4)
  rwa [low_size] at this
theorem sec_last (hp : p.size = 244) : (secS num n i p).extract 252 256 = lowS num 4 := by
  unfold secS
  have hs : (lowS num 4 ++ lowS i 2 ++ lowS n 2 ++ p).size = 252 := by simp only [ByteArray.size_append, low_size]; omega
  have := ext_right (lowS num 4 ++ lowS i 2 ++ lowS n 2 ++ p) (lowS num 4) (i := 0) (j := 4) (by rw [low_size]; omega)
  rw [hs] at this
  rw [this]
  have := ext_all (lowS num 4)
  rwa [low_size] at this
theorem sec_piece (hp : p.size = 244) : (secS num n i p).extract 8 252 = p := by
  unfold secS
  have hs : (lowS num 4 ++ lowS i 2 ++ lowS n 2).size = 8 := by simp only [ByteArray.size_append, low_size]
  rw [ext_left (by simp only [ByteArray.size_append, low_size]; omega)]
  have := ext_right (lowS num 4 ++ lowS i 2 ++ lowS n 2) p (i := 0) (j := 244) (by omega)
  rw [hs] at this
  rw [this, ← hp]
  exact ext_all p
theorem sec_val (hn : num < 4294967296) : valN (secS num n i p) 0 4 = num := by
  unfold secS
  rw [ByteArray.append_assoc, ByteArray.append_assoc, ByteArray.append_assoc, valN_left (by rw [low_size]; omega), valN_low hn]
theorem sec_place (hi : i < 65536) : valN (secS num n i p) 4 2 = i := by
  unfold secS
  rw [ByteArray.append_assoc, ByteArray.append_assoc, ByteArray.append_assoc]
  have := valN_right (lowS num 4) (lowS i 2 ++ (lowS n 2 ++ (p ++ lowS num 4))) 0 2
  rw [low_size] at this
  rw [this, valN_left (by rw [low_size]; omega), valN_low hi]
theorem sec_many (hn : n < 65536) : valN (secS num n i p) 6 2 = n := by
  unfold secS
  rw [ByteArray.append_assoc, ByteArray.append_assoc]
  have := valN_right (lowS num 4 ++ lowS i 2) (lowS n 2 ++ (p ++ lowS num 4)) 0 2
  rw [ByteArray.size_append, low_size, low_size] at this
  rw [this, valN_left (by rw [low_size]; omega), valN_low hn]
end
/-- A whole sector's number. -/
def numV (b : ByteArray) : Nat := if b.size = 256 ∧ b.extract 0 4 = b.extract 252 256 then valN b 0 4 else 0
theorem num_sec {num n i : Nat} {p : ByteArray} (hp : p.size = 244) (hn : num < 4294967296) : numV (secS num n i p) = num := by
  unfold numV
  rw [if_pos ⟨sec_size hp, by rw [sec_four, sec_last hp]⟩, sec_val hn]
theorem numV_lt (b : ByteArray) : numV b < 4294967296 := by
  unfold numV
  split
  · exact valN_lt b 4 0
  · decide
def pieceS (s : ByteArray) (i : Nat) : ByteArray := (fullS s).extract (i * 244) ((i + 1) * 244)
theorem piece_size {s : ByteArray} {i : Nat} (h : i < sizeN s.size) : (pieceS s i).size = 244 := by
  have h1 : (i + 1) * 244 ≤ sizeN s.size * 244 := Nat.mul_le_mul_right _ h
  unfold pieceS
  rw [size_ext' _ (by rw [full_size]; exact h1)]
  omega
/-- A record's sectors. -/
def secL (num : Nat) (s : ByteArray) : List ByteArray := (List.range (sizeN s.size)).map fun i => secS num (sizeN s.size) i (pieceS s i)
theorem secL_length (num : Nat) (s : ByteArray) : (secL num s).length = sizeN s.size := by unfold secL; simp
theorem secL_at {num : Nat} {s : ByteArray} {i : Nat} (h : i < sizeN s.size) : (secL num s)[i]? = some (secS num (sizeN s.size) i (pieceS s i)) := by
  unfold secL
  rw [List.getElem?_map, List.getElem?_range h]; rfl
theorem catL_pieces (s : ByteArray) : ∀ k, k ≤ sizeN s.size → catL ((List.range k).map (pieceS s)) = (fullS s).extract 0 (k * 244)
  | 0, _ => by
    show (⟨#[]⟩ : ByteArray) = _
    apply ByteArray.ext
    rw [ByteArray.data_extract]
    simp
  | k + 1, h => by
    rw [List.range_succ, List.map_append, List.map_singleton, catL_last, catL_pieces s k (by omega)]
    unfold pieceS
    have h1 : (k + 1) * 244 ≤ sizeN s.size * 244 := Nat.mul_le_mul_right _ h
    exact ext_two _ (Nat.zero_le _) (by omega) (by rw [full_size]; exact h1)
/-- The record with which sectors begin. -/
def e0 : ByteArray := ⟨#[]⟩
def headN (l : List ByteArray) : Nat := valN (l.getD 0 e0) 6 2
def okS (num n i : Nat) (b : ByteArray) : Bool := decide (numV b = num ∧ valN b 4 2 = i ∧ valN b 6 2 = n)
def bodyL (l : List ByteArray) (n : Nat) : ByteArray := catL ((l.take n).map fun x => x.extract 8 252)
def sumB (B : ByteArray) : Bool := decide (valN B (4 + valN B 0 4) 4 = sumS (B.extract 0 (4 + valN B 0 4)))
def restB (B : ByteArray) : Bool := decide (B.extract (8 + valN B 0 4) B.size = nulls (B.size - (8 + valN B 0 4)))
def fitB (B : ByteArray) (n : Nat) : Bool := decide (valN B 0 4 ≤ 60000 ∧ sizeN (valN B 0 4) = n) && (sumB B && restB B)
def allB (l : List ByteArray) (num : Nat) : Bool := (List.range (headN l)).all fun i => okS num (headN l) i (l.getD i e0)
def okR (l : List ByteArray) (num : Nat) : Bool := decide (l ≠ [] ∧ num ≠ 0 ∧ numV (l.getD 0 e0) = num) && (decide (1 ≤ headN l ∧ headN l ≤ l.length) && (allB l num && fitB (bodyL l (headN l)) (headN l)))
def readS (l : List ByteArray) (num : Nat) : ByteArray := if okR l num = true then (bodyL l (headN l)).extract 4 (4 + valN (bodyL l (headN l)) 0 4) else e0
def readN (l : List ByteArray) (num : Nat) : Nat := if okR l num = true then headN l else 0
theorem full_fits {s : ByteArray} (h : s.size ≤ 60000) : fitB (fullS s) (sizeN s.size) = true ∧ (fullS s).extract 4 (4 + valN (fullS s) 0 4) = s := by
  have hf : fullS s = lowS s.size 4 ++ (s ++ (lowS (sumS (headS s)) 4 ++ nulls (sizeN s.size * 244 - (s.size + 8)))) := by
    unfold fullS recS headS
    rw [ByteArray.append_assoc, ByteArray.append_assoc]
  have hz := full_size s
  have hr := size_room s.size
  have hv : valN (fullS s) 0 4 = s.size := by
    rw [hf, valN_left (by rw [low_size]; omega), valN_low (by omega)]
  have h1 : sumB (fullS s) = true := by
    unfold sumB
    rw [hv]
    have e1 : (fullS s).extract 0 (4 + s.size) = headS s := by
      unfold fullS recS
      rw [ByteArray.append_assoc, ext_left (by rw [head_size]; omega), ← head_size s]
      exact ext_all _
    rw [e1]
    have e2 : valN (fullS s) (4 + s.size) 4 = sumS (headS s) := by
      unfold fullS recS
      rw [ByteArray.append_assoc]
      have := valN_right (headS s) (lowS (sumS (headS s)) 4 ++ nulls (sizeN s.size * 244 - (s.size + 8))) 0 4
      rw [head_size] at this
      rw [show 4 + s.size = 4 + s.size + 0 from rfl, this, valN_left (by rw [low_size]; omega), valN_low (sumS_lt _)]
    exact decide_eq_true e2
  have h2 : restB (fullS s) = true := by
    unfold restB
    rw [hv, Nat.add_comm 8 s.size]
    have e3 : (fullS s).extract (s.size + 8) (fullS s).size = nulls ((fullS s).size - (s.size + 8)) := by
      rw [hz]
      unfold fullS
      have := ext_right (recS s) (nulls (sizeN s.size * 244 - (s.size + 8))) (i := 0) (j := sizeN s.size * 244 - (s.size + 8)) (by rw [nulls_size]; omega)
      rw [rec_size] at this
      rw [show s.size + 8 + (sizeN s.size * 244 - (s.size + 8)) = sizeN s.size * 244 by omega, show s.size + 8 + 0 = s.size + 8 from rfl] at this
      rw [this]
      have := ext_all (nulls (sizeN s.size * 244 - (s.size + 8)))
      rwa [nulls_size] at this
    exact decide_eq_true e3
  refine ⟨?_, ?_⟩
  · unfold fitB
    rw [h1, h2, hv, decide_eq_true ⟨h, rfl⟩]; rfl
  · rw [hv, hf]
    have := ext_right (lowS s.size 4) (s ++ (lowS (sumS (headS s)) 4 ++ nulls (sizeN s.size * 244 - (s.size + 8)))) (i := 0) (j := s.size) (by rw [ByteArray.size_append]; omega)
    rw [low_size] at this
    rw [this, ext_left (by omega)]
    exact ext_all s
theorem getD_of {l : List ByteArray} {i : Nat} {x : ByteArray} (h : l[i]? = some x) : l.getD i e0 = x := by rw [List.getD_eq_getElem?_getD, h]; rfl
/-- What was made is read as it was, whatever stands behind it. -/
theorem read_made {num : Nat} {s : ByteArray} (t : List ByteArray) (h0 : num ≠ 0) (hn : num < 4294967296) (h : s.size ≤ 60000) :
    okR (secL num s ++ t) num = true ∧ readS (secL num s ++ t) num = s ∧ readN (secL num s ++ t) num = sizeN s.size := by
  have hm := size_most h
  have hl := secL_length num s
  have at_ : ∀ i, i < sizeN s.size → (secL num s ++ t).getD i e0 = secS num (sizeN s.size) i (pieceS s i) := fun i hi =>
    getD_of (by rw [List.getElem?_append_left (by omega), secL_at hi])
  have h1 : headN (secL num s ++ t) = sizeN s.size := by
    unfold headN
    rw [at_ 0 (by omega), sec_many (by omega)]
  have h2 : bodyL (secL num s ++ t) (sizeN s.size) = fullS s := by
    unfold bodyL
    rw [List.take_append_of_le_length (by omega), List.take_of_length_le (by omega)]
    have : (secL num s).map (fun x => x.extract 8 252) = (List.range (sizeN s.size)).map (pieceS s) := by
      unfold secL
      rw [List.map_map]
      apply List.map_congr_left
      intro i hi
      exact sec_piece (piece_size (List.mem_range.1 hi))
    rw [this, catL_pieces s _ (Nat.le_refl _), ← full_size s]
    exact ext_all _
  have h3 : okR (secL num s ++ t) num = true := by
    unfold okR
    rw [h1, h2, (full_fits h).1]
    have e1 : (secL num s ++ t ≠ [] ∧ num ≠ 0 ∧ numV ((secL num s ++ t).getD 0 e0) = num) := by
      refine ⟨fun e => ?_, h0, by rw [at_ 0 (by omega), num_sec (piece_size (by omega)) hn]⟩
      have : (secL num s ++ t).length = 0 := by rw [e]; rfl
      rw [List.length_append] at this
      omega
    have e2 : 1 ≤ sizeN s.size ∧ sizeN s.size ≤ (secL num s ++ t).length := ⟨hm.1, by rw [List.length_append]; omega⟩
    have e3 : allB (secL num s ++ t) num = true := by
      unfold allB
      rw [h1, List.all_eq_true]
      intro i hi
      have hi := List.mem_range.1 hi
      unfold okS
      rw [at_ i hi]
      exact decide_eq_true ⟨num_sec (piece_size hi) hn, sec_place (by omega), sec_many (by omega)⟩
    rw [decide_eq_true e1, decide_eq_true e2, e3]; rfl
  refine ⟨h3, ?_, ?_⟩
  · unfold readS
    rw [if_pos h3, h1, h2]
    exact (full_fits h).2
  · unfold readN
    rw [if_pos h3, h1]
end Go.Proofs.YtndanhacmfhlaaaGreat.Frame
namespace Go.Proofs.YtndanhacmfhlaaaGreat.Frame
open Pack Crc

theorem okR_long {l : List ByteArray} {num : Nat} (h : l.length < headN l) : okR l num = false := by
  unfold okR
  rw [decide_eq_false (show ¬ (1 ≤ headN l ∧ headN l ≤ l.length) by omega), Bool.false_and, Bool.and_false]
theorem okR_first {l : List ByteArray} {num : Nat} (h : numV (l.getD 0 e0) ≠ num) : okR l num = false := by
  unfold okR
  rw [decide_eq_false (fun e => h e.2.2), Bool.false_and]
theorem okR_nil (num : Nat) : okR [] num = false := by
  unfold okR
  rw [decide_eq_false (fun e => e.1 rfl), Bool.false_and]
theorem okR_at {l : List ByteArray} {num i : Nat} (hi : i < headN l) (h : numV (l.getD i e0) ≠ num) : okR l num = false := by
  have : allB l num = false := by
    unfold allB
    rw [Bool.eq_false_iff]
    intro e
    have := List.all_eq_true.1 e i (List.mem_range.2 hi)
    unfold okS at this
    exact h (of_decide_eq_true this).1
  unfold okR
  rw [this, Bool.false_and, Bool.and_false, Bool.and_false]
section
variable {num other at_ : Nat} {s : ByteArray}
/-- Without one of its sectors. -/
theorem read_short (h : s.size ≤ 60000) (ha : at_ < sizeN s.size) : okR ((secL num s).take at_ ++ (secL num s).drop (at_ + 1)) num = false := by
  have hm := size_most h
  have hl := secL_length num s
  have hlen : ((secL num s).take at_ ++ (secL num s).drop (at_ + 1)).length = sizeN s.size - 1 := by
    rw [List.length_append, List.length_take, List.length_drop]; omega
  by_cases h1 : sizeN s.size = 1
  · have : (secL num s).take at_ ++ (secL num s).drop (at_ + 1) = [] := List.eq_nil_of_length_eq_zero (by omega)
    rw [this]
    exact okR_nil num
  · have : headN ((secL num s).take at_ ++ (secL num s).drop (at_ + 1)) = sizeN s.size := by
      unfold headN
      by_cases h0 : at_ = 0
      · subst h0
        rw [getD_of (x := secS num (sizeN s.size) 1 (pieceS s 1)) (by rw [List.take_zero, List.nil_append, List.getElem?_drop]; exact secL_at (by omega)), sec_many (by omega)]
      · rw [getD_of (x := secS num (sizeN s.size) 0 (pieceS s 0)) (by
          rw [List.getElem?_append_left (by rw [List.length_take]; omega), List.getElem?_take_of_lt (by omega)]
          exact secL_at (by omega)), sec_many (by omega)]
    exact okR_long (by omega)
/-- With one of its sectors of another number. -/
theorem mixed_at {i : Nat} (ha : at_ < sizeN s.size) (hi : i < sizeN s.size) :
    ((secL num s).set at_ (secS other (sizeN s.size) at_ (pieceS s at_))).getD i e0 = secS (if i = at_ then other else num) (sizeN s.size) i (pieceS s i) := by
  have hl := secL_length num s
  apply getD_of
  by_cases h : at_ = i
  · subst h
    rw [if_pos rfl, List.getElem?_set_self (by omega)]
  · rw [if_neg (fun e => h e.symm), List.getElem?_set_ne h, secL_at hi]
theorem mixed_head (h : s.size ≤ 60000) (ha : at_ < sizeN s.size) : headN ((secL num s).set at_ (secS other (sizeN s.size) at_ (pieceS s at_))) = sizeN s.size := by
  have hm := size_most h
  unfold headN
  rw [mixed_at ha (by omega), sec_many (by omega)]
theorem read_mixed (h : s.size ≤ 60000) (ha : at_ < sizeN s.size) (ho : other < 4294967296) (hne : other ≠ num) :
    okR ((secL num s).set at_ (secS other (sizeN s.size) at_ (pieceS s at_))) num = false := by
  refine okR_at (i := at_) (by rw [mixed_head h ha]; exact ha) ?_
  rw [mixed_at ha ha, if_pos rfl, num_sec (piece_size ha) ho]
  exact hne
theorem read_other (h : s.size ≤ 60000) (ha : at_ < sizeN s.size) (hn : num < 4294967296) (ho : other < 4294967296) (h0 : other ≠ 0) (hne : other ≠ num) :
    okR ((secL num s).set at_ (secS other (sizeN s.size) at_ (pieceS s at_))) other = decide (sizeN s.size = 1) := by
  have hm := size_most h
  by_cases h1 : sizeN s.size = 1
  · rw [decide_eq_true h1]
    have e : (secL num s).set at_ (secS other (sizeN s.size) at_ (pieceS s at_)) = secL other s := by
      obtain rfl : at_ = 0 := by omega
      unfold secL
      rw [h1]; rfl
    rw [e]
    have := (read_made (s := s) [] h0 ho h).1
    rwa [List.append_nil] at this
  · rw [decide_eq_false h1]
    by_cases ha0 : at_ = 0
    · refine okR_at (i := 1) (by rw [mixed_head h ha]; omega) ?_
      rw [mixed_at ha (by omega), if_neg (by omega), num_sec (piece_size (by omega)) hn]
      exact fun e => hne e.symm
    · refine okR_at (i := 0) (by rw [mixed_head h ha]; omega) ?_
      rw [mixed_at ha (by omega), if_neg (by omega), num_sec (piece_size (by omega)) hn]
      exact fun e => hne e.symm
end
/-- A beginning of one text over another one. -/
def tornS (b a : ByteArray) (i : Nat) : ByteArray := b.extract 0 i ++ a.extract i a.size
section
variable {a b : ByteArray} {i : Nat}
theorem torn_size (ha : a.size = 256) (hb : b.size = 256) (hi : i ≤ 256) : (tornS b a i).size = 256 := by
  unfold tornS
  rw [ByteArray.size_append, size_ext' b (by omega), size_ext' a (Nat.le_refl _)]
  omega
theorem torn_at (ha : a.size = 256) (hb : b.size = 256) (hi : i ≤ 256) (k : Nat) (hk : k < 256) : byteN (tornS b a i) k = if k < i then byteN b k else byteN a k := by
  have h1 : (b.extract 0 i).size = i := by rw [size_ext' b (by omega)]; omega
  unfold tornS
  by_cases h : k < i
  · rw [if_pos h, byteN_left _ _ (by omega), byteN_ext (by omega) (by omega), Nat.zero_add]
  · rw [if_neg h, show k = (b.extract 0 i).size + (k - i) by omega, byteN_right, byteN_ext (Nat.le_refl _) (by omega)]
    congr 1
    omega
theorem ext_same {x y : ByteArray} {j k : Nat} (hx : k ≤ x.size) (hy : k ≤ y.size) (h : ∀ m, j ≤ m → m < k → byteN x m = byteN y m) : x.extract j k = y.extract j k := by
  have h1 := size_ext' x (a := j) (e := k) hx
  have h2 := size_ext' y (a := j) (e := k) hy
  refine byte_eq (by rw [h1, h2]) fun m hm => ?_
  rw [h1] at hm
  rw [byteN_ext hx (by omega), byteN_ext hy (by omega)]
  exact h _ (by omega) (by omega)
theorem same_ext {x y : ByteArray} {j k m : Nat} (hx : k ≤ x.size) (hy : k ≤ y.size) (h : x.extract j k = y.extract j k) (h1 : j ≤ m) (h2 : m < k) : byteN x m = byteN y m := by
  have : byteN (x.extract j k) (m - j) = byteN (y.extract j k) (m - j) := by rw [h]
  rw [byteN_ext hx (by omega), byteN_ext hy (by omega)] at this
  rwa [show j + (m - j) = m by omega] at this
theorem low_ne {u v : Nat} (hu : u < 4294967296) (hv : v < 4294967296) (h : u ≠ v) : lowS u 4 ≠ lowS v 4 := fun e => h (by
  have h1 := valN_low (v := u) (n := 4) hu
  rw [e, valN_low (n := 4) hv] at h1
  exact h1.symm)
/-- Over a whole sector of another number a beginning of a new one is written. -/
theorem torn_num {old num : Nat} (ha : a.size = 256) (hb : b.size = 256) (a1 : a.extract 0 4 = lowS old 4) (a2 : a.extract 252 256 = lowS old 4) (b1 : b.extract 0 4 = lowS num 4) (b2 : b.extract 252 256 = lowS num 4)
    (ho : old < 4294967296) (hn : num < 4294967296) (h0 : num ≠ 0) (hne : old ≠ num) (hi : i ≤ 256) :
    (numV (tornS b a i) = 0 ∨ numV (tornS b a i) = old ∨ numV (tornS b a i) = num) ∧ (numV (tornS b a i) = num ↔ tornS b a i = b) ∧ (i = 0 → numV (tornS b a i) = old) := by
  have hs := torn_size ha hb hi
  have hx := torn_at ha hb hi
  have hval : ∀ {x : ByteArray} {v : Nat}, x.size = 256 → v < 4294967296 → x.extract 0 4 = lowS v 4 → valN x 0 4 = v := fun {x v} h1 h2 h3 => by
    have := valN_ext (s := x) (a := 0) (j := 4) (by omega) 4 0 (by omega)
    rw [h3, valN_low (n := 4) h2] at this
    simpa using this.symm
  by_cases hlow : i ≤ 252
  · have hl : (tornS b a i).extract 252 256 = lowS old 4 := by
      rw [← a2]
      exact ext_same (by omega) (by omega) fun m h1 h2 => by rw [hx m h2, if_neg (by omega)]
    have hnum : numV (tornS b a i) = 0 ∨ numV (tornS b a i) = old := by
      unfold numV
      split
      · rename_i h
        right
        exact hval hs ho (by rw [h.2, hl])
      · exact Or.inl rfl
    have hno : numV (tornS b a i) ≠ num := by omega
    refine ⟨by omega, ⟨fun h => absurd h hno, fun h => ?_⟩, fun h => ?_⟩
    · rw [h, b2] at hl
      exact absurd hl.symm (low_ne ho hn hne)
    · subst h
      have : tornS b a 0 = a := byte_eq (by rw [hs, ha]) fun k hk => by rw [hx k (by omega), if_neg (by omega)]
      rw [this]
      unfold numV
      rw [if_pos ⟨ha, by rw [a1, a2]⟩]
      exact hval ha ho a1
  · have hf : (tornS b a i).extract 0 4 = lowS num 4 := by
      rw [← b1]
      exact ext_same (by omega) (by omega) fun m h1 h2 => by rw [hx m (by omega), if_pos (by omega)]
    by_cases hw : (tornS b a i).extract 0 4 = (tornS b a i).extract 252 256
    · have he : tornS b a i = b := byte_eq (by rw [hs, hb]) fun k hk => by
        by_cases hk2 : k < i
        · rw [hx k (by omega), if_pos hk2]
        · have h2 : (tornS b a i).extract 252 256 = b.extract 252 256 := by rw [← hw, hf, b2]
          exact same_ext (j := 252) (k := 256) (by omega) (by omega) h2 (by omega) (by omega)
      have hnum : numV (tornS b a i) = num := by
        unfold numV
        rw [if_pos ⟨hs, hw⟩]
        exact hval hs hn hf
      exact ⟨Or.inr (Or.inr hnum), ⟨fun _ => he, fun _ => hnum⟩, fun h => by omega⟩
    · have hnum : numV (tornS b a i) = 0 := by
        unfold numV
        rw [if_neg (fun h => hw h.2)]
      refine ⟨Or.inl hnum, ⟨fun h => absurd (hnum.symm.trans h).symm h0, fun h => ?_⟩, fun h => by omega⟩
      rw [h, b1, b2] at hw
      exact absurd rfl hw
end
end Go.Proofs.YtndanhacmfhlaaaGreat.Frame
namespace Go.Proofs.YtndanhacmfhlaaaGreat.Frame
open Pack Crc

theorem low_back (b : ByteArray) {a n : Nat} (h : a + n ≤ b.size) : lowS (valN b a n) n = b.extract a (a + n) := by
  refine byte_eq (by rw [low_size, size_ext' b h]; omega) fun i hi => ?_
  rw [low_size] at hi
  rw [byteN_low hi, byteN_ext h (by omega)]
  have key : ∀ (n a i : Nat), i < n → valN b a n / 256 ^ i % 256 = byteN b (a + i) := by
    intro n
    induction n with
    | zero => intro a i hi; omega
    | succ n ih =>
      intro a i hi
      show (byteN b a + 256 * valN b (a + 1) n) / 256 ^ i % 256 = _
      have hb := byteN_lt b a
      cases i with
      | zero =>
        show (byteN b a + 256 * valN b (a + 1) n) / 256 ^ 0 % 256 = byteN b a
        rw [Nat.pow_zero, Nat.div_one]
        omega
      | succ i =>
        have := ih (a + 1) i (by omega)
        rw [Nat.pow_succ', ← Nat.div_div_eq_div_mul, show (byteN b a + 256 * valN b (a + 1) n) / 256 = valN b (a + 1) n by omega, this, show a + 1 + i = a + (i + 1) by omega]
  exact key n a i hi
/-- A whole sector, by its parts. -/
theorem sec_back {b : ByteArray} {num i n : Nat} (h0 : num ≠ 0) (h1 : numV b = num) (h2 : valN b 4 2 = i) (h3 : valN b 6 2 = n) : b = secS num n i (b.extract 8 252) := by
  unfold numV at h1
  split at h1
  case isFalse => exact absurd h1.symm h0
  rename_i hc
  obtain ⟨hs, he⟩ := hc
  unfold secS
  rw [← h1, ← h2, ← h3, low_back b (by omega), low_back b (by omega), low_back b (by omega)]
  show b = b.extract 0 4 ++ b.extract 4 6 ++ b.extract 6 8 ++ b.extract 8 252 ++ b.extract 0 4
  rw [ext_two b (by omega) (by omega) (by omega), ext_two b (by omega) (by omega) (by omega), ext_two b (by omega) (by omega) (by omega), he, ext_two b (by omega) (by omega) (by omega), ← hs]
  exact (ext_all b).symm
theorem num_size {b : ByteArray} {num : Nat} (h0 : num ≠ 0) (h1 : numV b = num) : b.size = 256 := by
  unfold numV at h1
  split at h1
  case isFalse => exact absurd h1.symm h0
  rename_i hc
  exact hc.1
/-- A text that fits, by its parts. -/
theorem full_back {B : ByteArray} {n : Nat} (h : fitB B n = true) (hs : B.size = n * 244) : B = fullS (B.extract 4 (4 + valN B 0 4)) ∧ (B.extract 4 (4 + valN B 0 4)).size = valN B 0 4 ∧ valN B 0 4 ≤ 60000 ∧ sizeN (valN B 0 4) = n := by
  unfold fitB sumB restB at h
  simp only [Bool.and_eq_true, decide_eq_true_iff] at h
  obtain ⟨⟨h1, h2⟩, h3, h4⟩ := h
  have hv : valN B 0 4 = valN B 0 4 := rfl
  generalize hz : valN B 0 4 = z at *
  have hr := size_room z
  rw [h2] at hr
  have hsz : (B.extract 4 (4 + z)).size = z := by rw [size_ext' B (by omega)]; omega
  refine ⟨?_, hsz, h1, h2⟩
  have e1 : headS (B.extract 4 (4 + z)) = B.extract 0 (4 + z) := by
    unfold headS
    rw [hsz, ← hz, low_back B (by omega)]
    show B.extract 0 4 ++ _ = _
    rw [ext_two B (by omega) (by omega) (by omega)]
  have e2 : recS (B.extract 4 (4 + z)) = B.extract 0 (8 + z) := by
    unfold recS
    rw [e1, ← h3, low_back B (by omega), ext_two B (by omega) (by omega) (by omega), show 4 + z + 4 = 8 + z by omega]
  unfold fullS
  rw [e2, hsz, h2, ← hs, show z + 8 = 8 + z by omega, ← h4, ext_two B (by omega) (by omega) (Nat.le_refl _)]
  exact (ext_all B).symm
/-- A piece of equal pieces. -/
theorem cat_at : ∀ (l : List ByteArray) (i : Nat) (x : ByteArray), (∀ y ∈ l, y.size = 244) → l[i]? = some x → (catL l).extract (i * 244) ((i + 1) * 244) = x
  | [], _, _, _, h => by cases h
  | y :: l, 0, x, hs, h => by
    injection h with h
    subst h
    have := hs y (List.mem_cons_self ..)
    show (y ++ catL l).extract (0 * 244) ((0 + 1) * 244) = y
    rw [ext_left (by omega), show 0 * 244 = 0 by omega, show (0 + 1) * 244 = y.size by omega]
    exact ext_all y
  | y :: l, i + 1, x, hs, h => by
    have hy := hs y (List.mem_cons_self ..)
    have ih := cat_at l i x (fun z hz => hs z (List.mem_cons_of_mem _ hz)) h
    have hz : ∀ (m : List ByteArray), (∀ z ∈ m, z.size = 244) → (catL m).size = m.length * 244 := by
      intro m
      induction m with
      | nil => intro _; rfl
      | cons z m ihm =>
        intro hm
        show (z ++ catL m).size = _
        rw [ByteArray.size_append, ihm (fun a ha => hm a (List.mem_cons_of_mem _ ha)), hm z (List.mem_cons_self ..), List.length_cons]
        omega
    have hlt : i < l.length := by have := (List.getElem?_eq_some_iff.1 h).1; simpa using this
    show (y ++ catL l).extract ((i + 1) * 244) ((i + 1 + 1) * 244) = x
    rw [show (i + 1) * 244 = y.size + i * 244 by omega, show (i + 1 + 1) * 244 = y.size + (i + 1) * 244 by omega, ext_right y (catL l) (by rw [hz l (fun z hm => hs z (List.mem_cons_of_mem _ hm))]; omega), ih]
theorem cat_size (m : List ByteArray) (h : ∀ z ∈ m, z.size = 244) : (catL m).size = m.length * 244 := by
  induction m with
  | nil => rfl
  | cons z m ihm =>
    show (z ++ catL m).size = _
    rw [ByteArray.size_append, ihm (fun a ha => h a (List.mem_cons_of_mem _ ha)), h z (List.mem_cons_self ..), List.length_cons]
    omega
/-- The text that sectors claim. -/
def askS (l : List ByteArray) : Nat := valN ((l.getD 0 e0).extract 8 252) 0 4
def bothB (l : List ByteArray) (num : Nat) : Bool := decide (l ≠ [] ∧ num ≠ 0 ∧ numV (l.getD 0 e0) = num) && (decide (askS l ≤ 60000 ∧ sizeN (askS l) ≤ l.length) && (List.range (sizeN (askS l))).all fun i => decide (numV (l.getD i e0) = num))
def claimS (l : List ByteArray) (num : Nat) : ByteArray := if bothB l num = true then (bodyL l (sizeN (askS l))).extract 4 (4 + askS l) else e0
theorem getD_at {l : List ByteArray} {i : Nat} (h : i < l.length) : l[i]? = some (l.getD i e0) := by
  rw [List.getD_eq_getElem?_getD, List.getElem?_eq_getElem h]; rfl
theorem read_only {l : List ByteArray} {num : Nat} (h : okR l num = true) :
    num ≠ 0 ∧ claimS l num = readS l num ∧ (readS l num).size ≤ 60000 ∧ sizeN (readS l num).size = headN l ∧ headN l ≤ l.length ∧ l.take (headN l) = secL num (readS l num) := by
  have hR : readS l num = (bodyL l (headN l)).extract 4 (4 + valN (bodyL l (headN l)) 0 4) := by unfold readS; rw [if_pos h]
  unfold okR at h
  simp only [Bool.and_eq_true, decide_eq_true_iff] at h
  obtain ⟨⟨h1, h2, h3⟩, ⟨h4, h5⟩, h6, h7⟩ := h
  obtain ⟨n, hn⟩ : ∃ n, headN l = n := ⟨_, rfl⟩
  unfold allB at h6
  rw [hn] at h4 h5 h6 h7 hR
  have hall : ∀ i, i < n → numV (l.getD i e0) = num ∧ valN (l.getD i e0) 4 2 = i ∧ valN (l.getD i e0) 6 2 = n := by
    intro i hi
    have := List.all_eq_true.1 h6 i (List.mem_range.2 hi)
    unfold okS at this
    exact of_decide_eq_true this
  have hsz : ∀ i, i < n → (l.getD i e0).size = 256 := fun i hi => num_size h2 (hall i hi).1
  obtain ⟨m, hm⟩ : ∃ m, (l.take n).map (fun x => x.extract 8 252) = m := ⟨_, rfl⟩
  have hml : m.length = n := by rw [← hm, List.length_map, List.length_take]; omega
  have hma : ∀ i, i < n → m[i]? = some ((l.getD i e0).extract 8 252) := fun i hi => by
    rw [← hm, List.getElem?_map, List.getElem?_take_of_lt hi, getD_at (by omega)]; rfl
  have hm4 : ∀ y ∈ m, y.size = 244 := by
    intro y hy
    obtain ⟨i, hi⟩ := List.mem_iff_getElem?.1 hy
    have hlt : i < n := by have := (List.getElem?_eq_some_iff.1 hi).1; omega
    rw [hma i hlt] at hi
    injection hi with hi
    rw [← hi, size_ext' _ (by rw [hsz i hlt]; omega)]
  have hB : bodyL l n = catL m := by unfold bodyL; rw [hm]
  have hBs : (bodyL l n).size = n * 244 := by rw [hB, cat_size m hm4, hml]
  obtain ⟨f1, f2, f3, f4⟩ := full_back h7 hBs
  rw [← hR] at f1 f2
  have hask : askS l = valN (bodyL l n) 0 4 := by
    unfold askS
    have := cat_at m 0 _ hm4 (hma 0 (by omega))
    rw [← hB] at this
    rw [← this, show (0 + 1) * 244 = 244 by rfl, show 0 * 244 = 0 by rfl, valN_ext (by omega) 4 0 (by omega)]
  have hboth : bothB l num = true := by
    unfold bothB
    rw [hask, f4, decide_eq_true ⟨h1, h2, h3⟩, decide_eq_true ⟨f3, h5⟩, Bool.true_and, Bool.true_and, List.all_eq_true]
    intro i hi
    exact decide_eq_true (hall i (List.mem_range.1 hi)).1
  refine ⟨h2, ?_, by omega, by rw [f2, f4, hn], by omega, ?_⟩
  · unfold claimS
    rw [if_pos hboth, hask, f4, hR]
  · rw [hn]
    apply List.ext_getElem?
    intro i
    by_cases hi : i < n
    · rw [List.getElem?_take_of_lt hi, getD_at (by omega), secL_at (by rw [f2, f4]; exact hi)]
      obtain ⟨a1, a2, a3⟩ := hall i hi
      have e := sec_back h2 a1 a2 a3
      have hp : pieceS (readS l num) i = (l.getD i e0).extract 8 252 := by
        unfold pieceS
        rw [← f1, hB]
        exact cat_at m i _ hm4 (hma i hi)
      rw [hp, f2, f4, ← e]
    · rw [List.getElem?_eq_none (by rw [List.length_take]; omega), List.getElem?_eq_none (by rw [secL_length, f2, f4]; omega)]
theorem read_is {l : List ByteArray} {num : Nat} {s : ByteArray} (h0 : num ≠ 0) (hn : num < 4294967296) (hs : s.size ≤ 60000) (h : l.take (sizeN s.size) = secL num s) : okR l num = true ∧ readS l num = s ∧ readN l num = sizeN s.size := by
  have := read_made (num := num) (s := s) (l.drop (sizeN s.size)) h0 hn hs
  rwa [← h, List.take_append_drop] at this
end Go.Proofs.YtndanhacmfhlaaaGreat.Frame
namespace Go.Proofs.YtndanhacmfhlaaaGreat.Mod
open Go.ChangeShapes Go.WideShapes Go.ChangeAt Go.RowKit

theorem tmod_range (x n : Int) (h : 0 < n) : -n < x.tmod n ∧ x.tmod n < n := ⟨Int.lt_tmod_of_pos x h, Int.tmod_lt_of_pos x h⟩
theorem mod_facts (x n : Int) (h : 1 ≤ n) (h2 : n ≤ 1000000000) : wrap64 (x.tmod n + n) = x.tmod n + n ∧ 0 ≤ (x.tmod n + n).tmod n ∧ (x.tmod n + n).tmod n < n := by
  obtain ⟨h3, h4⟩ := tmod_range x n (by omega)
  refine ⟨by unfold wrap64; omega, ?_, ?_⟩
  · rw [Int.tmod_eq_emod_of_nonneg (by omega)]; exact Int.emod_nonneg _ (by omega)
  · rw [Int.tmod_eq_emod_of_nonneg (by omega)]; exact Int.emod_lt_of_pos _ (by omega)
theorem u8_nat {s : Int} (h : (Lit.int .u8 s).wf = true) : ∃ n : Nat, s = n ∧ n < 256 := by
  have h1 : 0 ≤ s ∧ s ≤ 255 := by simpa [Lit.wf, IntKind.min, IntKind.max, IntKind.bits, IntKind.signed] using h
  exact ⟨s.toNat, by omega, by omega⟩
end Go.Proofs.YtndanhacmfhlaaaGreat.Mod
namespace Go.Proofs.YtndanhacmfhlaaaGreat.Mod
open Go.ChangeShapes Go.WideShapes Go.ChangeAt Go.RowKit

end Go.Proofs.YtndanhacmfhlaaaGreat.Mod
