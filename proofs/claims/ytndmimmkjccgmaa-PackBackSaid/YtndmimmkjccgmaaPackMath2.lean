/- What was packed is opened as it was: in plain values. Of no one law. -/
import Derived.Test.YtndmimmkjccgmaaRefPack3
import Derived.Test.YtndmimmkjccgmaaPackFair
namespace Go.Proofs.Ytndmimmkjccgmaa.Pack
open Items

theorem ba_append (a b : ByteArray) : (a ++ b).data = a.data ++ b.data := ByteArray.data_append
theorem byteN_left (a b : ByteArray) {i : Nat} (h : i < a.size) : byteN (a ++ b) i = byteN a i := by
  unfold byteN
  rw [ba_append, Array.getD_eq_getD_getElem?, Array.getD_eq_getD_getElem?, Array.getElem?_append_left h]
theorem byteN_right (a b : ByteArray) (i : Nat) : byteN (a ++ b) (a.size + i) = byteN b i := by
  unfold byteN
  rw [ba_append, Array.getD_eq_getD_getElem?, Array.getD_eq_getD_getElem?, Array.getElem?_append_right (by show a.data.size ≤ a.size + i; exact Nat.le_add_right _ _)]
  congr 3
  show a.size + i - a.size = i
  omega
theorem byteN_low {v n i : Nat} (h : i < n) : byteN (lowS v n) i = v / 256 ^ i % 256 := by
  unfold byteN lowS lowB
  rw [Array.getD_eq_getD_getElem?]
  simp [h]
theorem val_of {s : ByteArray} : ∀ (n a v : Nat), (∀ i, i < n → byteN s (a + i) = v / 256 ^ i % 256) → valN s a n = v % 256 ^ n
  | 0, _, v, _ => by show 0 = v % 256 ^ 0; rw [Nat.pow_zero, Nat.mod_one]
  | n + 1, a, v, h => by
    show byteN s a + 256 * valN s (a + 1) n = _
    have h0 := h 0 (by omega)
    rw [Nat.add_zero, Nat.pow_zero, Nat.div_one] at h0
    rw [h0, val_of n (a + 1) (v / 256) (fun i hi => by
      have := h (i + 1) (by omega)
      rw [show a + 1 + i = a + (i + 1) by omega, this, Nat.div_div_eq_div_mul, Nat.pow_succ, Nat.mul_comm 256]), Nat.pow_succ, Nat.mul_comm (256 ^ n), Nat.mod_mul]
theorem ext_mid (a m b : ByteArray) : (a ++ (m ++ b)).extract a.size (a.size + m.size) = m := by
  apply ByteArray.ext
  simp [ByteArray.data_extract]
  have h1 : a.data.extract a.size (a.size + m.size) = #[] := Array.extract_empty_of_size_le_start (Nat.le_refl _)
  have h2 : m.data.extract 0 m.size = m.data := Array.extract_size
  rw [h1, h2, Array.empty_append]
/-- An item's bytes; does it go into them? -/
def encS (z : It) : ByteArray := if z.size = 0 then lowS z.s.size 2 ++ z.s else lowS z.v z.size.toNat
def FitsB (z : It) : Prop := if z.size = 0 then z.s.size ≤ 65535 else goesB z.v z.size = true
def PSt.step (p : PSt) (z : It) : PSt := if z.size = 0 then p.text z.s else p.num z.v z.size
theorem put_ok {p : PSt} {b : ByteArray} (h : (p.put b).e = 0) : p.e = 0 ∧ (p.put b).s = p.s ++ b := by
  unfold PSt.put at *
  by_cases he : p.e = 0
  · rw [if_neg (by omega)] at *
    by_cases hl : 60000 < p.s.size + b.size
    · rw [if_pos hl] at h
      exact absurd h (by show ¬ (2 : Int) = 0; decide)
    · rw [if_neg hl]
      exact ⟨he, rfl⟩
  · rw [if_pos he] at h
    exact absurd h he
theorem step_ok {p : PSt} {z : It} (h : (p.step z).e = 0) : p.e = 0 ∧ (p.step z).s = p.s ++ encS z ∧ FitsB z := by
  unfold PSt.step encS FitsB at *
  by_cases hz : z.size = 0
  · rw [if_pos hz] at h
    rw [if_pos hz, if_pos hz, if_pos hz]
    unfold PSt.text at *
    by_cases he : p.e = 0
    · rw [if_neg (by omega)] at *
      by_cases hl : 65535 < z.s.size
      · rw [if_pos hl] at h
        exact absurd h (by show ¬ (2 : Int) = 0; decide)
      · rw [if_neg hl] at *
        exact ⟨he, (put_ok h).2, by omega⟩
    · rw [if_pos he] at h
      exact absurd h he
  · rw [if_neg hz] at h
    rw [if_neg hz, if_neg hz, if_neg hz]
    unfold PSt.num at *
    by_cases he : p.e = 0
    · rw [if_neg (by omega)] at *
      by_cases hg : goesB z.v z.size = true
      · rw [if_pos hg] at *
        exact ⟨he, (put_ok h).2, hg⟩
      · rw [if_neg hg] at h
        exact absurd h (by show ¬ (11 : Int) = 0; decide)
    · rw [if_pos he] at h
      exact absurd h he
/-- All items, one behind the other. -/
def encL : List It → ByteArray
  | [] => ⟨#[]⟩
  | z :: r => encS z ++ encL r
def runP (p : PSt) (l : List It) : PSt := l.foldl PSt.step p
theorem run_next (l : List It) {j : Nat} (h : j < l.length) : runP pst0 (l.take (j + 1)) = (runP pst0 (l.take j)).step (l.getD j it0) := by
  unfold runP
  rw [take_next l j h, List.foldl_append]; rfl
theorem run_ok : ∀ (l : List It) (p : PSt), (runP p l).e = 0 → p.e = 0 ∧ (runP p l).s = p.s ++ encL l ∧ ∀ z ∈ l, FitsB z
  | [], p, h => ⟨h, by show p.s = p.s ++ ⟨#[]⟩; exact (ByteArray.append_empty).symm, by simp⟩
  | z :: r, p, h => by
    obtain ⟨h1, h2, h3⟩ := run_ok r (p.step z) h
    obtain ⟨k1, k2, k3⟩ := step_ok h1
    refine ⟨k1, ?_, fun x hx => ?_⟩
    · show (runP (p.step z) r).s = p.s ++ (encS z ++ encL r)
      rw [h2, k2, ByteArray.append_assoc]
    · rcases List.mem_cons.1 hx with rfl | hx
      · exact k3
      · exact h3 x hx
theorem enc_split : ∀ (a b : List It), encL (a ++ b) = encL a ++ encL b
  | [], b => by show encL b = ⟨#[]⟩ ++ encL b; exact (ByteArray.empty_append).symm
  | z :: r, b => by
    show encS z ++ encL (r ++ b) = (encS z ++ encL r) ++ encL b
    rw [enc_split r b, ByteArray.append_assoc]
/-- What stands next is opened as it was put. -/
theorem num_back {pre post : ByteArray} {v : Nat} {n : Int} (h : goesB v n = true) :
    (OSt.num ⟨pre ++ (lowS v n.toNat ++ post), pre.size, false⟩ n) = (v, ⟨pre ++ (lowS v n.toNat ++ post), pre.size + n.toNat, false⟩) := by
  unfold goesB at h
  rw [Bool.and_eq_true, decide_eq_true_eq] at h
  have hs : n = 1 ∨ n = 2 ∨ n = 4 ∨ n = 8 := of_decide_eq_true h.1
  have hsz : (pre ++ (lowS v n.toNat ++ post)).size = pre.size + (n.toNat + post.size) := by rw [ByteArray.size_append, ByteArray.size_append, low_size]
  have hv : valN (pre ++ (lowS v n.toNat ++ post)) pre.size n.toNat = v := by
    rw [val_of n.toNat pre.size v, Nat.mod_eq_of_lt h.2]
    intro i hi
    rw [byteN_right, byteN_left _ _ (by rw [low_size]; exact hi), byteN_low hi]
  unfold OSt.num OSt.hasNum
  rw [show (!false && sizedB n && decide (n ≤ ((pre ++ (lowS v n.toNat ++ post)).size : Int) - (pre.size : Nat))) = true by
    rw [h.1, decide_eq_true (by rw [hsz]; omega)]; rfl]
  show (valN _ _ _, _) = _
  rw [hv]
theorem text_back {pre post t : ByteArray} (h : t.size ≤ 65535) :
    (OSt.text ⟨pre ++ ((lowS t.size 2 ++ t) ++ post), pre.size, false⟩ 65535) = (t, ⟨pre ++ ((lowS t.size 2 ++ t) ++ post), pre.size + 2 + t.size, false⟩) := by
  have hsz : (pre ++ ((lowS t.size 2 ++ t) ++ post)).size = pre.size + (2 + t.size + post.size) := by
    rw [ByteArray.size_append, ByteArray.size_append, ByteArray.size_append, low_size]
  have b0 : byteN (pre ++ ((lowS t.size 2 ++ t) ++ post)) pre.size = t.size % 256 := by
    have := byteN_right pre ((lowS t.size 2 ++ t) ++ post) 0
    rw [Nat.add_zero] at this
    rw [this, ByteArray.append_assoc, byteN_left _ _ (by rw [low_size]; decide), byteN_low (by decide), Nat.pow_zero, Nat.div_one]
  have b1 : byteN (pre ++ ((lowS t.size 2 ++ t) ++ post)) (pre.size + 1) = t.size / 256 % 256 := by
    rw [byteN_right, ByteArray.append_assoc, byteN_left _ _ (by rw [low_size]; decide), byteN_low (by decide), Nat.pow_one]
  have hlen : (OSt.len ⟨pre ++ ((lowS t.size 2 ++ t) ++ post), pre.size, false⟩) = t.size := by
    unfold OSt.len
    show byteN _ _ + 256 * byteN _ _ = _
    rw [b0, b1]
    omega
  have := text_yes (o := ⟨pre ++ ((lowS t.size 2 ++ t) ++ post), pre.size, false⟩) (most := 65535) rfl (by
    rw [hlen]
    show pre.size + 2 ≤ (pre ++ ((lowS t.size 2 ++ t) ++ post)).size ∧ _ ∧ pre.size + 2 + _ ≤ (pre ++ ((lowS t.size 2 ++ t) ++ post)).size
    rw [hsz]
    omega)
  rw [this, hlen]
  congr 1
  show (pre ++ ((lowS t.size 2 ++ t) ++ post)).extract (pre.size + 2) (pre.size + 2 + t.size) = t
  have e : pre ++ ((lowS t.size 2 ++ t) ++ post) = (pre ++ lowS t.size 2) ++ (t ++ post) := by rw [ByteArray.append_assoc, ByteArray.append_assoc]
  have e2 : (pre ++ lowS t.size 2).size = pre.size + 2 := by rw [ByteArray.size_append, low_size]
  rw [e, ← e2]
  exact ext_mid _ _ _
theorem put_size {p : PSt} {b : ByteArray} (h : p.s.size ≤ 60000) : (p.put b).s.size ≤ 60000 := by
  unfold PSt.put
  split
  · exact h
  · split
    · exact h
    · show (p.s ++ b).size ≤ 60000
      rw [ByteArray.size_append]; omega
theorem step_size {p : PSt} {z : It} (h : p.s.size ≤ 60000) : (p.step z).s.size ≤ 60000 := by
  unfold PSt.step PSt.text PSt.num
  split
  · split
    · exact h
    · split
      · exact h
      · exact put_size h
  · split
    · exact h
    · split
      · exact put_size h
      · exact h
theorem run_size : ∀ (l : List It) (p : PSt), p.s.size ≤ 60000 → (runP p l).s.size ≤ 60000
  | [], _, h => h
  | z :: r, p, h => run_size r (p.step z) (step_size h)
theorem enc_at {l : List It} {j : Nat} (h : j < l.length) : encL l = encL (l.take j) ++ (encS (l.getD j it0) ++ encL (l.drop (j + 1))) := by
  have e : l = l.take j ++ (l.getD j it0 :: l.drop (j + 1)) := by
    conv => lhs; rw [← List.take_append_drop j l, List.drop_eq_getElem_cons h]
    rw [List.getD_eq_getElem?_getD, List.getElem?_eq_getElem h]; rfl
  conv => lhs; rw [e, enc_split]
  rfl
theorem enc_next {l : List It} {j : Nat} (h : j < l.length) : (encL (l.take (j + 1))).size = (encL (l.take j)).size + (encS (l.getD j it0)).size := by
  rw [take_next l j h, enc_split, ByteArray.size_append]
  congr 1
  show (encS _ ++ encL []).size = _
  rw [ByteArray.size_append]
  rfl
theorem open_text {l : List It} {j : Nat} (h : j < l.length) (hz : (l.getD j it0).size = 0) (hf : FitsB (l.getD j it0)) :
    OSt.text ⟨encL l, (encL (l.take j)).size, false⟩ 65535 = ((l.getD j it0).s, ⟨encL l, (encL (l.take (j + 1))).size, false⟩) := by
  unfold FitsB at hf
  rw [if_pos hz] at hf
  have e1 := enc_at h
  have e2 := enc_next h
  have e3 : encS (l.getD j it0) = lowS (l.getD j it0).s.size 2 ++ (l.getD j it0).s := by unfold encS; rw [if_pos hz]
  rw [e3] at e1 e2
  rw [ByteArray.size_append, low_size] at e2
  rw [e2, ← Nat.add_assoc, e1]
  exact text_back hf
theorem open_num {l : List It} {j : Nat} (h : j < l.length) (hz : ¬ (l.getD j it0).size = 0) (hf : FitsB (l.getD j it0)) :
    OSt.num ⟨encL l, (encL (l.take j)).size, false⟩ (l.getD j it0).size = ((l.getD j it0).v, ⟨encL l, (encL (l.take (j + 1))).size, false⟩) := by
  unfold FitsB at hf
  rw [if_neg hz] at hf
  have e1 := enc_at h
  have e2 := enc_next h
  have e3 : encS (l.getD j it0) = lowS (l.getD j it0).v (l.getD j it0).size.toNat := by unfold encS; rw [if_neg hz]
  rw [e3] at e1 e2
  rw [low_size] at e2
  rw [e2, e1]
  exact num_back hf
end Go.Proofs.Ytndmimmkjccgmaa.Pack
