/- A journal in plain values: what it holds, and what becomes of it and of its disk. Of no one law. A journal in plain values: what it can hold; how long its records and areas are. Of no one law. What a journal can hold stays so, whatever is done to it; in plain values. Of no one law. What Open finds, in plain values: which head counts, and the records behind it. Of no one law. What a journal's disk looks like while nothing was cut, or one write was; what Open tells of it; in plain values. Of no one law. What a write of a record does to a disk, whole or cut; in plain values. Of no one law. What Append and Save leave on a disk, whole or cut; in plain values. Of no one law. -/
import Derived.Test.YtndanhacmfhlaaaGreatGBase
import Derived.Test.YtndanhacmfhlaaaGreatGDk
namespace Go.Proofs.YtndanhacmfhlaaaGreat.Jour
open Go.Proofs.YtndanhacmfhlaaaGreat.Frame Disk

/-- Numbers above that are none any more. -/
def most : Nat := 2148483648
structure JSt where
  base : ByteArray
  recs : List ByteArray
  next : Nat
  area : Nat
  used : Nat
  dead : Bool
def fitsD (q : DSt) : Bool := decide (8 ≤ q.S.length ∧ q.S.length % 2 = 0)
def roomD (q : DSt) : Nat := (q.S.length - 2) / 2
def startD (q : DSt) (a : Nat) : Nat := 2 + a * roomD q
/-- The first k of these sectors are written from a place on, the last one first. -/
def wrK (l : List ByteArray) (at_ : Nat) : Nat → DSt → DSt × Int
  | 0, q => (q, 0)
  | k + 1, q => if q.writeE (at_ + k : Nat) (l.getD k e0) = 0 then wrK l at_ k (q.write (at_ + k : Nat) (l.getD k e0)) else (q.write (at_ + k : Nat) (l.getD k e0), q.writeE (at_ + k : Nat) (l.getD k e0))
/-- The sectors of a record of this number. -/
def recL (num : Nat) (s : ByteArray) : List ByteArray := if num = 0 ∨ 60000 < s.size then [] else secL num s
def writeR (q : DSt) (at_ num : Nat) (s : ByteArray) : DSt × Int := wrK (recL num s) at_ (recL num s).length q
def headB (a : Nat) : ByteArray := ⟨#[74, UInt8.ofNat a]⟩
/-- The greatest number of the first k sectors. -/
def topK (q : DSt) : Nat → Nat
  | 0 => 0
  | k + 1 => max (topK q k) (numV (q.S.getD k none_))
def topN (q : DSt) : Nat := topK q q.S.length
structure Opened where
  q : DSt
  j : Option JSt
  e : Int
def format (q : DSt) (base : ByteArray) : Opened :=
  if fitsD q = false then ⟨q, none, 1⟩
  else if 60000 < base.size then ⟨q, none, 2⟩
  else if roomD q < sizeN base.size then ⟨q, none, 73⟩
  else if q.dead = true then ⟨q, none, 74⟩
  else if 2147483648 < topN q then ⟨q, none, 73⟩
  else
    let r := writeR q 2 (topN q + 1) base
    if r.2 ≠ 0 then ⟨r.1, none, r.2⟩
    else
      let t := writeR r.1 0 (topN q + 1) (headB 0)
      if t.2 ≠ 0 then ⟨t.1, none, t.2⟩
      else ⟨t.1, some ⟨base, [], topN q + 2, 0, sizeN base.size, false⟩, 0⟩
/-- An area's sectors. -/
def areaL (q : DSt) (a : Nat) : List ByteArray := (q.S.drop (startD q a)).take (roomD q)
/-- Is there a head of this area, and what it heads? -/
def headOk (q : DSt) (a top : Nat) : Bool :=
  okR [q.S.getD a none_] (numV (q.S.getD a none_)) && (decide (readS [q.S.getD a none_] (numV (q.S.getD a none_)) = headB a) && (okR (areaL q a) (numV (q.S.getD a none_)) && decide (numV (q.S.getD a none_) ≤ most ∧ top < numV (q.S.getD a none_))))
def headJ (q : DSt) (a : Nat) : JSt := ⟨readS (areaL q a) (numV (q.S.getD a none_)), [], numV (q.S.getD a none_) + 1, a, readN (areaL q a) (numV (q.S.getD a none_)), false⟩
/-- The best of the first k heads, and its number. -/
def bestK (q : DSt) : Nat → Nat × Option JSt
  | 0 => (0, none)
  | k + 1 => if headOk q k (bestK q k).1 = true then (numV (q.S.getD k none_), some (headJ q k)) else bestK q k
/-- One record more, if it is there. -/
def nextOk (q : DSt) (j : JSt) : Bool := okR ((areaL q j.area).drop j.used) j.next
def nextJ (q : DSt) (j : JSt) : JSt := ⟨j.base, j.recs ++ [readS ((areaL q j.area).drop j.used) j.next], j.next + 1, j.area, j.used + readN ((areaL q j.area).drop j.used) j.next, j.dead⟩
def goK (q : DSt) : Nat → JSt → JSt
  | 0, j => j
  | k + 1, j => if nextOk q j = true then goK q k (nextJ q j) else j
def opened (q : DSt) : Option JSt × Int :=
  if fitsD q = false then (none, 1)
  else if q.dead = true then (none, 74)
  else match (bestK q 2).2 with
    | none => (none, 11)
    | some j => (some (goK q 5000 j), 0)
def leftN (q : DSt) (j : JSt) : Int := (roomD q : Int) - j.used
structure Done where
  q : DSt
  j : JSt
  e : Int
def append (q : DSt) (j : JSt) (s : ByteArray) : Done :=
  if j.dead = true then ⟨q, j, 74⟩
  else if 60000 < s.size then ⟨q, j, 2⟩
  else if leftN q j < sizeN s.size ∨ most < j.next then ⟨q, j, 73⟩
  else
    let r := writeR q (startD q j.area + j.used) j.next s
    if r.2 ≠ 0 then ⟨r.1, ⟨j.base, j.recs, j.next, j.area, j.used, true⟩, r.2⟩
    else ⟨r.1, ⟨j.base, j.recs ++ [s], j.next + 1, j.area, j.used + sizeN s.size, j.dead⟩, 0⟩
def save (q : DSt) (j : JSt) (s : ByteArray) : Done :=
  if j.dead = true then ⟨q, j, 74⟩
  else if 60000 < s.size then ⟨q, j, 2⟩
  else if roomD q < sizeN s.size ∨ most < j.next then ⟨q, j, 73⟩
  else
    let r := writeR q (startD q (1 - j.area)) j.next s
    if r.2 ≠ 0 then ⟨r.1, ⟨j.base, j.recs, j.next, j.area, j.used, true⟩, r.2⟩
    else
      let t := writeR r.1 (1 - j.area) j.next (headB (1 - j.area))
      if t.2 ≠ 0 then ⟨t.1, ⟨j.base, j.recs, j.next, j.area, j.used, true⟩, t.2⟩
      else ⟨t.1, ⟨s, [], j.next + 1, 1 - j.area, sizeN s.size, j.dead⟩, 0⟩
end Go.Proofs.YtndanhacmfhlaaaGreat.Jour
namespace Go.Proofs.YtndanhacmfhlaaaGreat.Jour
open Go.Proofs.YtndanhacmfhlaaaGreat.Frame Disk

/-- What a journal can hold. -/
structure JSt.Fit (j : JSt) (q : DSt) : Prop where
  area : j.area ≤ 1
  used : j.used ≤ roomD q
  recs : j.recs.length + 1 ≤ j.used
  next : j.next ≤ 2148500000
theorem rec_len (num : Nat) (s : ByteArray) : (recL num s).length ≤ 300 := by
  unfold recL
  split
  · simp
  · rename_i h
    rw [secL_length]
    have := size_most (n := s.size) (by omega)
    omega
theorem rec_size (num : Nat) (s : ByteArray) : ∀ j, j < (recL num s).length → ((recL num s).getD j e0).size = 256 := by
  intro j hj
  unfold recL at *
  split
  · rename_i h
    rw [if_pos h] at hj
    exact absurd hj (Nat.not_lt_zero _)
  · rename_i h
    rw [if_neg h, secL_length] at hj
    rw [List.getD_eq_getElem?_getD, secL_at hj]
    exact sec_size (piece_size hj)
theorem area_len {q : DSt} {a : Nat} (hk : 8 ≤ q.S.length) (ha : a ≤ 1) : startD q a + roomD q ≤ q.S.length ∧ (areaL q a).length = roomD q ∧ 3 ≤ roomD q := by
  have h1 : startD q a + roomD q ≤ q.S.length := by
    unfold startD roomD
    rcases Nat.le_one_iff_eq_zero_or_eq_one.1 ha with rfl | rfl <;> omega
  refine ⟨h1, ?_, by unfold roomD; omega⟩
  unfold areaL
  rw [List.length_take, List.length_drop]
  omega
end Go.Proofs.YtndanhacmfhlaaaGreat.Jour
namespace Go.Proofs.YtndanhacmfhlaaaGreat.Jour
open Go.Proofs.YtndanhacmfhlaaaGreat.Frame Disk

theorem write_S (q : DSt) (i : Int) (s : ByteArray) : (q.write i s).S.length = q.S.length := by
  unfold DSt.write
  split
  · split
    · show (q.S.set _ _).length = _; rw [List.length_set]
    · show (q.S.set _ _).length = _; rw [List.length_set]
  · rfl
theorem wrK_S (l : List ByteArray) (at_ : Nat) : ∀ (j : Nat) (q : DSt), (wrK l at_ j q).1.S.length = q.S.length
  | 0, _ => rfl
  | j + 1, q => by
    unfold wrK
    split
    · rw [wrK_S l at_ j, write_S]
    · exact write_S _ _ _
theorem writeR_S (q : DSt) (at_ num : Nat) (s : ByteArray) : (writeR q at_ num s).1.S.length = q.S.length := wrK_S _ _ _ _
theorem room_same {q q' : DSt} (h : q'.S.length = q.S.length) : roomD q' = roomD q := by unfold roomD; rw [h]
theorem size_pos (n : Nat) : 1 ≤ sizeN n := by unfold sizeN; omega
theorem fit_dead {j : JSt} {q q' : DSt} (h : j.Fit q) (hq : q'.S.length = q.S.length) (b : Bool) : JSt.Fit ⟨j.base, j.recs, j.next, j.area, j.used, b⟩ q' :=
  ⟨h.area, by rw [room_same hq]; exact h.used, h.recs, h.next⟩
theorem append_fit {q : DSt} {j : JSt} (h : j.Fit q) (s : ByteArray) : (append q j s).j.Fit (append q j s).q ∧ (append q j s).q.S.length = q.S.length := by
  unfold append
  by_cases h1 : j.dead = true
  · rw [if_pos h1]; exact ⟨h, rfl⟩
  · rw [if_neg h1]
    by_cases h2 : 60000 < s.size
    · rw [if_pos h2]; exact ⟨h, rfl⟩
    · rw [if_neg h2]
      by_cases h3 : leftN q j < sizeN s.size ∨ most < j.next
      · rw [if_pos h3]; exact ⟨h, rfl⟩
      · rw [if_neg h3]
        have hS := writeR_S q (startD q j.area + j.used) j.next s
        dsimp only
        split
        · exact ⟨fit_dead h hS true, hS⟩
        · have hp := size_pos s.size
          have hr := h.recs
          have hm : j.next ≤ 2148483648 := by unfold most at h3; omega
          unfold leftN at h3
          refine ⟨⟨h.area, ?_, ?_, ?_⟩, hS⟩
          · show j.used + sizeN s.size ≤ roomD _
            rw [room_same hS]; omega
          · show (j.recs ++ [s]).length + 1 ≤ j.used + sizeN s.size
            rw [List.length_append, List.length_singleton]; omega
          · show j.next + 1 ≤ 2148500000
            omega
theorem save_fit {q : DSt} {j : JSt} (h : j.Fit q) (s : ByteArray) : (save q j s).j.Fit (save q j s).q ∧ (save q j s).q.S.length = q.S.length := by
  unfold save
  by_cases h1 : j.dead = true
  · rw [if_pos h1]; exact ⟨h, rfl⟩
  · rw [if_neg h1]
    by_cases h2 : 60000 < s.size
    · rw [if_pos h2]; exact ⟨h, rfl⟩
    · rw [if_neg h2]
      by_cases h3 : roomD q < sizeN s.size ∨ most < j.next
      · rw [if_pos h3]; exact ⟨h, rfl⟩
      · rw [if_neg h3]
        have hS := writeR_S q (startD q (1 - j.area)) j.next s
        have hS2 := writeR_S (writeR q (startD q (1 - j.area)) j.next s).1 (1 - j.area) j.next (headB (1 - j.area))
        dsimp only
        split
        · exact ⟨fit_dead h hS true, hS⟩
        · split
          · exact ⟨fit_dead h (hS2.trans hS) true, hS2.trans hS⟩
          · have hp := size_pos s.size
            have hm : j.next ≤ 2148483648 := by unfold most at h3; omega
            refine ⟨⟨by show 1 - j.area ≤ 1; omega, ?_, ?_, ?_⟩, hS2.trans hS⟩
            · show sizeN s.size ≤ roomD _
              rw [room_same (hS2.trans hS)]; omega
            · show 0 + 1 ≤ sizeN s.size
              omega
            · show j.next + 1 ≤ 2148500000
              omega
theorem format_fit {q : DSt} {s : ByteArray} {j : JSt} (h : (format q s).j = some j) : j.Fit (format q s).q ∧ (format q s).q.S.length = q.S.length := by
  unfold format at h ⊢
  by_cases h1 : fitsD q = false
  · rw [if_pos h1] at h; cases h
  · rw [if_neg h1] at h ⊢
    by_cases h2 : 60000 < s.size
    · rw [if_pos h2] at h; cases h
    · rw [if_neg h2] at h ⊢
      by_cases h3 : roomD q < sizeN s.size
      · rw [if_pos h3] at h; cases h
      · rw [if_neg h3] at h ⊢
        by_cases h4 : q.dead = true
        · rw [if_pos h4] at h; cases h
        · rw [if_neg h4] at h ⊢
          by_cases h5 : 2147483648 < topN q
          · rw [if_pos h5] at h; cases h
          · rw [if_neg h5] at h ⊢
            have hS := writeR_S q 2 (topN q + 1) s
            have hS2 := writeR_S (writeR q 2 (topN q + 1) s).1 0 (topN q + 1) (headB 0)
            dsimp only at h ⊢
            by_cases h6 : (writeR q 2 (topN q + 1) s).2 ≠ 0
            · rw [if_pos h6] at h; cases h
            · rw [if_neg h6] at h ⊢
              by_cases h7 : (writeR (writeR q 2 (topN q + 1) s).1 0 (topN q + 1) (headB 0)).2 ≠ 0
              · rw [if_pos h7] at h; cases h
              · rw [if_neg h7] at h ⊢
                injection h with h
                subst h
                have hp := size_pos s.size
                refine ⟨⟨Nat.zero_le _, ?_, ?_, ?_⟩, hS2.trans hS⟩
                · show sizeN s.size ≤ roomD _
                  rw [room_same (hS2.trans hS)]; omega
                · show 0 + 1 ≤ sizeN s.size
                  omega
                · show topN q + 2 ≤ 2148500000
                  omega
theorem wrK_fit (l : List ByteArray) (at_ : Nat) : ∀ (j : Nat) (q : DSt) (k m : Nat), q.Fit k m → (wrK l at_ j q).1.Fit k (m + j)
  | 0, _, _, _, h => h
  | j + 1, q, k, m, h => by
    unfold wrK
    split
    · have := wrK_fit l at_ j _ k (m + 1) (h.write (at_ + j : Nat) (l.getD j e0))
      exact this.more (by omega)
    · exact (h.write _ _).more (by omega)
theorem write_fit (q : DSt) (at_ num : Nat) (s : ByteArray) {k m : Nat} (h : q.Fit k m) : (writeR q at_ num s).1.Fit k (m + 300) := by
  unfold writeR
  exact (wrK_fit _ _ _ q k m h).more (by have := rec_len num s; omega)
end Go.Proofs.YtndanhacmfhlaaaGreat.Jour
namespace Go.Proofs.YtndanhacmfhlaaaGreat.Jour
open Go.Proofs.YtndanhacmfhlaaaGreat.Frame Disk

theorem best_yes {q : DSt} {k : Nat} (h : headOk q k (bestK q k).1 = true) : bestK q (k + 1) = (numV (q.S.getD k none_), some (headJ q k)) := by
  show (if headOk q k (bestK q k).1 = true then _ else _) = _
  rw [if_pos h]
theorem best_no {q : DSt} {k : Nat} (h : headOk q k (bestK q k).1 = false) : bestK q (k + 1) = bestK q k := by
  show (if headOk q k (bestK q k).1 = true then _ else _) = _
  rw [if_neg (by rw [h]; decide)]
theorem ok_len {l : List ByteArray} {num : Nat} (h : okR l num = true) : 1 ≤ readN l num ∧ readN l num ≤ l.length := by
  unfold readN
  rw [if_pos h]
  unfold okR at h
  simp only [Bool.and_eq_true, decide_eq_true_iff] at h
  exact h.2.1
theorem head_yes {q : DSt} {a t : Nat} (h : headOk q a t = true) : okR (areaL q a) (numV (q.S.getD a none_)) = true ∧ numV (q.S.getD a none_) ≤ most := by
  unfold headOk at h
  simp only [Bool.and_eq_true, decide_eq_true_iff] at h
  exact ⟨h.2.2.1, h.2.2.2.1⟩
theorem best_some {q : DSt} {j : JSt} (h : (bestK q 2).2 = some j) : ∃ a, a ≤ 1 ∧ j = headJ q a ∧ okR (areaL q a) (numV (q.S.getD a none_)) = true ∧ numV (q.S.getD a none_) ≤ most := by
  by_cases h1 : headOk q 1 (bestK q 1).1 = true
  · rw [best_yes h1] at h
    injection h with h
    exact ⟨1, Nat.le_refl _, h.symm, head_yes h1⟩
  · rw [best_no (k := 1) (by simpa using h1)] at h
    by_cases h0 : headOk q 0 (bestK q 0).1 = true
    · rw [best_yes h0] at h
      injection h with h
      exact ⟨0, Nat.zero_le _, h.symm, head_yes h0⟩
    · rw [best_no (k := 0) (by simpa using h0)] at h
      cases h
/-- What holds of a journal that is being read, k rounds on. -/
structure JIn (q : DSt) (a k : Nat) (j : JSt) : Prop where
  area : j.area = a
  used : j.used ≤ roomD q
  recs : j.recs.length + 1 ≤ j.used
  next : j.next ≤ 2148483649 + k
  dead : j.dead = false
theorem JIn.head {q : DSt} {a : Nat} (hk : 8 ≤ q.S.length) (ha : a ≤ 1) (h : okR (areaL q a) (numV (q.S.getD a none_)) = true) (hm : numV (q.S.getD a none_) ≤ most) : JIn q a 0 (headJ q a) := by
  have h1 := ok_len h
  rw [(area_len hk ha).2.1] at h1
  unfold most at hm
  refine ⟨rfl, h1.2, h1.1, ?_, rfl⟩
  show numV (q.S.getD a none_) + 1 ≤ _
  omega
theorem JIn.step {q : DSt} {a k : Nat} {j : JSt} (hk : 8 ≤ q.S.length) (ha : a ≤ 1) (h : JIn q a k j) (hn : nextOk q j = true) : JIn q a (k + 1) (nextJ q j) := by
  have h1 := ok_len hn
  rw [List.length_drop, h.area, (area_len hk ha).2.1] at h1
  have hu := h.used
  have hr := h.recs
  have hx := h.next
  refine ⟨h.area, ?_, ?_, ?_, h.dead⟩
  · show j.used + readN ((areaL q j.area).drop j.used) j.next ≤ _
    rw [h.area]; omega
  · show (j.recs ++ [_]).length + 1 ≤ j.used + readN ((areaL q j.area).drop j.used) j.next
    rw [List.length_append, List.length_singleton, h.area]; omega
  · show j.next + 1 ≤ _
    omega
theorem JIn.go {q : DSt} {a : Nat} (hk : 8 ≤ q.S.length) (ha : a ≤ 1) : ∀ (n : Nat) (k : Nat) (j : JSt), JIn q a k j → JIn q a (k + n) (goK q n j)
  | 0, _, _, h => h
  | n + 1, k, j, h => by
    by_cases hn : nextOk q j = true
    · have := JIn.go hk ha n (k + 1) _ (h.step hk ha hn)
      rw [show k + 1 + n = k + (n + 1) by omega] at this
      unfold goK
      rwa [if_pos hn]
    · unfold goK
      rw [if_neg hn]
      exact ⟨h.area, h.used, h.recs, by have := h.next; omega, h.dead⟩
theorem JIn.fit {q : DSt} {a k : Nat} {j : JSt} (ha : a ≤ 1) (hk : k ≤ 5000) (h : JIn q a k j) : j.Fit q :=
  ⟨by rw [h.area]; exact ha, h.used, h.recs, by have := h.next; omega⟩
theorem opened_fit {q : DSt} {j : JSt} (hk : 8 ≤ q.S.length) (h : (opened q).1 = some j) : j.Fit q := by
  unfold opened at h
  by_cases h1 : fitsD q = false
  · rw [if_pos h1] at h; cases h
  · rw [if_neg h1] at h
    by_cases h2 : q.dead = true
    · rw [if_pos h2] at h; cases h
    · rw [if_neg h2] at h
      cases h3 : (bestK q 2).2 with
      | none => rw [h3] at h; cases h
      | some j0 =>
        rw [h3] at h
        injection h with h
        obtain ⟨a, ha, rfl, k1, k2⟩ := best_some h3
        have := JIn.go hk ha 5000 0 _ (JIn.head hk ha k1 k2)
        rw [h] at this
        exact this.fit ha (by omega)
theorem goK_no {q : DSt} {j : JSt} (h : nextOk q j = false) : ∀ n, goK q n j = j
  | 0 => rfl
  | n + 1 => by unfold goK; rw [h]; rfl
theorem goK_yes {q : DSt} {j : JSt} (h : nextOk q j = true) {n : Nat} (hn : n < 5000) : goK q (5000 - n) j = goK q (5000 - (n + 1)) (nextJ q j) := by
  rw [show 5000 - n = (5000 - (n + 1)) + 1 by omega]
  show (if nextOk q j = true then _ else _) = _
  rw [if_pos h]
end Go.Proofs.YtndanhacmfhlaaaGreat.Jour
namespace Go.Proofs.YtndanhacmfhlaaaGreat.Jour
open Go.Proofs.YtndanhacmfhlaaaGreat.Frame Disk

/-- What stands in a sector. -/
def DSt.at_ (q : DSt) (i : Nat) : ByteArray := q.S.getD i none_
/-- From place p on stands the record num of the text s. -/
def LieAt (f : Nat → ByteArray) (p num : Nat) (s : ByteArray) : Prop := s.size ≤ 60000 ∧ ∀ i, i < sizeN s.size → f (p + i) = secS num (sizeN s.size) i (pieceS s i)
def lenL : List ByteArray → Nat
  | [] => 0
  | s :: l => sizeN s.size + lenL l
def AllAt (f : Nat → ByteArray) : Nat → Nat → List ByteArray → Prop
  | _, _, [] => True
  | p, num, s :: l => LieAt f p num s ∧ AllAt f (p + sizeN s.size) (num + 1) l
theorem lenL_append (l : List ByteArray) (s : ByteArray) : lenL (l ++ [s]) = lenL l + sizeN s.size := by
  induction l with
  | nil => show sizeN s.size + 0 = 0 + sizeN s.size; omega
  | cons x l ih => show sizeN x.size + lenL (l ++ [s]) = sizeN x.size + lenL l + sizeN s.size; omega
theorem allAt_append {f : Nat → ByteArray} {s : ByteArray} : ∀ {l : List ByteArray} {p num : Nat}, AllAt f p num l → LieAt f (p + lenL l) (num + l.length) s → AllAt f p num (l ++ [s])
  | [], p, num, _, h => ⟨h, trivial⟩
  | x :: l, p, num, h, hs => ⟨h.1, allAt_append h.2 (by
      have e1 : p + lenL (x :: l) = p + sizeN x.size + lenL l := by show p + (sizeN x.size + lenL l) = _; omega
      have e2 : num + (x :: l).length = num + 1 + l.length := by rw [List.length_cons]; omega
      rw [← e1, ← e2]; exact hs)⟩
theorem lieAt_congr {f g : Nat → ByteArray} {p num : Nat} {s : ByteArray} (h : LieAt f p num s) (hk : ∀ i, p ≤ i → i < p + sizeN s.size → g i = f i) : LieAt g p num s :=
  ⟨h.1, fun i hi => (hk (p + i) (by omega) (by omega)).trans (h.2 i hi)⟩
theorem allAt_congr {f g : Nat → ByteArray} : ∀ {l : List ByteArray} {p num : Nat}, AllAt f p num l → (∀ i, p ≤ i → i < p + lenL l → g i = f i) → AllAt g p num l
  | [], _, _, _, _ => trivial
  | x :: l, p, num, h, hk => ⟨lieAt_congr h.1 (fun i h1 h2 => hk i h1 (by show i < p + (sizeN x.size + lenL l); omega)), allAt_congr h.2 (fun i h1 h2 => hk i (by omega) (by show i < p + (sizeN x.size + lenL l); omega))⟩
theorem take_lies {S : List ByteArray} {p num : Nat} {s : ByteArray} (h : LieAt (fun i => S.getD i none_) p num s) (hp : p + sizeN s.size ≤ S.length) : (S.drop p).take (sizeN s.size) = secL num s := by
  apply List.ext_getElem?
  intro i
  by_cases hi : i < sizeN s.size
  · rw [List.getElem?_take_of_lt hi, List.getElem?_drop, secL_at hi, List.getElem?_eq_getElem (by omega)]
    have := h.2 i hi
    dsimp only at this
    rw [List.getD_eq_getElem?_getD, List.getElem?_eq_getElem (by omega)] at this
    exact congrArg some this
  · rw [List.getElem?_eq_none (by rw [List.length_take, List.length_drop]; omega), List.getElem?_eq_none (by rw [secL_length]; omega)]
theorem area_drop (q : DSt) (a u k : Nat) (h : u + k ≤ roomD q) : ((areaL q a).drop u).take k = (q.S.drop (startD q a + u)).take k := by
  unfold areaL
  rw [List.drop_take, List.take_take, List.drop_drop, Nat.min_eq_left (by omega)]
theorem area_first (q : DSt) (a u : Nat) (h : u < roomD q) (hk : 8 ≤ q.S.length) (ha : a ≤ 1) : ((areaL q a).drop u).getD 0 e0 = q.S.getD (startD q a + u) none_ := by
  have h1 := (area_len (q := q) hk ha).1
  have := area_drop q a u 1 (by omega)
  have h2 : (((areaL q a).drop u).take 1)[0]? = ((q.S.drop (startD q a + u)).take 1)[0]? := by rw [this]
  rw [List.getElem?_take_of_lt (by omega), List.getElem?_take_of_lt (by omega), List.getElem?_drop (i := startD q a + u)] at h2
  rw [List.getD_eq_getElem?_getD, h2, List.getD_eq_getElem?_getD, Nat.add_zero]
  rfl
theorem room_small {q : DSt} (hk : 8 ≤ q.S.length ∧ q.S.length ≤ 4096) : 3 ≤ roomD q ∧ roomD q ≤ 2047 := by unfold roomD; omega
/-- What a journal's disk looks like. -/
structure Inv (q : DSt) (j : JSt) (m : Nat) : Prop where
  fits : fitsD q = true
  most : q.S.length ≤ 4096
  area : j.area ≤ 1
  used : j.used = lenL (j.base :: j.recs)
  room : j.used ≤ roomD q
  next : j.next = m + 1 + j.recs.length
  pos : 1 ≤ m
  low : m ≤ Jour.most
  head : LieAt (DSt.at_ q) j.area m (headB j.area)
  recs : AllAt (DSt.at_ q) (startD q j.area) m (j.base :: j.recs)
  nums : ∀ i, i < q.S.length → numV (DSt.at_ q i) ≤ j.next
  tail : j.used < roomD q → numV (DSt.at_ q (startD q j.area + j.used)) ≠ j.next
  other : numV (DSt.at_ q (1 - j.area)) < m
  top : j.next ≤ 2148483649
theorem head_one (a : Nat) : sizeN (headB a).size = 1 := by unfold sizeN; rw [show (headB a).size = 2 from rfl]
theorem lie_num {f : Nat → ByteArray} {p num i : Nat} {s : ByteArray} (h : LieAt f p num s) (hn : num < 4294967296) (hi : i < sizeN s.size) : numV (f (p + i)) = num := by
  rw [h.2 i hi]
  exact num_sec (piece_size hi) hn
theorem read_lie {q : DSt} {a u num : Nat} {s : ByteArray} (h : LieAt (DSt.at_ q) (startD q a + u) num s) (hk : 8 ≤ q.S.length) (ha : a ≤ 1) (hu : u + sizeN s.size ≤ roomD q) (h0 : num ≠ 0) (hn : num < 4294967296) :
    okR ((areaL q a).drop u) num = true ∧ readS ((areaL q a).drop u) num = s ∧ readN ((areaL q a).drop u) num = sizeN s.size := by
  have h1 := (area_len (q := q) hk ha).1
  exact read_is h0 hn h.1 (by rw [area_drop q a u _ hu]; exact take_lies h (by omega))
theorem lenL_ge (l : List ByteArray) : l.length ≤ lenL l := by
  induction l with
  | nil => exact Nat.le_refl _
  | cons x l ih =>
    have := size_pos x.size
    show l.length + 1 ≤ sizeN x.size + lenL l
    omega
/-- Records are taken up till none of the next number is there. -/
theorem go_all {q : DSt} (hk : 8 ≤ q.S.length) : ∀ (l : List ByteArray) (st : JSt) (n : Nat), st.area ≤ 1 → st.next ≠ 0 → st.next + l.length < 4294967296 → AllAt (DSt.at_ q) (startD q st.area + st.used) st.next l → st.used + lenL l ≤ roomD q → l.length < n →
    (st.used + lenL l < roomD q → numV (DSt.at_ q (startD q st.area + (st.used + lenL l))) ≠ st.next + l.length) →
    goK q n st = ⟨st.base, st.recs ++ l, st.next + l.length, st.area, st.used + lenL l, st.dead⟩
  | [], st, n, ha, h0, hn, _, hu, _, he => by
    have hno : nextOk q st = false := by
      unfold nextOk
      by_cases hr : st.used < roomD q
      · refine okR_first ?_
        rw [area_first q st.area st.used hr hk ha]
        exact he hr
      · rw [List.drop_of_length_le (by rw [(area_len (q := q) hk ha).2.1]; omega)]
        exact okR_nil _
    rw [goK_no hno]
    simp [lenL]
  | s :: l, st, n + 1, ha, h0, hn, hA, hu, hl, he => by
    rw [List.length_cons] at hn hl he
    have e1 : lenL (s :: l) = sizeN s.size + lenL l := rfl
    rw [e1] at hu he
    obtain ⟨r1, r2, r3⟩ := read_lie hA.1 hk ha (by omega) h0 (by omega)
    have hyes : nextOk q st = true := r1
    have hst : nextJ q st = ⟨st.base, st.recs ++ [s], st.next + 1, st.area, st.used + sizeN s.size, st.dead⟩ := by unfold nextJ; rw [r2, r3]
    have ih := go_all hk l ⟨st.base, st.recs ++ [s], st.next + 1, st.area, st.used + sizeN s.size, st.dead⟩ n ha (by simp) (by show st.next + 1 + l.length < _; omega) (by
        show AllAt _ (startD q st.area + (st.used + sizeN s.size)) (st.next + 1) l
        rw [← Nat.add_assoc]; exact hA.2) (by show st.used + sizeN s.size + lenL l ≤ _; omega) (by omega) (by
        show st.used + sizeN s.size + lenL l < roomD q → numV (DSt.at_ q (startD q st.area + (st.used + sizeN s.size + lenL l))) ≠ st.next + 1 + l.length
        intro h
        have := he (by omega)
        rw [show st.used + sizeN s.size + lenL l = st.used + (sizeN s.size + lenL l) by omega, show st.next + 1 + l.length = st.next + (l.length + 1) by omega]
        exact this)
    unfold goK
    rw [if_pos hyes, hst, ih, e1, List.length_cons]
    simp only [List.append_assoc, List.singleton_append]
    congr 1 <;> omega
theorem head_lie {q : DSt} {j : JSt} {m : Nat} (h : Inv q j m) : numV (q.S.getD j.area none_) = m ∧ ∀ top, top < m → headOk q j.area top = true := by
  have h8 : 8 ≤ q.S.length := (of_decide_eq_true h.fits).1
  have hlow := h.low
  have hm : m < 4294967296 := by unfold Jour.most at hlow; omega
  have h0 : m ≠ 0 := by have := h.pos; omega
  have hx := h.head
  have hn : numV (DSt.at_ q (j.area + 0)) = m := lie_num hx hm (by rw [head_one]; omega)
  have hn' : numV (q.S.getD j.area none_) = m := hn
  refine ⟨hn', fun top ht => ?_⟩
  unfold headOk
  have hr := read_is (l := [q.S.getD j.area none_]) (s := headB j.area) h0 hm (by show 2 ≤ 60000; omega) (by
    apply List.ext_getElem?
    intro i
    match i with
    | 0 =>
      rw [secL_at (by rw [head_one]; omega), List.getElem?_take_of_lt (by rw [head_one]; omega)]
      exact congrArg some (hx.2 0 (by rw [head_one]; omega))
    | i + 1 =>
      rw [List.getElem?_eq_none (by rw [List.length_take, head_one]; show min 1 1 ≤ i + 1; omega), List.getElem?_eq_none (by rw [secL_length, head_one]; omega)])
  have hl : lenL (j.base :: j.recs) = sizeN j.base.size + lenL j.recs := rfl
  have hu := h.used
  have hrm := h.room
  have hb := read_lie (u := 0) h.recs.1 h8 h.area (by omega) h0 hm
  rw [List.drop_zero] at hb
  rw [hn', hr.1, hr.2.1, hb.1]
  simp [hlow, ht]
theorem open_inv {q : DSt} {j : JSt} {m : Nat} (h : Inv q j m) (hd : q.dead = false) : opened q = (some ⟨j.base, j.recs, j.next, j.area, j.used, false⟩, 0) := by
  have h8 : 8 ≤ q.S.length := (of_decide_eq_true h.fits).1
  have hlow := h.low
  have hm : m < 4294967296 := by unfold Jour.most at hlow; omega
  have h0 : m ≠ 0 := by have := h.pos; omega
  obtain ⟨hn, hok⟩ := head_lie h
  have hl : lenL (j.base :: j.recs) = sizeN j.base.size + lenL j.recs := rfl
  have hu := h.used
  have hrm := h.room
  have hb := read_lie (u := 0) h.recs.1 h8 h.area (by omega) h0 hm
  rw [List.drop_zero] at hb
  have hJ : headJ q j.area = ⟨j.base, [], m + 1, j.area, sizeN j.base.size, false⟩ := by unfold headJ; rw [hn, hb.2.1, hb.2.2]
  have hno : ∀ top, m ≤ top → headOk q (1 - j.area) top = false := by
    intro top ht
    rw [Bool.eq_false_iff]
    intro h2
    unfold headOk at h2
    simp only [Bool.and_eq_true, decide_eq_true_iff] at h2
    have h3 := h.other
    have h4 : top < numV (q.S.getD (1 - j.area) none_) := h2.2.2.2.2
    have h5 : numV (q.S.getD (1 - j.area) none_) < m := h3
    omega
  have hbest : bestK q 2 = (m, some (headJ q j.area)) := by
    rcases Nat.le_one_iff_eq_zero_or_eq_one.1 h.area with e | e
    · rw [e] at hok hno hn ⊢
      have b1 : bestK q 1 = (m, some (headJ q 0)) := by
        rw [best_yes (k := 0) (hok 0 (by omega)), hn]
      rw [best_no (k := 1) (by rw [b1]; exact hno m (Nat.le_refl _)), b1]
    · rw [e] at hok hno hn ⊢
      have b1 : (bestK q 1).1 < m := by
        by_cases hz : headOk q 0 (bestK q 0).1 = true
        · rw [best_yes hz]
          have := h.other
          rw [e] at this
          exact this
        · rw [best_no (by simpa using hz)]
          show 0 < m
          omega
      rw [best_yes (k := 1) (hok _ b1), hn]
  unfold opened
  rw [if_neg (by rw [h.fits]; decide), if_neg (by rw [hd]; decide), hbest]
  dsimp only
  rw [hJ]
  have hlen := lenL_ge j.recs
  have hrs := room_small ⟨h8, h.most⟩
  have hnx := h.next
  have htp := h.top
  have := go_all h8 j.recs ⟨j.base, [], m + 1, j.area, sizeN j.base.size, false⟩ 5000 h.area (by simp) (by show m + 1 + j.recs.length < _; omega) h.recs.2 (by show sizeN j.base.size + lenL j.recs ≤ _; omega) (by omega) (by
    show sizeN j.base.size + lenL j.recs < roomD q → numV (DSt.at_ q (startD q j.area + (sizeN j.base.size + lenL j.recs))) ≠ m + 1 + j.recs.length
    intro hlt
    rw [← hl, ← hu, ← hnx]
    exact h.tail (by omega))
  rw [this]
  dsimp only
  rw [← hl, ← hu, ← hnx, List.nil_append]
end Go.Proofs.YtndanhacmfhlaaaGreat.Jour
namespace Go.Proofs.YtndanhacmfhlaaaGreat.Jour
open Go.Proofs.YtndanhacmfhlaaaGreat.Frame Disk Pack

/-- A sector of one number at both ends. -/
def Whole (x : ByteArray) : Prop := x.size = 256 ∧ x.extract 0 4 = x.extract 252 256
theorem zero_whole : Whole zero256 ∧ numV zero256 = 0 := by
  have hx : zero256.extract 0 4 = zero256.extract 252 256 := by kernel_rfl
  refine ⟨⟨zero_size, hx⟩, ?_⟩
  unfold numV
  rw [if_pos ⟨zero_size, hx⟩]
  kernel_rfl
theorem sec_whole {num n i : Nat} {p : ByteArray} (hp : p.size = 244) : Whole (secS num n i p) := ⟨sec_size hp, by rw [sec_four, sec_last hp]⟩
theorem whole_low {x : ByteArray} (h : Whole x) : x.extract 0 4 = lowS (numV x) 4 ∧ x.extract 252 256 = lowS (numV x) 4 := by
  have h1 := low_back x (a := 0) (n := 4) (by rw [h.1]; omega)
  have h2 : numV x = valN x 0 4 := by unfold numV; rw [if_pos (show x.size = 256 ∧ x.extract 0 4 = x.extract 252 256 from h)]
  rw [← h2] at h1
  exact ⟨h1.symm, by rw [← h.2]; exact h1.symm⟩
/-- A cut write over a whole sector of another number. -/
theorem torn_is {a b : ByteArray} {num p : Nat} (ha : Whole a) (hb : Whole b) (hn : numV b = num) (h0 : num ≠ 0) (hne : numV a ≠ num) (hp : p ≤ 256) :
    (numV (torn a b p) = 0 ∨ numV (torn a b p) = numV a ∨ numV (torn a b p) = num) ∧ (numV (torn a b p) = num ↔ torn a b p = b) := by
  have e : torn a b p = tornS b a p := by unfold torn tornS; rw [ha.1]
  have h1 := whole_low ha
  have h2 := whole_low hb
  rw [hn] at h2
  have := torn_num ha.1 hb.1 h1.1 h1.2 h2.1 h2.2 (numV_lt a) (by rw [← hn]; exact numV_lt b) h0 hne hp
  rw [e]
  exact ⟨this.1, this.2.1⟩
/-- The sectors l stand from at_ on, all else as it was. -/
def putF (f : Nat → ByteArray) (at_ : Nat) (l : List ByteArray) (t : Nat) (i : Nat) : ByteArray := if at_ + t ≤ i ∧ i < at_ + l.length then l.getD (i - at_) e0 else f i
/-- A disk that takes writes. -/
structure Live (q : DSt) : Prop where
  dead : q.dead = false
  size : ∀ i, i < q.S.length → (q.S.getD i none_).size = 256
  part : 0 ≤ q.part ∧ q.part ≤ 256
theorem Live.of_fit {q : DSt} {k m : Nat} (h : q.Fit k m) (hd : q.dead = false) : Live q := ⟨hd, fun i hi => h.size i (by rw [← h.len]; exact hi), h.part⟩
/-- What a write of some sectors comes to. -/
def WrDone (q : DSt) (at_ : Nat) (l : List ByteArray) (r : DSt × Int) (k : Nat) : Prop :=
  r.1.S.length = q.S.length ∧
  ((r.2 = 0 ∧ r.1.dead = false ∧ r.1.part = q.part ∧ r.1.armed = q.armed ∧ r.1.writes = q.writes + k ∧ ∀ i, DSt.at_ r.1 i = if at_ ≤ i ∧ i < at_ + k then l.getD (i - at_) e0 else DSt.at_ q i) ∨
   (q.armed = true ∧ r.2 = 74 ∧ r.1.dead = true ∧ ∃ t p, t < k ∧ p ≤ 256 ∧ ∀ i, DSt.at_ r.1 i = if at_ + t < i ∧ i < at_ + k then l.getD (i - at_) e0 else if i = at_ + t then torn (DSt.at_ q i) (l.getD t e0) p else DSt.at_ q i))
theorem set_at {S : List ByteArray} {n i : Nat} {x : ByteArray} (hn : n < S.length) : (S.set n x).getD i none_ = if i = n then x else S.getD i none_ := by
  rw [getD_set]
  by_cases h : i = n
  · rw [if_pos ⟨h.symm, by omega⟩, if_pos h]
  · rw [if_neg (fun e => h e.1.symm), if_neg h]
theorem wrK_done (l : List ByteArray) (at_ : Nat) : ∀ (k : Nat) (q : DSt), Live q → k ≤ l.length → at_ + k ≤ q.S.length → (∀ i, i < k → (l.getD i e0).size = 256) → WrDone q at_ l (wrK l at_ k q) k
  | 0, q, hq, _, _, _ => ⟨rfl, Or.inl ⟨rfl, hq.dead, rfl, rfl, rfl, fun i => by rw [if_neg (by omega)]; rfl⟩⟩
  | k + 1, q, hq, hk, hlen, hsz => by
    have hx := hsz k (by omega)
    have hgo : q.goes (at_ + k : Nat) (l.getD k e0) = true := goes_iff.2 ⟨hq.dead, by omega, hx⟩
    unfold wrK
    by_cases hdi : q.dies = true
    · have hE : q.writeE (at_ + k : Nat) (l.getD k e0) = 74 := by unfold DSt.writeE; rw [if_neg (by rw [hq.dead]; decide), if_pos hgo, if_pos hdi]
      have hW : q.write (at_ + k : Nat) (l.getD k e0) = q.cut (at_ + k : Nat) (l.getD k e0) := by unfold DSt.write; rw [if_pos hgo, if_pos hdi]
      rw [hE, hW, if_neg (by decide)]
      have harm : q.armed = true := by unfold DSt.dies at hdi; exact (Bool.and_eq_true _ _ ▸ hdi).1
      refine ⟨by show (q.S.set _ _).length = _; rw [List.length_set], Or.inr ⟨harm, rfl, rfl, k, q.part.toNat, by omega, by have := hq.part; omega, fun i => ?_⟩⟩
      show (q.S.set ((at_ + k : Nat) : Int).toNat _).getD i none_ = _
      rw [Int.toNat_natCast, set_at (by omega)]
      by_cases h : i = at_ + k
      · rw [if_pos h, if_neg (by omega), if_pos h, h]; rfl
      · rw [if_neg h, if_neg (by omega), if_neg h]; rfl
    · have hE : q.writeE (at_ + k : Nat) (l.getD k e0) = 0 := by unfold DSt.writeE; rw [if_neg (by rw [hq.dead]; decide), if_pos hgo, if_neg hdi]
      have hW : q.write (at_ + k : Nat) (l.getD k e0) = q.put (at_ + k : Nat) (l.getD k e0) := by unfold DSt.write; rw [if_pos hgo, if_neg hdi]
      rw [hE, hW, if_pos rfl]
      have hS : ∀ i, DSt.at_ (q.put (at_ + k : Nat) (l.getD k e0)) i = if i = at_ + k then l.getD k e0 else DSt.at_ q i := fun i => by
        show (q.S.set ((at_ + k : Nat) : Int).toNat _).getD i none_ = _
        rw [Int.toNat_natCast, set_at (by omega)]
        rfl
      have hlS : (q.put (at_ + k : Nat) (l.getD k e0)).S.length = q.S.length := by show (q.S.set _ _).length = _; rw [List.length_set]
      have hq2 : Live (q.put (at_ + k : Nat) (l.getD k e0)) := ⟨hq.dead, fun i hi => by
        have := hS i
        unfold DSt.at_ at this
        rw [this]
        split
        · exact hx
        · exact hq.size i (by rw [← hlS]; exact hi), hq.part⟩
      obtain ⟨h1, h2⟩ := wrK_done l at_ k (q.put (at_ + k : Nat) (l.getD k e0)) hq2 (by omega) (by rw [hlS]; omega) (fun i hi => hsz i (by omega))
      refine ⟨h1.trans hlS, ?_⟩
      rcases h2 with ⟨a1, a2, a3, a4, a5, a6⟩ | ⟨a0, a1, a2, t, p, a3, a4, a5⟩
      · refine Or.inl ⟨a1, a2, a3, a4, by rw [a5]; show q.writes + 1 + k = _; omega, fun i => ?_⟩
        rw [a6 i]
        by_cases h : at_ ≤ i ∧ i < at_ + k
        · rw [if_pos h, if_pos (by omega)]
        · rw [if_neg h, hS]
          by_cases h3 : i = at_ + k
          · rw [if_pos h3, if_pos (by omega), h3, Nat.add_sub_cancel_left]
          · rw [if_neg h3, if_neg (by omega)]
      · refine Or.inr ⟨a0, a1, a2, t, p, by omega, a4, fun i => ?_⟩
        rw [a5 i]
        by_cases h : at_ + t < i ∧ i < at_ + k
        · rw [if_pos h, if_pos (by omega)]
        · rw [if_neg h]
          by_cases h3 : i = at_ + k
          · rw [if_neg (by omega), if_pos (by omega), hS, if_pos h3, h3, Nat.add_sub_cancel_left]
          · rw [if_neg (show ¬ (at_ + t < i ∧ i < at_ + (k + 1)) by omega), hS, if_neg h3]
theorem rec_is {num : Nat} {s : ByteArray} (h0 : num ≠ 0) (hs : s.size ≤ 60000) : recL num s = secL num s ∧ (recL num s).length = sizeN s.size ∧ ∀ i, i < sizeN s.size → (recL num s).getD i e0 = secS num (sizeN s.size) i (pieceS s i) := by
  have e : recL num s = secL num s := by unfold recL; rw [if_neg (by omega)]
  refine ⟨e, by rw [e, secL_length], fun i hi => ?_⟩
  rw [e]
  exact getD_of (secL_at hi)
/-- What the write of a record comes to. -/
def RecDone (q : DSt) (at_ num : Nat) (s : ByteArray) (r : DSt × Int) : Prop :=
  r.1.S.length = q.S.length ∧
  ((r.2 = 0 ∧ r.1.dead = false ∧ r.1.part = q.part ∧ r.1.armed = q.armed ∧ r.1.writes = q.writes + sizeN s.size ∧ LieAt (DSt.at_ r.1) at_ num s ∧ ∀ i, ¬ (at_ ≤ i ∧ i < at_ + sizeN s.size) → DSt.at_ r.1 i = DSt.at_ q i) ∨
   (q.armed = true ∧ r.2 = 74 ∧ r.1.dead = true ∧ ∃ t p, t < sizeN s.size ∧ p ≤ 256 ∧ (∀ i, at_ + t < i → i < at_ + sizeN s.size → DSt.at_ r.1 i = secS num (sizeN s.size) (i - at_) (pieceS s (i - at_))) ∧
      DSt.at_ r.1 (at_ + t) = torn (DSt.at_ q (at_ + t)) (secS num (sizeN s.size) t (pieceS s t)) p ∧ ∀ i, ¬ (at_ + t ≤ i ∧ i < at_ + sizeN s.size) → DSt.at_ r.1 i = DSt.at_ q i))
theorem write_done {q : DSt} {at_ num : Nat} {s : ByteArray} (hq : Live q) (h0 : num ≠ 0) (hs : s.size ≤ 60000) (hl : at_ + sizeN s.size ≤ q.S.length) : RecDone q at_ num s (writeR q at_ num s) := by
  obtain ⟨-, r2, r3⟩ := rec_is h0 hs
  unfold writeR
  rw [r2]
  obtain ⟨h1, h2⟩ := wrK_done (recL num s) at_ (sizeN s.size) q hq (by omega) hl (fun i hi => rec_size num s i (by omega))
  refine ⟨h1, ?_⟩
  rcases h2 with ⟨a1, a2, a3, a4, a5, a6⟩ | ⟨a0, a1, a2, t, p, a3, a4, a5⟩
  · refine Or.inl ⟨a1, a2, a3, a4, a5, ⟨hs, fun i hi => ?_⟩, fun i hi => by rw [a6 i, if_neg hi]⟩
    rw [a6, if_pos (by omega), Nat.add_sub_cancel_left]
    exact r3 i hi
  · refine Or.inr ⟨a0, a1, a2, t, p, a3, a4, fun i h3 h4 => ?_, ?_, fun i hi => ?_⟩
    · rw [a5, if_pos ⟨h3, h4⟩]
      exact r3 _ (by omega)
    · rw [a5, if_neg (by omega), if_pos rfl, r3 t a3]
    · rw [a5, if_neg (by omega), if_neg (by omega)]
end Go.Proofs.YtndanhacmfhlaaaGreat.Jour
namespace Go.Proofs.YtndanhacmfhlaaaGreat.Jour
open Go.Proofs.YtndanhacmfhlaaaGreat.Frame Disk Pack

/-- Between p and e all sectors are whole, of numbers below n. -/
def Old (q : DSt) (n p e : Nat) : Prop := ∀ i, p ≤ i → i < e → Whole (DSt.at_ q i) ∧ numV (DSt.at_ q i) < n
def AllOld (q : DSt) (n : Nat) : Prop := ∀ i, i < q.S.length → Whole (DSt.at_ q i) ∧ numV (DSt.at_ q i) < n
/-- Where an Append writes, where a Save does, all is whole and of numbers below the next one. -/
def OldA (q : DSt) (j : JSt) : Prop := Old q j.next (startD q j.area + j.used) (startD q j.area + roomD q)
def OldS (q : DSt) (j : JSt) : Prop := Old q j.next (startD q (1 - j.area)) (startD q (1 - j.area) + roomD q) ∧ Whole (DSt.at_ q (1 - j.area)) ∧ numV (DSt.at_ q (1 - j.area)) < j.next
theorem startD_at {q : DSt} {a : Nat} (hk : 8 ≤ q.S.length) (ha : a ≤ 1) : 2 ≤ startD q a ∧ startD q a + roomD q ≤ q.S.length := ⟨by unfold startD; omega, (area_len (q := q) hk ha).1⟩
theorem start_same {q q' : DSt} (h : q'.S.length = q.S.length) (a : Nat) : startD q' a = startD q a := by unfold startD; rw [room_same h]
theorem fits_same {q q' : DSt} (h : q'.S.length = q.S.length) : fitsD q' = fitsD q := by unfold fitsD; rw [h]
theorem areas_apart {q : DSt} {a i : Nat} (ha : a ≤ 1) (h1 : startD q (1 - a) ≤ i) (h2 : i < startD q (1 - a) + roomD q) : ¬ (startD q a ≤ i ∧ i < startD q a + roomD q) := by
  unfold startD at *
  rcases Nat.le_one_iff_eq_zero_or_eq_one.1 ha with rfl | rfl
  · rw [show (1 : Nat) - 0 = 1 from rfl] at h1 h2; omega
  · rw [show (1 : Nat) - 1 = 0 from rfl] at h1 h2; omega
theorem old_sides {q : DSt} {j : JSt} (hA : AllOld q j.next) (h8 : 8 ≤ q.S.length) (ha : j.area ≤ 1) : OldA q j ∧ OldS q j := by
  have h1 := startD_at h8 ha
  have h2 := startD_at (q := q) h8 (show 1 - j.area ≤ 1 by omega)
  exact ⟨fun i p1 p2 => hA i (by omega), ⟨fun i p1 p2 => hA i (by omega), hA _ (by omega)⟩⟩
theorem lie_whole {f : Nat → ByteArray} {p num i : Nat} {s : ByteArray} (h : LieAt f p num s) (hn : num < 4294967296) (h1 : p ≤ i) (h2 : i < p + sizeN s.size) : Whole (f i) ∧ numV (f i) = num := by
  have h3 := h.2 (i - p) (by omega)
  have h4 := lie_num h hn (i := i - p) (by omega)
  rw [show p + (i - p) = i by omega] at h3 h4
  exact ⟨by rw [h3]; exact sec_whole (piece_size (by omega)), h4⟩
/-- The same journal, where its own part of the disk is as it was. -/
theorem inv_keep {q q' : DSt} {j : JSt} {m : Nat} (h : Inv q j m) (hS : q'.S.length = q.S.length) (h1 : DSt.at_ q' j.area = DSt.at_ q j.area) (h2 : ∀ i, startD q j.area ≤ i → i < startD q j.area + j.used → DSt.at_ q' i = DSt.at_ q i)
    (h3 : ∀ i, i < q.S.length → numV (DSt.at_ q' i) ≤ j.next) (h4 : j.used < roomD q → numV (DSt.at_ q' (startD q j.area + j.used)) ≠ j.next) (h5 : numV (DSt.at_ q' (1 - j.area)) < m) : Inv q' j m := by
  have e1 := room_same hS
  have e2 := start_same hS j.area
  refine ⟨by rw [fits_same hS]; exact h.fits, by rw [hS]; exact h.most, h.area, h.used, by rw [e1]; exact h.room, h.next, h.pos, h.low, lieAt_congr h.head (fun i p1 p2 => ?_), ?_, fun i hi => h3 i (by rw [← hS]; exact hi), ?_, h5, h.top⟩
  · rw [head_one] at p2
    rw [show i = j.area by omega]
    exact h1
  · rw [e2]
    exact allAt_congr h.recs (fun i p1 p2 => h2 i p1 (by rw [h.used]; exact p2))
  · rw [e1, e2]
    exact h4
theorem inv_S {q q' : DSt} {j : JSt} {m : Nat} (h : Inv q j m) (hS : q'.S = q.S) : Inv q' j m := by
  have hf : ∀ i, DSt.at_ q' i = DSt.at_ q i := fun i => by unfold DSt.at_; rw [hS]
  exact inv_keep h (by rw [hS]) (hf _) (fun i _ _ => hf i) (fun i hi => by rw [hf]; exact h.nums i hi) (fun hr => by rw [hf]; exact h.tail hr) (by rw [hf]; exact h.other)
theorem inv_dead {q : DSt} {j : JSt} {m : Nat} (h : Inv q j m) (d : Bool) : Inv q ⟨j.base, j.recs, j.next, j.area, j.used, d⟩ m := ⟨h.fits, h.most, h.area, h.used, h.room, h.next, h.pos, h.low, h.head, h.recs, h.nums, h.tail, h.other, h.top⟩
/-- A record more stands behind all others. -/
theorem inv_more {q q' : DSt} {j : JSt} {m : Nat} {s : ByteArray} {d : Bool} (h : Inv q j m) (hS : q'.S.length = q.S.length) (hn : j.next ≤ Jour.most) (hr : j.used + sizeN s.size ≤ roomD q) (hL : LieAt (DSt.at_ q') (startD q j.area + j.used) j.next s)
    (hk : ∀ i, ¬ (startD q j.area + j.used ≤ i ∧ i < startD q j.area + j.used + sizeN s.size) → DSt.at_ q' i = DSt.at_ q i) : Inv q' ⟨j.base, j.recs ++ [s], j.next + 1, j.area, j.used + sizeN s.size, d⟩ m := by
  have e1 := room_same hS
  have e2 := start_same hS j.area
  have h8 : 8 ≤ q.S.length := (of_decide_eq_true h.fits).1
  have hst := startD_at h8 h.area
  have ha := h.area
  have hu := h.used
  have hl : lenL (j.base :: (j.recs ++ [s])) = lenL (j.base :: j.recs) + sizeN s.size := lenL_append (j.base :: j.recs) s
  have hnx := h.next
  unfold Jour.most at hn
  have hsz := size_pos s.size
  have hnum : ∀ i, startD q j.area + j.used ≤ i → i < startD q j.area + j.used + sizeN s.size → numV (DSt.at_ q' i) = j.next := fun i p1 p2 => by
    have := lie_num hL (by omega) (i := i - (startD q j.area + j.used)) (by omega)
    rwa [show startD q j.area + j.used + (i - (startD q j.area + j.used)) = i by omega] at this
  refine ⟨by rw [fits_same hS]; exact h.fits, by rw [hS]; exact h.most, h.area, by rw [hl, ← hu], by rw [e1]; exact hr, ?_, h.pos, h.low, lieAt_congr h.head (fun i p1 p2 => ?_), ?_, fun i hi => ?_, ?_, ?_, by show j.next + 1 ≤ _; omega⟩
  · show j.next + 1 = m + 1 + (j.recs ++ [s]).length
    rw [List.length_append, List.length_singleton]; omega
  · rw [head_one] at p2
    have p1' : j.area ≤ i := p1
    have p2' : i < j.area + 1 := p2
    exact hk i (by omega)
  · rw [e2]
    refine allAt_append (l := j.base :: j.recs) (allAt_congr h.recs (fun i p1 p2 => hk i (by omega))) ?_
    have : m + (j.base :: j.recs).length = j.next := by rw [List.length_cons]; omega
    rw [← hu, this]
    exact hL
  · by_cases hp : startD q j.area + j.used ≤ i ∧ i < startD q j.area + j.used + sizeN s.size
    · rw [hnum i hp.1 hp.2]; exact Nat.le_succ _
    · rw [hk i hp]
      exact Nat.le_succ_of_le (h.nums i (by rw [← hS]; exact hi))
  · rw [e1, e2]
    intro hlt
    have hlt' : j.used + sizeN s.size < roomD q := hlt
    show numV (DSt.at_ q' (startD q j.area + (j.used + sizeN s.size))) ≠ j.next + 1
    rw [hk _ (by omega)]
    have := h.nums (startD q j.area + (j.used + sizeN s.size)) (by omega)
    omega
  · show numV (DSt.at_ q' (1 - j.area)) < m
    rw [hk _ (by omega)]
    exact h.other
/-- What an Append comes to. -/
def AppDone (q : DSt) (j : JSt) (m : Nat) (s : ByteArray) (x : Done) : Prop :=
  x.q.S.length = q.S.length ∧ (x.e = 0 ∨ x.e = 73 ∨ x.e = 74) ∧
  (x.e = 0 → x.j = ⟨j.base, j.recs ++ [s], j.next + 1, j.area, j.used + sizeN s.size, false⟩ ∧ Inv x.q x.j m ∧ x.q.dead = false ∧ x.q.armed = q.armed ∧ x.q.writes = q.writes + sizeN s.size ∧ (AllOld q j.next → AllOld x.q (j.next + 1))) ∧
  (x.e = 73 → x.q = q ∧ x.j = j) ∧
  (x.e = 74 → q.armed = true ∧ ((Inv x.q j m ∧ (AllOld q j.next → OldS x.q j)) ∨ (Inv x.q ⟨j.base, j.recs ++ [s], j.next + 1, j.area, j.used + sizeN s.size, false⟩ m ∧ (AllOld q j.next → AllOld x.q (j.next + 1))))) ∧
  (x.e = 0 ∨ x.e = 73 ↔ (x.e = 0 ∧ (sizeN s.size : Int) ≤ leftN q j ∧ j.next ≤ Jour.most) ∨ (x.e = 73 ∧ (leftN q j < sizeN s.size ∨ Jour.most < j.next)))
theorem append_is {q : DSt} {j : JSt} {s : ByteArray} (hd : j.dead = false) (hs : s.size ≤ 60000) (hr : (sizeN s.size : Int) ≤ leftN q j) (hn : j.next ≤ Jour.most) : append q j s = if (writeR q (startD q j.area + j.used) j.next s).2 ≠ 0 then ⟨(writeR q (startD q j.area + j.used) j.next s).1, ⟨j.base, j.recs, j.next, j.area, j.used, true⟩, (writeR q (startD q j.area + j.used) j.next s).2⟩ else ⟨(writeR q (startD q j.area + j.used) j.next s).1, ⟨j.base, j.recs ++ [s], j.next + 1, j.area, j.used + sizeN s.size, j.dead⟩, 0⟩ := by
  unfold append
  rw [if_neg (by rw [hd]; decide), if_neg (by omega), if_neg (by omega)]
theorem append_full {q : DSt} {j : JSt} {s : ByteArray} (hd : j.dead = false) (hs : s.size ≤ 60000) (h : leftN q j < sizeN s.size ∨ Jour.most < j.next) : append q j s = ⟨q, j, 73⟩ := by
  unfold append
  rw [if_neg (by rw [hd]; decide), if_neg (by omega), if_pos h]
/-- What stands on the disk when an Append was cut. -/
theorem torn_append {q : DSt} {j : JSt} {m : Nat} {s : ByteArray} {q' : DSt} (h : Inv q j m) (hS : q'.S.length = q.S.length) (hs : s.size ≤ 60000) (hr : j.used + sizeN s.size ≤ roomD q) (hn : j.next ≤ Jour.most) (hO : Old q j.next (startD q j.area + j.used) (startD q j.area + roomD q))
    {t p : Nat} (ht : t < sizeN s.size) (hp : p ≤ 256) (h1 : ∀ i, startD q j.area + j.used + t < i → i < startD q j.area + j.used + sizeN s.size → DSt.at_ q' i = secS j.next (sizeN s.size) (i - (startD q j.area + j.used)) (pieceS s (i - (startD q j.area + j.used))))
    (h2 : DSt.at_ q' (startD q j.area + j.used + t) = torn (DSt.at_ q (startD q j.area + j.used + t)) (secS j.next (sizeN s.size) t (pieceS s t)) p) (h3 : ∀ i, ¬ (startD q j.area + j.used + t ≤ i ∧ i < startD q j.area + j.used + sizeN s.size) → DSt.at_ q' i = DSt.at_ q i) :
    (Inv q' j m ∧ (AllOld q j.next → OldS q' j)) ∨ (Inv q' ⟨j.base, j.recs ++ [s], j.next + 1, j.area, j.used + sizeN s.size, false⟩ m ∧ (AllOld q j.next → AllOld q' (j.next + 1))) := by
  have h8 : 8 ≤ q.S.length := (of_decide_eq_true h.fits).1
  have hst := startD_at h8 h.area
  have ha := h.area
  have hnx := h.next
  have hps := h.pos
  unfold Jour.most at hn
  obtain ⟨w1, w2⟩ := hO (startD q j.area + j.used + t) (by omega) (by omega)
  have hsn : numV (secS j.next (sizeN s.size) t (pieceS s t)) = j.next := num_sec (piece_size ht) (by omega)
  obtain ⟨k1, k2⟩ := torn_is w1 (sec_whole (num := j.next) (n := sizeN s.size) (i := t) (piece_size ht)) hsn (by omega) (by omega) hp
  rw [← h2] at k1 k2
  by_cases hfull : t = 0 ∧ DSt.at_ q' (startD q j.area + j.used + t) = secS j.next (sizeN s.size) t (pieceS s t)
  · obtain ⟨rfl, hf⟩ := hfull
    right
    have hL : LieAt (DSt.at_ q') (startD q j.area + j.used) j.next s := ⟨hs, fun i hi => by
      by_cases hi0 : i = 0
      · rw [hi0]; exact hf
      · rw [h1 _ (by omega) (by omega), Nat.add_sub_cancel_left]⟩
    refine ⟨inv_more h hS (by unfold Jour.most; omega) hr hL (fun i hi => h3 i (by omega)), fun hA i hi => ?_⟩
    by_cases hp : startD q j.area + j.used ≤ i ∧ i < startD q j.area + j.used + sizeN s.size
    · obtain ⟨x1, x2⟩ := lie_whole hL (by omega) hp.1 hp.2
      exact ⟨x1, by omega⟩
    · rw [h3 i (by omega)]
      obtain ⟨x1, x2⟩ := hA i (by rw [← hS]; exact hi)
      exact ⟨x1, by omega⟩
  · left
    refine ⟨?_, fun hA => ?_⟩
    rotate_left
    · have hso := startD_at (q := q) h8 (show 1 - j.area ≤ 1 by omega)
      have hap : ∀ i, startD q (1 - j.area) ≤ i → i < startD q (1 - j.area) + roomD q → DSt.at_ q' i = DSt.at_ q i := fun i p1 p2 => h3 i (fun e => areas_apart ha p1 p2 ⟨by omega, by omega⟩)
      refine ⟨fun i p1 p2 => ?_, ?_⟩
      · rw [start_same hS] at p1 p2
        rw [room_same hS] at p2
        rw [hap i p1 p2]
        exact hA i (by omega)
      · rw [h3 _ (by omega)]
        exact hA _ (by omega)
    refine inv_keep h hS (h3 _ (by omega)) (fun i p1 p2 => h3 i (by omega)) (fun i hi => ?_) (fun hlt => ?_) (by rw [h3 _ (by omega)]; exact h.other)
    · by_cases hi1 : i = startD q j.area + j.used + t
      · rw [hi1]; omega
      · by_cases hi2 : startD q j.area + j.used + t < i ∧ i < startD q j.area + j.used + sizeN s.size
        · rw [h1 i hi2.1 hi2.2, num_sec (piece_size (by omega)) (by omega)]
          exact Nat.le_refl _
        · rw [h3 i (by omega)]
          exact h.nums i hi
    · by_cases ht0 : t = 0
      · subst ht0
        intro e
        exact hfull ⟨rfl, k2.1 e⟩
      · rw [h3 _ (by omega)]
        exact h.tail hlt
theorem append_done {q : DSt} {j : JSt} {m : Nat} {s : ByteArray} (h : Inv q j m) (hq : Live q) (hd : j.dead = false) (hs : s.size ≤ 60000) (hO : q.armed = true → Old q j.next (startD q j.area + j.used) (startD q j.area + roomD q)) : AppDone q j m s (append q j s) := by
  have h8 : 8 ≤ q.S.length := (of_decide_eq_true h.fits).1
  have hst := startD_at h8 h.area
  have hrm := h.room
  by_cases hf : leftN q j < sizeN s.size ∨ Jour.most < j.next
  · rw [append_full hd hs hf]
    exact ⟨rfl, Or.inr (Or.inl rfl), fun e => (by cases e), fun _ => ⟨rfl, rfl⟩, fun e => (by cases e), ⟨fun _ => Or.inr ⟨rfl, hf⟩, fun _ => Or.inr rfl⟩⟩
  · have hr : (sizeN s.size : Int) ≤ leftN q j := by omega
    have hn : j.next ≤ Jour.most := by omega
    have hr' : j.used + sizeN s.size ≤ roomD q := by unfold leftN at hr; omega
    rw [append_is hd hs hr hn]
    obtain ⟨w0, w1⟩ := write_done (q := q) (at_ := startD q j.area + j.used) (num := j.next) (s := s) hq (by have := h.next; omega) hs (by omega)
    have hdj : ∀ d : Bool, d = j.dead → (⟨j.base, j.recs ++ [s], j.next + 1, j.area, j.used + sizeN s.size, d⟩ : JSt) = ⟨j.base, j.recs ++ [s], j.next + 1, j.area, j.used + sizeN s.size, false⟩ := fun d e => by rw [e, hd]
    generalize writeR q (startD q j.area + j.used) j.next s = r at *
    rcases w1 with ⟨a1, a2, a3, a4, a5, a6, a7⟩ | ⟨a0, a1, a2, t, p, a3, a4, a5, a6, a7⟩
    · rw [if_neg (by rw [a1]; decide)]
      have hI : Inv r.1 ⟨j.base, j.recs ++ [s], j.next + 1, j.area, j.used + sizeN s.size, j.dead⟩ m := inv_more h w0 hn hr' a6 a7
      have hall : AllOld q j.next → AllOld r.1 (j.next + 1) := fun hA i hi => by
        have hn2 := hn
        unfold Jour.most at hn2
        by_cases hp : startD q j.area + j.used ≤ i ∧ i < startD q j.area + j.used + sizeN s.size
        · obtain ⟨x1, x2⟩ := lie_whole a6 (by omega) hp.1 hp.2
          exact ⟨x1, by omega⟩
        · rw [a7 i hp]
          obtain ⟨x1, x2⟩ := hA i (by rw [← w0]; exact hi)
          exact ⟨x1, by omega⟩
      exact ⟨w0, Or.inl rfl, fun _ => ⟨hdj _ rfl, hI, a2, a4, a5, hall⟩, fun e => (by cases e), fun e => (by cases e), ⟨fun _ => Or.inl ⟨rfl, hr, hn⟩, fun _ => Or.inl rfl⟩⟩
    · rw [if_pos (by rw [a1]; decide)]
      exact ⟨w0, Or.inr (Or.inr a1), fun e => (by rw [show r.2 = 0 from e] at a1; cases a1), fun e => (by rw [show r.2 = 73 from e] at a1; cases a1), fun _ => ⟨a0, torn_append h w0 hs hr' hn (hO a0) a3 a4 a5 a6 a7⟩, ⟨fun e => by rcases e with e | e <;> (rw [show r.2 = _ from e] at a1; cases a1), fun e => by rcases e with e | e <;> (have e := e.1; rw [show r.2 = _ from e] at a1; cases a1)⟩⟩
/-- A journal begins anew in an area. -/
theorem inv_new {q q' : DSt} {a num : Nat} {s : ByteArray} {d : Bool} (hf : fitsD q = true) (hm : q.S.length ≤ 4096) (ha : a ≤ 1) (hS : q'.S.length = q.S.length) (h0 : 1 ≤ num) (hn : num ≤ Jour.most) (hr : sizeN s.size ≤ roomD q) (hL : LieAt (DSt.at_ q') (startD q a) num s) (hH : LieAt (DSt.at_ q') a num (headB a))
    (hk : ∀ i, ¬ (startD q a ≤ i ∧ i < startD q a + sizeN s.size) → i ≠ a → DSt.at_ q' i = DSt.at_ q i) (hN : ∀ i, i < q.S.length → numV (DSt.at_ q i) ≤ num) (ho : numV (DSt.at_ q (1 - a)) < num) : Inv q' ⟨s, [], num + 1, a, sizeN s.size, d⟩ num := by
  have e1 := room_same hS
  have e2 := start_same hS a
  have h8 : 8 ≤ q.S.length := (of_decide_eq_true hf).1
  have hst := startD_at h8 ha
  have hn' := hn
  unfold Jour.most at hn'
  refine ⟨by rw [fits_same hS]; exact hf, by rw [hS]; exact hm, ha, rfl, by rw [e1]; exact hr, rfl, h0, hn, hH, ⟨by rw [e2]; exact hL, trivial⟩, fun i hi => ?_, ?_, ?_, by show num + 1 ≤ _; omega⟩
  · show numV (DSt.at_ q' i) ≤ num + 1
    by_cases h1 : startD q a ≤ i ∧ i < startD q a + sizeN s.size
    · have := lie_num hL (by omega) (i := i - startD q a) (by omega)
      rw [show startD q a + (i - startD q a) = i by omega] at this
      omega
    · by_cases h2 : i = a
      · have := lie_num hH (by omega) (i := 0) (by rw [head_one]; omega)
        rw [Nat.add_zero] at this
        rw [h2]
        omega
      · rw [hk i h1 h2]
        have := hN i (by rw [← hS]; exact hi)
        omega
  · rw [e1]
    show sizeN s.size < roomD q → numV (DSt.at_ q' (startD q' a + sizeN s.size)) ≠ num + 1
    intro hlt
    rw [e2, hk _ (by omega) (by omega)]
    have := hN (startD q a + sizeN s.size) (by omega)
    omega
  · show numV (DSt.at_ q' (1 - a)) < num
    rw [hk _ (by omega) (by omega)]
    exact ho
/-- What a Save comes to. -/
def SavDone (q : DSt) (j : JSt) (m : Nat) (s : ByteArray) (x : Done) : Prop :=
  x.q.S.length = q.S.length ∧ (x.e = 0 ∨ x.e = 73 ∨ x.e = 74) ∧
  (x.e = 0 → x.j = ⟨s, [], j.next + 1, 1 - j.area, sizeN s.size, false⟩ ∧ Inv x.q x.j j.next ∧ x.q.dead = false ∧ x.q.armed = q.armed ∧ (AllOld q j.next → AllOld x.q (j.next + 1))) ∧
  (x.e = 73 → x.q = q ∧ x.j = j) ∧
  (x.e = 74 → q.armed = true ∧ ((Inv x.q j m ∧ (AllOld q j.next → OldA x.q j)) ∨ (Inv x.q ⟨s, [], j.next + 1, 1 - j.area, sizeN s.size, false⟩ j.next ∧ (AllOld q j.next → AllOld x.q (j.next + 1)))))
theorem save_full {q : DSt} {j : JSt} {s : ByteArray} (hd : j.dead = false) (hs : s.size ≤ 60000) (h : roomD q < sizeN s.size ∨ Jour.most < j.next) : save q j s = ⟨q, j, 73⟩ := by
  unfold save
  rw [if_neg (by rw [hd]; decide), if_neg (by omega), if_pos h]
theorem save_is {q : DSt} {j : JSt} {s : ByteArray} (hd : j.dead = false) (hs : s.size ≤ 60000) (hr : sizeN s.size ≤ roomD q) (hn : j.next ≤ Jour.most) : save q j s = if (writeR q (startD q (1 - j.area)) j.next s).2 ≠ 0 then ⟨(writeR q (startD q (1 - j.area)) j.next s).1, ⟨j.base, j.recs, j.next, j.area, j.used, true⟩, (writeR q (startD q (1 - j.area)) j.next s).2⟩ else if (writeR (writeR q (startD q (1 - j.area)) j.next s).1 (1 - j.area) j.next (headB (1 - j.area))).2 ≠ 0 then ⟨(writeR (writeR q (startD q (1 - j.area)) j.next s).1 (1 - j.area) j.next (headB (1 - j.area))).1, ⟨j.base, j.recs, j.next, j.area, j.used, true⟩, (writeR (writeR q (startD q (1 - j.area)) j.next s).1 (1 - j.area) j.next (headB (1 - j.area))).2⟩ else ⟨(writeR (writeR q (startD q (1 - j.area)) j.next s).1 (1 - j.area) j.next (headB (1 - j.area))).1, ⟨s, [], j.next + 1, 1 - j.area, sizeN s.size, j.dead⟩, 0⟩ := by
  unfold save
  rw [if_neg (by rw [hd]; decide), if_neg (by omega), if_neg (by omega)]
theorem live_write {q : DSt} {at_ num : Nat} {s : ByteArray} (hq : Live q) (h : RecDone q at_ num s (writeR q at_ num s)) (e : (writeR q at_ num s).2 = 0) : Live (writeR q at_ num s).1 := by
  obtain ⟨w0, w1⟩ := h
  generalize writeR q at_ num s = r at *
  rcases w1 with ⟨a1, a2, a3, a4, a5, a6, a7⟩ | ⟨a0, a1, -⟩
  · refine ⟨a2, fun i hi => ?_, by rw [a3]; exact hq.part⟩
    by_cases hp : at_ ≤ i ∧ i < at_ + sizeN s.size
    · have := a6.2 (i - at_) (by omega)
      rw [show at_ + (i - at_) = i by omega] at this
      show (DSt.at_ r.1 i).size = 256
      rw [this]
      exact sec_size (piece_size (by omega))
    · show (DSt.at_ r.1 i).size = 256
      rw [a7 i hp]
      exact hq.size i (by rw [← w0]; exact hi)
  · rw [e] at a1; cases a1
theorem save_all {q : DSt} {S' S2 : DSt} {a num p : Nat} {s : ByteArray} (hn : num < 4294967296) (hS : S2.S.length = q.S.length) (hL : LieAt (DSt.at_ S') p num s) (hH : LieAt (DSt.at_ S2) a num (headB a)) (_hpa : a < p) (h1 : ∀ i, ¬ (p ≤ i ∧ i < p + sizeN s.size) → DSt.at_ S' i = DSt.at_ q i) (h2 : ∀ i, i ≠ a → DSt.at_ S2 i = DSt.at_ S' i) : AllOld q num → AllOld S2 (num + 1) := fun hA i hi => by
  by_cases hia : i = a
  · obtain ⟨x1, x2⟩ := lie_whole hH hn (i := i) (by omega) (by rw [head_one]; omega)
    exact ⟨x1, by omega⟩
  · rw [h2 i hia]
    by_cases hp : p ≤ i ∧ i < p + sizeN s.size
    · obtain ⟨x1, x2⟩ := lie_whole hL hn hp.1 hp.2
      exact ⟨x1, by omega⟩
    · rw [h1 i hp]
      obtain ⟨x1, x2⟩ := hA i (by rw [← hS]; exact hi)
      exact ⟨x1, by omega⟩
theorem save_done {q : DSt} {j : JSt} {m : Nat} {s : ByteArray} (h : Inv q j m) (hq : Live q) (hd : j.dead = false) (hs : s.size ≤ 60000) (hO : q.armed = true → Old q j.next (startD q (1 - j.area)) (startD q (1 - j.area) + roomD q) ∧ Whole (DSt.at_ q (1 - j.area)) ∧ numV (DSt.at_ q (1 - j.area)) < j.next) : SavDone q j m s (save q j s) := by
  have h8 : 8 ≤ q.S.length := (of_decide_eq_true h.fits).1
  have hoa : 1 - j.area ≤ 1 := by omega
  have hst := startD_at h8 hoa
  have hsa := startD_at h8 h.area
  have ha := h.area
  have hnx := h.next
  have hps := h.pos
  have hap : ∀ i, startD q (1 - j.area) ≤ i → i < startD q (1 - j.area) + roomD q → ¬ (startD q j.area ≤ i ∧ i < startD q j.area + roomD q) := fun i p1 p2 => areas_apart ha p1 p2
  have hrm := h.room
  by_cases hf : roomD q < sizeN s.size ∨ Jour.most < j.next
  · rw [save_full hd hs hf]
    exact ⟨rfl, Or.inr (Or.inl rfl), fun e => (by cases e), fun _ => ⟨rfl, rfl⟩, fun e => (by cases e)⟩
  · have hr : sizeN s.size ≤ roomD q := by omega
    have hn : j.next ≤ Jour.most := by omega
    have hn' := hn
    unfold Jour.most at hn'
    rw [save_is hd hs hr hn]
    have w1 := write_done (q := q) (at_ := startD q (1 - j.area)) (num := j.next) (s := s) hq (by omega) hs (by omega)
    have lw := live_write (q := q) (at_ := startD q (1 - j.area)) (num := j.next) (s := s) hq w1
    have hdj : ∀ d : Bool, d = j.dead → (⟨s, [], j.next + 1, 1 - j.area, sizeN s.size, d⟩ : JSt) = ⟨s, [], j.next + 1, 1 - j.area, sizeN s.size, false⟩ := fun d e => by rw [e, hd]
    generalize writeR q (startD q (1 - j.area)) j.next s = r at *
    obtain ⟨w0, w1⟩ := w1
    rcases w1 with ⟨a1, a2, a3, a4, a5, a6, a7⟩ | ⟨a0, a1, a2, t, p, a3, a4, a5, a6, a7⟩
    · rw [if_neg (by rw [a1]; decide)]
      have w2 := write_done (q := r.1) (at_ := 1 - j.area) (num := j.next) (s := headB (1 - j.area)) (lw a1) (by omega) (by show 2 ≤ 60000; omega) (by rw [head_one, w0]; omega)
      generalize writeR r.1 (1 - j.area) j.next (headB (1 - j.area)) = r2 at *
      obtain ⟨v0, w2⟩ := w2
      rcases w2 with ⟨b1, b2, b3, b4, b5, b6, b7⟩ | ⟨b0, b1, b2, t, p, b3, b4, b5, b6, b7⟩
      · rw [if_neg (by rw [b1]; decide)]
        rw [head_one] at b7
        have hI : Inv r2.1 ⟨s, [], j.next + 1, 1 - j.area, sizeN s.size, j.dead⟩ j.next := inv_new h.fits h.most hoa (v0.trans w0) (by omega) hn hr (lieAt_congr a6 (fun i p1 p2 => b7 i (by omega))) b6 (fun i p1 p2 => by rw [b7 i (by omega), a7 i p1]) h.nums (by
          rw [show 1 - (1 - j.area) = j.area by omega]
          have := lie_num h.head (by omega) (i := 0) (by rw [head_one]; omega)
          rw [Nat.add_zero] at this
          omega)
        exact ⟨v0.trans w0, Or.inl rfl, fun _ => ⟨hdj _ rfl, hI, b2, by rw [b4, a4], save_all (by omega) (v0.trans w0) a6 b6 (by omega) a7 (fun i p1 => b7 i (by omega))⟩, fun e => (by cases e), fun e => (by cases e)⟩
      · rw [if_pos (by rw [b1]; decide)]
        rw [head_one] at b3 b5 b6 b7
        obtain rfl : t = 0 := by omega
        have harm : q.armed = true := by rw [← a4]; exact b0
        obtain ⟨-, o2, o3⟩ := hO harm
        rw [Nat.add_zero, a7 _ (by omega)] at b6
        have hsn : numV (secS j.next 1 0 (pieceS (headB (1 - j.area)) 0)) = j.next := num_sec (piece_size (by rw [head_one]; omega)) (by omega)
        obtain ⟨k1, k2⟩ := torn_is o2 (sec_whole (num := j.next) (n := 1) (i := 0) (piece_size (s := headB (1 - j.area)) (i := 0) (by rw [head_one]; omega))) hsn (by omega) (by omega) b4
        rw [← b6] at k1 k2
        have hD : (Inv r2.1 j m ∧ (AllOld q j.next → OldA r2.1 j)) ∨ (Inv r2.1 ⟨s, [], j.next + 1, 1 - j.area, sizeN s.size, false⟩ j.next ∧ (AllOld q j.next → AllOld r2.1 (j.next + 1))) := by
          by_cases hfull : DSt.at_ r2.1 (1 - j.area) = secS j.next 1 0 (pieceS (headB (1 - j.area)) 0)
          · right
            have hH : LieAt (DSt.at_ r2.1) (1 - j.area) j.next (headB (1 - j.area)) := ⟨by show 2 ≤ 60000; omega, fun i hi => by
              rw [head_one] at hi ⊢
              rw [show i = 0 by omega, Nat.add_zero]
              exact hfull⟩
            refine ⟨inv_new h.fits h.most hoa (v0.trans w0) (by omega) hn hr (lieAt_congr a6 (fun i p1 p2 => b7 i (by omega))) hH (fun i p1 p2 => by rw [b7 i (by omega), a7 i p1]) h.nums ?_, save_all (by omega) (v0.trans w0) a6 hH (by omega) a7 (fun i p1 => b7 i (by omega))⟩
            rw [show 1 - (1 - j.area) = j.area by omega]
            have := lie_num h.head (by omega) (i := 0) (by rw [head_one]; omega)
            rw [Nat.add_zero] at this
            omega
          · left
            have ho := h.other
            have hoA : AllOld q j.next → OldA r2.1 j := fun hA i p1 p2 => by
              rw [start_same (v0.trans w0)] at p1 p2
              rw [room_same (v0.trans w0)] at p2
              have hx : ¬ (startD q (1 - j.area) ≤ i ∧ i < startD q (1 - j.area) + sizeN s.size) := fun e => hap i e.1 (by omega) ⟨by omega, p2⟩
              rw [b7 i (by omega), a7 i hx]
              exact hA i (by omega)
            refine ⟨?_, hoA⟩
            refine inv_keep h (v0.trans w0) (by rw [b7 _ (by omega), a7 _ (by omega)]) (fun i p1 p2 => by rw [b7 _ (by omega), a7 _ (fun e => hap i (by omega) (by omega) ⟨p1, by omega⟩)]) (fun i hi => ?_) (fun hlt => ?_) ?_
            · by_cases hi1 : i = 1 - j.area
              · rw [hi1]
                have := h.nums (1 - j.area) (by omega)
                omega
              · rw [b7 i (by omega)]
                by_cases hi2 : startD q (1 - j.area) ≤ i ∧ i < startD q (1 - j.area) + sizeN s.size
                · have := lie_num a6 (by omega) (i := i - startD q (1 - j.area)) (by omega)
                  rw [show startD q (1 - j.area) + (i - startD q (1 - j.area)) = i by omega] at this
                  omega
                · rw [a7 i hi2]; exact h.nums i hi
            · rw [b7 _ (by omega), a7 _ (fun e => hap _ e.1 (by omega) ⟨by omega, by omega⟩)]
              exact h.tail hlt
            · have : ¬ numV (DSt.at_ r2.1 (1 - j.area)) = j.next := fun e => hfull (k2.1 e)
              omega
        exact ⟨v0.trans w0, Or.inr (Or.inr b1), fun e => (by rw [show r2.2 = 0 from e] at b1; cases b1), fun e => (by rw [show r2.2 = 73 from e] at b1; cases b1), fun _ => ⟨harm, hD⟩⟩
    · rw [if_pos (by rw [a1]; decide)]
      obtain ⟨o1, -, -⟩ := hO a0
      obtain ⟨u1, u2⟩ := o1 (startD q (1 - j.area) + t) (by omega) (by omega)
      have hsn : numV (secS j.next (sizeN s.size) t (pieceS s t)) = j.next := num_sec (piece_size a3) (by omega)
      obtain ⟨k1, k2⟩ := torn_is u1 (sec_whole (num := j.next) (n := sizeN s.size) (i := t) (piece_size a3)) hsn (by omega) (by omega) a4
      rw [← a6] at k1 k2
      have hoA : AllOld q j.next → OldA r.1 j := fun hA i p1 p2 => by
        rw [start_same w0] at p1 p2
        rw [room_same w0] at p2
        have hx : ¬ (startD q (1 - j.area) + t ≤ i ∧ i < startD q (1 - j.area) + sizeN s.size) := fun e => hap i (by omega) (by omega) ⟨by omega, p2⟩
        rw [a7 i hx]
        exact hA i (by omega)
      have hD : Inv r.1 j m := by
        have ho := h.other
        refine inv_keep h w0 (a7 _ (by omega)) (fun i p1 p2 => a7 _ (fun e => hap i (by omega) (by omega) ⟨p1, by omega⟩)) (fun i hi => ?_) (fun hlt => ?_) (by rw [a7 _ (by omega)]; exact ho)
        · by_cases hi1 : i = startD q (1 - j.area) + t
          · rw [hi1]
            have := h.nums (startD q (1 - j.area) + t) (by omega)
            omega
          · by_cases hi2 : startD q (1 - j.area) + t < i ∧ i < startD q (1 - j.area) + sizeN s.size
            · rw [a5 i hi2.1 hi2.2, num_sec (piece_size (by omega)) (by omega)]
              exact Nat.le_refl _
            · rw [a7 i (by omega)]; exact h.nums i hi
        · have hx : ¬ (startD q (1 - j.area) + t ≤ startD q j.area + j.used ∧ startD q j.area + j.used < startD q (1 - j.area) + sizeN s.size) := fun e => hap (startD q j.area + j.used) (by omega) (by omega) ⟨by omega, by omega⟩
          rw [a7 _ hx]
          exact h.tail hlt
      exact ⟨w0, Or.inr (Or.inr a1), fun e => (by rw [show r.2 = 0 from e] at a1; cases a1), fun e => (by rw [show r.2 = 73 from e] at a1; cases a1), fun _ => ⟨a0, Or.inl ⟨hD, hoA⟩⟩⟩
theorem top_ge (q : DSt) : ∀ k i, i < k → numV (DSt.at_ q i) ≤ topK q k
  | k + 1, i, h => by
    show _ ≤ max (topK q k) (numV (q.S.getD k none_))
    by_cases hk : i = k
    · rw [hk]; exact Nat.le_max_right _ _
    · exact Nat.le_trans (top_ge q k i (by omega)) (Nat.le_max_left _ _)
theorem top_le (q : DSt) (n : Nat) : ∀ k, (∀ i, i < k → numV (DSt.at_ q i) ≤ n) → topK q k ≤ n
  | 0, _ => Nat.zero_le _
  | k + 1, h => by
    have h1 := top_le q n k (fun i hi => h i (by omega))
    have h2 : numV (q.S.getD k none_) ≤ n := h k (by omega)
    show max (topK q k) (numV (q.S.getD k none_)) ≤ n
    omega
/-- A journal that is formatted, on a disk that nothing cuts. -/
theorem format_done {q : DSt} {s : ByteArray} (hq : Live q) (ha : q.armed = false) (hf : fitsD q = true) (hm : q.S.length ≤ 4096) (hs : s.size ≤ 60000) (hr : sizeN s.size ≤ roomD q) (ht : topN q ≤ 2147483648) :
    ∃ q', format q s = ⟨q', some ⟨s, [], topN q + 2, 0, sizeN s.size, false⟩, 0⟩ ∧ Inv q' ⟨s, [], topN q + 2, 0, sizeN s.size, false⟩ (topN q + 1) ∧ q'.dead = false ∧ q'.armed = false ∧ q'.S.length = q.S.length ∧ (AllOld q (topN q + 1) → AllOld q' (topN q + 2)) ∧ Live q' := by
  have h8 : 8 ≤ q.S.length := (of_decide_eq_true hf).1
  have hst := startD_at (q := q) (a := 0) h8 (by omega)
  have hge : ∀ i, i < q.S.length → numV (DSt.at_ q i) ≤ topN q := fun i hi => top_ge q _ i hi
  have hF : format q s = if (writeR q (startD q 0) (topN q + 1) s).2 ≠ 0 then ⟨(writeR q (startD q 0) (topN q + 1) s).1, none, (writeR q (startD q 0) (topN q + 1) s).2⟩ else if (writeR (writeR q (startD q 0) (topN q + 1) s).1 0 (topN q + 1) (headB 0)).2 ≠ 0 then ⟨(writeR (writeR q (startD q 0) (topN q + 1) s).1 0 (topN q + 1) (headB 0)).1, none, (writeR (writeR q (startD q 0) (topN q + 1) s).1 0 (topN q + 1) (headB 0)).2⟩ else ⟨(writeR (writeR q (startD q 0) (topN q + 1) s).1 0 (topN q + 1) (headB 0)).1, some ⟨s, [], topN q + 2, 0, sizeN s.size, false⟩, 0⟩ := by
    unfold format
    rw [if_neg (by rw [hf]; decide), if_neg (by omega), if_neg (by omega), if_neg (by rw [hq.dead]; decide), if_neg (by omega), show startD q 0 = 2 by unfold startD; omega]
  generalize topN q = T at *
  have w1 := write_done (q := q) (at_ := startD q 0) (num := T + 1) (s := s) hq (by omega) hs (by omega)
  have lw := live_write (q := q) (at_ := startD q 0) (num := T + 1) (s := s) hq w1
  generalize writeR q (startD q 0) (T + 1) s = r at *
  obtain ⟨w0, w1⟩ := w1
  rcases w1 with ⟨a1, a2, a3, a4, a5, a6, a7⟩ | ⟨a0, -⟩
  · have w2 := write_done (q := r.1) (at_ := 0) (num := T + 1) (s := headB 0) (lw a1) (by omega) (by show 2 ≤ 60000; omega) (by rw [head_one, w0]; omega)
    have lw2 := live_write (q := r.1) (at_ := 0) (num := T + 1) (s := headB 0) (lw a1) w2
    generalize writeR r.1 0 (T + 1) (headB 0) = r2 at *
    obtain ⟨v0, w2⟩ := w2
    rcases w2 with ⟨b1, b2, b3, b4, b5, b6, b7⟩ | ⟨b0, -⟩
    · rw [if_neg (by rw [a1]; decide), if_neg (by rw [b1]; decide)] at hF
      rw [head_one] at b7
      refine ⟨r2.1, hF, inv_new hf hm (by omega) (v0.trans w0) (by omega) (by unfold Jour.most; omega) hr (lieAt_congr a6 (fun i p1 p2 => b7 i (by omega))) b6 (fun i p1 p2 => by rw [b7 i (by omega), a7 i p1]) (fun i hi => by have := hge i hi; omega) (by have := hge (1 - 0) (by omega); omega), b2, by rw [b4, a4, ha], v0.trans w0, save_all (by omega) (v0.trans w0) a6 b6 (by omega) a7 (fun i p1 => b7 i (by omega)), lw2 b1⟩
    · rw [a4, ha] at b0; cases b0
  · rw [ha] at a0; cases a0
end Go.Proofs.YtndanhacmfhlaaaGreat.Jour
