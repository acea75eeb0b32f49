/- Plain: what every journal keeps to that is opened, formatted, appended to, saved, over any sectors: it fits, and its texts are no longer than a record's. -/
import Derived.Test.YtndanhacmfhlaaaGreatGJc
import Derived.Test.YtndanhacmfhlaaaGreatGJm
namespace Go.Proofs.YtndanhacmfhlaaaGreat.Jour
open Go.Proofs.YtndanhacmfhlaaaGreat.Frame Disk

theorem append_j (q : DSt) (j : JSt) (s : ByteArray) : (append q j s).j = j ∨ (append q j s).j = ⟨j.base, j.recs, j.next, j.area, j.used, true⟩ ∨ (s.size ≤ 60000 ∧ (append q j s).j = ⟨j.base, j.recs ++ [s], j.next + 1, j.area, j.used + sizeN s.size, j.dead⟩) := by
  unfold append
  split
  · exact Or.inl rfl
  · split
    · exact Or.inl rfl
    · rename_i h
      split
      · exact Or.inl rfl
      · dsimp only
        split
        · exact Or.inr (Or.inl rfl)
        · exact Or.inr (Or.inr ⟨Nat.le_of_not_lt h, rfl⟩)
theorem save_j (q : DSt) (j : JSt) (s : ByteArray) : (save q j s).j = j ∨ (save q j s).j = ⟨j.base, j.recs, j.next, j.area, j.used, true⟩ ∨ (s.size ≤ 60000 ∧ (save q j s).j = ⟨s, [], j.next + 1, 1 - j.area, sizeN s.size, j.dead⟩) := by
  unfold save
  split
  · exact Or.inl rfl
  · split
    · exact Or.inl rfl
    · rename_i h
      split
      · exact Or.inl rfl
      · dsimp only
        split
        · exact Or.inr (Or.inl rfl)
        · split
          · exact Or.inr (Or.inl rfl)
          · exact Or.inr (Or.inr ⟨Nat.le_of_not_lt h, rfl⟩)
theorem append_ok {q : DSt} {j : JSt} (h : j.Ok q) (s : ByteArray) : (append q j s).j.Ok (append q j s).q := by
  have hf := (append_fit h.fit s).1
  rcases append_j q j s with e | e | ⟨hs, e⟩ <;> rw [e] at hf ⊢
  · exact ⟨hf, h.pos, h.base, h.texts⟩
  · exact ⟨hf, h.pos, h.base, h.texts⟩
  · refine ⟨hf, Nat.le_succ_of_le h.pos, h.base, fun t ht => ?_⟩
    rcases List.mem_append.1 ht with ht | ht
    · exact h.texts t ht
    · rw [List.mem_singleton.1 ht]; exact hs
theorem save_ok {q : DSt} {j : JSt} (h : j.Ok q) (s : ByteArray) : (save q j s).j.Ok (save q j s).q := by
  have hf := (save_fit h.fit s).1
  rcases save_j q j s with e | e | ⟨hs, e⟩ <;> rw [e] at hf ⊢
  · exact ⟨hf, h.pos, h.base, h.texts⟩
  · exact ⟨hf, h.pos, h.base, h.texts⟩
  · exact ⟨hf, Nat.le_succ_of_le h.pos, hs, fun t ht => by cases ht⟩
theorem format_j (q : DSt) (s : ByteArray) : (format q s).j = none ∨ (s.size ≤ 60000 ∧ (format q s).j = some ⟨s, [], topN q + 2, 0, sizeN s.size, false⟩) := by
  unfold format
  split
  · exact Or.inl rfl
  · split
    · exact Or.inl rfl
    · rename_i h
      split
      · exact Or.inl rfl
      · split
        · exact Or.inl rfl
        · split
          · exact Or.inl rfl
          · dsimp only
            split
            · exact Or.inl rfl
            · split
              · exact Or.inl rfl
              · exact Or.inr ⟨Nat.le_of_not_lt h, rfl⟩
theorem format_ok {q : DSt} {s : ByteArray} {j : JSt} (h : (format q s).j = some j) : j.Ok (format q s).q := by
  have hf := (format_fit h).1
  rcases format_j q s with e | ⟨hs, e⟩
  · rw [e] at h; cases h
  · rw [e] at h
    injection h with h
    subst h
    exact ⟨hf, by show 1 ≤ topN q + 2; omega, hs, fun t ht => by cases ht⟩
theorem format_len (q : DSt) (s : ByteArray) : (format q s).q.S.length = q.S.length := by
  unfold format
  repeat' split
  all_goals first | rfl | skip
  all_goals dsimp only
  all_goals repeat' split
  all_goals first | rfl | (simp only [writeR_S])
theorem goK_ok {q : DSt} : ∀ (n : Nat) {j : JSt}, 1 ≤ j.next → j.base.size ≤ 60000 → (∀ s ∈ j.recs, s.size ≤ 60000) → 1 ≤ (goK q n j).next ∧ (goK q n j).base.size ≤ 60000 ∧ ∀ s ∈ (goK q n j).recs, s.size ≤ 60000
  | 0, _, h1, h2, h3 => ⟨h1, h2, h3⟩
  | n + 1, j, h1, h2, h3 => by
    unfold goK
    split
    · rename_i hn
      refine goK_ok n (j := nextJ q j) (Nat.le_succ_of_le h1) h2 (fun s hs => ?_)
      rcases List.mem_append.1 hs with hs | hs
      · exact h3 s hs
      · rw [List.mem_singleton.1 hs]
        exact (read_only hn).2.2.1
    · exact ⟨h1, h2, h3⟩
theorem opened_ok {q : DSt} {j : JSt} (hk : 8 ≤ q.S.length) (h : (opened q).1 = some j) : j.Ok q := by
  have hf := opened_fit hk h
  unfold opened at h
  by_cases h1 : fitsD q = false
  · rw [if_pos h1] at h; cases h
  · rw [if_neg h1] at h
    by_cases h2 : q.dead = true
    · rw [if_pos h2] at h; cases h
    · rw [if_neg h2] at h
      cases h3 : (bestK q 2).2 with
      | none => rw [h3] at h; cases h
      | some j0 =>
        rw [h3] at h
        injection h with h
        obtain ⟨a, ha, rfl, k1, k2⟩ := best_some h3
        have := goK_ok (q := q) 5000 (j := headJ q a) (Nat.le_add_left _ _) (read_only k1).2.2.1 (fun t ht => by cases ht)
        rw [h] at this
        exact ⟨hf, this.1, this.2.1, this.2.2⟩
theorem JSt.Ok.many {q : DSt} {j : JSt} (h : j.Ok q) (hl : q.S.length ≤ 4096) : j.recs.length ≤ 5000 := by
  have h1 := h.fit.recs
  have h2 := h.fit.used
  have h3 : roomD q ≤ 4096 := by unfold roomD; omega
  omega
theorem JSt.Ok.same {q q' : DSt} {j : JSt} (h : j.Ok q) (hs : q'.S.length = q.S.length) : j.Ok q' :=
  ⟨⟨h.fit.area, by have := h.fit.used; unfold roomD at *; rw [hs]; exact this, h.fit.recs, h.fit.next⟩, h.pos, h.base, h.texts⟩
end Go.Proofs.YtndanhacmfhlaaaGreat.Jour
