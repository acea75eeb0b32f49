/- A journal that nobody made has nothing; there is none on no disk, on one that is too small, or on one that nobody formatted. For every text. -/
import Derived.Test.YtdnodampmpdfbaaGA
import Derived.Test.YtdnodampmpdfbaaGJe
import Derived.Deep.RegionHeld3
import Derived.Deep.DeepCutAuto
import Derived.Deep.CutBlock
import Derived.ChangeMaps5
namespace Go.Proofs.Ytdnodampmpdfbaa.Law
open Go.ChangeShapes Go.WideShapes Go.ChangeAt Go.RowKit Go.Deep Els Go.Proofs.Ytdnodampmpdfbaa.Frame Disk Jour

theorem opened_none : opened (newD 8) = (none, 11) := by
  have h0 : ∀ i, i < 8 → numV ((newD 8).S.getD i none_) = 0 := fun i hi => by
    have := newD_at (k := 8) hi
    unfold Jour.DSt.at_ at this
    rw [this, zero_whole.2]
  have hno : ∀ a top, a < 8 → headOk (newD 8) a top = false := fun a top ha => by
    rw [Bool.eq_false_iff]
    intro h
    unfold headOk at h
    simp only [Bool.and_eq_true, decide_eq_true_iff] at h
    have := h.2.2.2.2
    rw [h0 a ha] at this
    omega
  have b1 : bestK (newD 8) 1 = (0, none) := by rw [best_no (k := 0) (hno 0 _ (by omega))]; rfl
  have b2 : bestK (newD 8) 2 = (0, none) := by rw [best_no (k := 1) (hno 1 _ (by omega)), b1]
  unfold opened
  rw [if_neg (by rw [newD_fits (by omega) (by omega)]; decide), if_neg (by unfold newD; decide), b2]
theorem ld_other {w W W' : World} {g b g1 b1 : Nat} {q : DSt} (h : LD w W g b q) (ho : OnlyF (F2 g1 b1) W W') (hne : g ≠ g1 ∧ g ≠ b1 ∧ b ≠ g1 ∧ b ≠ b1) (hlo : w.heap.size ≤ g1 ∧ w.heap.size ≤ b1) : LD w W' g b q :=
  ⟨h.dk.keep (ho.block g h.dk.lt.1 (fun e => by rcases e with e | e; exact hne.1 e; exact hne.2.1 e)) (ho.block b h.dk.lt.2 (fun e => by rcases e with e | e; exact hne.2.2.1 e; exact hne.2.2.2 e)), only_far h.below ho (fun i hi => by rcases hi with rfl | rfl; exact hlo.1; exact hlo.2) h.below.size, h.lo⟩
set_option maxRecDepth 20000 in
set_option maxHeartbeats 4000000 in
theorem journal_none (s : ByteArray) (w : World) (hs : s.size ≤ 9223372036854775807) :
    Calls Try.prog 6 #[.string s] w fun e w' => e = .returned (.bool true) ∧ Below w.heap.size w w' := by
  by_cases hl : 20000 < s.size
  · have t1 : decide ((20000 : Int) < s.size) = true := decide_eq_true (by omega)
    clear hl hs
    go_enter Try.func6, Try.ntmps6
    go_wp2_with fail
    refine (wakes_journal w).mono ?_
    rintro e w1 ⟨rfl, hb⟩
    have B1 := Lib.hid hb
    clear hb
    go_wp2_with fail
    go_ret
    exact ⟨rfl, B1.out⟩
  · have t1 : decide ((20000 : Int) < s.size) = false := decide_eq_false (by omega)
    have N6 := Lib.hid (l_new 6 w w (Below.refl _ _) (by decide) (by decide))
    have N9 : Hid (∀ W, Below w.heap.size w W → Calls Try.prog 8 #[.int .i64 9] W fun e w' => ∃ g b, e = .returned (.tuple #[.pointer (some ⟨g, 0, none⟩), .int .i64 0]) ∧ LD w w' g b (newD 9) ∧ Below W.heap.size W w' ∧ W.heap.size ≤ g ∧ W.heap.size ≤ b) := fun W hb => l_new 9 w W hb (by decide) (by decide)
    have N8 : Hid (∀ W, Below w.heap.size w W → Calls Try.prog 8 #[.int .i64 8] W fun e w' => ∃ g b, e = .returned (.tuple #[.pointer (some ⟨g, 0, none⟩), .int .i64 0]) ∧ LD w w' g b (newD 8) ∧ Below W.heap.size W w' ∧ W.heap.size ≤ g ∧ W.heap.size ≤ b) := fun W hb => l_new 8 w W hb (by decide) (by decide)
    have FN : Hid (∀ W, Calls Try.prog 9 #[.pointer none, .string s] W fun e w' => e = .returned (.tuple #[.pointer none, .int .i64 1]) ∧ Below W.heap.size W w') := fun W => format_nil s W
    have F6 : Hid (∀ W g b, LD w W g b (newD 6) → Calls Try.prog 9 #[.pointer (some ⟨g, 0, none⟩), .string s] W fun e w' => e = .returned (.tuple #[.pointer none, .int .i64 1]) ∧ OnlyF (F2 g b) W w') := fun W g b h =>
      (p_format (newD 6) g b 6 0 s W h.dk (new_fit (by decide)) (by decide) (by rw [newD_len]; decide) hs).mono fun e w' k => by
        rw [show format (newD 6) s = ⟨newD 6, none, 1⟩ by unfold format; rw [if_pos (by unfold fitsD; rw [newD_len]; rfl)]] at k
        exact ⟨k.2.2, k.2.1⟩
    have O9 : Hid (∀ W g b, LD w W g b (newD 9) → Calls Try.prog 16 #[.pointer (some ⟨g, 0, none⟩)] W fun e w' => e = .returned (.tuple #[.pointer none, .int .i64 1]) ∧ OnlyF (F2 g b) W w') := fun W g b h =>
      (l_open_no h (new_fit (k := 9) (by decide)) (by rw [newD_len]; decide) (by unfold opened; rw [if_pos (by unfold fitsD; rw [newD_len]; rfl)])).mono fun e w' k => ⟨k.1, k.2.2⟩
    have O8 : Hid (∀ W g b, LD w W g b (newD 8) → Calls Try.prog 16 #[.pointer (some ⟨g, 0, none⟩)] W fun e w' => e = .returned (.tuple #[.pointer none, .int .i64 11]) ∧ Below w.heap.size w w') := fun W g b h =>
      (l_open_no h (new_fit (k := 8) (by decide)) (by rw [newD_len]; decide) opened_none).mono fun e w' k => ⟨k.1, k.2.1.below⟩
    have HS := Lib.hid hs
    clear hs hl
    go_enter Try.func6, Try.ntmps6
    go_wp2_with fail
    refine N6.out.mono ?_
    rintro e w1 ⟨g1, b1, rfl, h1, -⟩
    have H1 := Lib.hid h1
    clear h1 N6
    go_wp2_with fail
    refine (N9.out w1 H1.out.below).mono ?_
    rintro e w2 ⟨g2, b2, rfl, h2, hb2, l2, m2⟩
    have H12 := Lib.hid (H1.out.more hb2)
    have H2 := Lib.hid h2
    have D12 : Hid (g2 ≠ g1 ∧ g2 ≠ b1 ∧ b2 ≠ g1 ∧ b2 ≠ b1) := show _ ∧ _ from by have := H1.out.dk.lt; omega
    clear h2 hb2 l2 m2 H1
    go_wp2_with fail
    refine (N8.out w2 H2.out.below).mono ?_
    rintro e w3 ⟨g3, b3, rfl, h3, hb3, l3, m3⟩
    have H13 := Lib.hid (H12.out.more hb3)
    have H23 := Lib.hid (H2.out.more hb3)
    have H3 := Lib.hid h3
    have D13 : Hid (g3 ≠ g1 ∧ g3 ≠ b1 ∧ b3 ≠ g1 ∧ b3 ≠ b1) := show _ ∧ _ from by have := H12.out.dk.lt; omega
    have D23 : Hid (g3 ≠ g2 ∧ g3 ≠ b2 ∧ b3 ≠ g2 ∧ b3 ≠ b2) := show _ ∧ _ from by have := H2.out.dk.lt; omega
    clear h3 hb3 l3 m3 H12 H2
    go_wp2_with fail
    refine (FN.out w3).mono ?_
    rintro e w4 ⟨rfl, hb⟩
    have G1 := Lib.hid (H13.out.more hb)
    have G2 := Lib.hid (H23.out.more hb)
    have G3 := Lib.hid (H3.out.more hb)
    clear hb H13 H23 H3
    go_wp2_with fail
    refine (F6.out w4 _ _ G1.out).mono ?_
    rintro e w5 ⟨rfl, ho⟩
    have K2 := Lib.hid (ld_other G2.out ho D12.out G1.out.lo)
    have K3 := Lib.hid (ld_other G3.out ho D13.out G1.out.lo)
    clear ho G1 G2 G3
    go_wp2_with fail
    refine (O9.out w5 _ _ K2.out).mono ?_
    rintro e w6 ⟨rfl, ho⟩
    have M3 := Lib.hid (ld_other K3.out ho D23.out K2.out.lo)
    clear ho K2 K3
    go_wp2_with fail
    refine (O8.out w6 _ _ M3.out).mono ?_
    rintro e w7 ⟨rfl, hb⟩
    have B7 := Lib.hid hb
    clear hb M3
    go_wp2_with fail
    refine (n_base w7).mono ?_
    rintro e w8 ⟨rfl, rfl⟩
    go_wp2_with fail
    refine (n_records w7).mono ?_
    rintro e w8 ⟨rfl, rfl⟩
    go_wp2_with fail
    refine (n_append s w7).mono ?_
    rintro e w8 ⟨rfl, rfl⟩
    go_wp2_with fail
    refine (n_save s w7).mono ?_
    rintro e w8 ⟨rfl, rfl⟩
    go_wp2_with fail
    refine (n_next w7).mono ?_
    rintro e w8 ⟨rfl, rfl⟩
    go_wp2_with fail
    refine (n_left w7).mono ?_
    rintro e w8 ⟨rfl, rfl⟩
    go_wp2_with fail
    refine (wakes_journal w7).mono ?_
    rintro e w8 ⟨rfl, hb⟩
    have B8 := Lib.hid (B7.out.trans (hb.mono B7.out.size))
    clear hb
    go_wp2_with fail
    go_ret
    exact ⟨rfl, B8.out⟩

set_option maxRecDepth 100000 in
theorem journalNone_lifted (os : Os) (started : os.Started) (H : Type) (enc : TypeId × Value → H) :
    ReturnsInHanded {} Try.checked os 6 .any (Rows.journalNoneSpec.pre6 enc Try.prog Try.f6 Rows.journalNoneRow.domain false) (Rows.journalNoneSpec.post enc Try.prog Try.f6 false true false false) := by
  refine Shell.law_lifted (C := Try.checked) (tb := 4) (by kernel_rfl) started (by kernel_rfl) Try.func6
    (ChangeSpec.witness6 (enc := enc) (C := Try.checked) false ⟨#[], #[.string ⟨#[]⟩], []⟩ 8 (by kernel_rfl) (by kernel_rfl) (by kernel_rfl) (by kernel_rfl))
    (by kernel_rfl) (by kernel_rfl) rfl rfl Try.underlying4 ?_
  intro W base args ds p hval0 hA0
  have hval : ∀ (j : Nat) t v, Try.f6.params[j]? = some t → args[j]? = some v → Value.okWide Try.prog W .any base t v := hval0
  have hA : DataW.TrodAll enc Try.prog W 0 (fun _ => true) true Try.f6.params.toList args.toList ds p := hA0
  clear hval0 hA0
  rw [Try.params6] at hA hval
  obtain ⟨v0, vs0, d0, ds0, p0, q0, hargs, rfl, rfl, h0, r0⟩ := trodAll_cons hA
  obtain ⟨rfl, rfl, rfl⟩ := trodAll_nil r0
  obtain rfl : args = #[v0] := by cases args; simp_all
  refine ⟨rfl, ?_⟩
  obtain ⟨s, rfl, -, -, w0⟩ := ChangeMaps.open_string Try.underlying9 (hval 0 9 v0 rfl rfl) h0
  have w0q : s.size ≤ 9223372036854775807 := by unfold maxLen at w0; omega
  exact journal_none s W w0q

theorem journalNone_over : Rows.journalNoneRow.holds Try.pinned (OpenSpec.ofChange Rows.journalNoneSpec) :=
  OpenClaim.holds_of_wide 6 Try.f6 rfl rfl rfl rfl rfl rfl rfl ⟨rfl, rfl, rfl, rfl, rfl⟩ rfl rfl rfl rfl rfl (by kernel_rfl) Try.func6 (by kernel_rfl)
    (of_decide_eq_true (by kernel_rfl)) (by unfold Func.isWrapper; first | (rw [if_pos (by decide +kernel)]; kernel_rfl) | (rw [if_neg (by decide +kernel)]; exact ⟨rfl, rfl⟩))
    (fun os st H enc _ => journalNone_lifted os st H enc)

/-- The statement. -/
theorem journalNone_proved : Rows.JournalNoneSaid := journalNone_over
end Go.Proofs.Ytdnodampmpdfbaa.Law
