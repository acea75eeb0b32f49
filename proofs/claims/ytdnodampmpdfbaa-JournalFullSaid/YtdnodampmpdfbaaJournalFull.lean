/- What does not go into the area is refused ahead of any write, and all that is there stays. For every size and text. -/
import Derived.Test.YtdnodampmpdfbaaGA
import Derived.Test.YtdnodampmpdfbaaGJe
import Derived.Deep.RegionHeld3
import Derived.Deep.DeepCutAuto
import Derived.Deep.CutBlock
import Derived.ChangeMaps5
namespace Go.Proofs.Ytdnodampmpdfbaa.Law
open Go.ChangeShapes Go.WideShapes Go.ChangeAt Go.RowKit Go.Deep Els Go.Proofs.Ytdnodampmpdfbaa.Frame Disk Jour

theorem u8_nat {z : Int} (h : (Lit.int .u8 z).wf = true) : ∃ n : Nat, z = n ∧ n < 256 := by
  have h1 : 0 ≤ z ∧ z ≤ 255 := by simpa [Lit.wf, IntKind.min, IntKind.max, IntKind.bits, IntKind.signed] using h
  exact ⟨z.toNat, by omega, by omega⟩
/-- What holds between two rounds. -/
structure FU (w W : World) (gj g b : Nat) (V : Value) (q : DSt) (j : JSt) (k i wn : Nat) : Prop where
  lj : LJ w W gj g b V q j
  inv : Inv q j 1
  live : Live q
  arm : q.armed = false
  dead : j.dead = false
  len : q.S.length = k
  fit : q.Fit k (600 + 300 * i)
  nx : j.next ≤ 2 + i
  rc : j.recs.length = wn
theorem all_small {f : Nat → ByteArray} : ∀ {l : List ByteArray} {p num : Nat}, AllAt f p num l → ∀ s ∈ l, s.size ≤ 60000
  | x :: l, p, num, h, s, hs => by
    rcases List.mem_cons.1 hs with rfl | hs
    · exact h.1.1
    · exact all_small h.2 s hs
theorem inv_texts {q : DSt} {j : JSt} {m : Nat} (h : Inv q j m) : j.base.size ≤ 60000 ∧ ∀ s ∈ j.recs, s.size ≤ 60000 := ⟨h.recs.1.1, all_small h.recs.2⟩
set_option maxRecDepth 20000 in
set_option maxHeartbeats 8000000 in
theorem journal_full (n : Nat) (s : ByteArray) (w : World) (hn : n < 256) (hs : s.size ≤ 9223372036854775807) :
    Calls Try.prog 5 #[.int .u8 (n : Nat), .string s] w fun e w' => e = .returned (.bool true) ∧ Below w.heap.size w w' := by
  have hk0 : 8 ≤ 8 + 2 * (n % 20) ∧ 8 + 2 * (n % 20) ≤ 46 := by omega
  have x1 : Int.tmod (n : Int) 20 = ((n % 20 : Nat) : Int) := rfl
  have x0 : IntKind.i64.wrap (n : Int) = (n : Int) := IntWalk.i64_in _ (by omega)
  have x2 : wrap64 (2 * ((n % 20 : Nat) : Int)) = ((2 * (n % 20) : Nat) : Int) := by rw [IntWalk.wrap64_in _ (by omega)]; omega
  have x3 : wrap64 (8 + ((2 * (n % 20) : Nat) : Int)) = ((8 + 2 * (n % 20) : Nat) : Int) := by rw [IntWalk.wrap64_in _ (by omega)]; omega
  have hev : (8 + 2 * (n % 20)) % 2 = 0 := by omega
  have X0 := Lib.hid x0
  clear x0
  obtain ⟨y, hy⟩ : ∃ y, n % 20 = y := ⟨_, rfl⟩
  rw [hy] at x1 x2 x3 hk0 hev
  obtain ⟨y2, hy2⟩ : ∃ y2, 2 * y = y2 := ⟨_, rfl⟩
  rw [hy2] at x2 x3 hk0 hev
  obtain ⟨k, hk⟩ : ∃ k, 8 + y2 = k := ⟨_, rfl⟩
  rw [hk] at x3 hk0 hev
  have X1 := Lib.hid x1
  have X2 := Lib.hid x2
  have X3 := Lib.hid x3
  clear x1 x2 x3
  have NW := Lib.hid (l_new k w w (Below.refl _ _) (by omega) (by omega))
  by_cases hl : 20000 < s.size
  · have t1 : decide ((20000 : Int) < s.size) = true := decide_eq_true (by omega)
    clear hl hs hk hy hy2 hev
    have x0 := X0.out
    have x1 := X1.out
    have x2 := X2.out
    have x3 := X3.out
    go_enter Try.func5, Try.ntmps5
    go_wp2_with fail
    refine NW.out.mono ?_
    rintro e w1 ⟨g, b, rfl, h1, -⟩
    have H1 := Lib.hid h1
    clear h1
    go_wp2_with fail
    refine (wakes_journal w1).mono ?_
    rintro e w4 ⟨rfl, hb⟩
    have B4 := Lib.hid (H1.out.below.trans (hb.mono H1.out.below.size))
    clear hb
    go_wp2_with fail
    go_ret
    exact ⟨rfl, B4.out⟩
  · have t1 : decide ((20000 : Int) < s.size) = false := decide_eq_false (by omega)
    have hz1 := (size_most (n := s.size) (by omega))
    obtain ⟨q0, f0, I0, d0, a0, n0, -, L0, F0⟩ := new_format (k := k) (s := ⟨#[]⟩) hk0.1 hev (by omega) (by decide) (by show sizeN 0 ≤ _; unfold sizeN; omega)
    have FM : Hid (∀ W g b, LD w W g b (newD k) → Calls Try.prog 9 #[.pointer (some ⟨g, 0, none⟩), .string ⟨#[]⟩] W fun e w' => ∃ gj V, e = .returned (.tuple #[.pointer (some ⟨gj, 0, none⟩), .int .i64 0]) ∧ FU w w' gj g b V q0 ⟨⟨#[]⟩, [], 2, 0, sizeN (⟨#[]⟩ : ByteArray).size, false⟩ k 0 0) := fun W g b h =>
      (l_format ⟨#[]⟩ h (new_fit (by omega)) (by decide) (by rw [newD_len]; omega) (by decide) f0).mono fun e w' kk => by
        obtain ⟨gj, V, k1, k2, -⟩ := kk
        exact ⟨gj, V, k1, ⟨k2, I0, L0, a0, rfl, n0, F0, by show 2 ≤ 2 + 0; omega, rfl⟩⟩
    have LF : Hid (∀ W gj g b V q j i wn, FU w W gj g b V q j k i wn → Calls Try.prog 21 #[.pointer (some ⟨gj, 0, none⟩)] W fun e w' => e = .returned (.int .i64 (leftN q j)) ∧ FU w w' gj g b V q j k i wn) := fun W gj g b V q j i wn h => (p_left q j gj g b V W h.lj.at_ (by rw [h.len]; omega) (by rw [h.len]; omega) (inv_fit h.inv)).mono fun e w' kk => by
      obtain ⟨k1, nn, rfl⟩ := kk
      exact ⟨k1, ⟨h.lj.heap nn, h.inv, h.live, h.arm, h.dead, h.len, h.fit, h.nx, h.rc⟩⟩
    have WS : Hid (∀ W gj g b V q j i wn, FU w W gj g b V q j k i wn → Calls Try.prog 22 #[.pointer (some ⟨g, 0, none⟩)] W fun e w' => e = .returned (.int .i64 q.writes) ∧ FU w w' gj g b V q j k i wn) := fun W gj g b V q j i wn h => (d_writes q (F2 g b) g b W (fun _ => Iff.rfl) h.lj.at_.dk).mono fun e w' kk => ⟨kk.1, ⟨h.lj.disk kk.2.1 kk.2.2, h.inv, h.live, h.arm, h.dead, h.len, h.fit, h.nx, h.rc⟩⟩
    have AP : Hid (∀ W gj g b V q j i wn, i < 60 → FU w W gj g b V q j k i wn → Calls Try.prog 12 #[.pointer (some ⟨gj, 0, none⟩), .string s] W fun e w' => e = .returned (.int .i64 (append q j s).e) ∧ ((append q j s).e = 0 ∧ (sizeN s.size : Int) ≤ leftN q j ∧ leftN (append q j s).q (append q j s).j = leftN q j - sizeN s.size ∧ (append q j s).q.writes = q.writes + sizeN s.size ∧ (∃ V', FU w w' gj g b V' (append q j s).q (append q j s).j k (i + 1) (wn + 1)) ∨ append q j s = ⟨q, j, 73⟩ ∧ leftN q j < sizeN s.size ∧ ∃ V', FU w w' gj g b V' q j k (i + 1) wn)) := fun W gj g b V q j i wn hi h =>
      (p_append q j gj g b k (600 + 300 * i) V s W h.lj.at_ h.fit (by omega) (by rw [h.len]; omega) (by rw [h.len]; omega) (inv_fit h.inv) (by have := h.inv.next; omega) hs).mono fun e w' kk => by
        obtain ⟨k1, V', k2, -, -⟩ := h.lj.did kk
        refine ⟨k1, ?_⟩
        rcases append_sure (s := s) h.inv h.live h.arm h.dead (by omega) with ⟨e1, e2, e3, e4, e5, e6, e7, e8, e9, -⟩ | ⟨e1, e2⟩
        · have hq := append_qfit (j := j) (s := s) h.fit
          refine Or.inl ⟨e1, e2, ?_, e8, V', k2, e5, Live.of_fit hq e6, e7, by rw [e4], e9.trans h.len, hq.more (by omega), by rw [e4]; have := h.nx; show j.next + 1 ≤ _; omega, by rw [e4]; show (j.recs ++ [s]).length = _; rw [List.length_append, List.length_singleton, h.rc]⟩
          unfold leftN
          rw [room_same e9, e4]
          show (roomD q : Int) - ((j.used + sizeN s.size : Nat) : Int) = _
          omega
        · refine Or.inr ⟨e1, ?_, V', ?_⟩
          · have := h.nx
            unfold Jour.most at e2
            omega
          · rw [e1] at k2
            exact ⟨k2, h.inv, h.live, h.arm, h.dead, h.len, h.fit.more (by omega), by have := h.nx; omega, h.rc⟩
    have RC : Hid (∀ W gj g b V q j i wn, FU w W gj g b V q j k i wn → Calls Try.prog 19 #[.pointer (some ⟨gj, 0, none⟩)] W fun e w' => ∃ A c, e = .returned (.slice A wn c) ∧ FU w w' gj g b V q j k i wn) := fun W gj g b V q j i wn h =>
      (p_records q j gj g b V W h.lj.at_ (by have h1 := (inv_fit h.inv).recs; have h2 := (inv_fit h.inv).used; have h3 : roomD q ≤ 4096 := (by unfold roomD; rw [h.len]; omega); omega) (inv_texts h.inv).2).mono fun e w' kk => by
        obtain ⟨v, k1, k2, k3⟩ := kk
        obtain ⟨A, c, rfl⟩ := Slice.own_slice k2
        rw [h.rc] at k1
        exact ⟨A, c, k1, ⟨h.lj.more k3, h.inv, h.live, h.arm, h.dead, h.len, h.fit, h.nx, h.rc⟩⟩
    have SZ : Hid (∀ W, Calls Try.prog 23 #[.int .i64 (s.size : Nat)] W fun e w' => e = .returned (.int .i64 (sizeN s.size : Nat)) ∧ W = w') := fun W => by
      have := r_fsize (s.size : Int) W (by omega)
      rwa [show sizeV (s.size : Int) = (sizeN s.size : Nat) by unfold sizeV; rw [if_pos (by omega)]; rfl] at this
    have HLB : Hid (∀ W gj g b V q j i wn, FU w W gj g b V q j k i wn → 0 ≤ leftN q j ∧ leftN q j ≤ 4096 ∧ q.writes ≤ 100000 ∨ 60 < i) := fun W gj g b V q j i wn h => by
      by_cases hi : 60 < i
      · exact Or.inr hi
      · have h1 := left_le (by rw [h.len]; omega) (inv_fit h.inv)
        have h2 := h.fit.writes
        exact Or.inl ⟨h1.1, h1.2, by omega⟩
    clear f0 I0 d0 a0 n0 L0 F0 hs hl hk hy hy2 hev
    generalize sizeN s.size = z at *
    have x0 := X0.out
    have x1 := X1.out
    have x2 := X2.out
    have x3 := X3.out
    go_enter Try.func5, Try.ntmps5
    go_wp2_with fail
    refine NW.out.mono ?_
    rintro e w1 ⟨g, b, rfl, h1, -⟩
    have H1 := Lib.hid h1
    clear h1 x0 x1 x2 x3
    go_wp2_with fail
    refine (FM.out _ _ _ H1.out).mono ?_
    rintro e w2 ⟨gj, V, rfl, h2⟩
    have H2 := Lib.hid h2
    clear h2 H1
    go_wp2_with fail
    go_loopw [9, 10] (fun s9 s10 wr => ∃ (i wn : Nat) (V : Value) (q : DSt) (j : JSt), i ≤ 60 ∧ wn ≤ i ∧ s9 = .int .i64 wn ∧ s10 = .int .i64 i ∧ Hid (FU w wr gj g b V q j k i wn)) (fun _ s10 _ => 60 - (intOf s10).toNat)
    case atStart => exact ⟨0, 0, V, _, _, by omega, by omega, rfl, rfl, H2.out⟩
    case round =>
      obtain ⟨i, wn, V, q, j, hi, hwn, rfl, rfl, H⟩ := hrel
      by_cases hlt : i < 60
      · have t2 : decide ((i : Int) < 60) = true := decide_eq_true (by omega)
        obtain ⟨hb1, hb2, hb3⟩ := (HLB.out _ _ _ _ _ _ _ _ _ H.out).resolve_right (by omega)
        go_wp2_with fail
        refine (LF.out _ _ _ _ _ _ _ _ _ H.out).mono ?_
        rintro e w3 ⟨rfl, h3⟩
        have H3 := Lib.hid h3
        clear h3 H
        go_wp2_with fail
        refine (WS.out _ _ _ _ _ _ _ _ _ H3.out).mono ?_
        rintro e w4 ⟨rfl, h4⟩
        have H4 := Lib.hid h4
        clear h4 H3
        go_wp2_with fail
        refine (AP.out _ _ _ _ _ _ _ _ _ hlt H4.out).mono ?_
        rintro e w5 ⟨rfl, hcase⟩
        rcases hcase with ⟨e1, e2, e3, e4, V', h5⟩ | ⟨e1, e2, V', h5⟩
        · have t3 : decide ((z : Int) ≤ leftN q j) = true := decide_eq_true e2
          have H5 := Lib.hid h5
          have J1 : Hid (wrap64 (leftN q j - (z : Int)) = leftN q j - (z : Int)) := IntWalk.wrap64_in _ (by omega)
          have J2 : Hid (wrap64 ((q.writes : Int) + (z : Int)) = ((q.writes + z : Nat) : Int)) := show _ = _ by rw [IntWalk.wrap64_in _ (by omega)]; omega
          have J3 : Hid (wrap64 ((wn : Int) + 1) = ((wn + 1 : Nat) : Int)) := show _ = _ by rw [IntWalk.wrap64_in _ (by omega)]; omega
          rw [e1]
          have E3 := Lib.hid e3
          have E4 := Lib.hid e4
          clear h5 H4 e1 e2 e3 e4 hb1 hb2 hb3
          generalize (append q j s).q = q2 at *
          generalize (append q j s).j = j2 at *
          generalize leftN q j = L at *
          have LF2 : Hid (∀ W i wn, FU w W gj g b V' q2 j2 k i wn → Calls Try.prog 21 #[.pointer (some ⟨gj, 0, none⟩)] W fun e w' => e = .returned (.int .i64 (L - (z : Int))) ∧ FU w w' gj g b V' q2 j2 k i wn) := fun W i wn h => by have := LF.out W gj g b V' q2 j2 i wn h; rwa [E3.out] at this
          have WS2 : Hid (∀ W i wn, FU w W gj g b V' q2 j2 k i wn → Calls Try.prog 22 #[.pointer (some ⟨g, 0, none⟩)] W fun e w' => e = .returned (.int .i64 (q.writes + z : Nat)) ∧ FU w w' gj g b V' q2 j2 k i wn) := fun W i wn h => by have := WS.out W gj g b V' q2 j2 i wn h; rwa [E4.out] at this
          have i1 := J1.out
          have i2 := J2.out
          have i3 := J3.out
          go_wp2_with fail
          refine (SZ.out w5).mono ?_
          rintro e w6 ⟨rfl, rfl⟩
          go_wp2_with fail
          refine (LF2.out _ _ _ H5.out).mono ?_
          rintro e w7 ⟨rfl, h7⟩
          have H7 := Lib.hid h7
          clear h7 H5
          go_wp2_with fail
          refine (WS2.out _ _ _ H7.out).mono ?_
          rintro e w8 ⟨rfl, h8⟩
          have H8 := Lib.hid h8
          clear h8 H7
          go_wp2_with fail
          go_roundw
          case rel => exact ⟨i + 1, wn + 1, V', q2, j2, (by clear i1 i2 i3; omega), (by clear i1 i2 i3; omega), rfl, (by clear i1 i2 i3; go_num), H8.out⟩
          case measure => clear i1 i2 i3; simp [intOf]; omega
        · have t3 : decide ((z : Int) ≤ leftN q j) = false := decide_eq_false (by omega)
          have H5 := Lib.hid h5
          rw [e1]
          clear h5 H4 e1 e2 hb1 hb2 hb3
          generalize leftN q j = L at *
          go_wp2_with fail
          refine (SZ.out w5).mono ?_
          rintro e w6 ⟨rfl, rfl⟩
          go_wp2_with fail
          refine (WS.out _ _ _ _ _ _ _ _ _ H5.out).mono ?_
          rintro e w8 ⟨rfl, h8⟩
          have H8 := Lib.hid h8
          clear h8 H5
          go_wp2_with fail
          go_roundw
          case rel => exact ⟨i + 1, wn, V', q, j, by omega, by omega, rfl, by go_num, H8.out⟩
          case measure => simp [intOf]; omega
      · obtain rfl : i = 60 := by omega
        have t2 : decide (((60 : Nat) : Int) < 60) = false := rfl
        go_wp2_with fail
        refine (RC.out _ _ _ _ _ _ _ _ _ H.out).mono ?_
        rintro e w3 ⟨A, c, rfl, h3⟩
        have H3 := Lib.hid h3
        clear h3 H
        go_wp2_with fail
        refine (wakes_journal w3).mono ?_
        rintro e w4 ⟨rfl, hb⟩
        have B4 := Lib.hid (H3.out.lj.below.trans (hb.mono H3.out.lj.below.size))
        clear hb
        go_wp2_with fail
        go_ret
        exact ⟨rfl, B4.out⟩

set_option maxRecDepth 100000 in
theorem journalFull_lifted (os : Os) (started : os.Started) (H : Type) (enc : TypeId × Value → H) :
    ReturnsInHanded {} Try.checked os 5 .any (Rows.journalFullSpec.pre6 enc Try.prog Try.f5 Rows.journalFullRow.domain false) (Rows.journalFullSpec.post enc Try.prog Try.f5 false true false false) := by
  refine Shell.law_lifted (C := Try.checked) (tb := 4) (by kernel_rfl) started (by kernel_rfl) Try.func5
    (ChangeSpec.witness6 (enc := enc) (C := Try.checked) false ⟨#[], #[.int .u8 0, .string ⟨#[]⟩], []⟩ 8 (by kernel_rfl) (by kernel_rfl) (by kernel_rfl) (by kernel_rfl))
    (by kernel_rfl) (by kernel_rfl) rfl rfl Try.underlying4 ?_
  intro W base args ds p hval0 hA0
  have hval : ∀ (j : Nat) t v, Try.f5.params[j]? = some t → args[j]? = some v → Value.okWide Try.prog W .any base t v := hval0
  have hA : DataW.TrodAll enc Try.prog W 0 (fun _ => true) true Try.f5.params.toList args.toList ds p := hA0
  clear hval0 hA0
  rw [Try.params5] at hA hval
  obtain ⟨v0, vs0, d0, ds0, p0, q0, hargs, rfl, rfl, h0, r0⟩ := trodAll_cons hA
  obtain ⟨v1, vs1, d1, ds1, p1, q1, rfl, rfl, rfl, h1, r1⟩ := trodAll_cons r0
  obtain ⟨rfl, rfl, rfl⟩ := trodAll_nil r1
  obtain rfl : args = #[v0, v1] := by cases args; simp_all
  refine ⟨rfl, ?_⟩
  obtain ⟨n0, rfl, -, -, wn0⟩ := open_int Try.underlying5 (hval 0 5 v0 rfl rfl) h0
  obtain ⟨n, rfl, hn⟩ := u8_nat wn0
  obtain ⟨s, rfl, -, -, w1⟩ := ChangeMaps.open_string Try.underlying9 (hval 1 9 v1 rfl rfl) h1
  have w1q : s.size ≤ 9223372036854775807 := by unfold maxLen at w1; omega
  exact journal_full n s W hn w1q

theorem journalFull_over : Rows.journalFullRow.holds Try.pinned (OpenSpec.ofChange Rows.journalFullSpec) :=
  OpenClaim.holds_of_wide 5 Try.f5 rfl rfl rfl rfl rfl rfl rfl ⟨rfl, rfl, rfl, rfl, rfl⟩ rfl rfl rfl rfl rfl (by kernel_rfl) Try.func5 (by kernel_rfl)
    (of_decide_eq_true (by kernel_rfl)) (by unfold Func.isWrapper; first | (rw [if_pos (by decide +kernel)]; kernel_rfl) | (rw [if_neg (by decide +kernel)]; exact ⟨rfl, rfl⟩))
    (fun os st H enc _ => journalFull_lifted os st H enc)

/-- The statement. -/
theorem journalFull_proved : Rows.JournalFullSaid := journalFull_over
end Go.Proofs.Ytdnodampmpdfbaa.Law
