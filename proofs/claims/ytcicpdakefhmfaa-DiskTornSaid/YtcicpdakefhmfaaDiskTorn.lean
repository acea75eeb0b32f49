/- Of a write that a crash cut; no condition. -/
import Derived.Test.YtcicpdakefhmfaaGA
import Derived.Test.YtcicpdakefhmfaaGDl
import Derived.Deep.RegionHeld3
import Derived.Deep.DeepCutAuto
import Derived.ChangeMaps5
namespace Go.Proofs.Ytcicpdakefhmfaa.Law
open Go.ChangeShapes Go.WideShapes Go.ChangeAt Go.RowKit Go.Deep Disk Stp Nul

theorem below_on {a b c : World} (h : Below a.heap.size a b) (k : Below b.heap.size b c) : Below a.heap.size a c := h.trans (k.mono h.size)
theorem below_one (w : World) (o : Obj) : Below w.heap.size w (w.alloc o) := (Below.refl _ _).alloc (Nat.le_refl _) o
theorem u8_nat {z : Int} (h : (Lit.int .u8 z).wf = true) : ∃ n : Nat, z = n ∧ n < 256 := by
  have h : 0 ≤ z ∧ z ≤ 255 := by simpa [Lit.wf, IntKind.min, IntKind.max, IntKind.bits, IntKind.signed] using h
  exact ⟨z.toNat, by omega, by omega⟩
set_option maxRecDepth 20000 in
set_option maxHeartbeats 4000000 in
theorem torn_walk (A p C f0 f1 f2 : Nat) (w : World) (hA : A < 256) (hp : p < 256) (hC : C < 256) (h0 : f0 < 256) (h1 : f1 < 256) (h2 : f2 < 256) :
    Calls Try.prog 4 #[.agg #[.int .u8 (A : Nat), .int .u8 (p : Nat), .int .u8 (C : Nat)], .agg #[.int .u8 (f0 : Nat), .int .u8 (f1 : Nat), .int .u8 (f2 : Nat)]] w fun e w' => e = .returned (.bool true) ∧ Below w.heap.size w w' := by
  obtain ⟨k, hk⟩ : ∃ k, A % 6 = k := ⟨_, rfl⟩
  obtain ⟨i, hi⟩ : ∃ i, C % 8 = i := ⟨_, rfl⟩
  have hk5 : k ≤ 5 := by omega
  have hi8 : i < 8 := by omega
  go_enter Try.func4, Try.ntmps4
  go_wp2_with fail
  obtain ⟨wb, hwb⟩ : ∃ wb, wb = (w.alloc (.cells #[.int .u8 (A : Nat), .int .u8 (p : Nat), .int .u8 (C : Nat)] 48)).alloc (.cells #[.int .u8 (f0 : Nat), .int .u8 (f1 : Nat), .int .u8 (f2 : Nat)] 48) := ⟨_, rfl⟩
  have hsz : wb.heap.size = w.heap.size + 2 := by rw [hwb]; simp
  have a0 : wb.cell? ⟨w.heap.size, 0, none⟩ = some (.int .u8 (A : Nat)) := by rw [hwb]; exact ((below_one _ _).cell (p := ⟨w.heap.size, 0, none⟩) (by simp)).trans (World.cell?_alloc_new ..)
  have a1 : wb.cell? ⟨w.heap.size, 1, none⟩ = some (.int .u8 (p : Nat)) := by rw [hwb]; exact ((below_one _ _).cell (p := ⟨w.heap.size, 1, none⟩) (by simp)).trans (World.cell?_alloc_new ..)
  have a2 : wb.cell? ⟨w.heap.size, 2, none⟩ = some (.int .u8 (C : Nat)) := by rw [hwb]; exact ((below_one _ _).cell (p := ⟨w.heap.size, 2, none⟩) (by simp)).trans (World.cell?_alloc_new ..)
  have hsa : (w.alloc (.cells #[.int .u8 (A : Nat), .int .u8 (p : Nat), .int .u8 (C : Nat)] 48)).heap.size = w.heap.size + 1 := by simp
  have b0 : wb.cell? ⟨w.heap.size + 1, 0, none⟩ = some (.int .u8 (f0 : Nat)) := by rw [hwb, ← hsa]; exact World.cell?_alloc_new ..
  have b1 : wb.cell? ⟨w.heap.size + 1, 1, none⟩ = some (.int .u8 (f1 : Nat)) := by rw [hwb, ← hsa]; exact World.cell?_alloc_new ..
  have b2 : wb.cell? ⟨w.heap.size + 1, 2, none⟩ = some (.int .u8 (f2 : Nat)) := by rw [hwb, ← hsa]; exact World.cell?_alloc_new ..
  have B0 : Hid (Below w.heap.size w wb) := show Below _ _ _ by rw [hwb]; exact ((Below.refl _ _).alloc (Nat.le_refl _) _).alloc (by simp) _
  have HF : Hid (∀ W, Below wb.heap.size wb W → W.cell? ⟨w.heap.size + 1, 0, none⟩ = some (.int .u8 (f0 : Nat)) ∧ W.cell? ⟨w.heap.size + 1, 1, none⟩ = some (.int .u8 (f1 : Nat)) ∧ W.cell? ⟨w.heap.size + 1, 2, none⟩ = some (.int .u8 (f2 : Nat))) := fun W hW =>
    ⟨(hW.cell (p := ⟨w.heap.size + 1, 0, none⟩) (by show w.heap.size + 1 < _; omega)).trans b0, (hW.cell (p := ⟨w.heap.size + 1, 1, none⟩) (by show w.heap.size + 1 < _; omega)).trans b1, (hW.cell (p := ⟨w.heap.size + 1, 2, none⟩) (by show w.heap.size + 1 < _; omega)).trans b2⟩
  rw [← hwb]
  clear hwb b0 b1 b2 hsa
  generalize hg : w.heap.size + 1 = gb at *
  have k1 : Int.tmod (A : Int) 6 = (k : Nat) := by rw [← hk]; rfl
  have k2 : Int.tmod (C : Int) 8 = (i : Nat) := by rw [← hi]; rfl
  have m1 : IntKind.i64.wrap (A : Int) = A := IntWalk.i64_in _ (by omega)
  have m2 : IntKind.i64.wrap (C : Int) = C := IntWalk.i64_in _ (by omega)
  have m3 : IntKind.i64.wrap (p : Int) = p := IntWalk.i64_in _ (by omega)
  clear hk hi hg
  go_quiet (fail)
  go_wp2_with fail
  obtain ⟨wc, hwc⟩ : ∃ wc, wb.drewN nq = wc := ⟨_, rfl⟩
  have BC : Hid (Below wb.heap.size wb wc) := show Below _ _ _ by rw [← hwc]; exact ⟨rfl, rfl, rfl, Nat.le_refl _, fun _ _ => rfl⟩
  rw [hwc]
  clear hwc a0 a1 a2 hsz
  obtain ⟨X, hX⟩ : ∃ X, blockS f0 = X := ⟨_, rfl⟩
  obtain ⟨Y, hY⟩ : ∃ Y, blockS f1 = Y := ⟨_, rfl⟩
  obtain ⟨Z, hZ⟩ : ∃ Z, blockS f2 = Z := ⟨_, rfl⟩
  have sX : X.size = 256 := hX ▸ block_size f0
  have sY : Y.size = 256 := hY ▸ block_size f1
  have sZ : Z.size = 256 := hZ ▸ block_size f2
  have BX : Hid (∀ W F a q, OneD wb W F a q → Calls Try.prog 21 #[.int .u8 (f0 : Nat)] W fun e w' => e = .returned (.string X) ∧ OneD wb w' F a q) := fun W F a q h => (r_block f0 W h0).mono fun e w' k => ⟨hX ▸ k.1, h.more k.2⟩
  have BY : Hid (∀ W F a q, OneD wb W F a q → Calls Try.prog 21 #[.int .u8 (f1 : Nat)] W fun e w' => e = .returned (.string Y) ∧ OneD wb w' F a q) := fun W F a q h => (r_block f1 W h1).mono fun e w' k => ⟨hY ▸ k.1, h.more k.2⟩
  have BZ : Hid (∀ W F a q, OneD wb W F a q → Calls Try.prog 21 #[.int .u8 (f2 : Nat)] W fun e w' => e = .returned (.string Z) ∧ OneD wb w' F a q) := fun W F a q h => (r_block f2 W h2).mono fun e w' k => ⟨hZ ▸ k.1, h.more k.2⟩
  have WR : Hid (∀ W F a q m (j : Nat) s (x : Int), OneD wb W F a q → q.Fit 8 m → m ≤ 1000 → j < 8 → s.size = 256 → q.writeE j s = x → Calls Try.prog 10 #[.pointer (some a), .int .i64 (j : Nat), .string s] W fun e w' => e = .returned (.int .i64 x) ∧ ∃ F', OneD wb w' F' a (q.write j s)) := fun W F a q m j s x h hf hm hj hs hx => (k_write q F a j s W 8 m h.own hf (by omega) (by omega) (by omega)).mono fun e w' k => by
    obtain ⟨k0, F', k1, k2, k3⟩ := k
    exact ⟨hx ▸ k0, F', h.did k1 k2 k3⟩
  clear hX hY hZ
  refine (k_new 8 wc (by decide) (by decide)).mono ?_
  rintro e w1 ⟨a, F1, rfl, n1, n2, n3⟩
  have H1 : Hid (OneD wb w1 F1 a (newD 8)) := show OneD _ _ _ _ _ from ⟨n1, fun i hi => Nat.le_trans BC.out.size (n3 i hi), BC.out.trans (n2.mono BC.out.size)⟩
  clear n1 n2 n3
  go_wp2_with fail
  clear m1 m2 k1 k2
  go_loopw [13] (fun t wr => ∃ (j : Nat) (q : DSt) (F : Nat → Prop), j ≤ 8 ∧ t = .int .i64 j ∧ Hid (OneD wb wr F a q) ∧ Hid (In1 X q j)) (fun t _ => 8 - (intOf t).toNat)
  case atStart => exact ⟨0, newD 8, F1, Nat.zero_le _, rfl, H1, in1_new X⟩
  case round =>
    obtain ⟨j, q, F, hj, rfl, HO, HI⟩ := hrel
    by_cases hlt : j < 8
    · have t1 : decide ((j : Int) < 8) = true := decide_eq_true (by omega)
      obtain ⟨e1, hin⟩ := in1_next HI.out hlt sX
      have HI2 := Lib.hid hin
      have c0 := (HF.out wr HO.out.below).1
      have W1 := Lib.hid (fun W F h => WR.out W F a q j j X 0 h HI.out.fit (by omega) hlt sX e1)
      clear hin e1
      go_wp2_with fail
      refine (BX.out wr F a q HO.out).mono ?_
      rintro e w2 ⟨rfl, h⟩
      have H2 := Lib.hid h
      clear h
      go_wp2_with fail
      refine (W1.out w2 F H2.out).mono ?_
      rintro e w3 ⟨rfl, F3, h⟩
      have H3 := Lib.hid h
      clear h c0
      go_wp2_with fail
      go_roundw
      case rel => exact ⟨j + 1, _, _, by omega, by go_num, H3, HI2⟩
      case measure => simp [intOf]; omega
    · obtain rfl : j = 8 := by omega
      have IA := Lib.hid (in2_first (i := i) Y HI.out hk5 hp)
      have AR := Lib.hid (k_arm q F a k p wr 8 8 HO.out.own HI.out.fit (by omega) (by omega))
      rw [IA.out.1] at AR
      go_wp2_with fail
      refine AR.out.mono ?_
      rintro e w2 ⟨rfl, F2, n1, n2, n3⟩
      have H2 := Lib.hid (HO.out.did n1 n2 n3)
      have I2 := Lib.hid IA.out.2
      clear n1 n2 n3 AR IA HO HI
      generalize q.arm k p = q2 at *
      go_wp2_with fail
      clear hj hlt
      go_loopw [14] (fun t wr => ∃ (j : Nat) (q : DSt) (F : Nat → Prop), j ≤ k ∧ t = .int .i64 j ∧ Hid (OneD wb wr F a q) ∧ Hid (In2 X Y k p i q j)) (fun t _ => k - (intOf t).toNat)
      case atStart => exact ⟨0, q2, F2, Nat.zero_le _, rfl, H2, I2⟩
      case round =>
        obtain ⟨j, q, F, hj, rfl, HO, HI⟩ := hrel
        by_cases hlt : j < k
        · have t1 : decide (j < k) = true := decide_eq_true hlt
          obtain ⟨e1, hin⟩ := in2_next HI.out hlt hk5 sY
          have HI2 := Lib.hid hin
          have c1 := (HF.out wr HO.out.below).2.1
          have W1 := Lib.hid (fun W F h => WR.out W F a q (8 + j) ((i + 1 + j) % 8) Y 0 h HI.out.fit (by omega) (Nat.mod_lt _ (by decide)) sY e1)
          have x1 : IntKind.i64.wrap ((i : Int) + 1) = (i : Int) + 1 := IntWalk.i64_in _ (by omega)
          have x2 : IntKind.i64.wrap ((i : Int) + 1 + j) = (i : Int) + 1 + j := IntWalk.i64_in _ (by omega)
          have x3 : Int.tmod ((i : Int) + 1 + j) 8 = (((i + 1 + j) % 8 : Nat) : Int) := by rw [Int.tmod_eq_emod_of_nonneg (by omega)]; omega
          clear hin e1
          generalize (i + 1 + j) % 8 = z at *
          go_wp2_with fail
          refine (BY.out wr F a q HO.out).mono ?_
          rintro e w3 ⟨rfl, h⟩
          have H3 := Lib.hid h
          clear h
          go_wp2_with fail
          refine (W1.out w3 F H3.out).mono ?_
          rintro e w4 ⟨rfl, F3, h⟩
          have H4 := Lib.hid h
          clear h c1 x1 x2 x3
          go_wp2_with fail
          go_roundw
          case rel => exact ⟨j + 1, _, _, by omega, by go_num, H4, HI2⟩
          case measure => simp [intOf]; omega
        · obtain rfl : j = k := by omega
          have t1 : decide (j < j) = false := decide_eq_false (by omega)
          have IC := Lib.hid (in3_first HI.out hi8 sZ)
          have c2 := (HF.out wr HO.out.below).2.2
          have W1 := Lib.hid (fun W F h => WR.out W F a q (8 + j) i Z 74 h HI.out.fit (by omega) hi8 sZ IC.out.1)
          have I3 := Lib.hid IC.out.2
          clear IC
          generalize q.write i Z = q3 at *
          go_wp2_with fail
          refine (BZ.out wr F a q HO.out).mono ?_
          rintro e w3 ⟨rfl, h⟩
          have H3 := Lib.hid h
          clear h
          go_wp2_with fail
          refine (W1.out w3 F H3.out).mono ?_
          rintro e w4 ⟨rfl, F3, h⟩
          have H4 := Lib.hid h
          clear h c2
          have c2 := (HF.out w4 H4.out.below).2.2
          go_wp2_with fail
          have IG := Lib.hid (in3_again I3.out i Z)
          have W2 := Lib.hid (fun W F h => WR.out W F a q3 (9 + j) i Z 74 h I3.out.fit (by omega) hi8 sZ IG.out.1)
          rw [IG.out.2.1] at W2
          refine (BZ.out w4 F3 a q3 H4.out).mono ?_
          rintro e w5 ⟨rfl, h⟩
          have H5 := Lib.hid h
          clear h c2
          go_wp2_with fail
          refine (W2.out w5 F3 H5.out).mono ?_
          rintro e w6 ⟨rfl, F6, h⟩
          have H6 := Lib.hid h
          clear h
          go_wp2_with fail
          have RD := Lib.hid (k_read q3 F6 a 0 w6 8 (9 + j) H6.out.own I3.out.fit (by omega))
          rw [show q3.readE 0 = 74 from (in3_again I3.out 0 Z).2.2] at RD
          refine RD.out.mono ?_
          rintro e w7 ⟨rfl, F7, n1, n2, n3⟩
          have H7 := Lib.hid (H6.out.did n1 n2 n3)
          clear n1 n2 n3 RD
          go_wp2_with fail
          refine (k_start q3 F7 a w7 8 (9 + j) H7.out.own I3.out.fit).mono ?_
          rintro e w8 ⟨rfl, F8, n1, n2, n3⟩
          have H8 := Lib.hid (H7.out.did n1 n2 n3)
          have I4 := Lib.hid (in4_first I3.out)
          clear n1 n2 n3 IG W1 W2 H2 H3 H4 H5 H6 H7 HO HI I2 I3
          generalize q3.start = q4 at *
          go_wp2_with fail
          go_loopw [17] (fun t wr => ∃ (o : Nat) (F : Nat → Prop), o ≤ 8 ∧ t = .int .i64 o ∧ Hid (OneD wb wr F a q4)) (fun t _ => 8 - (intOf t).toNat)
          case atStart => exact ⟨0, F8, Nat.zero_le _, rfl, H8⟩
          case round =>
            obtain ⟨o, F, ho, rfl, HO⟩ := hrel
            by_cases hlo : o < 8
            · have t1 : decide ((o : Int) < 8) = true := decide_eq_true (by omega)
              have RI := Lib.hid (in4_read I4.out hlo)
              have x2 : IntKind.i64.wrap ((i : Int) + o) = (i : Int) + o := IntWalk.i64_in _ (by omega)
              have x3 : Int.tmod ((i : Int) + o) 8 = (((i + o) % 8 : Nat) : Int) := by rw [Int.tmod_eq_emod_of_nonneg (by omega)]; omega
              have RD := Lib.hid (fun W F h => k_read q4 F a ((i + o) % 8 : Nat) W 8 (9 + j) (OneD.own (w := wb) (wr := W) h) I4.out.fit (by omega))
              rw [RI.out.1, RI.out.2] at RD
              clear RI
              generalize (i + o) % 8 = z at *
              have c0 := (HF.out wr HO.out.below).1
              by_cases o0 : o = 0
              · rw [if_pos o0] at RD
                have t2 : ((o : Int) == 0) = true := by rw [o0]; rfl
                have t3 : decide ((1 : Int) ≤ o) = false := decide_eq_false (by omega)
                have HO0 := Lib.hid o0
                unfold torn at RD
                have P0 : (0 : Int) ≤ p := by omega
                have P1 : (p : Int) ≤ 256 := by omega
                have q1 : (Z.extract 0 p).size = p := by rw [ByteArray.size_extract]; omega
                have q2 : (X.extract p 256).size = 256 - p := by rw [ByteArray.size_extract]; omega
                have z1 : ¬ (9223372036854775807 < p + (256 - p)) := by omega
                clear o0
                go_wp2_with fail
                refine (RD.out wr F HO.out).mono ?_
                rintro e w9 ⟨rfl, F9, n1, n2, n3⟩
                have H9 := Lib.hid (HO.out.did n1 n2 n3)
                clear n1 n2 n3 c0
                have c0 := (HF.out w9 H9.out.below).1
                go_wp2_with fail
                refine (BX.out w9 F9 a q4 H9.out).mono ?_
                rintro e w10 ⟨rfl, h⟩
                have H10 := Lib.hid h
                clear h
                have c2 := (HF.out w10 H10.out.below).2.2
                go_wp2_with fail
                have H10D := Lib.hid H10.out.drew
                go_region_held3 (fun w' => w'.cell? ⟨gb, 2, none⟩ = some (.int .u8 (f2 : Nat)))
                  (first | exact c3 | exact c2)
                  (first
                    | (go_at_call 21
                       with_reducible refine (BZ.out _ F9 a q4 H10D.out).mono ?_
                       rintro e w11 ⟨rfl, h⟩
                       have H11 := Lib.hid h
                       have c3 := (HF.out w11 h.below).2.2
                       clear h))
                clear c0 c2 x2 x3
                go_wp2_with fail
                go_roundw
                case rel => exact ⟨o + 1, _, by omega, by go_num, H11⟩
                case measure => simp [intOf]; omega
              · rw [if_neg o0] at RD
                have t2 : ((o : Int) == 0) = false := by rw [beq_eq_false_iff_ne]; omega
                have t3 : decide ((1 : Int) ≤ o) = true := decide_eq_true (by omega)
                by_cases ok : o ≤ j
                · rw [if_pos ok] at RD
                  have t4 : decide (o ≤ j) = true := decide_eq_true ok
                  go_wp2_with fail
                  refine (RD.out wr F HO.out).mono ?_
                  rintro e w9 ⟨rfl, F9, n1, n2, n3⟩
                  have H9 := Lib.hid (HO.out.did n1 n2 n3)
                  clear n1 n2 n3 c0
                  have c0 := (HF.out w9 H9.out.below).1
                  go_wp2_with fail
                  refine (BX.out w9 F9 a q4 H9.out).mono ?_
                  rintro e w10 ⟨rfl, h⟩
                  have H10 := Lib.hid h
                  clear h
                  have c1 := (HF.out w10 H10.out.below).2.1
                  go_wp2_with fail
                  refine (BY.out w10 F9 a q4 H10.out).mono ?_
                  rintro e w11 ⟨rfl, h⟩
                  have H11 := Lib.hid h
                  clear h c0 c1 x2 x3
                  go_wp2_with fail
                  go_roundw
                  case rel => exact ⟨o + 1, _, by omega, by go_num, H11⟩
                  case measure => simp [intOf]; omega
                · rw [if_neg ok] at RD
                  have t4 : decide (o ≤ j) = false := decide_eq_false ok
                  go_wp2_with fail
                  refine (RD.out wr F HO.out).mono ?_
                  rintro e w9 ⟨rfl, F9, n1, n2, n3⟩
                  have H9 := Lib.hid (HO.out.did n1 n2 n3)
                  clear n1 n2 n3 c0
                  have c0 := (HF.out w9 H9.out.below).1
                  go_wp2_with fail
                  refine (BX.out w9 F9 a q4 H9.out).mono ?_
                  rintro e w10 ⟨rfl, h⟩
                  have H10 := Lib.hid h
                  clear h c0 x2 x3
                  go_wp2_with fail
                  go_roundw
                  case rel => exact ⟨o + 1, _, by omega, by go_num, H10⟩
                  case measure => simp [intOf]; omega
            · obtain rfl : o = 8 := by omega
              have c1 := (HF.out wr HO.out.below).2.1
              have IW := Lib.hid (in4_write I4.out hi8 sY)
              have W1 := Lib.hid (fun W F h => WR.out W F a q4 (9 + j) i Y 0 h I4.out.fit (by omega) hi8 sY IW.out.1)
              have x1 : IntKind.i64.wrap (8 + (j : Int)) = 8 + (j : Int) := IntWalk.i64_in _ (by omega)
              have x2 : IntKind.i64.wrap (8 + (j : Int) + 1) = 8 + (j : Int) + 1 := IntWalk.i64_in _ (by omega)
              go_wp2_with fail
              refine (BY.out wr F a q4 HO.out).mono ?_
              rintro e w9 ⟨rfl, h⟩
              have H9 := Lib.hid h
              clear h
              go_wp2_with fail
              refine (W1.out w9 F H9.out).mono ?_
              rintro e w10 ⟨rfl, F10, h⟩
              have H10 := Lib.hid h
              clear h
              go_wp2_with fail
              have WS := Lib.hid (k_writes _ F10 a w10 8 (10 + j) H10.out.own IW.out.2.1)
              rw [IW.out.2.2, show ((8 + j + 1 : Nat) : Int) = 8 + (j : Int) + 1 by omega] at WS
              refine WS.out.mono ?_
              rintro e w11 ⟨rfl, F11, n1, n2, n3⟩
              have H11 := Lib.hid (H10.out.did n1 n2 n3)
              clear n1 n2 n3 WS
              go_wp2_with fail
              refine (wakes_disk w11).mono ?_
              rintro e w12 ⟨rfl, hb⟩
              have HB := Lib.hid (below_on (below_on B0.out H11.out.below) hb)
              clear hb
              go_wp2_with fail
              go_ret
              exact ⟨rfl, HB.out⟩

set_option maxRecDepth 100000 in
theorem diskTorn_lifted (os : Os) (started : os.Started) (H : Type) (enc : TypeId × Value → H) :
    ReturnsInHanded {} Try.checked os 4 .any (Rows.diskTornSpec.pre6 enc Try.prog Try.f4 Rows.diskTornRow.domain false) (Rows.diskTornSpec.post enc Try.prog Try.f4 false true false false) := by
  refine Shell.law_lifted (C := Try.checked) (tb := 4) (by kernel_rfl) started (by kernel_rfl) Try.func4
    (ChangeSpec.witness6 (enc := enc) (C := Try.checked) false ⟨#[], #[.agg #[.int .u8 0, .int .u8 0, .int .u8 0], .agg #[.int .u8 0, .int .u8 0, .int .u8 0]], []⟩ 8 (by kernel_rfl) (by kernel_rfl) (by kernel_rfl) (by kernel_rfl))
    (by kernel_rfl) (by kernel_rfl) rfl rfl Try.underlying4 ?_
  intro W base args ds p hval0 hA0
  have hval : ∀ (j : Nat) t v, Try.f4.params[j]? = some t → args[j]? = some v → Value.okWide Try.prog W .any base t v := hval0
  have hA : DataW.TrodAll enc Try.prog W 0 (fun _ => true) true Try.f4.params.toList args.toList ds p := hA0
  clear hval0 hA0
  rw [Try.params4] at hA hval
  obtain ⟨v0, vs0, d0, ds0, p0, q0, hargs, rfl, rfl, h0, r0⟩ := trodAll_cons hA
  obtain ⟨v1, vs1, d1, ds1, p1, q1, rfl, rfl, rfl, h1, r1⟩ := trodAll_cons r0
  obtain ⟨rfl, rfl, rfl⟩ := trodAll_nil r1
  obtain rfl : args = #[v0, v1] := by cases args; simp_all
  refine ⟨rfl, ?_⟩
  obtain ⟨zs, hlzs, rfl, hzzs⟩ := Shell.open_arr Try.underlying48 Try.underlying5 (by kernel_rfl) (by kernel_rfl) (hval 0 48 v0 rfl rfl) h0
  obtain ⟨x0, y0, u0, rfl⟩ := Shell.list3 zs hlzs
  obtain ⟨A, rfl, bA⟩ := u8_nat (hzzs x0 (by simp))
  obtain ⟨p, rfl, bp⟩ := u8_nat (hzzs y0 (by simp))
  obtain ⟨C, rfl, bC⟩ := u8_nat (hzzs u0 (by simp))
  obtain ⟨ys, hlys, rfl, hzys⟩ := Shell.open_arr Try.underlying48 Try.underlying5 (by kernel_rfl) (by kernel_rfl) (hval 1 48 v1 rfl rfl) h1
  obtain ⟨x1, y1, u1, rfl⟩ := Shell.list3 ys hlys
  obtain ⟨f0, rfl, bf0⟩ := u8_nat (hzys x1 (by simp))
  obtain ⟨f1, rfl, bf1⟩ := u8_nat (hzys y1 (by simp))
  obtain ⟨f2, rfl, bf2⟩ := u8_nat (hzys u1 (by simp))
  exact torn_walk A p C f0 f1 f2 W bA bp bC bf0 bf1 bf2

theorem diskTorn_over : Rows.diskTornRow.holds Try.pinned (OpenSpec.ofChange Rows.diskTornSpec) :=
  OpenClaim.holds_of_wide 4 Try.f4 rfl rfl rfl rfl rfl rfl rfl ⟨rfl, rfl, rfl, rfl, rfl⟩ rfl rfl rfl rfl rfl (by kernel_rfl) Try.func4 (by kernel_rfl)
    (of_decide_eq_true (by kernel_rfl)) (by unfold Func.isWrapper; first | (rw [if_pos (by decide +kernel)]; kernel_rfl) | (rw [if_neg (by decide +kernel)]; exact ⟨rfl, rfl⟩))
    (fun os st H enc _ => diskTorn_lifted os st H enc)

/-- The statement. -/
theorem diskTorn_proved : Rows.DiskTornSaid := diskTorn_over
end Go.Proofs.Ytcicpdakefhmfaa.Law
