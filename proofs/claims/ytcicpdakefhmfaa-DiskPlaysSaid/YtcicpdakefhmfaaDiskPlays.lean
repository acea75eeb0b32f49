/- Whatever is done to sectors, one step behind the other; no condition. -/
import Derived.Test.YtcicpdakefhmfaaGA
import Derived.Test.YtcicpdakefhmfaaGDl
import Derived.Deep.RegionHeld3
import Derived.Deep.DeepCutAuto
import Derived.Deep.CutBlock
import Derived.ChangeMaps5
namespace Go.Proofs.Ytcicpdakefhmfaa.Law
open Go.ChangeShapes Go.WideShapes Go.ChangeAt Go.RowKit Go.Deep Disk Stp Nul

theorem below_on {a b c : World} (h : Below a.heap.size a b) (k : Below b.heap.size b c) : Below a.heap.size a c := h.trans (k.mono h.size)
theorem below_one (w : World) (o : Obj) : Below w.heap.size w (w.alloc o) := (Below.refl _ _).alloc (Nat.le_refl _) o
theorem plays_unfair (n : Int) (l : List St) (v : Value) (w : World) (hv : Sts w w.heap.size v l) (hf : fairB l = false) :
    Calls Try.prog 3 #[.int .i64 n, v] w fun e w' => e = .returned (.bool true) ∧ Below w.heap.size w w' := by
  have FR := Lib.hid (r_fair l v _ w hv)
  rw [hf] at FR
  obtain ⟨A, c, rfl⟩ := hv.shape
  clear hv hf
  go_enter Try.func3, Try.ntmps3
  go_wp2_with fail
  refine FR.out.mono ?_
  rintro e w1 ⟨rfl, rfl⟩
  go_wp2_with fail
  refine (wakes_disk w).mono ?_
  rintro e w2 ⟨rfl, hb⟩
  have HB := Lib.hid hb
  clear hb
  go_wp2_with fail
  go_ret
  exact ⟨rfl, HB.out⟩
theorem plays_bad (n : Int) (l : List St) (v : Value) (w : World) (hv : Sts w w.heap.size v l) (hf : fairB l = true) (hn : ¬ (1 ≤ n ∧ n ≤ 4096)) (hr : -9223372036854775808 ≤ n ∧ n ≤ 9223372036854775807) :
    Calls Try.prog 3 #[.int .i64 n, v] w fun e w' => e = .returned (.bool true) ∧ Below w.heap.size w w' := by
  have FR := Lib.hid (r_fair l v _ w hv)
  rw [hf] at FR
  obtain ⟨A, c, rfl⟩ := hv.shape
  clear hv hf
  have ND := Lib.hid (k_new_bad n w hn hr)
  have NR : Hid (∀ W, Calls Try.prog 9 #[.int .i64 n] W fun e w' => e = .returned (.tuple #[.pointer none, .int .i64 1]) ∧ W = w') := fun W => rnew_bad n W hn
  go_enter Try.func3, Try.ntmps3
  go_wp2_with fail
  refine FR.out.mono ?_
  rintro e w1 ⟨rfl, rfl⟩
  go_wp2_with fail
  refine ND.out.mono ?_
  rintro e w1 ⟨rfl, hb⟩
  have HB := Lib.hid hb
  clear hb
  go_wp2_with fail
  refine (NR.out w1).mono ?_
  rintro e w2 ⟨rfl, rfl⟩
  go_wp2_with fail
  go_loopw [9] (fun t wr => t = .int .i64 0 ∧ wr = w1) (fun _ _ => 0)
  case atStart => exact ⟨rfl, rfl⟩
  case round =>
    obtain ⟨rfl, rfl⟩ := hrel
    by_cases hl : 0 < l.length
    · have t1 : decide (0 < l.length) = true := decide_eq_true hl
      go_wp2_with fail
      refine (wakes_disk _).mono ?_
      rintro e w2 ⟨rfl, hb⟩
      have HB2 := Lib.hid (below_on HB.out hb)
      clear hb
      go_wp2_with fail
      go_ret
      exact ⟨rfl, HB2.out⟩
    · have t1 : decide (0 < l.length) = false := decide_eq_false hl
      go_wp2_with fail
      refine (wakes_disk _).mono ?_
      rintro e w2 ⟨rfl, hb⟩
      have HB2 := Lib.hid (below_on HB.out hb)
      clear hb
      go_wp2_with fail
      go_ret
      exact ⟨rfl, HB2.out⟩
set_option maxRecDepth 20000 in
set_option maxHeartbeats 4000000 in
theorem plays_good (k : Nat) (l : List St) (v : Value) (w : World) (hv : Sts w w.heap.size v l) (hfit : ∀ z ∈ l, z.Fit) (hf : fairB l = true) (h1 : 1 ≤ k) (h2 : k ≤ 4096) :
    Calls Try.prog 3 #[.int .i64 (k : Nat), v] w fun e w' => e = .returned (.bool true) ∧ Below w.heap.size w w' := by
  have FR := Lib.hid (r_fair l v _ w hv)
  rw [hf] at FR
  obtain ⟨A, c, rfl, -, -, hcell⟩ := hv
  have HC := Lib.hid hcell
  have HFIT := Lib.hid hfit
  have hf1 : (∀ z ∈ l, z.s.size ≤ 2000) ∧ l.length ≤ 150 := by
    unfold fairB at hf
    simp only [Bool.and_eq_true, decide_eq_true_iff, List.all_eq_true] at hf
    exact hf
  have HSM := Lib.hid hf1.1
  have hl := hf1.2
  clear hcell hfit hf hf1
  have ND := Lib.hid (k_new k w h1 h2)
  have NR : Hid (∀ W, Calls Try.prog 9 #[.int .i64 (k : Nat)] W fun e w' => ∃ g r, e = .returned (.tuple #[.pointer (some ⟨g, 0, none⟩), .int .i64 0]) ∧ DocAt w' g r (newD k) ∧ Below W.heap.size W w' ∧ W.heap.size ≤ g ∧ W.heap.size ≤ r) := fun W => r_new k W h1 h2
  go_enter Try.func3, Try.ntmps3
  go_wp2_with fail
  refine FR.out.mono ?_
  rintro e w1 ⟨rfl, rfl⟩
  go_wp2_with fail
  refine ND.out.mono ?_
  rintro e w1 ⟨a, F, rfl, n1, n2, n3⟩
  have H1 : Hid (OneD w w1 F a (newD k)) := show OneD _ _ _ _ _ from ⟨n1, n3, n2⟩
  clear n1 n2 n3 ND
  go_wp2_with fail
  refine (NR.out w1).mono ?_
  rintro e w2 ⟨g, r, rfl, n1, n2, n3, n4⟩
  have T0 : Hid (TwoD w w2 g r F a (newD k) (newD k)) := show TwoD _ _ _ _ _ _ _ _ from
    ⟨n1, (H1.out.more n2).own, ⟨fun e => by have := H1.out.own.lt g e; omega, fun e => by have := H1.out.own.lt r e; omega⟩, Nat.le_trans H1.out.below.size n3, Nat.le_trans H1.out.below.size n4, H1.out.low, (H1.out.more n2).below⟩
  clear n1 n2 n3 n4 NR H1
  go_wp2_with fail
  go_loopw [9] (fun t wr => ∃ (j : Nat) (q : DSt) (F : Nat → Prop), j ≤ l.length ∧ t = .int .i64 j ∧ Hid (TwoD w wr g r F a q q) ∧ Hid (q.Fit k j)) (fun t _ => l.length - (intOf t).toNat)
  case atStart => exact ⟨0, newD k, F, Nat.zero_le _, rfl, T0, new_fit h2⟩
  case round =>
    obtain ⟨j, q, F, hj, rfl, HT, HQ⟩ := hrel
    by_cases hlt : j < l.length
    · have t1 : decide (j < l.length) = true := decide_eq_true hlt
      have j0 : (0 : Int) ≤ j := by omega
      obtain ⟨b, off, rfl, hb, hx⟩ := HC.out (by omega)
      have X := hx j hlt
      have FIT := Lib.hid (HFIT.out _ (st_in hlt))
      have SML := Lib.hid (HSM.out _ (st_in hlt))
      clear hx
      generalize l.getD j st0 = z at *
      have hbl := HT.out.below
      have x0 := (hbl.cell (p := ⟨b, off + j * 4, none⟩) hb).trans X.1
      have x1 := (hbl.cell (p := ⟨b, off + j * 4 + 1, none⟩) hb).trans X.2.1
      have x2 := (hbl.cell (p := ⟨b, off + j * 4 + 2, none⟩) hb).trans X.2.2.1
      have x3 := (hbl.cell (p := ⟨b, off + j * 4 + 3, none⟩) hb).trans X.2.2.2
      clear X hbl T0 FR
      go_upto_region 11 with fail
      have TT := Lib.hid (TriD.made HT.out z)
      unfold stObj at TT
      have hgx : ∃ gx, gx = wr.heap.size := ⟨_, rfl⟩
      clear x0 x1 x2 x3 HT
      generalize wr.alloc (.cells #[.int .i64 z.kind, .int .i64 z.n, .int .i64 z.part, .string z.s] 33) = wa at *
      generalize wr.heap.size = gx at *
      clear hgx
      obtain ⟨c0, c1, c2, c3⟩ := TT.out.cells
      go_upto_block 2 with fail
      go_cut [] (fun wx => ∃ (q' : DSt) (F' : Nat → Prop), Hid (TwoD w wx g r F' a q' q') ∧ Hid (q'.Fit k (j + 1)))
      case first =>
        obtain ⟨fk, fn, fp, -⟩ := FIT.out
        unfold In64 at fn fp
        have hs6 : z.s.size ≤ 1000000 := by have := SML.out; omega
        have hj9 : j ≤ 1000000000 := by omega
        have TD := Lib.hid TT.out.drew
        have d0 := TD.out.cells
        by_cases k0 : z.kind = 0
        · have u0 : (z.kind == 0) = true := by rw [k0]; rfl
          clear k0
          go_wp2_with fail
          go_region_held3 (fun w' => w'.cell? ⟨gx, 1, none⟩ = some (.int .i64 z.n) ∧ w'.cell? ⟨gx, 3, none⟩ = some (.string z.s))
            (first | exact C2 | exact C1 | exact ⟨d0.2.1, d0.2.2.2⟩)
            (first
              | (go_at_call 10
                 with_reducible refine (k_write q F a z.n z.s wa.drew k j TD.out.two.own HQ.out hj9 fn hs6).mono ?_
                 rintro e w3 ⟨rfl, F3, n1, n2, n3⟩
                 have T1 := Lib.hid (TD.out.first n1 n2 n3)
                 have C1 := And.intro T1.out.cells.2.1 T1.out.cells.2.2.2
                 clear n1 n2 n3)
              | (go_at_call 11
                 with_reducible refine (r_write q g r z.n z.s w3 k j T1.out.two.doc HQ.out hj9).mono ?_
                 rintro e w4 ⟨rfl, n1, n2⟩
                 have T2 := Lib.hid (T1.out.second n1 n2)
                 have C2 := And.intro T2.out.cells.2.1 T2.out.cells.2.2.2
                 clear n1 n2))
          go_wp2_with fail
          go_meet
          exact ⟨q.write z.n z.s, F3, T2.out.two, HQ.out.write z.n z.s⟩
        · have u0 : (z.kind == 0) = false := by rw [beq_eq_false_iff_ne]; exact k0
          clear k0
          by_cases k1 : z.kind = 1
          · have u1 : (z.kind == 1) = true := by rw [k1]; rfl
            clear k1
            have RD := Lib.hid (k_read q F a z.n wa k j TT.out.two.own HQ.out fn)
            have RR : Hid (∀ W, DocAt W g r q → Calls Try.prog 13 #[.pointer (some ⟨g, 0, none⟩), .int .i64 z.n] W fun e w' => e = .returned (.tuple #[.string (q.readS z.n), .int .i64 (q.readE z.n)]) ∧ W = w') := fun W hW => r_read q g r z.n W hW fn
            generalize q.readS z.n = s1 at *
            generalize q.readE z.n = s2 at *
            go_wp2_with fail
            refine RD.out.mono ?_
            rintro e w3 ⟨rfl, F3, n1, n2, n3⟩
            have T1 := Lib.hid (TT.out.first n1 n2 n3)
            clear n1 n2 n3 RD c0 c1 c2 c3
            obtain ⟨c0, c1, c2, c3⟩ := T1.out.cells
            go_wp2_with fail
            refine (RR.out w3 T1.out.two.doc).mono ?_
            rintro e w4 ⟨rfl, rfl⟩
            clear RR
            go_wp2_with fail
            go_meet
            exact ⟨q, F3, T1.out.two, HQ.out.more (Nat.le_succ _)⟩
          · have u1 : (z.kind == 1) = false := by rw [beq_eq_false_iff_ne]; exact k1
            clear k1
            by_cases k2 : z.kind = 2
            · have u2 : (z.kind == 2) = true := by rw [k2]; rfl
              clear k2
              go_wp2_with fail
              go_region_held3 (fun w' => w'.cell? ⟨gx, 1, none⟩ = some (.int .i64 z.n) ∧ w'.cell? ⟨gx, 2, none⟩ = some (.int .i64 z.part))
                (first | exact C2 | exact C1 | exact ⟨d0.2.1, d0.2.2.1⟩)
                (first
                  | (go_at_call 14
                     with_reducible refine (k_arm q F a z.n z.part wa.drew k j TD.out.two.own HQ.out fn fp).mono ?_
                     rintro e w3 ⟨rfl, F3, n1, n2, n3⟩
                     have T1 := Lib.hid (TD.out.first n1 n2 n3)
                     have C1 := And.intro T1.out.cells.2.1 T1.out.cells.2.2.1
                     clear n1 n2 n3)
                  | (go_at_call 15
                     with_reducible refine (r_arm q g r z.n z.part w3 T1.out.two.doc).mono ?_
                     rintro e w4 ⟨rfl, n1, n2⟩
                     have T2 := Lib.hid (T1.out.second n1 n2)
                     have C2 := And.intro T2.out.cells.2.1 T2.out.cells.2.2.1
                     clear n1 n2))
              go_wp2_with fail
              go_meet
              exact ⟨q.arm z.n z.part, F3, T2.out.two, (HQ.out.arm z.n z.part).more (Nat.le_succ _)⟩
            · have u2 : (z.kind == 2) = false := by rw [beq_eq_false_iff_ne]; exact k2
              clear k2
              by_cases k3 : z.kind = 3
              · have u3 : (z.kind == 3) = true := by rw [k3]; rfl
                clear k3
                go_wp2_with fail
                refine (k_start q F a wa k j TT.out.two.own HQ.out).mono ?_
                rintro e w3 ⟨rfl, F3, n1, n2, n3⟩
                have T1 := Lib.hid (TT.out.first n1 n2 n3)
                clear n1 n2 n3
                go_wp2_with fail
                refine (r_start q g r w3 T1.out.two.doc).mono ?_
                rintro e w4 ⟨rfl, n1, n2⟩
                have T2 := Lib.hid (T1.out.second n1 n2)
                clear n1 n2
                go_wp2_with fail
                go_meet
                exact ⟨q.start, F3, T2.out.two, HQ.out.start.more (Nat.le_succ _)⟩
              · have u3 : (z.kind == 3) = false := by rw [beq_eq_false_iff_ne]; exact k3
                clear k3
                go_wp2_with fail
                go_meet
                exact ⟨q, F, TT.out.two, HQ.out.more (Nat.le_succ _)⟩
      case rest =>
        obtain ⟨q', F', HT2, HQ2⟩ := hcut
        have a1 := (doc_cells HT2.out.doc)
        obtain ⟨cq, -, -, a1, -, -, -, a5, -⟩ := a1
        have HD2 := Lib.hid HT2.out.drew
        have HCC : Hid (∀ W : World, W.heap[g]? = wc.heap[g]? → W.cell? ⟨g, 1, none⟩ = some (.bool q'.dead) ∧ W.cell? ⟨g, 5, none⟩ = some (.int .i64 q'.writes)) := fun W hh => by
          refine ⟨?_, ?_⟩
          · rw [← a1]; exact World.cell?_of_block hh
          · rw [← a5]; exact World.cell?_of_block hh
        have E0 : Hid (wc.drew.heap[g]? = wc.heap[g]?) := rfl
        have C0 := HCC.out wc.drew E0.out
        clear a1 a5 TT c0 c1 c2 c3
        go_wp2_with fail
        go_region_held3 (fun w' => w'.cell? ⟨g, 1, none⟩ = some (.bool q'.dead) ∧ w'.cell? ⟨g, 5, none⟩ = some (.int .i64 q'.writes))
          (first | exact C2 | exact C1 | exact C0)
          (first
            | (go_at_call 18
               with_reducible refine (k_dead q' F' a wc.drew k (j + 1) HD2.out.own HQ2.out).mono ?_
               rintro e w3 ⟨rfl, F3, n1, n2, n3⟩
               have E1 := Lib.hid ((n2.block g HD2.out.doc.lt.1 HD2.out.apart.1).trans E0.out)
               have H1 := Lib.hid (HD2.out.first n1 n2 n3)
               have C1 := HCC.out w3 E1.out
               clear n1 n2 n3)
            | (go_at_call 19
               with_reducible refine (k_writes q' F3 a w3 k (j + 1) H1.out.own HQ2.out).mono ?_
               rintro e w4 ⟨rfl, F4, n1, n2, n3⟩
               have E2 := Lib.hid ((n2.block g H1.out.doc.lt.1 H1.out.apart.1).trans E1.out)
               have H2 := Lib.hid (H1.out.first n1 n2 n3)
               have C2 := HCC.out w4 E2.out
               clear n1 n2 n3))
        clear C0 C1 C2 HCC
        go_wp2_with fail
        go_roundw
        case rel => exact ⟨j + 1, q', F4, by omega, by go_num, H2, HQ2⟩
        case measure => simp [intOf]; omega
    · obtain rfl : j = l.length := by omega
      have t1 : decide (l.length < l.length) = false := decide_eq_false (by omega)
      clear T0 FR
      go_wp2_with fail
      refine (k_start q F a _ k l.length HT.out.own HQ.out).mono ?_
      rintro e w3 ⟨rfl, F3, n1, n2, n3⟩
      have T1 := Lib.hid (HT.out.first n1 n2 n3)
      clear n1 n2 n3
      go_wp2_with fail
      refine (r_start q g r w3 T1.out.doc).mono ?_
      rintro e w4 ⟨rfl, n1, n2⟩
      have T2 := Lib.hid (T1.out.second n1 n2)
      clear n1 n2
      go_wp2_with fail
      refine (same_two w w4 g r F3 a q.start k l.length T2.out HQ.out.start).mono ?_
      rintro e w5 ⟨rfl, F5, h⟩
      have T3 := Lib.hid h
      clear h
      go_wp2_with fail
      refine (wakes_disk w5).mono ?_
      rintro e w6 ⟨rfl, hb⟩
      have HB := Lib.hid (below_on T3.out.below hb)
      clear hb
      go_wp2_with fail
      go_ret
      exact ⟨rfl, HB.out⟩
theorem plays_walk (n : Int) (l : List St) (v : Value) (w : World) (hv : Sts w w.heap.size v l) (hfit : ∀ z ∈ l, z.Fit) (hr : -9223372036854775808 ≤ n ∧ n ≤ 9223372036854775807) :
    Calls Try.prog 3 #[.int .i64 n, v] w fun e w' => e = .returned (.bool true) ∧ Below w.heap.size w w' := by
  cases hf : fairB l with
  | false => exact plays_unfair n l v w hv hf
  | true =>
    by_cases hn : 1 ≤ n ∧ n ≤ 4096
    · obtain ⟨k, rfl⟩ : ∃ k : Nat, n = k := ⟨n.toNat, by omega⟩
      exact plays_good k l v w hv hfit hf (by omega) (by omega)
    · exact plays_bad n l v w hv hf hn hr
theorem i64_range {z : Int} (h : (Lit.int .i64 z).wf = true) : -9223372036854775808 ≤ z ∧ z ≤ 9223372036854775807 := by
  simpa [Lit.wf, IntKind.min, IntKind.max, IntKind.bits, IntKind.signed] using h

set_option maxRecDepth 100000 in
theorem diskPlays_lifted (os : Os) (started : os.Started) (H : Type) (enc : TypeId × Value → H) :
    ReturnsInHanded {} Try.checked os 3 .any (Rows.diskPlaysSpec.pre6 enc Try.prog Try.f3 Rows.diskPlaysRow.domain false) (Rows.diskPlaysSpec.post enc Try.prog Try.f3 false true false false) := by
  refine Shell.law_lifted (C := Try.checked) (tb := 4) (by kernel_rfl) started (by kernel_rfl) Try.func3
    (ChangeSpec.witness6 (enc := enc) (C := Try.checked) false ⟨#[], #[.int .i64 0, .slice none 0 0], []⟩ 8 (by kernel_rfl) (by kernel_rfl) (by kernel_rfl) (by kernel_rfl))
    (by kernel_rfl) (by kernel_rfl) rfl rfl Try.underlying4 ?_
  intro W base args ds p hval0 hA0
  have hval : ∀ (j : Nat) t v, Try.f3.params[j]? = some t → args[j]? = some v → Value.okWide Try.prog W .any base t v := hval0
  have hA : DataW.TrodAll enc Try.prog W 0 (fun _ => true) true Try.f3.params.toList args.toList ds p := hA0
  clear hval0 hA0
  rw [Try.params3] at hA hval
  obtain ⟨v0, vs0, d0, ds0, p0, q0, hargs, rfl, rfl, h0, r0⟩ := trodAll_cons hA
  obtain ⟨v1, vs1, d1, ds1, p1, q1, rfl, rfl, rfl, h1, r1⟩ := trodAll_cons r0
  obtain ⟨rfl, rfl, rfl⟩ := trodAll_nil r1
  obtain rfl : args = #[v0, v1] := by cases args; simp_all
  refine ⟨rfl, ?_⟩
  obtain ⟨n, rfl, -, -, w0⟩ := open_int Try.underlying3 (hval 0 3 v0 rfl rfl) h0
  have b0 := i64_range w0
  obtain ⟨l, hvl, fitl⟩ := open_steps (t := 22) (e := 33) (ti := 3) (ts := 9) Try.underlying22 Try.underlying33 (by kernel_rfl) rfl rfl rfl rfl rfl rfl rfl rfl Try.underlying3 Try.underlying9 (by kernel_rfl) (by kernel_rfl) (hval 1 22 v1 rfl rfl) h1
  exact plays_walk n l v1 W hvl fitl b0

theorem diskPlays_over : Rows.diskPlaysRow.holds Try.pinned (OpenSpec.ofChange Rows.diskPlaysSpec) :=
  OpenClaim.holds_of_wide 3 Try.f3 rfl rfl rfl rfl rfl rfl rfl ⟨rfl, rfl, rfl, rfl, rfl⟩ rfl rfl rfl rfl rfl (by kernel_rfl) Try.func3 (by kernel_rfl)
    (of_decide_eq_true (by kernel_rfl)) (by unfold Func.isWrapper; first | (rw [if_pos (by decide +kernel)]; kernel_rfl) | (rw [if_neg (by decide +kernel)]; exact ⟨rfl, rfl⟩))
    (fun os st H enc _ => diskPlays_lifted os st H enc)

/-- The statement. -/
theorem diskPlays_proved : Rows.DiskPlaysSaid := diskPlays_over
end Go.Proofs.Ytcicpdakefhmfaa.Law
