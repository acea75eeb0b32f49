/- The program's own package journal: it begins anew. The program's own package journal: Append. The program's own package journal: Append and Save; of a journal that nobody made. The program's own package journal: what stands in an area is taken up. -/
import Derived.Test.YtndanhacmfhlaaaGreatGJc
import Derived.Test.YtndanhacmfhlaaaGreatGA
import Derived.WalkMore
namespace Go.Proofs.YtndanhacmfhlaaaGreat.Jour
open Go.ChangeShapes Go.WideShapes Go.ChangeAt Go.RowKit Go.Deep Els Go.Proofs.YtndanhacmfhlaaaGreat.Frame Disk

/-- A base, and then its head. -/
def bg (q : DSt) (area num : Nat) (s : ByteArray) : DSt × Int :=
  if (writeR q (startD q area) num s).2 ≠ 0 then writeR q (startD q area) num s else writeR (writeR q (startD q area) num s).1 area num (headB area)
theorem bg_err {q : DSt} {area num : Nat} {s : ByteArray} (h : (writeR q (startD q area) num s).2 ≠ 0) : bg q area num s = writeR q (startD q area) num s := by unfold bg; rw [if_pos h]
theorem bg_ok {q : DSt} {area num : Nat} {s : ByteArray} (h : (writeR q (startD q area) num s).2 = 0) : bg q area num s = writeR (writeR q (startD q area) num s).1 area num (headB area) := by unfold bg; rw [if_neg (by rw [h]; decide)]
theorem head_small (a : Nat) : (headB a).size = 2 := rfl
def bgRow (g : Nat) (f : Nat → Value) (ev : Int) (j : JSt) (i : Nat) : Value := if ev = 0 then pcell g (.slice none 0 0) j i else if i = 6 then .bool true else f i
def BgDid (q : DSt) (g b gj area num : Nat) (s : ByteArray) (f : Nat → Value) (w : World) (e : Ending) (w' : World) : Prop :=
  e = .returned (.int .i64 (bg q area num s).2) ∧ Dk w' g b (bg q area num s).1 ∧ w'.rowIs gj 74 7 (bgRow g f (bg q area num s).2 ⟨s, [], num + 1, area, sizeN s.size, false⟩) ∧ OnlyF (F3 gj g b) w w'
theorem only3 {gj g b : Nat} {w w' : World} (h : OnlyF (F2 g b) w w') : OnlyF (F3 gj g b) w w' := h.weaken f23
theorem cell_of {w : World} {g i : Nat} {C : Array Value} {T : TypeId} (h : w.heap[g]? = some (.cells C T (0, 0))) : w.cell? ⟨g, i, none⟩ = C[i]? := by
  simp only [World.cell?]
  rw [h]
  rfl
theorem store_none {P : Program} {o : Oper} {a : Act} {w : World} {K : Act → World → Prop} {Q : Exit → Act → World → Prop} (ty : TypeId) (x y : Operand) (ho : o.op = .store ty x y)
    (g : Nat) (cells : Array Value) (hx : a.eval x = .pointer (some ⟨g, 0, none⟩)) (hy : a.eval y = .agg cells)
    (t : TypeId) (old : Array Value) (hg : w.heap[g]? = some (.cells old t (0, 0))) (hi : (P.info? ty).map (·.size) = some cells.size)
    (hold : old.size = cells.size) (h1 : cells.all (·.oneCell') = true) (hd : o.dst = none) (h : K a (w.setRow g cells)) : o.wp P a w K Q :=
  wp_store_row ty x y ho g cells hx hy t old hg hi hold h1 (by rw [hd]; exact h)
theorem jrn_info : (Tryz.prog.info? 74).map (·.size) = some 7 := by kernel_rfl
theorem jrn_one (g : Nat) (area : Nat) (s : ByteArray) (z : Nat) (n : Int) (A : Option Addr) (d : Bool) : (#[.pointer (some ⟨g, 0, none⟩), .int .i64 (area : Nat), .string s, .slice A 0 0, .int .i64 (z : Nat), .int .u32 n, .bool d] : Array Value).all (·.oneCell') = true := by simp [Value.oneCell']
theorem bg_end {w x0 x2 : World} {gj g b : Nat} {q : DSt} {old c : Array Value} {T : TypeId} (hd : Dk x0 g b q) (ho : OnlyF (F3 gj g b) w x0) (hb : Below x0.heap.size x0 x2) (ne : gj ≠ g ∧ gj ≠ b) (hold : x2.heap[gj]? = some (.cells old T (0, 0))) (hc : c.size = 7) :
    Dk (x2.setRow gj c) g b q ∧ (∀ f : Nat → Value, (∀ i, i < 7 → c[i]? = some (f i)) → (x2.setRow gj c).rowIs gj T 7 f) ∧ OnlyF (F3 gj g b) w (x2.setRow gj c) :=
  ⟨hd.keep ((setRow_other _ _ _ _ ne.1.symm).trans (hb.block g hd.lt.1)) ((setRow_other _ _ _ _ ne.2.symm).trans (hb.block b hd.lt.2)), fun f hf => ⟨c, setRow_heap x2 gj old c _ _ hold, hc, hf⟩,
    ho.trans ⟨hb.os, hb.tape, hb.output, by rw [setRow_size]; exact hb.size, fun i hi hf => (setRow_other _ _ _ _ (fun e => hf (Or.inl e))).trans (hb.block i hi)⟩⟩
set_option maxRecDepth 20000 in
set_option maxHeartbeats 2000000 in
theorem p_begin (q : DSt) (g b gj k m area num : Nat) (s : ByteArray) (f : Nat → Value) (w : World) (hD : Dk w g b q) (hf : q.Fit k m) (hm : m ≤ 10000000) (hR : w.rowIs gj 74 7 f) (f0 : f 0 = .pointer (some ⟨g, 0, none⟩)) (f5 : f 5 = .int .u32 (num : Nat))
    (ne : gj ≠ g ∧ gj ≠ b) (h0 : num ≠ 0) (hn : num ≤ 2148500000) (hs : s.size ≤ 60000) (hl : q.S.length ≤ 4096) (h2 : 2 ≤ q.S.length) (ha : area ≤ 1) :
    Calls Tryz.prog 37 #[.pointer (some ⟨gj, 0, none⟩), .int .i64 (area : Nat), .string s] w (BgDid q g b gj area num s f w) := by
  have hst : startD q area ≤ 5000 := by
    unfold startD roomD
    rcases Nat.le_one_iff_eq_zero_or_eq_one.1 ha with rfl | rfl <;> omega
  have c0 : w.cell? ⟨gj, 0, none⟩ = some (.pointer (some ⟨g, 0, none⟩)) := by rw [← f0]; exact hR.cell (by decide)
  have ST := Lib.hid (j_start q g b area w hD hl h2 ha)
  have W1 := Lib.hid (j_write q g b gj k m (startD q area) num s f w hD hf (by omega) hR f0 f5 ne h0 (by omega) hs (by omega))
  have HDX : Hid (∀ e w', BgDid q g b gj area num s f w e w' = (e = .returned (.int .i64 (bg q area num s).2) ∧ Dk w' g b (bg q area num s).1 ∧ w'.rowIs gj 74 7 (bgRow g f (bg q area num s).2 ⟨s, [], num + 1, area, sizeN s.size, false⟩) ∧ OnlyF (F3 gj g b) w w')) := show ∀ e w', _ = _ from fun _ _ => rfl
  by_cases he : (writeR q (startD q area) num s).2 = 0
  · have hb := bg_ok he
    have F1 := write_fit q (startD q area) num s hf
    obtain ⟨q1, hq1⟩ : ∃ q1, (writeR q (startD q area) num s).1 = q1 := ⟨_, rfl⟩
    rw [hq1] at W1 F1 hb
    rw [he] at W1
    obtain ⟨X, hX⟩ : ∃ X, bg q area num s = X := ⟨_, rfl⟩
    have W2 : Hid (∀ (W : World) (f' : Nat → Value), Dk W g b q1 → W.rowIs gj 74 7 f' → f' 0 = .pointer (some ⟨g, 0, none⟩) → f' 5 = .int .u32 (num : Nat) → Calls Tryz.prog 48 #[.pointer (some ⟨gj, 0, none⟩), .int .i64 (area : Nat), .string (headB area)] W fun e w' =>
      e = .returned (.int .i64 X.2) ∧ Dk w' g b X.1 ∧ w'.rowIs gj 74 7 (fun i => if i = 6 then .bool (decide (X.2 ≠ 0)) else f' i) ∧ OnlyF (F3 gj g b) W w') := fun W f' h1 h3 h4 h5 => by
      have := j_write q1 g b gj k (m + 300) area num (headB area) f' W h1 F1 (by omega) h3 h4 h5 ne h0 (by omega) (by rw [head_small]; omega) (by omega)
      rwa [← hb, hX] at this
    have HT : Hid (∀ W, Calls Tryz.prog 62 #[.int .i64 (area : Nat)] W fun e w' => e = .returned (.string (headB area)) ∧ Below W.heap.size W w') := fun W => j_head area W ha
    have CL : Hid (∀ W, Calls Tryz.prog 50 #[.string s] W fun e w' => e = .returned (.string s) ∧ Below W.heap.size W w') := fun W => Pack.p_clone s W (by omega)
    have SZ : Hid (∀ W, Calls Tryz.prog 51 #[.int .i64 (s.size : Nat)] W fun e w' => e = .returned (.int .i64 (sizeN s.size : Nat)) ∧ Below W.heap.size W w') := fun W => by
      have h := f_size (s.size : Int) W (by omega)
      rwa [show sizeV (s.size : Int) = (sizeN s.size : Nat) by unfold sizeV; rw [if_pos (by omega), Int.toNat_natCast]] at h
    have hsz : (0 : Int) ≤ s.size := by omega
    have i6 : IntKind.u32.wrap ((num : Int) + 1) = (num : Int) + 1 := IntWalk.u32_in _ (by omega)
    rw [hX] at HDX
    clear hD hf hR he hq1 hb hX F1 hst
    generalize startD q area = S0 at *
    generalize headB area = ht at *
    generalize sizeN s.size = z at *
    by_cases hx : X.2 = 0
    · have t2 : (X.2 != 0) = false := by rw [hx]; rfl
      rw [hx] at W2 HDX
      go_enter Tryz.func37, Tryz.ntmps37
      go_wp2_with fail
      refine ST.out.mono ?_
      rintro e w1 ⟨rfl, rfl⟩
      go_wp2_with fail
      refine W1.out.mono ?_
      rintro e w1 ⟨rfl, hd, hr, ho⟩
      have D1 := Lib.hid hd
      have R1 := Lib.hid hr
      have O1 := Lib.hid ho
      clear hd hr ho W1 ST c0
      go_wp2_with fail
      refine (HT.out w1).mono ?_
      rintro e w2 ⟨rfl, hb⟩
      have D2 := Lib.hid (D1.out.keep (hb.block g D1.out.lt.1) (hb.block b D1.out.lt.2))
      have R2 := Lib.hid (R1.out.of_block (hb.block gj R1.out.lt))
      have O2 := Lib.hid (O1.out.trans (OnlyF.of_below hb))
      clear hb D1 R1 O1
      go_wp2_with fail
      refine (W2.out w2 _ D2.out R2.out f0 f5).mono ?_
      rintro e w3 ⟨rfl, hd, hr, ho⟩
      have D3 := Lib.hid hd
      have R3 := Lib.hid hr
      have O3 := Lib.hid (O2.out.trans ho)
      clear hd hr ho W2 D2 R2 O2
      go_wp2_with fail
      have e0c : w3.drew.cell? ⟨gj, 0, none⟩ = some (.pointer (some ⟨g, 0, none⟩)) := by rw [← f0]; exact R3.out.cell (by decide)
      have e5c : w3.drew.cell? ⟨gj, 5, none⟩ = some (.int .u32 (num : Nat)) := by rw [← f5]; exact R3.out.cell (by decide)
      have D4 : Hid (Dk w3.drew g b X.1) := D3.out.keep rfl rfl
      have R4 : Hid (w3.drew.rowIs gj 74 7 _) := R3.out.drew
      have O4 : Hid (OnlyF (F3 gj g b) w w3.drew) := O3.out.drewN 1
      have HSB : Hid (∀ W, Below w3.drew.heap.size w3.drew W → W.cell? ⟨gj, 0, none⟩ = some (.pointer (some ⟨g, 0, none⟩))) := fun W hb => (hb.cell (p := ⟨gj, 0, none⟩) R4.out.lt).trans e0c
      have HSB5 : Hid (∀ W, Below w3.drew.heap.size w3.drew W → W.cell? ⟨gj, 5, none⟩ = some (.int .u32 (num : Nat))) := fun W hb => (hb.cell (p := ⟨gj, 5, none⟩) R4.out.lt).trans e5c
      have HS0 : Hid (∀ (W : World) (old : Array Value), W.heap[gj]? = some (.cells old 74 (0, 0)) → ∀ c : Array Value, c[0]? = some (.pointer (some ⟨g, 0, none⟩)) → (W.setRow gj c).cell? ⟨gj, 0, none⟩ = some (.pointer (some ⟨g, 0, none⟩))) := fun W old h c hc => (cell_of (setRow_heap W gj old c _ _ h)).trans hc
      clear e5c
      clear D3 R3 O3
      refine wp_region_held_drew (S := (fun w' => w'.cell? ⟨gj, 0, none⟩ = some (.pointer (some ⟨g, 0, none⟩)))) (by kernel_rfl) e0c (fun hHeld => ?_)
      generalize w3.drew = x0 at *
      have Bx0 := Lib.hid (Below.refl x0.heap.size x0)
      refine ByHand.take_yes (v := ?_) 0 29 rfl rfl (by kernel_rfl) (by kernel_rfl) (by kernel_rfl) (fun _ _ _ h => h) (by rfl) ?_ (by assumption) ?_
      rotate_left
      · intro w' hSw
        (try dsimp only at hSw)
        go_simp
        all_goals with_reducible rfl
      (try simp only [Act.put, List.setIfInBounds_toArray, List.set_cons_zero, List.set_cons_succ])
      refine ByHand.take_yes (v := ?_) 1 30 rfl rfl (by kernel_rfl) (by kernel_rfl) (by kernel_rfl) (fun _ _ _ h => h) (by rfl) ?_ (by assumption) ?_
      rotate_left
      · intro w' hSw
        (try dsimp only at hSw)
        go_simp
        all_goals with_reducible rfl
      (try simp only [Act.put, List.setIfInBounds_toArray, List.set_cons_zero, List.set_cons_succ])
      refine ByHand.take_yes (v := ?_) 2 31 rfl rfl (by kernel_rfl) (by kernel_rfl) (by kernel_rfl) (fun _ _ _ h => h) (by rfl) ?_ (by assumption) ?_
      rotate_left
      · intro w' hSw
        (try dsimp only at hSw)
        go_simp
        all_goals with_reducible rfl
      (try simp only [Act.put, List.setIfInBounds_toArray, List.set_cons_zero, List.set_cons_succ])
      refine ByHand.take_yes (v := ?_) 3 32 rfl rfl (by kernel_rfl) (by kernel_rfl) (by kernel_rfl) (fun _ _ _ h => h) (by rfl) ?_ (by assumption) ?_
      rotate_left
      · intro w' hSw
        (try dsimp only at hSw)
        go_simp
        all_goals with_reducible rfl
      (try simp only [Act.put, List.setIfInBounds_toArray, List.set_cons_zero, List.set_cons_succ])
      refine ByHand.take_yes (v := ?_) 4 33 rfl rfl (by kernel_rfl) (by kernel_rfl) (by kernel_rfl) (fun _ _ _ h => h) (by rfl) ?_ (by assumption) ?_
      rotate_left
      · intro w' hSw
        (try dsimp only at hSw)
        go_simp
        all_goals with_reducible rfl
      (try simp only [Act.put, List.setIfInBounds_toArray, List.set_cons_zero, List.set_cons_succ])
      refine ByHand.take_yes (v := ?_) 5 34 rfl rfl (by kernel_rfl) (by kernel_rfl) (by kernel_rfl) (fun _ _ _ h => h) (by rfl) ?_ (by assumption) ?_
      rotate_left
      · intro w' hSw
        (try dsimp only at hSw)
        go_simp
        all_goals with_reducible rfl
      (try simp only [Act.put, List.setIfInBounds_toArray, List.set_cons_zero, List.set_cons_succ])
      refine ByHand.take_yes (v := ?_) 6 35 rfl rfl (by kernel_rfl) (by kernel_rfl) (by kernel_rfl) (fun _ _ _ h => h) (by rfl) ?_ (by assumption) ?_
      rotate_left
      · intro w' hSw
        (try dsimp only at hSw)
        go_simp
        all_goals with_reducible rfl
      (try simp only [Act.put, List.setIfInBounds_toArray, List.set_cons_zero, List.set_cons_succ])
      refine ByHand.take_yes (v := ?_) 8 37 rfl rfl (by kernel_rfl) (by kernel_rfl) (by kernel_rfl) (fun _ _ _ h => h) (by rfl) ?_ (by assumption) ?_
      rotate_left
      · intro w' hSw
        (try dsimp only at hSw)
        go_simp
        all_goals with_reducible rfl
      (try simp only [Act.put, List.setIfInBounds_toArray, List.set_cons_zero, List.set_cons_succ])
      refine ByHand.take_yes (v := ?_) 9 38 rfl rfl (by kernel_rfl) (by kernel_rfl) (by kernel_rfl) (fun _ _ _ h => h) (by rfl) ?_ (by assumption) ?_
      rotate_left
      · intro w' hSw
        (try dsimp only at hSw)
        go_simp
        all_goals with_reducible rfl
      (try simp only [Act.put, List.setIfInBounds_toArray, List.set_cons_zero, List.set_cons_succ])
      refine ByHand.take_yes (v := ?_) 11 40 rfl rfl (by kernel_rfl) (by kernel_rfl) (by kernel_rfl) (fun _ _ _ h => h) (by rfl) ?_ (by assumption) ?_
      rotate_left
      · intro w' hSw
        (try dsimp only at hSw)
        go_simp
        all_goals with_reducible rfl
      (try simp only [Act.put, List.setIfInBounds_toArray, List.set_cons_zero, List.set_cons_succ])
      refine ByHand.take_yes (v := ?_) 12 41 rfl rfl (by kernel_rfl) (by kernel_rfl) (by kernel_rfl) (fun _ _ _ h => h) (by rfl) ?_ (by assumption) ?_
      rotate_left
      · intro w' hSw
        (try dsimp only at hSw)
        go_simp
        all_goals with_reducible rfl
      (try simp only [Act.put, List.setIfInBounds_toArray, List.set_cons_zero, List.set_cons_succ])
      refine ByHand.take_yes (v := ?_) 13 42 rfl rfl (by kernel_rfl) (by kernel_rfl) (by kernel_rfl) (fun _ _ _ h => h) (by rfl) ?_ (by assumption) ?_
      rotate_left
      · intro w' hSw
        (try dsimp only at hSw)
        go_simp
        all_goals with_reducible rfl
      (try simp only [Act.put, List.setIfInBounds_toArray, List.set_cons_zero, List.set_cons_succ])
      refine wpAnyH_ready (rs := [7, 14]) (by kernel_rfl) (by simp) (AllReadyH.cons rfl (fun K hK => ?_) (AllReadyH.cons rfl (fun K hK => ?_) (AllReadyH.nil)))
      · go_simp
        go_at_call 50
        refine (CL.out _).mono ?_
        rintro e x1 ⟨rfl, hb⟩
        have Bx1 : Hid (Below x0.heap.size x0 x1) := Bx0.out.trans (hb.mono Bx0.out.size)
        clear hb
        go_wp2_with fail
        refine hK.out _ _ (HSB.out _ Bx1.out) (fun hHeld => ?_)
        clear hK K
        (try simp only [Act.put, List.setIfInBounds_toArray, List.set_cons_zero, List.set_cons_succ])
        refine wpAnyH_ready (rs := [10, 14]) (by kernel_rfl) (by simp) (AllReadyH.cons rfl (fun K hK => ?_) (AllReadyH.cons rfl (fun K hK => ?_) (AllReadyH.nil)))
        · go_simp
          go_at_call 51
          refine (SZ.out _).mono ?_
          rintro e x2 ⟨rfl, hb⟩
          have Bx2 : Hid (Below x0.heap.size x0 x2) := Bx1.out.trans (hb.mono Bx1.out.size)
          clear hb
          go_wp2_with fail
          refine hK.out _ _ (HSB.out _ Bx2.out) (fun hHeld => ?_)
          clear hK K
          (try simp only [Act.put, List.setIfInBounds_toArray, List.set_cons_zero, List.set_cons_succ])
          refine wpAnyH_ready (rs := [14]) (by kernel_rfl) (by simp) (AllReadyH.cons rfl (fun K hK => ?_) (AllReadyH.nil))
          have e5x := HSB5.out _ Bx2.out
          go_simp
          clear e5x
          refine hK.out _ _ (HSB.out _ Bx2.out) (fun hHeld => ?_)
          clear hK K
          (try simp only [Act.put, List.setIfInBounds_toArray, List.set_cons_zero, List.set_cons_succ])
          refine ByHand.take_yes (v := ?_) 15 44 rfl rfl (by kernel_rfl) (by kernel_rfl) (by kernel_rfl) (fun _ _ _ h => h) (by rfl) ?_ (by assumption) ?_
          rotate_left
          · intro w' hSw
            (try dsimp only at hSw)
            go_simp
            all_goals with_reducible rfl
          (try simp only [Act.put, List.setIfInBounds_toArray, List.set_cons_zero, List.set_cons_succ])
          refine ByHand.take_yes (v := ?_) 16 45 rfl rfl (by kernel_rfl) (by kernel_rfl) (by kernel_rfl) (fun _ _ _ h => h) (by rfl) ?_ (by assumption) ?_
          rotate_left
          · intro w' hSw
            (try dsimp only at hSw)
            go_simp
            all_goals with_reducible rfl
          (try simp only [Act.put, List.setIfInBounds_toArray, List.set_cons_zero, List.set_cons_succ])
          refine ByHand.take_yes (v := ?_) 17 46 rfl rfl (by kernel_rfl) (by kernel_rfl) (by kernel_rfl) (fun _ _ _ h => h) (by rfl) ?_ (by assumption) ?_
          rotate_left
          · intro w' hSw
            (try dsimp only at hSw)
            go_simp
            all_goals with_reducible rfl
          (try simp only [Act.put, List.setIfInBounds_toArray, List.set_cons_zero, List.set_cons_succ])
          refine wpAnyH_ready (rs := [18]) (by kernel_rfl) (by simp) (AllReadyH.cons rfl (fun K hK => ?_) (AllReadyH.nil))
          rw [if_pos (by rfl)]
          obtain ⟨old, hold, hosz, -⟩ := R4.out.of_block (Bx2.out.block gj R4.out.lt)
          refine store_none 74 (.tmp 46) (.tmp 45) (by rfl) gj #[.pointer (some ⟨g, 0, none⟩), .int .i64 (area : Nat), .string s, .slice none 0 0, .int .i64 (z : Nat), .int .u32 ((num : Int) + 1), .bool false] (by rfl) (by rfl) 74 old hold jrn_info hosz (jrn_one _ _ _ _ _ _ _) rfl ?_
          refine hK.out _ _ (HS0.out _ _ hold _ rfl) (fun hHeld => ?_)
          clear hK K
          (try simp only [Act.put, List.setIfInBounds_toArray, List.set_cons_zero, List.set_cons_succ])
          refine wpAnyH_done (by kernel_rfl) ?_ _
          have FIN := Lib.hid (bg_end D4.out O4.out Bx2.out ne hold (c := #[.pointer (some ⟨g, 0, none⟩), .int .i64 (area : Nat), .string s, .slice none 0 0, .int .i64 (z : Nat), .int .u32 ((num : Int) + 1), .bool false]) rfl)
          generalize World.setRow x2 gj _ = x9 at *
          go_wp2_with fail
          go_ret
          rw [HDX.out]
          exact ⟨rfl, FIN.out.1, FIN.out.2.1 _ (fun i hi => by
            match i, hi with
            | 0, _ | 1, _ | 2, _ | 3, _ | 4, _ | 5, _ | 6, _ => rfl), FIN.out.2.2⟩
        · have e5x := HSB5.out _ Bx1.out
          go_simp
          clear e5x
          refine hK.out _ _ (HSB.out _ Bx1.out) (fun hHeld => ?_)
          clear hK K
          (try simp only [Act.put, List.setIfInBounds_toArray, List.set_cons_zero, List.set_cons_succ])
          refine ByHand.take_yes (v := ?_) 15 44 rfl rfl (by kernel_rfl) (by kernel_rfl) (by kernel_rfl) (fun _ _ _ h => h) (by rfl) ?_ (by assumption) ?_
          rotate_left
          · intro w' hSw
            (try dsimp only at hSw)
            go_simp
            all_goals with_reducible rfl
          (try simp only [Act.put, List.setIfInBounds_toArray, List.set_cons_zero, List.set_cons_succ])
          refine wpAnyH_ready (rs := [10]) (by kernel_rfl) (by simp) (AllReadyH.cons rfl (fun K hK => ?_) (AllReadyH.nil))
          go_simp
          go_at_call 51
          refine (SZ.out _).mono ?_
          rintro e x2 ⟨rfl, hb⟩
          have Bx2 : Hid (Below x0.heap.size x0 x2) := Bx1.out.trans (hb.mono Bx1.out.size)
          clear hb
          go_wp2_with fail
          refine hK.out _ _ (HSB.out _ Bx2.out) (fun hHeld => ?_)
          clear hK K
          (try simp only [Act.put, List.setIfInBounds_toArray, List.set_cons_zero, List.set_cons_succ])
          refine ByHand.take_yes (v := ?_) 16 45 rfl rfl (by kernel_rfl) (by kernel_rfl) (by kernel_rfl) (fun _ _ _ h => h) (by rfl) ?_ (by assumption) ?_
          rotate_left
          · intro w' hSw
            (try dsimp only at hSw)
            go_simp
            all_goals with_reducible rfl
          (try simp only [Act.put, List.setIfInBounds_toArray, List.set_cons_zero, List.set_cons_succ])
          refine ByHand.take_yes (v := ?_) 17 46 rfl rfl (by kernel_rfl) (by kernel_rfl) (by kernel_rfl) (fun _ _ _ h => h) (by rfl) ?_ (by assumption) ?_
          rotate_left
          · intro w' hSw
            (try dsimp only at hSw)
            go_simp
            all_goals with_reducible rfl
          (try simp only [Act.put, List.setIfInBounds_toArray, List.set_cons_zero, List.set_cons_succ])
          refine wpAnyH_ready (rs := [18]) (by kernel_rfl) (by simp) (AllReadyH.cons rfl (fun K hK => ?_) (AllReadyH.nil))
          rw [if_pos (by rfl)]
          obtain ⟨old, hold, hosz, -⟩ := R4.out.of_block (Bx2.out.block gj R4.out.lt)
          refine store_none 74 (.tmp 46) (.tmp 45) (by rfl) gj #[.pointer (some ⟨g, 0, none⟩), .int .i64 (area : Nat), .string s, .slice none 0 0, .int .i64 (z : Nat), .int .u32 ((num : Int) + 1), .bool false] (by rfl) (by rfl) 74 old hold jrn_info hosz (jrn_one _ _ _ _ _ _ _) rfl ?_
          refine hK.out _ _ (HS0.out _ _ hold _ rfl) (fun hHeld => ?_)
          clear hK K
          (try simp only [Act.put, List.setIfInBounds_toArray, List.set_cons_zero, List.set_cons_succ])
          refine wpAnyH_done (by kernel_rfl) ?_ _
          have FIN := Lib.hid (bg_end D4.out O4.out Bx2.out ne hold (c := #[.pointer (some ⟨g, 0, none⟩), .int .i64 (area : Nat), .string s, .slice none 0 0, .int .i64 (z : Nat), .int .u32 ((num : Int) + 1), .bool false]) rfl)
          generalize World.setRow x2 gj _ = x9 at *
          go_wp2_with fail
          go_ret
          rw [HDX.out]
          exact ⟨rfl, FIN.out.1, FIN.out.2.1 _ (fun i hi => by
            match i, hi with
            | 0, _ | 1, _ | 2, _ | 3, _ | 4, _ | 5, _ | 6, _ => rfl), FIN.out.2.2⟩
      · have e5x := HSB5.out _ Bx0.out
        go_simp
        clear e5x
        refine hK.out _ _ (HSB.out _ Bx0.out) (fun hHeld => ?_)
        clear hK K
        (try simp only [Act.put, List.setIfInBounds_toArray, List.set_cons_zero, List.set_cons_succ])
        refine ByHand.take_yes (v := ?_) 15 44 rfl rfl (by kernel_rfl) (by kernel_rfl) (by kernel_rfl) (fun _ _ _ h => h) (by rfl) ?_ (by assumption) ?_
        rotate_left
        · intro w' hSw
          (try dsimp only at hSw)
          go_simp
          all_goals with_reducible rfl
        (try simp only [Act.put, List.setIfInBounds_toArray, List.set_cons_zero, List.set_cons_succ])
        refine wpAnyH_ready (rs := [7]) (by kernel_rfl) (by simp) (AllReadyH.cons rfl (fun K hK => ?_) (AllReadyH.nil))
        go_simp
        go_at_call 50
        refine (CL.out _).mono ?_
        rintro e x1 ⟨rfl, hb⟩
        have Bx1 : Hid (Below x0.heap.size x0 x1) := Bx0.out.trans (hb.mono Bx0.out.size)
        clear hb
        go_wp2_with fail
        refine hK.out _ _ (HSB.out _ Bx1.out) (fun hHeld => ?_)
        clear hK K
        (try simp only [Act.put, List.setIfInBounds_toArray, List.set_cons_zero, List.set_cons_succ])
        refine wpAnyH_ready (rs := [10]) (by kernel_rfl) (by simp) (AllReadyH.cons rfl (fun K hK => ?_) (AllReadyH.nil))
        go_simp
        go_at_call 51
        refine (SZ.out _).mono ?_
        rintro e x2 ⟨rfl, hb⟩
        have Bx2 : Hid (Below x0.heap.size x0 x2) := Bx1.out.trans (hb.mono Bx1.out.size)
        clear hb
        go_wp2_with fail
        refine hK.out _ _ (HSB.out _ Bx2.out) (fun hHeld => ?_)
        clear hK K
        (try simp only [Act.put, List.setIfInBounds_toArray, List.set_cons_zero, List.set_cons_succ])
        refine ByHand.take_yes (v := ?_) 16 45 rfl rfl (by kernel_rfl) (by kernel_rfl) (by kernel_rfl) (fun _ _ _ h => h) (by rfl) ?_ (by assumption) ?_
        rotate_left
        · intro w' hSw
          (try dsimp only at hSw)
          go_simp
          all_goals with_reducible rfl
        (try simp only [Act.put, List.setIfInBounds_toArray, List.set_cons_zero, List.set_cons_succ])
        refine ByHand.take_yes (v := ?_) 17 46 rfl rfl (by kernel_rfl) (by kernel_rfl) (by kernel_rfl) (fun _ _ _ h => h) (by rfl) ?_ (by assumption) ?_
        rotate_left
        · intro w' hSw
          (try dsimp only at hSw)
          go_simp
          all_goals with_reducible rfl
        (try simp only [Act.put, List.setIfInBounds_toArray, List.set_cons_zero, List.set_cons_succ])
        refine wpAnyH_ready (rs := [18]) (by kernel_rfl) (by simp) (AllReadyH.cons rfl (fun K hK => ?_) (AllReadyH.nil))
        rw [if_pos (by rfl)]
        obtain ⟨old, hold, hosz, -⟩ := R4.out.of_block (Bx2.out.block gj R4.out.lt)
        refine store_none 74 (.tmp 46) (.tmp 45) (by rfl) gj #[.pointer (some ⟨g, 0, none⟩), .int .i64 (area : Nat), .string s, .slice none 0 0, .int .i64 (z : Nat), .int .u32 ((num : Int) + 1), .bool false] (by rfl) (by rfl) 74 old hold jrn_info hosz (jrn_one _ _ _ _ _ _ _) rfl ?_
        refine hK.out _ _ (HS0.out _ _ hold _ rfl) (fun hHeld => ?_)
        clear hK K
        (try simp only [Act.put, List.setIfInBounds_toArray, List.set_cons_zero, List.set_cons_succ])
        refine wpAnyH_done (by kernel_rfl) ?_ _
        have FIN := Lib.hid (bg_end D4.out O4.out Bx2.out ne hold (c := #[.pointer (some ⟨g, 0, none⟩), .int .i64 (area : Nat), .string s, .slice none 0 0, .int .i64 (z : Nat), .int .u32 ((num : Int) + 1), .bool false]) rfl)
        generalize World.setRow x2 gj _ = x9 at *
        go_wp2_with fail
        go_ret
        rw [HDX.out]
        exact ⟨rfl, FIN.out.1, FIN.out.2.1 _ (fun i hi => by
          match i, hi with
          | 0, _ | 1, _ | 2, _ | 3, _ | 4, _ | 5, _ | 6, _ => rfl), FIN.out.2.2⟩
    · have t2 : (X.2 != 0) = true := by rw [bne_iff_ne]; exact hx
      have HRW : Hid (∀ i, i < 7 → (if i = 6 then Value.bool (decide (X.2 ≠ 0)) else (if i = 6 then Value.bool (decide ((0 : Int) ≠ 0)) else f i)) = bgRow g f X.2 ⟨s, [], num + 1, area, z, false⟩ i) := fun i _ => by
        unfold bgRow
        rw [if_neg hx, decide_eq_true hx]
        split <;> rfl
      clear hx
      go_enter Tryz.func37, Tryz.ntmps37
      go_wp2_with fail
      refine ST.out.mono ?_
      rintro e w1 ⟨rfl, rfl⟩
      go_wp2_with fail
      refine W1.out.mono ?_
      rintro e w1 ⟨rfl, hd, hr, ho⟩
      have D1 := Lib.hid hd
      have R1 := Lib.hid hr
      have O1 := Lib.hid ho
      clear hd hr ho W1 ST c0
      go_wp2_with fail
      refine (HT.out w1).mono ?_
      rintro e w2 ⟨rfl, hb⟩
      have D2 := Lib.hid (D1.out.keep (hb.block g D1.out.lt.1) (hb.block b D1.out.lt.2))
      have R2 := Lib.hid (R1.out.of_block (hb.block gj R1.out.lt))
      have O2 := Lib.hid (O1.out.trans (OnlyF.of_below hb))
      clear hb D1 R1 O1
      go_wp2_with fail
      refine (W2.out w2 _ D2.out R2.out f0 f5).mono ?_
      rintro e w3 ⟨rfl, hd, hr, ho⟩
      have D3 := Lib.hid hd
      have R3 := Lib.hid hr
      have O3 := Lib.hid (O2.out.trans ho)
      clear hd hr ho W2 D2 R2 O2
      go_wp2_with fail
      go_ret
      rw [HDX.out]
      exact ⟨rfl, D3.out, R3.out.congr HRW.out, O3.out⟩
  · have hb := bg_err he
    obtain ⟨X, hX⟩ : ∃ X, writeR q (startD q area) num s = X := ⟨_, rfl⟩
    rw [hX] at hb W1 he
    rw [hb] at HDX
    have t1 : (X.2 != 0) = true := by rw [bne_iff_ne]; exact he
    have HRW : Hid (∀ i, i < 7 → (if i = 6 then Value.bool (decide (X.2 ≠ 0)) else f i) = bgRow g f X.2 ⟨s, [], num + 1, area, sizeN s.size, false⟩ i) := fun i _ => by
      unfold bgRow
      rw [if_neg he, decide_eq_true he]
    clear hD hf hR he hb hX hst
    generalize startD q area = S0 at *
    generalize sizeN s.size = z at *
    go_enter Tryz.func37, Tryz.ntmps37
    go_wp2_with fail
    refine ST.out.mono ?_
    rintro e w1 ⟨rfl, rfl⟩
    go_wp2_with fail
    refine W1.out.mono ?_
    rintro e w1 ⟨rfl, hd, hr, ho⟩
    have D1 := Lib.hid hd
    have R1 := Lib.hid hr
    have O1 := Lib.hid ho
    clear hd hr ho W1 ST c0
    go_wp2_with fail
    go_ret
    rw [HDX.out]
    exact ⟨rfl, D1.out, R1.out.congr HRW.out, O1.out⟩
end Go.Proofs.YtndanhacmfhlaaaGreat.Jour
namespace Go.Proofs.YtndanhacmfhlaaaGreat.Jour
open Go.ChangeShapes Go.WideShapes Go.ChangeAt Go.RowKit Go.Deep Els Go.Proofs.YtndanhacmfhlaaaGreat.Frame Disk

/-- What a call to a journal has told and done. -/
def PDid (x : Done) (gj g b : Nat) (V : Value) (w : World) (e : Ending) (w' : World) : Prop :=
  e = .returned (.int .i64 x.e) ∧ ∃ V', JAt w' gj g b V' x.q x.j ∧ OnlyF (J4 gj g b V) w w' ∧ ∀ c, V'.ownBlock = some c → V.ownBlock = some c ∨ w.heap.size ≤ c
theorem pdid_same {q : DSt} {j : JSt} {er : Int} {gj g b : Nat} {V : Value} {w w' : World} (h : JAt w' gj g b V q j) (ho : OnlyF (J4 gj g b V) w w') : PDid ⟨q, j, er⟩ gj g b V w (.returned (.int .i64 er)) w' := ⟨rfl, V, h, ho, fun _ h => Or.inl h⟩
theorem f34 {gj g b : Nat} {V : Value} : ∀ i, F3 gj g b i → J4 gj g b V i := fun _ h => Or.inl h
theorem refE_zero {d : Bool} {n next : Nat} {room : Int} (h : refE d n next room = 0) : d = false ∧ n ≤ 60000 ∧ (sizeN n : Int) ≤ room ∧ next ≤ most := by
  unfold refE tooE at h
  cases d with
  | true => simp at h
  | false =>
    simp only [Bool.false_eq_true, if_false] at h
    by_cases h1 : 60000 < n
    · simp [h1] at h
    · by_cases h2 : room < sizeN n
      · simp [h1, h2] at h
      · by_cases h3 : most < next
        · simp [h1, h2, h3] at h
        · exact ⟨rfl, by omega, by omega, by omega⟩
theorem append_ref {q : DSt} {j : JSt} {s : ByteArray} (h : refE j.dead s.size j.next (leftN q j) ≠ 0) : append q j s = ⟨q, j, refE j.dead s.size j.next (leftN q j)⟩ := by
  unfold append
  by_cases h1 : j.dead = true
  · rw [if_pos h1, show refE j.dead s.size j.next (leftN q j) = 74 by unfold refE; rw [if_pos h1]]
  · rw [if_neg h1]
    by_cases h2 : 60000 < s.size
    · rw [if_pos h2, show refE j.dead s.size j.next (leftN q j) = 2 by unfold refE tooE; rw [if_neg h1, if_pos h2]; rfl]
    · rw [if_neg h2]
      by_cases h3 : leftN q j < sizeN s.size
      · rw [if_pos (Or.inl h3), show refE j.dead s.size j.next (leftN q j) = 73 by unfold refE tooE; rw [if_neg h1, if_neg h2, if_pos h3]; rfl]
      · by_cases h4 : most < j.next
        · rw [if_pos (Or.inr h4), show refE j.dead s.size j.next (leftN q j) = 73 by unfold refE tooE; rw [if_neg h1, if_neg h2, if_neg h3, if_pos h4]; rfl]
        · exact absurd (by unfold refE tooE; rw [if_neg h1, if_neg h2, if_neg h3, if_neg h4]; rfl) h
theorem trans' {a b : Nat} {P Q : Nat → Prop} (h : ∀ c, P c → Q c ∨ b ≤ c) (hk : a ≤ b) : ∀ c, P c → Q c ∨ a ≤ c := fun c hc => (h c hc).imp id (fun h => by omega)
/-- Its records are one more. -/
theorem JAt.grew {w w' : World} {gj g b : Nat} {V V' : Value} {q : DSt} {j : JSt} {s : ByteArray} (h : JAt w gj g b V q j) (ho : w'.ownsRow 0 9 1 V' (j.recs ++ [s]).length ((j.recs ++ [s]).map Value.string)) (hg : w.grownBy w' V.ownBlock) (hn : ∀ k, V'.ownBlock = some k → V.ownBlock = some k ∨ w.heap.size ≤ k) :
    w'.cell? ⟨gj, 3, none⟩ = some V ∧ w'.frozen? ⟨gj, 3, none⟩ = false ∧ gj < w'.heap.size ∧ JAt (w'.setCell ⟨gj, 3, none⟩ V') gj g b V' q ⟨j.base, j.recs ++ [s], j.next, j.area, j.used, j.dead⟩ ∧ OnlyF (J4 gj g b V) w (w'.setCell ⟨gj, 3, none⟩ V') ∧ ∀ k, V'.ownBlock = some k → V.ownBlock = some k ∨ w.heap.size ≤ k := by
  have hl := h.lt
  have hne : ∀ i, i = gj ∨ i = g ∨ i = b → some i ≠ V.ownBlock := fun i hi e => by
    have := h.apart i e.symm
    rcases hi with rfl | rfl | rfl
    · exact this.1 rfl
    · exact this.2.1 rfl
    · exact this.2.2 rfl
  have hk : ∀ i, i = gj ∨ i = g ∨ i = b → w'.heap[i]? = w.heap[i]? := fun i hi => hg.block i (by rcases hi with rfl | rfl | rfl; exact hl.1; exact hl.2.1; exact hl.2.2) (hne i hi)
  have hr := h.row.of_block (hk gj (Or.inl rfl))
  have hap : ∀ c, V'.ownBlock = some c → c ≠ gj ∧ c ≠ g ∧ c ≠ b := fun c hc => by
    rcases hn c hc with h1 | h1
    · exact h.apart c h1
    · omega
  refine ⟨hr.cell (by decide), hr.frozen 3, hr.lt, ⟨h.dk.keep ((blk_setCell_other _ _ _ _ h.ne.1.symm).trans (hk g (Or.inr (Or.inl rfl)))) ((blk_setCell_other _ _ _ _ h.ne.2.symm).trans (hk b (Or.inr (Or.inr rfl)))), (hr.set 3 V').congr fun k hk => ?_, own_keep ho (fun c hc => blk_setCell_other _ _ _ _ (hap c hc).1), h.ne, hap⟩, ⟨hg.os, hg.tape, hg.output, by rw [nblk_setCell]; exact hg.size, fun i hi hf => (blk_setCell_other _ _ _ _ (fun e => hf (Or.inl (Or.inl e)))).trans (hg.block i hi (fun e => hf (Or.inr e.symm)))⟩, hn⟩
  match k, hk with
  | 0, _ | 1, _ | 2, _ | 3, _ | 4, _ | 5, _ | 6, _ => rfl
theorem left_le {q : DSt} {j : JSt} (hl : q.S.length ≤ 4096) (hj : j.Fit q) : 0 ≤ leftN q j ∧ leftN q j ≤ 4096 := by
  have := hj.used
  have : roomD q ≤ 4096 := by unfold roomD; omega
  unfold leftN
  omega
set_option maxRecDepth 20000 in
set_option maxHeartbeats 2000000 in
theorem app_no (q : DSt) (j : JSt) (gj g b : Nat) (V : Value) (s : ByteArray) (w : World) (h : JAt w gj g b V q j) (hl : q.S.length ≤ 4096) (h2 : 2 ≤ q.S.length) (hj : j.Fit q) (hs : s.size ≤ 9223372036854775807) (he : refE j.dead s.size j.next (leftN q j) ≠ 0) :
    Calls Tryz.prog 11 #[.pointer (some ⟨gj, 0, none⟩), .string s] w (PDid ⟨q, j, refE j.dead s.size j.next (leftN q j)⟩ gj g b V w) := by
  have LF := Lib.hid (p_left q j gj g b V w h hl h2 hj)
  have RF : Hid (∀ n, Calls Tryz.prog 47 #[.pointer (some ⟨gj, 0, none⟩), .string s, .int .i64 (leftN q j)] (w.drewN n) fun e w' => e = .returned (.int .i64 (refE j.dead s.size j.next (leftN q j))) ∧ Below (w.drewN n).heap.size (w.drewN n) w') := fun n => p_refuses q j gj g b V s (leftN q j) (w.drewN n) (h.heap rfl) hs (by have := left_le hl hj; omega)
  have H := Lib.hid h
  have t1 : (refE j.dead s.size j.next (leftN q j) != 0) = true := by rw [bne_iff_ne]; exact he
  clear h hj he
  generalize refE j.dead s.size j.next (leftN q j) = er at *
  generalize leftN q j = L at *
  go_enter Tryz.func11, Tryz.ntmps11
  go_wp2_with fail
  refine LF.out.mono ?_
  rintro e w1 ⟨rfl, n1, rfl⟩
  go_wp2_with fail
  refine (RF.out n1).mono ?_
  rintro e w2 ⟨rfl, hb⟩
  have HB : Hid (Below w.heap.size w w2) := show Below _ _ _ from ⟨hb.os, hb.tape, hb.output, hb.size, hb.block⟩
  clear hb
  go_wp2_with fail
  go_ret
  exact pdid_same (H.out.below HB.out) (OnlyF.of_below HB.out)
set_option maxRecDepth 20000 in
set_option maxHeartbeats 4000000 in
theorem app_err (q q2 : DSt) (er : Int) (j : JSt) (gj g b k m : Nat) (V : Value) (s : ByteArray) (w : World) (h : JAt w gj g b V q j) (hf : q.Fit k m) (hm : m ≤ 10000000) (hl : q.S.length ≤ 4096) (h2 : 2 ≤ q.S.length) (hj : j.Fit q) (hp : 1 ≤ j.next) (hs : s.size ≤ 9223372036854775807) (he : refE j.dead s.size j.next (leftN q j) = 0) (hW2 : writeR q (startD q j.area + j.used) j.next s = (q2, er)) (hx : er ≠ 0) :
    Calls Tryz.prog 11 #[.pointer (some ⟨gj, 0, none⟩), .string s] w (PDid ⟨q2, ⟨j.base, j.recs, j.next, j.area, j.used, true⟩, er⟩ gj g b V w) := by
  have LF := Lib.hid (p_left q j gj g b V w h hl h2 hj)
  have RF : Hid (∀ n, Calls Tryz.prog 47 #[.pointer (some ⟨gj, 0, none⟩), .string s, .int .i64 (leftN q j)] (w.drewN n) fun e w' => e = .returned (.int .i64 0) ∧ Below (w.drewN n).heap.size (w.drewN n) w') := fun n => by
    have := p_refuses q j gj g b V s (leftN q j) (w.drewN n) (h.heap rfl) (by omega) (by have := left_le hl hj; omega)
    rwa [he] at this
  have hle := left_le hl hj
  obtain ⟨-, hsz, hroom, hnx⟩ := refE_zero he
  have hu := hj.used
  have hrec := hj.recs
  have hbR : roomD q ≤ 4096 := by unfold roomD; omega
  unfold leftN at hroom
  have hst : startD q j.area ≤ 5000 := by
    unfold startD
    rcases Nat.le_one_iff_eq_zero_or_eq_one.1 hj.area with e | e <;> rw [e] <;> omega
  have ST : Hid (∀ W, JAt W gj g b V q j → Calls Tryz.prog 49 #[.pointer (some ⟨g, 0, none⟩), .int .i64 (j.area : Nat)] W fun e w' => e = .returned (.int .i64 (startD q j.area : Nat)) ∧ W = w') := fun W hW => j_start q g b j.area W hW.dk hl h2 hj.area
  unfold most at hnx
  have WR : Hid (∀ W, JAt W gj g b V q j → Calls Tryz.prog 48 #[.pointer (some ⟨gj, 0, none⟩), .int .i64 (startD q j.area + j.used : Nat), .string s] W fun e w' =>
    e = .returned (.int .i64 er) ∧ Dk w' g b q2 ∧ w'.rowIs gj 74 7 (fun i => if i = 6 then .bool (decide (er ≠ 0)) else pcell g V j i) ∧ OnlyF (F3 gj g b) W w') := fun W hW => by
    have := j_write q g b gj k m (startD q j.area + j.used) j.next s (pcell g V j) W hW.dk hf (by omega) hW.row rfl rfl hW.ne (by omega) (by omega) hsz (by omega)
    rwa [hW2] at this
  have i1 : IntKind.i64.wrap ((startD q j.area : Int) + (j.used : Int)) = ((startD q j.area + j.used : Nat) : Int) := by rw [IntWalk.i64_in _ (by omega)]; omega
  have hszz := size_most hsz
  have t4 : (er != 0) = true := by rw [bne_iff_ne]; exact hx
  have HRW : Hid (∀ i, i < 7 → (if i = 6 then Value.bool (decide (er ≠ 0)) else pcell g V j i) = pcell g V ⟨j.base, j.recs, j.next, j.area, j.used, true⟩ i) := fun i hi => by
    rw [decide_eq_true hx]
    match i, hi with
    | 0, _ | 1, _ | 2, _ | 3, _ | 4, _ | 5, _ | 6, _ => rfl
  have H := Lib.hid h
  clear h hf hj hW2 he
  generalize leftN q j = L at *
  generalize startD q j.area = S0 at *
  obtain ⟨p0, hp0⟩ : ∃ p0, S0 + j.used = p0 := ⟨_, rfl⟩
  rw [hp0] at WR i1
  clear hp0
  clear hx
  go_enter Tryz.func11, Tryz.ntmps11
  go_wp2_with fail
  refine LF.out.mono ?_
  rintro e w1 ⟨rfl, n1, rfl⟩
  go_wp2_with fail
  refine (RF.out n1).mono ?_
  rintro e w1 ⟨rfl, hb⟩
  have HB : Hid (Below w.heap.size w w1) := show Below _ _ _ from ⟨hb.os, hb.tape, hb.output, hb.size, hb.block⟩
  clear hb
  have J1 := Lib.hid (H.out.below HB.out)
  obtain ⟨d0, d1, -, -, d4, -, -, -⟩ := J1.out.cells
  go_wp2_with fail
  have J1d : Hid (JAt w1.drew gj g b V q j) := J1.out.heap rfl
  have HBd : Hid (Below w.heap.size w w1.drew) := show Below _ _ _ from ⟨HB.out.os, HB.out.tape, HB.out.output, HB.out.size, HB.out.block⟩
  go_region_held3 (fun w' => w'.cell? ⟨gj, 0, none⟩ = some (.pointer (some ⟨g, 0, none⟩)) ∧ w'.cell? ⟨gj, 1, none⟩ = some (.int .i64 (j.area : Nat)) ∧ w'.cell? ⟨gj, 4, none⟩ = some (.int .i64 (j.used : Nat)))
    (first | exact HC2.out | exact ⟨d0, d1, d4⟩)
    (first
      | (go_at_call 49
         with_reducible refine (ST.out _ J1d.out).mono ?_
         rintro e w2 ⟨rfl, rfl⟩)
      | (go_at_call 48
         with_reducible refine (WR.out _ J1d.out).mono ?_
         rintro e w2 ⟨rfl, n1, n2, n3⟩
         have D2 := Lib.hid n1
         have R2 := Lib.hid n2
         have O2 := Lib.hid n3
         have HC2 : Hid (w2.cell? ⟨gj, 0, none⟩ = some (.pointer (some ⟨g, 0, none⟩)) ∧ w2.cell? ⟨gj, 1, none⟩ = some (.int .i64 (j.area : Nat)) ∧ w2.cell? ⟨gj, 4, none⟩ = some (.int .i64 (j.used : Nat))) := show _ ∧ _ ∧ _ from ⟨n2.cell (by decide), n2.cell (by decide), n2.cell (by decide)⟩
         clear n1 n2 n3))
  go_wp2_with fail
  go_ret
  exact pdid_same (J1d.out.turn D2.out (R2.out.congr HRW.out) O2.out rfl) ((OnlyF.of_below HBd.out).trans (O2.out.weaken f34))
set_option maxRecDepth 20000 in
set_option maxHeartbeats 8000000 in
theorem app_ok (q q2 : DSt) (j : JSt) (gj g b k m : Nat) (V : Value) (s : ByteArray) (w : World) (h : JAt w gj g b V q j) (hf : q.Fit k m) (hm : m ≤ 10000000) (hl : q.S.length ≤ 4096) (h2 : 2 ≤ q.S.length) (hj : j.Fit q) (hp : 1 ≤ j.next) (hs : s.size ≤ 9223372036854775807) (he : refE j.dead s.size j.next (leftN q j) = 0) (hW2 : writeR q (startD q j.area + j.used) j.next s = (q2, 0)) :
    Calls Tryz.prog 11 #[.pointer (some ⟨gj, 0, none⟩), .string s] w (PDid ⟨q2, ⟨j.base, j.recs ++ [s], j.next + 1, j.area, j.used + sizeN s.size, j.dead⟩, 0⟩ gj g b V w) := by
  have HDE := Lib.hid (refE_zero he).1
  have LF := Lib.hid (p_left q j gj g b V w h hl h2 hj)
  have RF : Hid (∀ n, Calls Tryz.prog 47 #[.pointer (some ⟨gj, 0, none⟩), .string s, .int .i64 (leftN q j)] (w.drewN n) fun e w' => e = .returned (.int .i64 0) ∧ Below (w.drewN n).heap.size (w.drewN n) w') := fun n => by
    have := p_refuses q j gj g b V s (leftN q j) (w.drewN n) (h.heap rfl) (by omega) (by have := left_le hl hj; omega)
    rwa [he] at this
  have hle := left_le hl hj
  obtain ⟨-, hsz, hroom, hnx⟩ := refE_zero he
  have hu := hj.used
  have hrec := hj.recs
  have hbR : roomD q ≤ 4096 := by unfold roomD; omega
  unfold leftN at hroom
  have hst : startD q j.area ≤ 5000 := by
    unfold startD
    rcases Nat.le_one_iff_eq_zero_or_eq_one.1 hj.area with e | e <;> rw [e] <;> omega
  have ST : Hid (∀ W, JAt W gj g b V q j → Calls Tryz.prog 49 #[.pointer (some ⟨g, 0, none⟩), .int .i64 (j.area : Nat)] W fun e w' => e = .returned (.int .i64 (startD q j.area : Nat)) ∧ W = w') := fun W hW => j_start q g b j.area W hW.dk hl h2 hj.area
  unfold most at hnx
  have WR : Hid (∀ W, JAt W gj g b V q j → Calls Tryz.prog 48 #[.pointer (some ⟨gj, 0, none⟩), .int .i64 (startD q j.area + j.used : Nat), .string s] W fun e w' =>
    e = .returned (.int .i64 0) ∧ Dk w' g b q2 ∧ w'.rowIs gj 74 7 (fun i => if i = 6 then .bool (decide ((0 : Int) ≠ 0)) else pcell g V j i) ∧ OnlyF (F3 gj g b) W w') := fun W hW => by
    have := j_write q g b gj k m (startD q j.area + j.used) j.next s (pcell g V j) W hW.dk hf (by omega) hW.row rfl rfl hW.ne (by omega) (by omega) hsz (by omega)
    rwa [hW2] at this
  have i1 : IntKind.i64.wrap ((startD q j.area : Int) + (j.used : Int)) = ((startD q j.area + j.used : Nat) : Int) := by rw [IntWalk.i64_in _ (by omega)]; omega
  have hszz := size_most hsz
  have HRW : Hid (∀ i, i < 7 → (if i = 6 then Value.bool (decide ((0 : Int) ≠ 0)) else pcell g V j i) = pcell g V j i) := fun i hi => by
    match i, hi with
    | 0, _ | 1, _ | 2, _ | 3, _ | 4, _ | 5, _ => rfl
    | 6, _ => show Value.bool false = .bool j.dead; rw [HDE.out]
  have i5 : IntKind.i64.wrap ((j.used : Int) + (sizeN s.size : Int)) = (j.used : Int) + (sizeN s.size : Int) := IntWalk.i64_in _ (by omega)
  have i6 : IntKind.u32.wrap ((j.next : Int) + 1) = (j.next : Int) + 1 := IntWalk.u32_in _ (by omega)
  have CL : Hid (∀ W, Calls Tryz.prog 50 #[.string s] W fun e w' => e = .returned (.string s) ∧ Below W.heap.size W w') := fun W => Pack.p_clone s W (by omega)
  have SZ : Hid (∀ W, Calls Tryz.prog 51 #[.int .i64 (s.size : Nat)] W fun e w' => e = .returned (.int .i64 (sizeN s.size : Nat)) ∧ Below W.heap.size W w') := fun W => by
    have h := f_size (s.size : Int) W (by omega)
    rwa [show sizeV (s.size : Int) = (sizeN s.size : Nat) by unfold sizeV; rw [if_pos (by omega), Int.toNat_natCast]] at h
  have hsz0 : (0 : Int) ≤ s.size := by omega
  have H := Lib.hid h
  clear h hf hj hW2 he
  generalize leftN q j = L at *
  generalize startD q j.area = S0 at *
  obtain ⟨p0, hp0⟩ : ∃ p0, S0 + j.used = p0 := ⟨_, rfl⟩
  rw [hp0] at WR i1
  clear hp0
  generalize sizeN s.size = z at *
  go_enter Tryz.func11, Tryz.ntmps11
  go_wp2_with fail
  refine LF.out.mono ?_
  rintro e w1 ⟨rfl, n1, rfl⟩
  go_wp2_with fail
  refine (RF.out n1).mono ?_
  rintro e w1 ⟨rfl, hb⟩
  have HB : Hid (Below w.heap.size w w1) := show Below _ _ _ from ⟨hb.os, hb.tape, hb.output, hb.size, hb.block⟩
  clear hb
  have J1 := Lib.hid (H.out.below HB.out)
  obtain ⟨d0, d1, -, -, d4, -, -, -⟩ := J1.out.cells
  go_wp2_with fail
  have J1d : Hid (JAt w1.drew gj g b V q j) := J1.out.heap rfl
  have HBd : Hid (Below w.heap.size w w1.drew) := show Below _ _ _ from ⟨HB.out.os, HB.out.tape, HB.out.output, HB.out.size, HB.out.block⟩
  go_region_held3 (fun w' => w'.cell? ⟨gj, 0, none⟩ = some (.pointer (some ⟨g, 0, none⟩)) ∧ w'.cell? ⟨gj, 1, none⟩ = some (.int .i64 (j.area : Nat)) ∧ w'.cell? ⟨gj, 4, none⟩ = some (.int .i64 (j.used : Nat)))
    (first | exact HC2.out | exact ⟨d0, d1, d4⟩)
    (first
      | (go_at_call 49
         with_reducible refine (ST.out _ J1d.out).mono ?_
         rintro e w2 ⟨rfl, rfl⟩)
      | (go_at_call 48
         with_reducible refine (WR.out _ J1d.out).mono ?_
         rintro e w2 ⟨rfl, n1, n2, n3⟩
         have D2 := Lib.hid n1
         have R2 := Lib.hid n2
         have O2 := Lib.hid n3
         have HC2 : Hid (w2.cell? ⟨gj, 0, none⟩ = some (.pointer (some ⟨g, 0, none⟩)) ∧ w2.cell? ⟨gj, 1, none⟩ = some (.int .i64 (j.area : Nat)) ∧ w2.cell? ⟨gj, 4, none⟩ = some (.int .i64 (j.used : Nat))) := show _ ∧ _ ∧ _ from ⟨n2.cell (by decide), n2.cell (by decide), n2.cell (by decide)⟩
         clear n1 n2 n3))
  have J2 := Lib.hid (J1d.out.turn D2.out (R2.out.congr HRW.out) O2.out rfl)
  have O3 := Lib.hid ((OnlyF.of_below (F := J4 gj g b V) HBd.out).trans (O2.out.weaken f34))
  clear D2 R2 O2 J1d HBd J1 HB H HC2 d0 d1 d4
  go_upto_region 9 with fail
  go_cut [] (fun wx => ∃ V', Hid (OnlyF (J4 gj g b V) w wx) ∧ Hid (∀ c, V'.ownBlock = some c → V.ownBlock = some c ∨ w.heap.size ≤ c) ∧ Hid (JAt wx gj g b V' q2 ⟨j.base, j.recs ++ [s], j.next, j.area, j.used, j.dead⟩))
  case first =>
    have J0 : Hid (JAt w2.drew gj g b V q2 j) := J2.out.heap rfl
    have O4 : Hid (OnlyF (J4 gj g b V) w w2.drew) := O3.out.drewN 1
    have HSB3 : Hid (∀ W, Below w2.drew.heap.size w2.drew W → W.cell? ⟨gj, 3, none⟩ = some V) := fun W hb => ((J0.out.below hb).cells).2.2.2.1
    have HOW : Hid (∀ W, Below w2.drew.heap.size w2.drew W → W.ownsRow 0 9 1 V j.recs.length (j.recs.map Value.string)) := fun W hb => (J0.out.below hb).own
    obtain ⟨i0, hi0, hi1, hi2, hi3⟩ := Frame.str_info
    have HI := Lib.hid hi0
    have HZ0 := Lib.hid hi1
    have HZ1 := Lib.hid hi2
    have HZ2 := Lib.hid hi3
    clear hi0 hi1 hi2 hi3 J2 O3
    refine wp_region_held_drew (S := (fun _ => True)) (by kernel_rfl) trivial (fun hHeld => ?_)
    generalize w2.drew = x0 at *
    have Bx0 := Lib.hid (Below.refl x0.heap.size x0)
    refine ByHand.take_yes (v := ?_) 0 37 rfl rfl (by kernel_rfl) (by kernel_rfl) (by kernel_rfl) (fun _ _ _ h => h) (by rfl) ?_ trivial ?_
    rotate_left
    · intro w' hSw
      (try dsimp only at hSw)
      go_simp
      all_goals with_reducible rfl
    (try simp only [Act.put])
    (try simp only [List.setIfInBounds_toArray])
    (try simp only [List.set_cons_succ])
    (try simp only [List.set_cons_zero])
    refine ByHand.take_yes (v := ?_) 1 38 rfl rfl (by kernel_rfl) (by kernel_rfl) (by kernel_rfl) (fun _ _ _ h => h) (by rfl) ?_ trivial ?_
    rotate_left
    · intro w' hSw
      (try dsimp only at hSw)
      go_simp
      all_goals with_reducible rfl
    (try simp only [Act.put])
    (try simp only [List.setIfInBounds_toArray])
    (try simp only [List.set_cons_succ])
    (try simp only [List.set_cons_zero])
    refine ByHand.take_yes (v := ?_) 2 39 rfl rfl (by kernel_rfl) (by kernel_rfl) (by kernel_rfl) (fun _ _ _ h => h) (by rfl) ?_ trivial ?_
    rotate_left
    · intro w' hSw
      (try dsimp only at hSw)
      go_simp
      all_goals with_reducible rfl
    (try simp only [Act.put])
    (try simp only [List.setIfInBounds_toArray])
    (try simp only [List.set_cons_succ])
    (try simp only [List.set_cons_zero])
    refine ByHand.take_yes (v := ?_) 3 40 rfl rfl (by kernel_rfl) (by kernel_rfl) (by kernel_rfl) (fun _ _ _ h => h) (by rfl) ?_ trivial ?_
    rotate_left
    · intro w' hSw
      (try dsimp only at hSw)
      go_simp
      all_goals with_reducible rfl
    (try simp only [Act.put])
    (try simp only [List.setIfInBounds_toArray])
    (try simp only [List.set_cons_succ])
    (try simp only [List.set_cons_zero])
    refine ByHand.take_yes (v := ?_) 5 42 rfl rfl (by kernel_rfl) (by kernel_rfl) (by kernel_rfl) (fun _ _ _ h => h) (by rfl) ?_ trivial ?_
    rotate_left
    · intro w' hSw
      (try dsimp only at hSw)
      go_simp
      all_goals with_reducible rfl
    (try simp only [Act.put])
    (try simp only [List.setIfInBounds_toArray])
    (try simp only [List.set_cons_succ])
    (try simp only [List.set_cons_zero])
    refine wpAnyH_ready (rs := [4, 6]) (by kernel_rfl) (by simp) (AllReadyH.cons rfl (fun K hK => ?_) (AllReadyH.cons rfl (fun K hK => ?_) (AllReadyH.nil)))
    · have e3x := HSB3.out _ Bx0.out
      go_simp
      clear e3x
      refine hK.out _ _ trivial (fun hHeld => ?_)
      clear hK K
      (try simp only [Act.put])
      (try simp only [List.setIfInBounds_toArray])
      (try simp only [List.set_cons_succ])
      (try simp only [List.set_cons_zero])
      refine wpAnyH_ready (rs := [6]) (by kernel_rfl) (by simp) (AllReadyH.cons rfl (fun K hK => ?_) (AllReadyH.nil))
      go_simp
      go_at_call 50
      refine (CL.out _).mono ?_
      rintro e x1 ⟨rfl, hb⟩
      have Bx1 : Hid (Below x0.heap.size x0 x1) := Bx0.out.trans (hb.mono Bx0.out.size)
      clear hb
      go_wp2_with fail
      refine hK.out _ _ trivial (fun hHeld => ?_)
      clear hK K
      (try simp only [Act.put])
      (try simp only [List.setIfInBounds_toArray])
      (try simp only [List.set_cons_succ])
      (try simp only [List.set_cons_zero])
      refine wpAnyH_ready (rs := [7]) (by kernel_rfl) (by simp) (AllReadyH.cons rfl (fun K hK => ?_) (AllReadyH.nil))
      go_simp
      obtain ⟨x2, hN⟩ : ∃ x2, x1.alloc (.cells #[.string s] 9) = x2 := ⟨_, rfl⟩
      have Bx2 : Hid (Below x0.heap.size x0 x2) := show Below _ _ _ from by rw [← hN]; exact Bx1.out.alloc Bx1.out.size _
      have HNx2 := Lib.hid hN
      rw [hN]
      clear hN
      refine hK.out _ _ trivial (fun hHeld => ?_)
      clear hK K
      (try simp only [Act.put])
      (try simp only [List.setIfInBounds_toArray])
      (try simp only [List.set_cons_succ])
      (try simp only [List.set_cons_zero])
      refine wpAnyH_ready (rs := [8]) (by kernel_rfl) (by simp) (AllReadyH.cons rfl (fun K hK => ?_) (AllReadyH.nil))
      rw [← HNx2.out]
      refine Slice.step_more rfl (.tmp 41) (.tmp 44) _ rfl 0 9 i0 (.string ⟨#[]⟩) 16 Tryz.underlying50 HI.out HZ0.out HZ1.out HZ2.out rfl 9 (.string s) rfl V j.recs.length _ (by rfl) (HOW.out _ Bx1.out) x1.heap.size (by rfl) rfl (by unfold maxLen; omega) (by omega) (Nat.zero_le _) ?_
      intro v' w' ho hg hnw
      rw [show j.recs.map Value.string ++ [Value.string s] = (j.recs ++ [s]).map Value.string by simp, show j.recs.length + 1 = (j.recs ++ [s]).length by simp] at ho
      have GR := Lib.hid (JAt.grew (J0.out.below Bx1.out) ho hg hnw)
      have GB := Lib.hid Bx1.out
      obtain ⟨A2, c2, rfl⟩ := Slice.own_slice ho
      rw [show (j.recs ++ [s]).length = j.recs.length + 1 by simp] at GR ⊢
      clear ho hg hnw
      refine hK.out _ _ trivial (fun hHeld => ?_)
      clear hK K
      (try simp only [Act.put])
      (try simp only [List.setIfInBounds_toArray])
      (try simp only [List.set_cons_succ])
      (try simp only [List.set_cons_zero])
      refine ByHand.take_yes (v := ?_) 9 46 rfl rfl (by kernel_rfl) (by kernel_rfl) (by kernel_rfl) (fun _ _ _ h => h) (by rfl) ?_ (by assumption) ?_
      rotate_left
      · intro w' hSw
        (try dsimp only at hSw)
        go_simp
        all_goals with_reducible rfl
      (try simp only [Act.put])
      (try simp only [List.setIfInBounds_toArray])
      (try simp only [List.set_cons_succ])
      (try simp only [List.set_cons_zero])
      refine ByHand.take_yes (v := ?_) 10 47 rfl rfl (by kernel_rfl) (by kernel_rfl) (by kernel_rfl) (fun _ _ _ h => h) (by rfl) ?_ (by assumption) ?_
      rotate_left
      · intro w' hSw
        (try dsimp only at hSw)
        go_simp
        all_goals with_reducible rfl
      (try simp only [Act.put])
      (try simp only [List.setIfInBounds_toArray])
      (try simp only [List.set_cons_succ])
      (try simp only [List.set_cons_zero])
      refine wpAnyH_ready (rs := [11]) (by kernel_rfl) (by simp) (AllReadyH.cons rfl (fun K hK => ?_) (AllReadyH.nil))
      have e3x := GR.out.1
      have f3x := GR.out.2.1
      have l3x := GR.out.2.2.1
      go_simp
      clear e3x f3x l3x
      refine hK.out _ _ trivial (fun hHeld => ?_)
      clear hK K
      (try simp only [Act.put])
      (try simp only [List.setIfInBounds_toArray])
      (try simp only [List.set_cons_succ])
      (try simp only [List.set_cons_zero])
      refine wpAnyH_done (by kernel_rfl) ?_ _
      have J5 := Lib.hid GR.out.2.2.2.1
      have O5 := Lib.hid (OnlyF.trans (OnlyF.of_below (F := J4 gj g b V) GB.out) GR.out.2.2.2.2.1)
      have N5 := Lib.hid (trans' GR.out.2.2.2.2.2 (Nat.le_trans O4.out.size GB.out.size))
      clear GR GB
      generalize World.setCell w' ⟨gj, 3, none⟩ _ = x9 at *
      go_wp2_with fail
      go_meet
      exact ⟨_, O4.out.trans O5.out, N5.out, J5.out⟩
    · go_simp
      go_at_call 50
      refine (CL.out _).mono ?_
      rintro e x1 ⟨rfl, hb⟩
      have Bx1 : Hid (Below x0.heap.size x0 x1) := Bx0.out.trans (hb.mono Bx0.out.size)
      clear hb
      go_wp2_with fail
      refine hK.out _ _ trivial (fun hHeld => ?_)
      clear hK K
      (try simp only [Act.put])
      (try simp only [List.setIfInBounds_toArray])
      (try simp only [List.set_cons_succ])
      (try simp only [List.set_cons_zero])
      refine wpAnyH_ready (rs := [4, 7]) (by kernel_rfl) (by simp) (AllReadyH.cons rfl (fun K hK => ?_) (AllReadyH.cons rfl (fun K hK => ?_) (AllReadyH.nil)))
      · have e3x := HSB3.out _ Bx1.out
        go_simp
        clear e3x
        refine hK.out _ _ trivial (fun hHeld => ?_)
        clear hK K
        (try simp only [Act.put])
        (try simp only [List.setIfInBounds_toArray])
        (try simp only [List.set_cons_succ])
        (try simp only [List.set_cons_zero])
        refine wpAnyH_ready (rs := [7]) (by kernel_rfl) (by simp) (AllReadyH.cons rfl (fun K hK => ?_) (AllReadyH.nil))
        go_simp
        obtain ⟨x2, hN⟩ : ∃ x2, x1.alloc (.cells #[.string s] 9) = x2 := ⟨_, rfl⟩
        have Bx2 : Hid (Below x0.heap.size x0 x2) := show Below _ _ _ from by rw [← hN]; exact Bx1.out.alloc Bx1.out.size _
        have HNx2 := Lib.hid hN
        rw [hN]
        clear hN
        refine hK.out _ _ trivial (fun hHeld => ?_)
        clear hK K
        (try simp only [Act.put])
        (try simp only [List.setIfInBounds_toArray])
        (try simp only [List.set_cons_succ])
        (try simp only [List.set_cons_zero])
        refine wpAnyH_ready (rs := [8]) (by kernel_rfl) (by simp) (AllReadyH.cons rfl (fun K hK => ?_) (AllReadyH.nil))
        rw [← HNx2.out]
        refine Slice.step_more rfl (.tmp 41) (.tmp 44) _ rfl 0 9 i0 (.string ⟨#[]⟩) 16 Tryz.underlying50 HI.out HZ0.out HZ1.out HZ2.out rfl 9 (.string s) rfl V j.recs.length _ (by rfl) (HOW.out _ Bx1.out) x1.heap.size (by rfl) rfl (by unfold maxLen; omega) (by omega) (Nat.zero_le _) ?_
        intro v' w' ho hg hnw
        rw [show j.recs.map Value.string ++ [Value.string s] = (j.recs ++ [s]).map Value.string by simp, show j.recs.length + 1 = (j.recs ++ [s]).length by simp] at ho
        have GR := Lib.hid (JAt.grew (J0.out.below Bx1.out) ho hg hnw)
        have GB := Lib.hid Bx1.out
        obtain ⟨A2, c2, rfl⟩ := Slice.own_slice ho
        rw [show (j.recs ++ [s]).length = j.recs.length + 1 by simp] at GR ⊢
        clear ho hg hnw
        refine hK.out _ _ trivial (fun hHeld => ?_)
        clear hK K
        (try simp only [Act.put])
        (try simp only [List.setIfInBounds_toArray])
        (try simp only [List.set_cons_succ])
        (try simp only [List.set_cons_zero])
        refine ByHand.take_yes (v := ?_) 9 46 rfl rfl (by kernel_rfl) (by kernel_rfl) (by kernel_rfl) (fun _ _ _ h => h) (by rfl) ?_ (by assumption) ?_
        rotate_left
        · intro w' hSw
          (try dsimp only at hSw)
          go_simp
          all_goals with_reducible rfl
        (try simp only [Act.put])
        (try simp only [List.setIfInBounds_toArray])
        (try simp only [List.set_cons_succ])
        (try simp only [List.set_cons_zero])
        refine ByHand.take_yes (v := ?_) 10 47 rfl rfl (by kernel_rfl) (by kernel_rfl) (by kernel_rfl) (fun _ _ _ h => h) (by rfl) ?_ (by assumption) ?_
        rotate_left
        · intro w' hSw
          (try dsimp only at hSw)
          go_simp
          all_goals with_reducible rfl
        (try simp only [Act.put])
        (try simp only [List.setIfInBounds_toArray])
        (try simp only [List.set_cons_succ])
        (try simp only [List.set_cons_zero])
        refine wpAnyH_ready (rs := [11]) (by kernel_rfl) (by simp) (AllReadyH.cons rfl (fun K hK => ?_) (AllReadyH.nil))
        have e3x := GR.out.1
        have f3x := GR.out.2.1
        have l3x := GR.out.2.2.1
        go_simp
        clear e3x f3x l3x
        refine hK.out _ _ trivial (fun hHeld => ?_)
        clear hK K
        (try simp only [Act.put])
        (try simp only [List.setIfInBounds_toArray])
        (try simp only [List.set_cons_succ])
        (try simp only [List.set_cons_zero])
        refine wpAnyH_done (by kernel_rfl) ?_ _
        have J5 := Lib.hid GR.out.2.2.2.1
        have O5 := Lib.hid (OnlyF.trans (OnlyF.of_below (F := J4 gj g b V) GB.out) GR.out.2.2.2.2.1)
        have N5 := Lib.hid (trans' GR.out.2.2.2.2.2 (Nat.le_trans O4.out.size GB.out.size))
        clear GR GB
        generalize World.setCell w' ⟨gj, 3, none⟩ _ = x9 at *
        go_wp2_with fail
        go_meet
        exact ⟨_, O4.out.trans O5.out, N5.out, J5.out⟩
      · go_simp
        obtain ⟨x2, hN⟩ : ∃ x2, x1.alloc (.cells #[.string s] 9) = x2 := ⟨_, rfl⟩
        have Bx2 : Hid (Below x0.heap.size x0 x2) := show Below _ _ _ from by rw [← hN]; exact Bx1.out.alloc Bx1.out.size _
        have HNx2 := Lib.hid hN
        rw [hN]
        clear hN
        refine hK.out _ _ trivial (fun hHeld => ?_)
        clear hK K
        (try simp only [Act.put])
        (try simp only [List.setIfInBounds_toArray])
        (try simp only [List.set_cons_succ])
        (try simp only [List.set_cons_zero])
        refine wpAnyH_ready (rs := [4]) (by kernel_rfl) (by simp) (AllReadyH.cons rfl (fun K hK => ?_) (AllReadyH.nil))
        have e3x := HSB3.out _ Bx2.out
        go_simp
        clear e3x
        refine hK.out _ _ trivial (fun hHeld => ?_)
        clear hK K
        (try simp only [Act.put])
        (try simp only [List.setIfInBounds_toArray])
        (try simp only [List.set_cons_succ])
        (try simp only [List.set_cons_zero])
        refine wpAnyH_ready (rs := [8]) (by kernel_rfl) (by simp) (AllReadyH.cons rfl (fun K hK => ?_) (AllReadyH.nil))
        rw [← HNx2.out]
        refine Slice.step_more rfl (.tmp 41) (.tmp 44) _ rfl 0 9 i0 (.string ⟨#[]⟩) 16 Tryz.underlying50 HI.out HZ0.out HZ1.out HZ2.out rfl 9 (.string s) rfl V j.recs.length _ (by rfl) (HOW.out _ Bx1.out) x1.heap.size (by rfl) rfl (by unfold maxLen; omega) (by omega) (Nat.zero_le _) ?_
        intro v' w' ho hg hnw
        rw [show j.recs.map Value.string ++ [Value.string s] = (j.recs ++ [s]).map Value.string by simp, show j.recs.length + 1 = (j.recs ++ [s]).length by simp] at ho
        have GR := Lib.hid (JAt.grew (J0.out.below Bx1.out) ho hg hnw)
        have GB := Lib.hid Bx1.out
        obtain ⟨A2, c2, rfl⟩ := Slice.own_slice ho
        rw [show (j.recs ++ [s]).length = j.recs.length + 1 by simp] at GR ⊢
        clear ho hg hnw
        refine hK.out _ _ trivial (fun hHeld => ?_)
        clear hK K
        (try simp only [Act.put])
        (try simp only [List.setIfInBounds_toArray])
        (try simp only [List.set_cons_succ])
        (try simp only [List.set_cons_zero])
        refine ByHand.take_yes (v := ?_) 9 46 rfl rfl (by kernel_rfl) (by kernel_rfl) (by kernel_rfl) (fun _ _ _ h => h) (by rfl) ?_ (by assumption) ?_
        rotate_left
        · intro w' hSw
          (try dsimp only at hSw)
          go_simp
          all_goals with_reducible rfl
        (try simp only [Act.put])
        (try simp only [List.setIfInBounds_toArray])
        (try simp only [List.set_cons_succ])
        (try simp only [List.set_cons_zero])
        refine ByHand.take_yes (v := ?_) 10 47 rfl rfl (by kernel_rfl) (by kernel_rfl) (by kernel_rfl) (fun _ _ _ h => h) (by rfl) ?_ (by assumption) ?_
        rotate_left
        · intro w' hSw
          (try dsimp only at hSw)
          go_simp
          all_goals with_reducible rfl
        (try simp only [Act.put])
        (try simp only [List.setIfInBounds_toArray])
        (try simp only [List.set_cons_succ])
        (try simp only [List.set_cons_zero])
        refine wpAnyH_ready (rs := [11]) (by kernel_rfl) (by simp) (AllReadyH.cons rfl (fun K hK => ?_) (AllReadyH.nil))
        have e3x := GR.out.1
        have f3x := GR.out.2.1
        have l3x := GR.out.2.2.1
        go_simp
        clear e3x f3x l3x
        refine hK.out _ _ trivial (fun hHeld => ?_)
        clear hK K
        (try simp only [Act.put])
        (try simp only [List.setIfInBounds_toArray])
        (try simp only [List.set_cons_succ])
        (try simp only [List.set_cons_zero])
        refine wpAnyH_done (by kernel_rfl) ?_ _
        have J5 := Lib.hid GR.out.2.2.2.1
        have O5 := Lib.hid (OnlyF.trans (OnlyF.of_below (F := J4 gj g b V) GB.out) GR.out.2.2.2.2.1)
        have N5 := Lib.hid (trans' GR.out.2.2.2.2.2 (Nat.le_trans O4.out.size GB.out.size))
        clear GR GB
        generalize World.setCell w' ⟨gj, 3, none⟩ _ = x9 at *
        go_wp2_with fail
        go_meet
        exact ⟨_, O4.out.trans O5.out, N5.out, J5.out⟩
  case rest =>
    obtain ⟨V', O5, N5, J5⟩ := hcut
    have d4 := J5.out.cells.2.2.2.2.1
    have f4 := J5.out.row.frozen 4
    have l4 := J5.out.row.lt
    have HSZ : Hid (∀ W, Calls Tryz.prog 51 #[.int .i64 (s.size : Nat)] W fun e w' => e = .returned (.int .i64 (z : Nat)) ∧ Below W.heap.size W w') := fun W => SZ.out W
    clear SZ
    go_wp2_with fail
    go_upto_region 10 with fail
    go_cut [] (fun wx => Hid (OnlyF (J4 gj g b V) w wx) ∧ Hid (JAt wx gj g b V' q2 ⟨j.base, j.recs ++ [s], j.next, j.area, j.used + z, j.dead⟩))
    case first =>
      have J0 : Hid (JAt wc.drew gj g b V' q2 ⟨j.base, j.recs ++ [s], j.next, j.area, j.used, j.dead⟩) := J5.out.heap rfl
      have O4 : Hid (OnlyF (J4 gj g b V) w wc.drew) := O5.out.drewN 1
      have HU4 : Hid (∀ W, Below wc.drew.heap.size wc.drew W → W.cell? ⟨gj, 4, none⟩ = some (.int .i64 (j.used : Nat))) := fun W hb => ((J0.out.below hb).cells).2.2.2.2.1
      clear J5 O5 d4 f4 l4
      refine wp_region_held_drew (S := (fun _ => True)) (by kernel_rfl) trivial (fun hHeld => ?_)
      generalize wc.drew = x0 at *
      have Bx0 := Lib.hid (Below.refl x0.heap.size x0)
      refine ByHand.take_yes (v := ?_) 0 48 rfl rfl (by kernel_rfl) (by kernel_rfl) (by kernel_rfl) (fun _ _ _ h => h) (by rfl) ?_ trivial ?_
      rotate_left
      · intro w' hSw
        (try dsimp only at hSw)
        go_simp
        all_goals with_reducible rfl
      (try simp only [Act.put])
      (try simp only [List.setIfInBounds_toArray])
      (try simp only [List.set_cons_succ])
      (try simp only [List.set_cons_zero])
      refine ByHand.take_yes (v := ?_) 1 49 rfl rfl (by kernel_rfl) (by kernel_rfl) (by kernel_rfl) (fun _ _ _ h => h) (by rfl) ?_ trivial ?_
      rotate_left
      · intro w' hSw
        (try dsimp only at hSw)
        go_simp
        all_goals with_reducible rfl
      (try simp only [Act.put])
      (try simp only [List.setIfInBounds_toArray])
      (try simp only [List.set_cons_succ])
      (try simp only [List.set_cons_zero])
      refine ByHand.take_yes (v := ?_) 2 50 rfl rfl (by kernel_rfl) (by kernel_rfl) (by kernel_rfl) (fun _ _ _ h => h) (by rfl) ?_ trivial ?_
      rotate_left
      · intro w' hSw
        (try dsimp only at hSw)
        go_simp
        all_goals with_reducible rfl
      (try simp only [Act.put])
      (try simp only [List.setIfInBounds_toArray])
      (try simp only [List.set_cons_succ])
      (try simp only [List.set_cons_zero])
      refine ByHand.take_yes (v := ?_) 4 52 rfl rfl (by kernel_rfl) (by kernel_rfl) (by kernel_rfl) (fun _ _ _ h => h) (by rfl) ?_ trivial ?_
      rotate_left
      · intro w' hSw
        (try dsimp only at hSw)
        go_simp
        all_goals with_reducible rfl
      (try simp only [Act.put])
      (try simp only [List.setIfInBounds_toArray])
      (try simp only [List.set_cons_succ])
      (try simp only [List.set_cons_zero])
      refine ByHand.take_yes (v := ?_) 5 53 rfl rfl (by kernel_rfl) (by kernel_rfl) (by kernel_rfl) (fun _ _ _ h => h) (by rfl) ?_ trivial ?_
      rotate_left
      · intro w' hSw
        (try dsimp only at hSw)
        go_simp
        all_goals with_reducible rfl
      (try simp only [Act.put])
      (try simp only [List.setIfInBounds_toArray])
      (try simp only [List.set_cons_succ])
      (try simp only [List.set_cons_zero])
      refine wpAnyH_ready (rs := [3, 6]) (by kernel_rfl) (by simp) (AllReadyH.cons rfl (fun K hK => ?_) (AllReadyH.cons rfl (fun K hK => ?_) (AllReadyH.nil)))
      · have e4x := HU4.out _ Bx0.out
        go_simp
        clear e4x
        refine hK.out _ _ trivial (fun hHeld => ?_)
        clear hK K
        (try simp only [Act.put])
        (try simp only [List.setIfInBounds_toArray])
        (try simp only [List.set_cons_succ])
        (try simp only [List.set_cons_zero])
        refine wpAnyH_ready (rs := [6]) (by kernel_rfl) (by simp) (AllReadyH.cons rfl (fun K hK => ?_) (AllReadyH.nil))
        go_simp
        go_at_call 51
        refine (HSZ.out _).mono ?_
        rintro e x1 ⟨rfl, hb⟩
        have Bx1 : Hid (Below x0.heap.size x0 x1) := Bx0.out.trans (hb.mono Bx0.out.size)
        clear hb
        go_wp2_with fail
        refine hK.out _ _ trivial (fun hHeld => ?_)
        clear hK K
        (try simp only [Act.put])
        (try simp only [List.setIfInBounds_toArray])
        (try simp only [List.set_cons_succ])
        (try simp only [List.set_cons_zero])
        refine ByHand.take_yes (v := ?_) 7 55 rfl rfl (by kernel_rfl) (by kernel_rfl) (by kernel_rfl) (fun _ _ _ h => h) (by rfl) ?_ trivial ?_
        rotate_left
        · intro w' hSw
          (try dsimp only at hSw)
          go_simp
          all_goals with_reducible rfl
        (try simp only [Act.put])
        (try simp only [List.setIfInBounds_toArray])
        (try simp only [List.set_cons_succ])
        (try simp only [List.set_cons_zero])
        refine ByHand.take_yes (v := ?_) 8 56 rfl rfl (by kernel_rfl) (by kernel_rfl) (by kernel_rfl) (fun _ _ _ h => h) (by rfl) ?_ trivial ?_
        rotate_left
        · intro w' hSw
          (try dsimp only at hSw)
          go_simp
          all_goals with_reducible rfl
        (try simp only [Act.put])
        (try simp only [List.setIfInBounds_toArray])
        (try simp only [List.set_cons_succ])
        (try simp only [List.set_cons_zero])
        refine ByHand.take_yes (v := ?_) 9 57 rfl rfl (by kernel_rfl) (by kernel_rfl) (by kernel_rfl) (fun _ _ _ h => h) (by rfl) ?_ trivial ?_
        rotate_left
        · intro w' hSw
          (try dsimp only at hSw)
          go_simp
          all_goals with_reducible rfl
        (try simp only [Act.put])
        (try simp only [List.setIfInBounds_toArray])
        (try simp only [List.set_cons_succ])
        (try simp only [List.set_cons_zero])
        refine wpAnyH_ready (rs := [10]) (by kernel_rfl) (by simp) (AllReadyH.cons rfl (fun K hK => ?_) (AllReadyH.nil))
        have J6 := Lib.hid (J0.out.below Bx1.out)
        have O6 := Lib.hid (O4.out.trans (OnlyF.of_below Bx1.out))
        have e4x := J6.out.cells.2.2.2.2.1
        have f4x := J6.out.row.frozen 4
        have l4x := J6.out.row.lt
        go_simp
        clear e4x f4x l4x
        refine hK.out _ _ trivial (fun hHeld => ?_)
        clear hK K
        (try simp only [Act.put])
        (try simp only [List.setIfInBounds_toArray])
        (try simp only [List.set_cons_succ])
        (try simp only [List.set_cons_zero])
        refine wpAnyH_done (by kernel_rfl) ?_ _
        go_wp2_with fail
        go_meet
        exact ⟨O6.out.set (Or.inl (Or.inl rfl)) _, J6.out.set 4 _ rfl (fun k hk => by
          match k, hk with
          | 0, _ | 1, _ | 2, _ | 3, _ | 4, _ | 5, _ | 6, _ => rfl)⟩
      · go_simp
        go_at_call 51
        refine (HSZ.out _).mono ?_
        rintro e x1 ⟨rfl, hb⟩
        have Bx1 : Hid (Below x0.heap.size x0 x1) := Bx0.out.trans (hb.mono Bx0.out.size)
        clear hb
        go_wp2_with fail
        refine hK.out _ _ trivial (fun hHeld => ?_)
        clear hK K
        (try simp only [Act.put])
        (try simp only [List.setIfInBounds_toArray])
        (try simp only [List.set_cons_succ])
        (try simp only [List.set_cons_zero])
        refine wpAnyH_ready (rs := [3]) (by kernel_rfl) (by simp) (AllReadyH.cons rfl (fun K hK => ?_) (AllReadyH.nil))
        have e4x := HU4.out _ Bx1.out
        go_simp
        clear e4x
        refine hK.out _ _ trivial (fun hHeld => ?_)
        clear hK K
        (try simp only [Act.put])
        (try simp only [List.setIfInBounds_toArray])
        (try simp only [List.set_cons_succ])
        (try simp only [List.set_cons_zero])
        refine ByHand.take_yes (v := ?_) 7 55 rfl rfl (by kernel_rfl) (by kernel_rfl) (by kernel_rfl) (fun _ _ _ h => h) (by rfl) ?_ trivial ?_
        rotate_left
        · intro w' hSw
          (try dsimp only at hSw)
          go_simp
          all_goals with_reducible rfl
        (try simp only [Act.put])
        (try simp only [List.setIfInBounds_toArray])
        (try simp only [List.set_cons_succ])
        (try simp only [List.set_cons_zero])
        refine ByHand.take_yes (v := ?_) 8 56 rfl rfl (by kernel_rfl) (by kernel_rfl) (by kernel_rfl) (fun _ _ _ h => h) (by rfl) ?_ trivial ?_
        rotate_left
        · intro w' hSw
          (try dsimp only at hSw)
          go_simp
          all_goals with_reducible rfl
        (try simp only [Act.put])
        (try simp only [List.setIfInBounds_toArray])
        (try simp only [List.set_cons_succ])
        (try simp only [List.set_cons_zero])
        refine ByHand.take_yes (v := ?_) 9 57 rfl rfl (by kernel_rfl) (by kernel_rfl) (by kernel_rfl) (fun _ _ _ h => h) (by rfl) ?_ trivial ?_
        rotate_left
        · intro w' hSw
          (try dsimp only at hSw)
          go_simp
          all_goals with_reducible rfl
        (try simp only [Act.put])
        (try simp only [List.setIfInBounds_toArray])
        (try simp only [List.set_cons_succ])
        (try simp only [List.set_cons_zero])
        refine wpAnyH_ready (rs := [10]) (by kernel_rfl) (by simp) (AllReadyH.cons rfl (fun K hK => ?_) (AllReadyH.nil))
        have J6 := Lib.hid (J0.out.below Bx1.out)
        have O6 := Lib.hid (O4.out.trans (OnlyF.of_below Bx1.out))
        have e4x := J6.out.cells.2.2.2.2.1
        have f4x := J6.out.row.frozen 4
        have l4x := J6.out.row.lt
        go_simp
        clear e4x f4x l4x
        refine hK.out _ _ trivial (fun hHeld => ?_)
        clear hK K
        (try simp only [Act.put])
        (try simp only [List.setIfInBounds_toArray])
        (try simp only [List.set_cons_succ])
        (try simp only [List.set_cons_zero])
        refine wpAnyH_done (by kernel_rfl) ?_ _
        go_wp2_with fail
        go_meet
        exact ⟨O6.out.set (Or.inl (Or.inl rfl)) _, J6.out.set 4 _ rfl (fun k hk => by
          match k, hk with
          | 0, _ | 1, _ | 2, _ | 3, _ | 4, _ | 5, _ | 6, _ => rfl)⟩
    case rest =>
      obtain ⟨O7, J7⟩ := hcut
      have d5 := J7.out.cells.2.2.2.2.2.1
      have f5 := J7.out.row.frozen 5
      have l5 := J7.out.row.lt
      go_wp2_with fail
      go_ret
      exact ⟨rfl, V', J7.out.set 5 _ rfl (fun k hk => by
        match k, hk with
        | 0, _ | 1, _ | 2, _ | 3, _ | 4, _ | 5, _ | 6, _ => rfl), (O7.out.set (Or.inl (Or.inl rfl)) _), N5.out⟩
end Go.Proofs.YtndanhacmfhlaaaGreat.Jour
namespace Go.Proofs.YtndanhacmfhlaaaGreat.Jour
open Go.ChangeShapes Go.WideShapes Go.ChangeAt Go.RowKit Go.Deep Els Go.Proofs.YtndanhacmfhlaaaGreat.Frame Disk

theorem p_append (q : DSt) (j : JSt) (gj g b k m : Nat) (V : Value) (s : ByteArray) (w : World) (h : JAt w gj g b V q j) (hf : q.Fit k m) (hm : m ≤ 10000000) (hl : q.S.length ≤ 4096) (h2 : 2 ≤ q.S.length) (hj : j.Fit q) (hp : 1 ≤ j.next) (hs : s.size ≤ 9223372036854775807) :
    Calls Tryz.prog 11 #[.pointer (some ⟨gj, 0, none⟩), .string s] w (PDid (append q j s) gj g b V w) := by
  by_cases he : refE j.dead s.size j.next (leftN q j) = 0
  · obtain ⟨e1, e2, e3, e4⟩ := refE_zero he
    have hA : append q j s = if (writeR q (startD q j.area + j.used) j.next s).2 ≠ 0 then ⟨(writeR q (startD q j.area + j.used) j.next s).1, ⟨j.base, j.recs, j.next, j.area, j.used, true⟩, (writeR q (startD q j.area + j.used) j.next s).2⟩ else ⟨(writeR q (startD q j.area + j.used) j.next s).1, ⟨j.base, j.recs ++ [s], j.next + 1, j.area, j.used + sizeN s.size, j.dead⟩, 0⟩ := by
      unfold append
      rw [if_neg (by rw [e1]; decide), if_neg (by omega), if_neg (by omega)]
    obtain ⟨q2, er, hW⟩ : ∃ q2 er, writeR q (startD q j.area + j.used) j.next s = (q2, er) := ⟨_, _, rfl⟩
    rw [hW] at hA
    by_cases hx : er = 0
    · subst hx
      rw [hA, if_neg (by simp)]
      exact app_ok q q2 j gj g b k m V s w h hf hm hl h2 hj hp hs he hW
    · rw [hA, if_pos hx]
      exact app_err q q2 er j gj g b k m V s w h hf hm hl h2 hj hp hs he hW hx
  · rw [append_ref he]
    exact app_no q j gj g b V s w h hl h2 hj hs he
theorem save_ref {q : DSt} {j : JSt} {s : ByteArray} (h : refE j.dead s.size j.next (roomD q : Nat) ≠ 0) : save q j s = ⟨q, j, refE j.dead s.size j.next (roomD q : Nat)⟩ := by
  unfold save
  by_cases h1 : j.dead = true
  · rw [if_pos h1, show refE j.dead s.size j.next (roomD q : Nat) = 74 by unfold refE; rw [if_pos h1]]
  · rw [if_neg h1]
    by_cases h2 : 60000 < s.size
    · rw [if_pos h2, show refE j.dead s.size j.next (roomD q : Nat) = 2 by unfold refE tooE; rw [if_neg h1, if_pos h2]; rfl]
    · rw [if_neg h2]
      by_cases h3 : roomD q < sizeN s.size
      · rw [if_pos (Or.inl h3), show refE j.dead s.size j.next (roomD q : Nat) = 73 by unfold refE tooE; rw [if_neg h1, if_neg h2, if_pos (show ((roomD q : Nat) : Int) < (sizeN s.size : Nat) by omega)]; rfl]
      · by_cases h4 : most < j.next
        · rw [if_pos (Or.inr h4), show refE j.dead s.size j.next (roomD q : Nat) = 73 by unfold refE tooE; rw [if_neg h1, if_neg h2, if_neg (show ¬ ((roomD q : Nat) : Int) < (sizeN s.size : Nat) by omega), if_pos h4]; rfl]
        · exact absurd (by unfold refE tooE; rw [if_neg h1, if_neg h2, if_neg (show ¬ ((roomD q : Nat) : Int) < (sizeN s.size : Nat) by omega), if_neg h4]; rfl) h
theorem save_bg {q : DSt} {j : JSt} {s : ByteArray} (h : refE j.dead s.size j.next (roomD q : Nat) = 0) : save q j s = if (bg q (1 - j.area) j.next s).2 ≠ 0 then ⟨(bg q (1 - j.area) j.next s).1, ⟨j.base, j.recs, j.next, j.area, j.used, true⟩, (bg q (1 - j.area) j.next s).2⟩ else ⟨(bg q (1 - j.area) j.next s).1, ⟨s, [], j.next + 1, 1 - j.area, sizeN s.size, j.dead⟩, 0⟩ := by
  obtain ⟨e1, e2, e3, e4⟩ := refE_zero h
  unfold save bg
  rw [if_neg (by rw [e1]; decide), if_neg (by omega), if_neg (by omega)]
  by_cases h1 : (writeR q (startD q (1 - j.area)) j.next s).2 ≠ 0
  · simp only [if_pos h1]
  · simp only [if_neg h1]
set_option maxRecDepth 20000 in
set_option maxHeartbeats 2000000 in
theorem p_save (q : DSt) (j : JSt) (gj g b k m : Nat) (V : Value) (s : ByteArray) (w : World) (h : JAt w gj g b V q j) (hf : q.Fit k m) (hm : m ≤ 10000000) (hl : q.S.length ≤ 4096) (h2 : 2 ≤ q.S.length) (hj : j.Fit q) (hp : 1 ≤ j.next) (hs : s.size ≤ 9223372036854775807) :
    Calls Tryz.prog 13 #[.pointer (some ⟨gj, 0, none⟩), .string s] w (PDid (save q j s) gj g b V w) := by
  obtain ⟨d0, d1, -, -, -, -, -, -⟩ := h.cells
  have hbR : roomD q ≤ 4096 := by unfold roomD; omega
  have RM := Lib.hid (j_room q g b w h.dk hl h2)
  have RF := Lib.hid (p_refuses q j gj g b V s (roomD q : Nat) w h hs (by omega))
  have H := Lib.hid h
  by_cases he : refE j.dead s.size j.next (roomD q : Nat) = 0
  · have hB := save_bg (s := s) he
    obtain ⟨e1, e2, e3, e4⟩ := refE_zero he
    unfold most at e4
    rw [he] at RF
    have ha := hj.area
    have i1 : IntKind.i64.wrap (1 - (j.area : Int)) = ((1 - j.area : Nat) : Int) := by rw [IntWalk.i64_in _ (by omega)]; omega
    have BG : Hid (∀ W, JAt W gj g b V q j → Calls Tryz.prog 37 #[.pointer (some ⟨gj, 0, none⟩), .int .i64 (1 - j.area : Nat), .string s] W (BgDid q g b gj (1 - j.area) j.next s (pcell g V j) W)) := fun W hW => p_begin q g b gj k m (1 - j.area) j.next s (pcell g V j) W hW.dk hf hm hW.row rfl rfl hW.ne (by omega) (by omega) e2 hl h2 (by omega)
    unfold BgDid at BG
    have HB := Lib.hid hB
    have HDE := Lib.hid e1
    clear h hf hj he hB e1 e4
    obtain ⟨oa, hoa⟩ : ∃ oa, 1 - j.area = oa := ⟨_, rfl⟩
    rw [hoa] at i1 BG HB
    generalize bg q oa j.next s = X at *
    generalize roomD q = R at *
    clear hoa
    go_enter Tryz.func13, Tryz.ntmps13
    go_wp2_with fail
    refine RM.out.mono ?_
    rintro e w1 ⟨rfl, rfl⟩
    go_wp2_with fail
    refine RF.out.mono ?_
    rintro e w1 ⟨rfl, hb⟩
    have J1 := Lib.hid (H.out.below hb)
    have O1 := Lib.hid (OnlyF.of_below (F := J4 gj g b V) hb)
    have d1' := J1.out.cells.2.1
    clear hb d0 d1 RM RF
    go_wp2_with fail
    refine (BG.out _ J1.out).mono ?_
    rintro e w2 ⟨rfl, n1, n2, n3⟩
    have D2 := Lib.hid n1
    have R2 := Lib.hid n2
    have O2 := Lib.hid n3
    clear n1 n2 n3
    go_wp2_with fail
    go_ret
    rw [HB.out]
    by_cases hx : X.2 = 0
    · rw [if_neg (by simp [hx])]
      refine ⟨by rw [hx]; rfl, .slice none 0 0, ⟨D2.out, R2.out.congr (fun i hi => ?_), World.ownsRow_nil _ _ _ _, J1.out.ne, fun c hc => (by cases hc)⟩, O1.out.trans (O2.out.weaken f34), fun c hc => (by cases hc)⟩
      unfold bgRow
      rw [if_pos hx, HDE.out]
    · rw [if_pos hx]
      refine ⟨rfl, V, J1.out.turn D2.out (R2.out.congr (fun i hi => ?_)) O2.out rfl, O1.out.trans (O2.out.weaken f34), fun c hc => Or.inl hc⟩
      unfold bgRow
      rw [if_neg hx]
      match i, hi with
      | 0, _ | 1, _ | 2, _ | 3, _ | 4, _ | 5, _ | 6, _ => rfl
  · rw [save_ref he]
    have t1 : (refE j.dead s.size j.next (roomD q : Nat) != 0) = true := by rw [bne_iff_ne]; exact he
    clear h hj he
    generalize refE j.dead s.size j.next (roomD q : Nat) = er at *
    generalize roomD q = R at *
    go_enter Tryz.func13, Tryz.ntmps13
    go_wp2_with fail
    refine RM.out.mono ?_
    rintro e w1 ⟨rfl, rfl⟩
    go_wp2_with fail
    refine RF.out.mono ?_
    rintro e w1 ⟨rfl, hb⟩
    have HB := Lib.hid hb
    clear hb
    go_wp2_with fail
    go_ret
    exact pdid_same (H.out.below HB.out) (OnlyF.of_below HB.out)
theorem n_append (s : ByteArray) (w : World) : Calls Tryz.prog 11 #[.pointer none, .string s] w fun e w' => e = .returned (.int .i64 1) ∧ w = w' := by
  go_enter Tryz.func11, Tryz.ntmps11
  go_wp2_with fail
  go_ret
  exact ⟨rfl, rfl⟩
theorem n_save (s : ByteArray) (w : World) : Calls Tryz.prog 13 #[.pointer none, .string s] w fun e w' => e = .returned (.int .i64 1) ∧ w = w' := by
  go_enter Tryz.func13, Tryz.ntmps13
  go_wp2_with fail
  go_ret
  exact ⟨rfl, rfl⟩
theorem n_next (w : World) : Calls Tryz.prog 30 #[.pointer none] w fun e w' => e = .returned (.int .u32 0) ∧ w = w' := by
  go_enter Tryz.func30, Tryz.ntmps30
  go_wp2_with fail
  go_ret
  exact ⟨rfl, rfl⟩
theorem n_left (w : World) : Calls Tryz.prog 31 #[.pointer none] w fun e w' => e = .returned (.int .i64 0) ∧ w = w' := by
  go_enter Tryz.func31, Tryz.ntmps31
  go_wp2_with fail
  go_ret
  exact ⟨rfl, rfl⟩
theorem n_base (w : World) : Calls Tryz.prog 27 #[.pointer none] w fun e w' => e = .returned (.string ⟨#[]⟩) ∧ w = w' := by
  go_enter Tryz.func27, Tryz.ntmps27
  go_wp2_with fail
  go_ret
  exact ⟨rfl, rfl⟩
theorem n_records (w : World) : Calls Tryz.prog 29 #[.pointer none] w fun e w' => e = .returned (.slice none 0 0) ∧ w = w' := by
  go_enter Tryz.func29, Tryz.ntmps29
  go_wp2_with fail
  go_ret
  exact ⟨rfl, rfl⟩
end Go.Proofs.YtndanhacmfhlaaaGreat.Jour
namespace Go.Proofs.YtndanhacmfhlaaaGreat.Jour
open Go.ChangeShapes Go.WideShapes Go.ChangeAt Go.RowKit Go.Deep Els Go.Proofs.YtndanhacmfhlaaaGreat.Frame Disk

theorem pdrop_run {w : World} {B b off n k p : Nat} {l : List ByteArray} (h : Txts w B (.slice (some ⟨b, off, none⟩) n k) l) (hn : n = l.length) (hp : p ≤ n) :
    ∃ A2 : Addr, (∀ W, (Instr.slice 50 (.slice (some ⟨b, off, none⟩) n k) (some (.int .i64 (p : Nat))) none none).run Tryz.prog W = .ok (.slice (some A2) (n - p) (k - p)) W) ∧ Txts w B (.slice (some A2) (n - p) (k - p)) (l.drop p) := by
  obtain ⟨A, c, e, hl, hnn, hc⟩ := h
  injection e with e1 e2 e3
  subst e1 e3
  have hlt : (l.drop p).length = n - p := by rw [List.length_drop, hn]
  have hk := hnn.2
  have hr : ∀ W, (Instr.slice 50 (.slice (some ⟨b, off, none⟩) n k) (some (.int .i64 (p : Nat))) none none).run Tryz.prog W = .ok (.slice (some (if k - p = 0 then (⟨b, off, none⟩ : Addr) else ⟨b, off + p, none⟩)) (n - p) (k - p)) W := fun W => by
    have z1 : (0 : Int) ≤ (p : Int) := by omega
    have z2 : (p : Int) ≤ (n : Int) := by omega
    have z3 : p ≤ l.length := by omega
    by_cases hz : k - p = 0
    · rw [if_pos hz]
      have z4 : k = p := by omega
      go_simp
    · rw [if_neg hz]
      have z4 : ¬ k = p := by omega
      go_simp
  refine ⟨_, hr, ⟨_, _, by rw [hlt], by rw [hlt]; omega, ⟨fun h => (by cases h), by rw [hlt]; omega⟩, fun h0 => ?_⟩⟩
  rw [hlt] at h0
  rw [if_neg (by omega)]
  obtain ⟨b', off', hA, hb, hcell⟩ := hc (by omega)
  injection hA with hA
  injection hA with h4 h5
  subst h4 h5
  refine ⟨_, _, rfl, hb, fun i x hi => ?_⟩
  rw [Nat.add_assoc]
  refine hcell _ x ?_
  rwa [List.getElem?_drop] at hi
theorem txts_only {w wr : World} {r off n c gj : Nat} {l : List ByteArray} (h : Txts w w.heap.size (.slice (some ⟨r, off, none⟩) n c) l) (ho : OnlyF (fun i => i = gj) w wr) (hne : r ≠ gj) : Txts wr wr.heap.size (.slice (some ⟨r, off, none⟩) n c) l := by
  obtain ⟨A, k, e, hl, hn, hc⟩ := h
  refine ⟨A, k, e, hl, hn, fun h0 => ?_⟩
  obtain ⟨b', off', hA, hb, hcell⟩ := hc h0
  injection e with e1 _ _
  rw [hA] at e1
  injection e1 with e1
  injection e1 with e2 e3
  subst e2 e3
  exact ⟨_, _, hA, Nat.lt_of_lt_of_le hb ho.size, fun i x hi => (World.cell?_of_block (ho.block _ hb hne)).trans (hcell i x hi)⟩
/-- How far a journal that is being read is from the end of any area. -/
def usedM (gj : Nat) (w : World) : Nat := match w.cell? ⟨gj, 4, none⟩ with
  | some (.int _ n) => (5000 - n).toNat
  | _ => 0
theorem usedM_of {gj u : Nat} {w : World} (h : w.cell? ⟨gj, 4, none⟩ = some (.int .i64 (u : Nat))) : usedM gj w = 5000 - u := by
  unfold usedM
  rw [h]
  show (5000 - (u : Int)).toNat = _
  omega
/-- The journal ahead of the first record. -/
def zeroJ (q : DSt) (a : Nat) : JSt := ⟨⟨#[]⟩, [], numV (q.S.getD a none_), a, 0, false⟩
/-- What holds of a journal that is being read. -/
structure Fnd (q : DSt) (a : Nat) (st : JSt) : Prop where
  inn : ∃ i, i ≤ 5000 ∧ JIn q a i st ∧ st.recs.length = i ∧ goK q (5000 - i) st = goK q 5000 (headJ q a)
theorem fnd_head {q : DSt} {a : Nat} (hk : 8 ≤ q.S.length) (ha : a ≤ 1) (h : okR (areaL q a) (numV (q.S.getD a none_)) = true) (hm : numV (q.S.getD a none_) ≤ most) : Fnd q a (headJ q a) := ⟨⟨0, by omega, JIn.head hk ha h hm, rfl, rfl⟩⟩
theorem fnd_step {q : DSt} {a : Nat} {st : JSt} (hk : 8 ≤ q.S.length ∧ q.S.length ≤ 4096) (ha : a ≤ 1) (h : Fnd q a st) (hn : nextOk q st = true) : Fnd q a (nextJ q st) := by
  obtain ⟨i, hi, h1, h2, h3⟩ := h.inn
  have hu := h1.used
  have hr := h1.recs
  have : roomD q ≤ 4096 := by unfold roomD; omega
  refine ⟨⟨i + 1, by omega, h1.step hk.1 ha hn, ?_, ?_⟩⟩
  · show (st.recs ++ [_]).length = _
    rw [List.length_append, List.length_singleton, h2]
  · rw [← goK_yes hn (by omega)]
    exact h3
theorem fnd_end {q : DSt} {a : Nat} {st : JSt} (h : Fnd q a st) (hn : nextOk q st = false) : goK q 5000 (headJ q a) = st := by
  obtain ⟨i, hi, h1, h2, h3⟩ := h.inn
  rw [← h3, goK_no hn]
theorem own_still {w w' : World} {base n size : Nat} {e : TypeId} {v : Value} {xs : List Value} (h : w.ownsRow base e size v n xs) (hb : Below w.heap.size w w') : w'.ownsRow base e size v n xs := own_keep h (fun c hc => hb.block c (h.lt c hc).2)
/-- What holds between two rounds of find. -/
def FRel (q : DSt) (a g gj : Nat) (w wr : World) : Prop := ∃ (V : Value) (st : JSt), Hid (wr.rowIs gj 74 7 (pcell g V st)) ∧ Hid (wr.ownsRow w.heap.size 9 1 V st.recs.length (st.recs.map Value.string)) ∧ Hid (OnlyF (fun i => i = gj) w wr) ∧ ((st = zeroJ q a ∧ V = .slice none 0 0) ∨ (Hid (okR (areaL q a) (numV (q.S.getD a none_)) = true) ∧ Hid (Fnd q a st)))
/-- What find has told. -/
def FindDid (q : DSt) (a g gj : Nat) (w : World) (e : Ending) (w' : World) : Prop :=
  OnlyF (fun i => i = gj) w w' ∧ ((okR (areaL q a) (numV (q.S.getD a none_)) = false ∧ e = .returned (.bool false)) ∨ (okR (areaL q a) (numV (q.S.getD a none_)) = true ∧ e = .returned (.bool true) ∧
    ∃ V, w'.rowIs gj 74 7 (pcell g V (goK q 5000 (headJ q a))) ∧ w'.ownsRow w.heap.size 9 1 V (goK q 5000 (headJ q a)).recs.length ((goK q 5000 (headJ q a)).recs.map Value.string)))
set_option maxRecDepth 20000 in
set_option maxHeartbeats 8000000 in
theorem p_find (q : DSt) (a g gj r off cap k m : Nat) (w : World) (hR : w.rowIs gj 74 7 (pcell g (.slice none 0 0) (zeroJ q a))) (hA : Txts w w.heap.size (.slice (some ⟨r, off, none⟩) (roomD q) cap) (areaL q a)) (hrg : r ≠ gj)
    (_hf : q.Fit k m) (hl : 8 ≤ q.S.length ∧ q.S.length ≤ 600) (ha : a ≤ 1) (hn : numV (q.S.getD a none_) ≤ most) (hz : ∀ x ∈ areaL q a, x.size ≤ 1000) :
    Calls Tryz.prog 53 #[.pointer (some ⟨gj, 0, none⟩), .slice (some ⟨r, off, none⟩) (roomD q) cap] w (FindDid q a g gj w) := by
  have HAL := Lib.hid (area_len (q := q) hl.1 ha)
  have hR300 : roomD q ≤ 300 := by unfold roomD; omega
  have HL := Lib.hid (⟨hl.1, by omega⟩ : 8 ≤ q.S.length ∧ q.S.length ≤ 4096)
  have HHD : Hid (okR (areaL q a) (numV (q.S.getD a none_)) = true → Fnd q a (headJ q a)) := fun h => fnd_head hl.1 ha h hn
  have RD : Hid (∀ W v p num, p ≤ roomD q → num < 4294967296 → Txts W W.heap.size v ((areaL q a).drop p) → Calls Tryz.prog 68 #[v, .int .u32 (num : Nat)] W fun e w' => e = .returned (.tuple #[.string (readS ((areaL q a).drop p) num), .int .i64 (readN ((areaL q a).drop p) num : Nat), .bool (okR ((areaL q a).drop p) num)]) ∧ Below W.heap.size W w') := fun W v p num hp hn hv => f_read _ num v W hv hn ⟨by rw [List.length_drop, HAL.out.2.1]; omega, fun x hx => by have := hz x (List.mem_of_mem_drop hx); omega⟩
  have HT := Lib.hid hA
  have HR := Lib.hid hR
  have hln := HAL.out.2.1
  have hgl := hR.lt
  have HDX : Hid (∀ e w', FindDid q a g gj w e w' = (OnlyF (fun i => i = gj) w w' ∧ ((okR (areaL q a) (numV (q.S.getD a none_)) = false ∧ e = .returned (.bool false)) ∨ (okR (areaL q a) (numV (q.S.getD a none_)) = true ∧ e = .returned (.bool true) ∧
    ∃ V, w'.rowIs gj 74 7 (pcell g V (goK q 5000 (headJ q a))) ∧ w'.ownsRow w.heap.size 9 1 V (goK q 5000 (headJ q a)).recs.length ((goK q 5000 (headJ q a)).recs.map Value.string))))) := show ∀ e w', _ = _ from fun _ _ => rfl
  clear hA hR _hf hz
  go_enter Tryz.func53, Tryz.ntmps53
  go_wp2_with fail
  go_step3
  go_wp2_with fail
  go_step3
  go_wp2_with fail
  go_loopw [] (fun wr => FRel q a g gj w wr) (fun wr => usedM gj wr)
  case atStart => exact ⟨.slice none 0 0, zeroJ q a, HR.out, World.ownsRow_nil _ _ _ _, OnlyF.refl _ _, Or.inl ⟨rfl, rfl⟩⟩
  case round =>
    obtain ⟨V, st, HR2, HV, HO, hst⟩ := hrel
    have hused : st.used ≤ roomD q ∧ st.next ≤ 2148500000 := by
      rcases hst with ⟨rfl, -⟩ | ⟨-, h⟩
      · unfold most at hn
        exact ⟨Nat.zero_le _, by show numV _ ≤ _; omega⟩
      · obtain ⟨i, hi, h1, -, -⟩ := h.out.inn
        exact ⟨h1.used, by have := h1.next; omega⟩
    have HTr : Hid (Txts wr wr.heap.size (.slice (some ⟨r, off, none⟩) (roomD q) cap) (areaL q a)) := txts_only HT.out HO.out hrg
    obtain ⟨A2, hrun, htx⟩ := pdrop_run HTr.out hln.symm hused.1
    have HT2 := Lib.hid htx
    have RI : Hid (∀ W, Below wr.heap.size wr W → Calls Tryz.prog 68 #[.slice (some A2) (roomD q - st.used) (cap - st.used), .int .u32 (st.next : Nat)] W fun e w' => e = .returned (.tuple #[.string (readS ((areaL q a).drop st.used) st.next), .int .i64 (readN ((areaL q a).drop st.used) st.next : Nat), .bool (okR ((areaL q a).drop st.used) st.next)]) ∧ Below W.heap.size W w') := fun W hb => RD.out W _ st.used st.next hused.1 (by omega) ((HT2.out.below hb).more hb.size)
    have hrn : okR ((areaL q a).drop st.used) st.next = true → readN ((areaL q a).drop st.used) st.next ≤ 5000 := fun h => by
      have := (ok_len h).2
      rw [List.length_drop, hln] at this
      omega
    have C4 : wr.cell? ⟨gj, 4, none⟩ = some (.int .i64 (st.used : Nat)) := HR2.out.cell (by decide)
    have C5 : wr.cell? ⟨gj, 5, none⟩ = some (.int .u32 (st.next : Nat)) := HR2.out.cell (by decide)
    have hglr := HR2.out.lt
    have HSB : Hid (∀ W, Below wr.heap.size wr W → W.cell? ⟨gj, 4, none⟩ = some (.int .i64 (st.used : Nat)) ∧ W.cell? ⟨gj, 5, none⟩ = some (.int .u32 (st.next : Nat))) := fun W hb => ⟨(hb.cell (p := ⟨gj, 4, none⟩) hglr).trans C4, (hb.cell (p := ⟨gj, 5, none⟩) hglr).trans C5⟩
    obtain ⟨u, hu⟩ : ∃ u, st.used = u := ⟨_, rfl⟩
    obtain ⟨nx, hnx⟩ : ∃ nx, st.next = nx := ⟨_, rfl⟩
    have HOK : Hid (okR ((areaL q a).drop st.used) st.next = okR ((areaL q a).drop u) nx) := show _ = _ by rw [hu, hnx]
    have HUX := Lib.hid hu
    have HNX := Lib.hid hnx
    rw [hu] at hrun RI C4 HSB hrn
    rw [hnx] at RI C5 HSB hrn
    have huR : u ≤ roomD q := by omega
    have hnxb : nx ≤ 2148500000 := by omega
    clear hu hnx hused htx HT2 HTr
    generalize hy1 : readS ((areaL q a).drop u) nx = y1 at *
    generalize hy2 : readN ((areaL q a).drop u) nx = y2 at *
    generalize hy3 : okR ((areaL q a).drop u) nx = y3 at *
    have HY1 := Lib.hid hy1
    have HY2 := Lib.hid hy2
    have HY3 := Lib.hid hy3
    clear hy1 hy2 hy3
    generalize roomD q = R at *
    have B0 : Hid (Below wr.heap.size wr wr.drew) := show Below _ _ _ from ⟨rfl, rfl, rfl, Nat.le_refl _, fun _ _ => rfl⟩
    have hR' : (0 : Int) ≤ (u : Int) := by omega
    go_upto_region 1 with fail
    go_cut [5, 6, 7] (fun s5 s6 s7 wx => s5 = .string y1 ∧ s6 = .int .i64 (y2 : Nat) ∧ s7 = .bool y3 ∧ Hid (Below wr.heap.size wr wx))
    case first =>
      go_region_held3 (fun w' => w'.cell? ⟨gj, 4, none⟩ = some (.int .i64 (u : Nat)) ∧ w'.cell? ⟨gj, 5, none⟩ = some (.int .u32 (nx : Nat)))
        (first | exact HSB.out _ B2.out | exact HSB.out _ B0.out)
        (first
          | (go_at_call 68
             with_reducible refine (RI.out _ B0.out).mono ?_
             rintro e w2 ⟨rfl, hb⟩
             have B2 : Hid (Below wr.heap.size wr w2) := B0.out.trans (show Below wr.heap.size wr.drew w2 from hb)
             clear hb))
      go_wp2_with fail
      go_meet
      exact ⟨rfl, rfl, rfl, B2.out⟩
    case rest =>
      obtain ⟨rfl, rfl, rfl, HBC⟩ := hcut
      have HR3 := Lib.hid (HR2.out.of_block (HBC.out.block gj hglr))
      have HV3 := Lib.hid (own_still HV.out HBC.out)
      have HO3 := Lib.hid (HO.out.trans (OnlyF.of_below HBC.out))
      have D4 : wc.cell? ⟨gj, 4, none⟩ = some (.int .i64 (u : Nat)) := (HSB.out _ HBC.out).1
      have D5 : wc.cell? ⟨gj, 5, none⟩ = some (.int .u32 (nx : Nat)) := (HSB.out _ HBC.out).2
      have hlc := HR3.out.lt
      have C4' := Lib.hid C4
      clear HR2 HV HO HBC HSB C4 C5 RI hrun
      rcases hst with ⟨rfl, rfl⟩ | ⟨HOA, HF⟩
      · obtain rfl : 0 = u := HUX.out
        have hnum : numV (q.S.getD a none_) = nx := HNX.out
        cases y3 with
        | false =>
          go_wp2_with fail
          rw [Exit.noGoto_ret]
          go_ret
          rw [HDX.out]
          refine ⟨HO3.out, Or.inl ⟨?_, rfl⟩⟩
          rw [hnum]
          exact HY3.out
        | true =>
          have hok : okR (areaL q a) nx = true := HY3.out
          have hy := ok_len hok
          have e2 : readN (areaL q a) nx = y2 := HY2.out
          rw [e2] at hy
          have hy5 := hrn rfl
          have HJE : Hid (headJ q a = ⟨y1, [], nx + 1, a, y2, false⟩) := show _ = _ by
            unfold headJ
            rw [hnum, e2, show readS (areaL q a) nx = y1 from HY1.out]
          have HH : Hid (Fnd q a (headJ q a)) := HHD.out (by rw [hnum]; exact hok)
          have HOA : Hid (okR (areaL q a) (numV (q.S.getD a none_)) = true) := show _ = _ by rw [hnum]; exact hok
          have i1 : IntKind.i64.wrap (y2 : Int) = (y2 : Nat) := IntWalk.i64_in _ (by omega)
          have i2 : wrap64 (y2 : Int) = (y2 : Nat) := IntWalk.wrap64_in _ (by omega)
          have i3 : IntKind.u32.wrap ((nx : Int) + 1) = (nx : Int) + 1 := IntWalk.u32_in _ (by omega)
          have hy1' := hy.1
          have f2 := HR3.out.frozen 2
          have hc2 : wc.cell? ⟨gj, 2, none⟩ = some (.string ⟨#[]⟩) := HR3.out.cell (by decide)
          have HM0 : Hid (usedM gj wr = 5000) := show _ = _ from usedM_of C4'.out
          clear hok hy e2 hnum HV3 hrn
          go_upto_region 6 with fail
          have R6 := Lib.hid (HR3.out.set 2 (.string y1))
          have O6 := Lib.hid (HO3.out.set (b := gj) rfl (i := 2) (.string y1))
          clear HR3 HO3 D4 D5 f2 hc2 hlc
          generalize wc.setCell ⟨gj, 2, none⟩ (.string y1) = x6 at *
          have c46 : x6.cell? ⟨gj, 4, none⟩ = some (.int .i64 (0 : Nat)) := R6.out.cell (by decide)
          have f46 := R6.out.frozen 4
          have l46 := R6.out.lt
          go_upto_region 7 with fail
          have R7 := Lib.hid (R6.out.set 4 (.int .i64 (y2 : Nat)))
          have O7 := Lib.hid (O6.out.set (b := gj) rfl (i := 4) (.int .i64 (y2 : Nat)))
          clear R6 O6 c46 f46 l46
          generalize x6.setCell ⟨gj, 4, none⟩ (.int .i64 (y2 : Nat)) = x7 at *
          have c57 : x7.cell? ⟨gj, 5, none⟩ = some (.int .u32 (nx : Nat)) := by rw [← HNX.out]; exact R7.out.cell (by decide)
          have f57 := R7.out.frozen 5
          have l57 := R7.out.lt
          have HR5 : Hid ((x7.setCell ⟨gj, 5, none⟩ (.int .u32 ((nx : Int) + 1))).rowIs gj 74 7 (pcell g (.slice none 0 0) (headJ q a))) := (R7.out.set 5 (.int .u32 ((nx : Int) + 1))).congr (fun k hk => by
            rw [HJE.out]
            match k, hk with
            | 0, _ | 1, _ | 2, _ | 3, _ | 4, _ | 5, _ | 6, _ => rfl)
          have HO5 := Lib.hid (O7.out.set (b := gj) rfl (i := 5) (.int .u32 ((nx : Int) + 1)))
          clear R7 O7
          go_wp2_with fail
          go_roundw
          case rel => exact ⟨.slice none 0 0, headJ q a, HR5.out, (by rw [HJE.out]; exact World.ownsRow_nil _ _ _ _), HO5.out, Or.inr ⟨HOA.out, HH.out⟩⟩
          case measure =>
            have hm : (x7.setCell ⟨gj, 5, none⟩ (.int .u32 ((nx : Int) + 1))).cell? ⟨gj, 4, none⟩ = some (.int .i64 (y2 : Nat)) := by
              rw [HR5.out.cell (i := 4) (by decide), HJE.out]
              rfl
            rw [HM0.out, usedM_of hm]
            clear i1 i2 i3
            omega
      · obtain ⟨i, hi, hJI, hri, hgo⟩ := HF.out.inn
        have hu1 : 1 ≤ u := by have := hJI.recs; have := HUX.out; omega
        have t1 : ((u : Int) == 0) = false := by rw [beq_eq_false_iff_ne]; omega
        have t2 : decide (0 < u) = true := decide_eq_true (by omega)
        have HAE : Hid (st.area = a) := hJI.area
        have HRL : Hid (st.recs.length ≤ 5000) := show _ ≤ _ by omega
        have HNO : Hid (nextOk q st = okR ((areaL q a).drop u) nx) := show _ = _ by unfold nextOk; rw [HAE.out, HUX.out, HNX.out]
        have huu : u + y2 ≤ 5000 ∨ True := Or.inr trivial
        clear hJI hri hgo huu
        cases y3 with
        | false =>
          have hno : nextOk q st = false := HNO.out.trans HY3.out
          have hend := fnd_end HF.out hno
          have HEN := Lib.hid hend
          clear hend hno
          go_wp2_with fail
          rw [Exit.noGoto_ret]
          go_ret
          rw [HDX.out, HEN.out]
          exact ⟨HO3.out, Or.inr ⟨HOA.out, rfl, V, HR3.out, HV3.out⟩⟩
        | true =>
          obtain ⟨A, cV, rfl⟩ := Slice.own_slice HV3.out
          obtain ⟨j0, hi0, hi1, hi2, hi3⟩ := Frame.str_info
          have HJ0 := Lib.hid hi0
          have HZ0 := Lib.hid hi1
          have HZ1 := Lib.hid hi2
          have HZ2 := Lib.hid hi3
          clear hi0 hi1 hi2 hi3
          have hy5 := hrn rfl
          have hyes : nextOk q st = true := HNO.out.trans HY3.out
          have hylen := ok_len HY3.out
          rw [HY2.out] at hylen
          have hy1' := hylen.1
          have HNJ : Hid (nextJ q st = ⟨st.base, st.recs ++ [y1], nx + 1, st.area, u + y2, st.dead⟩) := show _ = _ by
            unfold nextJ
            rw [HAE.out, HUX.out, HNX.out, HY1.out, HY2.out]
          have HFN := Lib.hid (fnd_step HL.out ha HF.out hyes)
          have hrl := HRL.out
          have i1 : IntKind.i64.wrap ((u : Int) + (y2 : Int)) = (u : Int) + (y2 : Int) := IntWalk.i64_in _ (by omega)
          have i2 : wrap64 ((u : Int) + (y2 : Int)) = (u : Int) + (y2 : Int) := IntWalk.wrap64_in _ (by omega)
          have i3 : IntKind.u32.wrap ((nx : Int) + 1) = (nx : Int) + 1 := IntWalk.u32_in _ (by omega)
          have C3 : wc.cell? ⟨gj, 3, none⟩ = some (.slice A st.recs.length cV) := HR3.out.cell (by decide)
          have HM0 : Hid (usedM gj wr = 5000 - u) := show _ = _ from usedM_of C4'.out
          have hws : w.heap.size ≤ wc.heap.size := HO3.out.size
          clear hylen hyes hrn
          go_upto_region 6 with (first
            | (at_builtin
               refine Slice.wpList_append_one rfl (.tmp 27) (.tmp 29) _ rfl w.heap.size 9 j0 (.string ⟨#[]⟩) 16 Tryz.underlying50 HJ0.out HZ0.out HZ1.out HZ2.out rfl wc 9 (.string y1) rfl (.slice A st.recs.length cV) st.recs.length _ rfl HV3.out wc.heap.size rfl rfl (by unfold maxLen; omega) (by omega) hws ?_
               intro v' w' ho hgr
               obtain ⟨A2, c5, rfl⟩ := Slice.own_slice ho
               have hnb : (Value.slice A st.recs.length cV).ownBlock ≠ some gj := fun e => by
                 have := (HV3.out.lt gj e).1
                 omega
               have R2 := HR3.out.of_block (hgr.block gj HR3.out.lt (fun e => hnb e.symm))
               have c0 : w'.cell? ⟨gj, 3, none⟩ = some (.slice A st.recs.length cV) := R2.cell (by decide)
               have f3 := R2.frozen 3
               have l0 := R2.lt
               have HR4 := Lib.hid R2
               have HO4 := Lib.hid ho
               have HB4 : Hid (OnlyF (fun i => i = gj) w w') := show OnlyF _ _ _ from ⟨hgr.os.trans HO3.out.os, hgr.tape.trans HO3.out.tape, hgr.output.trans HO3.out.output, Nat.le_trans HO3.out.size hgr.size, fun i hi hf => (hgr.block i (Nat.lt_of_lt_of_le hi HO3.out.size) (fun e => by have := (HV3.out.lt i e.symm).1; omega)).trans (HO3.out.block i hi hf)⟩
               clear R2 ho hgr hnb))
          have R6 := Lib.hid (HR4.out.set 3 (.slice A2 (st.recs.length + 1) c5))
          have O6 := Lib.hid (HB4.out.set (b := gj) rfl (i := 3) (.slice A2 (st.recs.length + 1) c5))
          have W6 := Lib.hid (ownsRow_setCell_below HO4.out (a := ⟨gj, 3, none⟩) hgl (Value.slice A2 (st.recs.length + 1) c5))
          clear HR4 HO4 HB4 c0 f3 l0 HR3 HV3 HO3 D4 D5 C3 hlc hws
          generalize World.setCell w' ⟨gj, 3, none⟩ (.slice A2 (st.recs.length + 1) c5) = x6 at *
          have c46 : x6.cell? ⟨gj, 4, none⟩ = some (.int .i64 (u : Nat)) := by rw [← HUX.out]; exact R6.out.cell (by decide)
          have f46 := R6.out.frozen 4
          have l46 := R6.out.lt
          go_upto_region 7 with fail
          have R7 := Lib.hid (R6.out.set 4 (.int .i64 ((u : Int) + (y2 : Int))))
          have O7 := Lib.hid (O6.out.set (b := gj) rfl (i := 4) (.int .i64 ((u : Int) + (y2 : Int))))
          have W7 := Lib.hid (ownsRow_setCell_below W6.out (a := ⟨gj, 4, none⟩) hgl (Value.int .i64 ((u : Int) + (y2 : Int))))
          clear R6 O6 W6 c46 f46 l46
          generalize x6.setCell ⟨gj, 4, none⟩ (.int .i64 ((u : Int) + (y2 : Int))) = x7 at *
          have c57 : x7.cell? ⟨gj, 5, none⟩ = some (.int .u32 (nx : Nat)) := by rw [← HNX.out]; exact R7.out.cell (by decide)
          have f57 := R7.out.frozen 5
          have l57 := R7.out.lt
          have HR5 : Hid ((x7.setCell ⟨gj, 5, none⟩ (.int .u32 ((nx : Int) + 1))).rowIs gj 74 7 (pcell g (.slice A2 (st.recs.length + 1) c5) (nextJ q st))) := (R7.out.set 5 (.int .u32 ((nx : Int) + 1))).congr (fun k hk => by
            rw [HNJ.out]
            match k, hk with
            | 0, _ | 1, _ | 2, _ | 3, _ | 4, _ | 5, _ | 6, _ => rfl)
          have HB5 := Lib.hid (O7.out.set (b := gj) rfl (i := 5) (.int .u32 ((nx : Int) + 1)))
          have HO5 : Hid ((x7.setCell ⟨gj, 5, none⟩ (.int .u32 ((nx : Int) + 1))).ownsRow w.heap.size 9 1 (.slice A2 (st.recs.length + 1) c5) (nextJ q st).recs.length ((nextJ q st).recs.map Value.string)) := by
            have := ownsRow_setCell_below W7.out (a := ⟨gj, 5, none⟩) hgl (Value.int .u32 ((nx : Int) + 1))
            rw [show st.recs.map Value.string ++ [Value.string y1] = (st.recs ++ [y1]).map Value.string by simp] at this
            show World.ownsRow _ _ _ _ _ _ _
            rw [HNJ.out]
            simpa using this
          clear R7 O7 W7
          go_wp2_with fail
          go_roundw
          case rel => exact ⟨_, nextJ q st, HR5.out, HO5.out, HB5.out, Or.inr ⟨HOA.out, HFN.out⟩⟩
          case measure =>
            have hm : (x7.setCell ⟨gj, 5, none⟩ (.int .u32 ((nx : Int) + 1))).cell? ⟨gj, 4, none⟩ = some (.int .i64 (u + y2 : Nat)) := by
              rw [HR5.out.cell (i := 4) (by decide), HNJ.out]
              rfl
            rw [HM0.out, usedM_of hm]
            clear i1 i2 i3
            omega
end Go.Proofs.YtndanhacmfhlaaaGreat.Jour
