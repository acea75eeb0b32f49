/- annuitylaw12.Same of two journals side by side, and of none; what the law asks of the disks. -/
import Derived.Test.YtndanhacmfhlaaaGreatJournTwo
import Derived.Test.YtndanhacmfhlaaaGreatGPack
import Derived.Test.YtndanhacmfhlaaaGreatGFr
namespace Go.Proofs.YtndanhacmfhlaaaGreat.Jour
open Go.ChangeShapes Go.WideShapes Go.ChangeAt Go.RowKit Go.Deep Els Go.Proofs.YtndanhacmfhlaaaGreat.Frame Disk Slice

theorem same_none (w : World) : Calls Tryz.prog 10 #[.pointer none, .pointer none] w fun e w' => e = .returned (.bool true) ∧ w = w' := by
  go_enter Tryz.func10, Tryz.ntmps10
  go_wp2_with fail
  go_ret
  exact ⟨rfl, rfl⟩
theorem below_on' {a b c : World} (h : Below a.heap.size a b) (k : Below b.heap.size b c) : Below a.heap.size a c := h.trans (k.mono h.size)
theorem below_dr {a b : World} (h : Below a.heap.size a b) (n : Nat) : Below a.heap.size a (b.drewN n) := ⟨h.os, h.tape, h.output, h.size, h.block⟩
set_option maxRecDepth 20000 in
set_option maxHeartbeats 4000000 in
theorem same_both {w W : World} {X : Nat → Prop} {H : Nat → Option Obj} {gj g b gd gr r k m : Nat} {V : Value} {q : DSt} {j : JSt} (h : TJ w W X H gj g b V gd gr r q j q j) (hf : q.Fit k m) (hk : 2 ≤ k) (ho : j.Ok q) :
    Calls Tryz.prog 10 #[.pointer (some ⟨gj, 0, none⟩), .pointer (some ⟨gd, 0, none⟩)] W fun e w' => e = .returned (.bool true) ∧ Below W.heap.size W w' := by
  have hl : q.S.length ≤ 4096 := by rw [hf.len]; exact hf.most
  have hl2 : 2 ≤ q.S.length := by rw [hf.len]; exact hk
  have CB : Hid (∀ W', Below W.heap.size W W' → Calls Tryz.prog 27 #[.pointer (some ⟨gj, 0, none⟩)] W' fun e w' => e = .returned (.string j.base) ∧ Below W'.heap.size W' w') := fun W' hb => p_base q j gj g b V W' (h.own.below hb) ho.base
  have CR : Hid (∀ W', Below W.heap.size W W' → Calls Tryz.prog 29 #[.pointer (some ⟨gj, 0, none⟩)] W' fun e w' => ∃ A n c, e = .returned (.slice A n c) ∧ Below W'.heap.size W' w' ∧ Txts w' w'.heap.size (.slice A n c) j.recs) := fun W' hb =>
    (p_records q j gj g b V W' (h.own.below hb) (ho.many hl) ho.texts).mono fun e w' kk => by
      obtain ⟨v, k1, k2, k3⟩ := kk
      have k4 := Els.of_own (l := j.recs) rfl k2
      obtain ⟨A, c, rfl⟩ := Slice.own_slice k2
      exact ⟨A, _, c, k1, k3, k4⟩
  have CN : Hid (∀ W', Below W.heap.size W W' → Calls Tryz.prog 30 #[.pointer (some ⟨gj, 0, none⟩)] W' fun e w' => e = .returned (.int .u32 (j.next : Nat)) ∧ W' = w') := fun W' hb => p_next q j gj g b V W' (h.own.below hb)
  have CL : Hid (∀ W', Below W.heap.size W W' → Calls Tryz.prog 31 #[.pointer (some ⟨gj, 0, none⟩)] W' fun e w' => e = .returned (.int .i64 (leftN q j)) ∧ ∃ n, w' = W'.drewN n) := fun W' hb => p_left q j gj g b V W' (h.own.below hb) hl hl2 ho.fit
  have CD : Hid (∀ W', Below W.heap.size W W' → Calls Tryz.prog 46 #[.pointer (some ⟨gd, 0, none⟩)] W' fun e w' => e = .returned (.int .i64 (leftN q j)) ∧ ∃ n, w' = W'.drewN n) := fun W' hb => rj_left q j gd gr r k m W' (h.doc.below hb) hf hk ho.fit
  obtain ⟨Vd, -, e1, e2, e3, -, -, -, -, hoff⟩ := h.doc.cells
  have hlt := h.doc.lt
  have HSB : Hid (∀ W', Below W.heap.size W W' → W'.cell? ⟨gd, 1, none⟩ = some (.string j.base) ∧ W'.cell? ⟨gd, 2, none⟩ = some Vd ∧ W'.cell? ⟨gd, 3, none⟩ = some (.int .u32 j.next)) := fun W' hb => ⟨(hb.cell (p := ⟨gd, 1, none⟩) hlt).trans e1, (hb.cell (p := ⟨gd, 2, none⟩) hlt).trans e2, (hb.cell (p := ⟨gd, 3, none⟩) hlt).trans e3⟩
  have TD0 : Hid (∀ W', Below W.heap.size W W' → Txts W' W'.heap.size Vd j.recs) := fun W' hb => (hoff.1.below hb).more hb.size
  obtain ⟨Ad, cd, rfl⟩ := hoff.1.shape
  have t1 : (j.base.toList == j.base.toList) = true := by simp
  have t2 : ((j.next : Int) == (j.next : Int)) = true := by simp
  have t3 : (leftN q j == leftN q j) = true := by simp
  have B0 : Hid (Below W.heap.size W W.drew) := show Below _ _ _ from ⟨rfl, rfl, rfl, Nat.le_refl _, fun _ _ => rfl⟩
  clear h hf hk ho hl hl2 e1 e2 e3 hoff
  generalize j.base = s at *
  generalize j.recs = rs at *
  generalize leftN q j = L at *
  generalize j.next = nx at *
  go_enter Tryz.func10, Tryz.ntmps10
  go_upto_region 3 with fail
  refine wp_region_held_drew (S := (fun w' => w'.cell? ⟨gd, 1, none⟩ = some (.string s) ∧ w'.cell? ⟨gd, 2, none⟩ = some (.slice Ad rs.length cd) ∧ w'.cell? ⟨gd, 3, none⟩ = some (.int .u32 nx))) (by kernel_rfl) (HSB.out _ B0.out) (fun hHeld => ?_)
  generalize W.drew = x0 at *
  refine ByHand.take_yes (v := ?_) 0 9 rfl rfl (by kernel_rfl) (by kernel_rfl) (by kernel_rfl) (fun _ _ _ h => h) (by rfl) ?_ (by assumption) ?_
  rotate_left
  · intro w' hSw
    (try dsimp only at hSw)
    go_simp
    all_goals with_reducible rfl
  (try simp only [Act.put, List.setIfInBounds_toArray, List.set_cons_zero, List.set_cons_succ])
  refine ByHand.take_yes (v := ?_) 1 10 rfl rfl (by kernel_rfl) (by kernel_rfl) (by kernel_rfl) (fun _ _ _ h => h) (by rfl) ?_ (by assumption) ?_
  rotate_left
  · intro w' hSw
    (try dsimp only at hSw)
    go_simp
    all_goals with_reducible rfl
  (try simp only [Act.put, List.setIfInBounds_toArray, List.set_cons_zero, List.set_cons_succ])
  refine ByHand.take_yes (v := ?_) 2 11 rfl rfl (by kernel_rfl) (by kernel_rfl) (by kernel_rfl) (fun _ _ _ h => h) (by rfl) ?_ (by assumption) ?_
  rotate_left
  · intro w' hSw
    (try dsimp only at hSw)
    go_simp
    all_goals with_reducible rfl
  (try simp only [Act.put, List.setIfInBounds_toArray, List.set_cons_zero, List.set_cons_succ])
  refine ByHand.take_yes (v := ?_) 3 12 rfl rfl (by kernel_rfl) (by kernel_rfl) (by kernel_rfl) (fun _ _ _ h => h) (by rfl) ?_ (by assumption) ?_
  rotate_left
  · intro w' hSw
    (try dsimp only at hSw)
    go_simp
    all_goals with_reducible rfl
  (try simp only [Act.put, List.setIfInBounds_toArray, List.set_cons_zero, List.set_cons_succ])
  refine ByHand.take_yes (v := ?_) 5 14 rfl rfl (by kernel_rfl) (by kernel_rfl) (by kernel_rfl) (fun _ _ _ h => h) (by rfl) ?_ (by assumption) ?_
  rotate_left
  · intro w' hSw
    (try dsimp only at hSw)
    go_simp
    all_goals with_reducible rfl
  (try simp only [Act.put, List.setIfInBounds_toArray, List.set_cons_zero, List.set_cons_succ])
  refine ByHand.take_yes (v := ?_) 6 15 rfl rfl (by kernel_rfl) (by kernel_rfl) (by kernel_rfl) (fun _ _ _ h => h) (by rfl) ?_ (by assumption) ?_
  rotate_left
  · intro w' hSw
    (try dsimp only at hSw)
    go_simp
    all_goals with_reducible rfl
  (try simp only [Act.put, List.setIfInBounds_toArray, List.set_cons_zero, List.set_cons_succ])
  refine ByHand.take_yes (v := ?_) 7 16 rfl rfl (by kernel_rfl) (by kernel_rfl) (by kernel_rfl) (fun _ _ _ h => h) (by rfl) ?_ (by assumption) ?_
  rotate_left
  · intro w' hSw
    (try dsimp only at hSw)
    go_simp
    all_goals with_reducible rfl
  (try simp only [Act.put, List.setIfInBounds_toArray, List.set_cons_zero, List.set_cons_succ])
  refine ByHand.take_yes (v := ?_) 8 17 rfl rfl (by kernel_rfl) (by kernel_rfl) (by kernel_rfl) (fun _ _ _ h => h) (by rfl) ?_ (by assumption) ?_
  rotate_left
  · intro w' hSw
    (try dsimp only at hSw)
    go_simp
    all_goals with_reducible rfl
  (try simp only [Act.put, List.setIfInBounds_toArray, List.set_cons_zero, List.set_cons_succ])
  refine wpAnyH_ready (rs := [4]) (by kernel_rfl) (by simp) (AllReadyH.cons rfl (fun K hK => ?_) AllReadyH.nil)
  go_simp
  have hcc := CB.out _ B0.out
  refine hcc.mono ?_
  clear hcc
  rintro e x1 ⟨rfl, hb⟩
  have B1 := Lib.hid (below_on' B0.out hb)
  clear hb
  go_wp2_with fail
  refine hK.out _ _ (HSB.out _ B1.out) (fun hHeld => ?_)
  clear hK K
  (try simp only [Act.put, List.setIfInBounds_toArray, List.set_cons_zero, List.set_cons_succ])
  refine ByHand.take_yes (v := ?_) 9 18 rfl rfl (by kernel_rfl) (by kernel_rfl) (by kernel_rfl) (fun _ _ _ h => h) (by rfl) ?_ (by assumption) ?_
  rotate_left
  · intro w' hSw
    (try dsimp only at hSw)
    go_simp
    all_goals with_reducible rfl
  (try simp only [Act.put, List.setIfInBounds_toArray, List.set_cons_zero, List.set_cons_succ])
  refine ByHand.take_yes (v := ?_) 10 19 rfl rfl (by kernel_rfl) (by kernel_rfl) (by kernel_rfl) (fun _ _ _ h => h) (by rfl) ?_ (by assumption) ?_
  rotate_left
  · intro w' hSw
    (try dsimp only at hSw)
    go_simp
    all_goals with_reducible rfl
  (try simp only [Act.put, List.setIfInBounds_toArray, List.set_cons_zero, List.set_cons_succ])
  refine ByHand.take_yes (v := ?_) 11 20 rfl rfl (by kernel_rfl) (by kernel_rfl) (by kernel_rfl) (fun _ _ _ h => h) (by rfl) ?_ (by assumption) ?_
  rotate_left
  · intro w' hSw
    (try dsimp only at hSw)
    go_simp
    all_goals with_reducible rfl
  (try simp only [Act.put, List.setIfInBounds_toArray, List.set_cons_zero, List.set_cons_succ])
  refine ByHand.take_yes (v := ?_) 12 21 rfl rfl (by kernel_rfl) (by kernel_rfl) (by kernel_rfl) (fun _ _ _ h => h) (by rfl) ?_ (by assumption) ?_
  rotate_left
  · intro w' hSw
    (try dsimp only at hSw)
    go_simp
    all_goals with_reducible rfl
  (try simp only [Act.put, List.setIfInBounds_toArray, List.set_cons_zero, List.set_cons_succ])
  refine ByHand.take_yes (v := ?_) 14 23 rfl rfl (by kernel_rfl) (by kernel_rfl) (by kernel_rfl) (fun _ _ _ h => h) (by rfl) ?_ (by assumption) ?_
  rotate_left
  · intro w' hSw
    (try dsimp only at hSw)
    go_simp
    all_goals with_reducible rfl
  (try simp only [Act.put, List.setIfInBounds_toArray, List.set_cons_zero, List.set_cons_succ])
  refine ByHand.take_yes (v := ?_) 15 24 rfl rfl (by kernel_rfl) (by kernel_rfl) (by kernel_rfl) (fun _ _ _ h => h) (by rfl) ?_ (by assumption) ?_
  rotate_left
  · intro w' hSw
    (try dsimp only at hSw)
    go_simp
    all_goals with_reducible rfl
  (try simp only [Act.put, List.setIfInBounds_toArray, List.set_cons_zero, List.set_cons_succ])
  refine ByHand.take_yes (v := ?_) 16 25 rfl rfl (by kernel_rfl) (by kernel_rfl) (by kernel_rfl) (fun _ _ _ h => h) (by rfl) ?_ (by assumption) ?_
  rotate_left
  · intro w' hSw
    (try dsimp only at hSw)
    go_simp
    all_goals with_reducible rfl
  (try simp only [Act.put, List.setIfInBounds_toArray, List.set_cons_zero, List.set_cons_succ])
  refine ByHand.take_yes (v := ?_) 17 26 rfl rfl (by kernel_rfl) (by kernel_rfl) (by kernel_rfl) (fun _ _ _ h => h) (by rfl) ?_ (by assumption) ?_
  rotate_left
  · intro w' hSw
    (try dsimp only at hSw)
    go_simp
    all_goals with_reducible rfl
  (try simp only [Act.put, List.setIfInBounds_toArray, List.set_cons_zero, List.set_cons_succ])
  refine wpAnyH_ready (rs := [13]) (by kernel_rfl) (by simp) (AllReadyH.cons rfl (fun K hK => ?_) AllReadyH.nil)
  go_simp
  have hcc := CR.out _ B1.out
  refine hcc.mono ?_
  clear hcc
  rintro e x2 ⟨A, n, c, rfl, hb, ht⟩
  have B2 := Lib.hid (below_on' B1.out hb)
  have T2 := Lib.hid ht
  clear hb ht
  go_wp2_with fail
  refine hK.out _ _ (HSB.out _ B2.out) (fun hHeld => ?_)
  clear hK K
  (try simp only [Act.put, List.setIfInBounds_toArray, List.set_cons_zero, List.set_cons_succ])
  refine wpAnyH_ready (rs := [18]) (by kernel_rfl) (by simp) (AllReadyH.cons rfl (fun K hK => ?_) AllReadyH.nil)
  go_simp
  have hcc := texts_same rs _ _ _ _ _ T2.out (TD0.out _ B2.out)
  refine hcc.mono ?_
  clear hcc
  rintro e x3 ⟨rfl, n3, hx⟩
  have B3 : Hid (Below W.heap.size W x3) := show Below _ _ _ from by rw [hx]; exact below_dr B2.out _
  clear hx
  go_wp2_with fail
  refine hK.out _ _ (HSB.out _ B3.out) (fun hHeld => ?_)
  clear hK K
  (try simp only [Act.put, List.setIfInBounds_toArray, List.set_cons_zero, List.set_cons_succ])
  refine ByHand.take_yes (v := ?_) 19 28 rfl rfl (by kernel_rfl) (by kernel_rfl) (by kernel_rfl) (fun _ _ _ h => h) (by rfl) ?_ (by assumption) ?_
  rotate_left
  · intro w' hSw
    (try dsimp only at hSw)
    go_simp
    all_goals with_reducible rfl
  (try simp only [Act.put, List.setIfInBounds_toArray, List.set_cons_zero, List.set_cons_succ])
  refine ByHand.take_yes (v := ?_) 20 29 rfl rfl (by kernel_rfl) (by kernel_rfl) (by kernel_rfl) (fun _ _ _ h => h) (by rfl) ?_ (by assumption) ?_
  rotate_left
  · intro w' hSw
    (try dsimp only at hSw)
    go_simp
    all_goals with_reducible rfl
  (try simp only [Act.put, List.setIfInBounds_toArray, List.set_cons_zero, List.set_cons_succ])
  refine ByHand.take_yes (v := ?_) 21 30 rfl rfl (by kernel_rfl) (by kernel_rfl) (by kernel_rfl) (fun _ _ _ h => h) (by rfl) ?_ (by assumption) ?_
  rotate_left
  · intro w' hSw
    (try dsimp only at hSw)
    go_simp
    all_goals with_reducible rfl
  (try simp only [Act.put, List.setIfInBounds_toArray, List.set_cons_zero, List.set_cons_succ])
  refine ByHand.take_yes (v := ?_) 23 32 rfl rfl (by kernel_rfl) (by kernel_rfl) (by kernel_rfl) (fun _ _ _ h => h) (by rfl) ?_ (by assumption) ?_
  rotate_left
  · intro w' hSw
    (try dsimp only at hSw)
    go_simp
    all_goals with_reducible rfl
  (try simp only [Act.put, List.setIfInBounds_toArray, List.set_cons_zero, List.set_cons_succ])
  refine ByHand.take_yes (v := ?_) 24 33 rfl rfl (by kernel_rfl) (by kernel_rfl) (by kernel_rfl) (fun _ _ _ h => h) (by rfl) ?_ (by assumption) ?_
  rotate_left
  · intro w' hSw
    (try dsimp only at hSw)
    go_simp
    all_goals with_reducible rfl
  (try simp only [Act.put, List.setIfInBounds_toArray, List.set_cons_zero, List.set_cons_succ])
  refine ByHand.take_yes (v := ?_) 25 34 rfl rfl (by kernel_rfl) (by kernel_rfl) (by kernel_rfl) (fun _ _ _ h => h) (by rfl) ?_ (by assumption) ?_
  rotate_left
  · intro w' hSw
    (try dsimp only at hSw)
    go_simp
    all_goals with_reducible rfl
  (try simp only [Act.put, List.setIfInBounds_toArray, List.set_cons_zero, List.set_cons_succ])
  refine ByHand.take_yes (v := ?_) 26 35 rfl rfl (by kernel_rfl) (by kernel_rfl) (by kernel_rfl) (fun _ _ _ h => h) (by rfl) ?_ (by assumption) ?_
  rotate_left
  · intro w' hSw
    (try dsimp only at hSw)
    go_simp
    all_goals with_reducible rfl
  (try simp only [Act.put, List.setIfInBounds_toArray, List.set_cons_zero, List.set_cons_succ])
  refine wpAnyH_ready (rs := [22]) (by kernel_rfl) (by simp) (AllReadyH.cons rfl (fun K hK => ?_) AllReadyH.nil)
  go_simp
  have hcc := CN.out _ B3.out
  refine hcc.mono ?_
  clear hcc
  rintro e x4 ⟨rfl, rfl⟩
  go_wp2_with fail
  refine hK.out _ _ (HSB.out _ B3.out) (fun hHeld => ?_)
  clear hK K
  (try simp only [Act.put, List.setIfInBounds_toArray, List.set_cons_zero, List.set_cons_succ])
  refine ByHand.take_yes (v := ?_) 27 36 rfl rfl (by kernel_rfl) (by kernel_rfl) (by kernel_rfl) (fun _ _ _ h => h) (by rfl) ?_ (by assumption) ?_
  rotate_left
  · intro w' hSw
    (try dsimp only at hSw)
    go_simp
    all_goals with_reducible rfl
  (try simp only [Act.put, List.setIfInBounds_toArray, List.set_cons_zero, List.set_cons_succ])
  refine ByHand.take_yes (v := ?_) 28 37 rfl rfl (by kernel_rfl) (by kernel_rfl) (by kernel_rfl) (fun _ _ _ h => h) (by rfl) ?_ (by assumption) ?_
  rotate_left
  · intro w' hSw
    (try dsimp only at hSw)
    go_simp
    all_goals with_reducible rfl
  (try simp only [Act.put, List.setIfInBounds_toArray, List.set_cons_zero, List.set_cons_succ])
  refine ByHand.take_yes (v := ?_) 29 38 rfl rfl (by kernel_rfl) (by kernel_rfl) (by kernel_rfl) (fun _ _ _ h => h) (by rfl) ?_ (by assumption) ?_
  rotate_left
  · intro w' hSw
    (try dsimp only at hSw)
    go_simp
    all_goals with_reducible rfl
  (try simp only [Act.put, List.setIfInBounds_toArray, List.set_cons_zero, List.set_cons_succ])
  refine ByHand.take_yes (v := ?_) 30 39 rfl rfl (by kernel_rfl) (by kernel_rfl) (by kernel_rfl) (fun _ _ _ h => h) (by rfl) ?_ (by assumption) ?_
  rotate_left
  · intro w' hSw
    (try dsimp only at hSw)
    go_simp
    all_goals with_reducible rfl
  (try simp only [Act.put, List.setIfInBounds_toArray, List.set_cons_zero, List.set_cons_succ])
  refine ByHand.take_yes (v := ?_) 32 41 rfl rfl (by kernel_rfl) (by kernel_rfl) (by kernel_rfl) (fun _ _ _ h => h) (by rfl) ?_ (by assumption) ?_
  rotate_left
  · intro w' hSw
    (try dsimp only at hSw)
    go_simp
    all_goals with_reducible rfl
  (try simp only [Act.put, List.setIfInBounds_toArray, List.set_cons_zero, List.set_cons_succ])
  refine wpAnyH_ready (rs := [31]) (by kernel_rfl) (by simp) (AllReadyH.cons rfl (fun K hK => ?_) AllReadyH.nil)
  go_simp
  have hcc := CL.out _ B3.out
  refine hcc.mono ?_
  clear hcc
  rintro e x4 ⟨rfl, n4, hx⟩
  have B4 : Hid (Below W.heap.size W x4) := show Below _ _ _ from by rw [hx]; exact below_dr B3.out _
  clear hx
  go_wp2_with fail
  refine hK.out _ _ (HSB.out _ B4.out) (fun hHeld => ?_)
  clear hK K
  (try simp only [Act.put, List.setIfInBounds_toArray, List.set_cons_zero, List.set_cons_succ])
  refine wpAnyH_ready (rs := [33]) (by kernel_rfl) (by simp) (AllReadyH.cons rfl (fun K hK => ?_) AllReadyH.nil)
  go_simp
  have hcc := CD.out _ B4.out
  refine hcc.mono ?_
  clear hcc
  rintro e x5 ⟨rfl, n5, hx⟩
  have B5 : Hid (Below W.heap.size W x5) := show Below _ _ _ from by rw [hx]; exact below_dr B4.out _
  clear hx
  go_wp2_with fail
  refine hK.out _ _ (HSB.out _ B5.out) (fun hHeld => ?_)
  clear hK K
  (try simp only [Act.put, List.setIfInBounds_toArray, List.set_cons_zero, List.set_cons_succ])
  refine ByHand.take_yes (v := ?_) 34 43 rfl rfl (by kernel_rfl) (by kernel_rfl) (by kernel_rfl) (fun _ _ _ h => h) (by rfl) ?_ (by assumption) ?_
  rotate_left
  · intro w' hSw
    (try dsimp only at hSw)
    go_simp
    all_goals with_reducible rfl
  (try simp only [Act.put, List.setIfInBounds_toArray, List.set_cons_zero, List.set_cons_succ])
  refine ByHand.take_yes (v := ?_) 35 44 rfl rfl (by kernel_rfl) (by kernel_rfl) (by kernel_rfl) (fun _ _ _ h => h) (by rfl) ?_ (by assumption) ?_
  rotate_left
  · intro w' hSw
    (try dsimp only at hSw)
    go_simp
    all_goals with_reducible rfl
  (try simp only [Act.put, List.setIfInBounds_toArray, List.set_cons_zero, List.set_cons_succ])
  refine ByHand.take_yes (v := ?_) 36 4 rfl rfl (by kernel_rfl) (by kernel_rfl) (by kernel_rfl) (fun _ _ _ h => h) (by rfl) ?_ (by assumption) ?_
  rotate_left
  · intro w' hSw
    (try dsimp only at hSw)
    go_simp
    all_goals with_reducible rfl
  (try simp only [Act.put, List.setIfInBounds_toArray, List.set_cons_zero, List.set_cons_succ])
  refine wpAnyH_done (by kernel_rfl) ?_ _
  go_wp2_with fail
  go_ret
  exact ⟨rfl, B5.out⟩
end Go.Proofs.YtndanhacmfhlaaaGreat.Jour
