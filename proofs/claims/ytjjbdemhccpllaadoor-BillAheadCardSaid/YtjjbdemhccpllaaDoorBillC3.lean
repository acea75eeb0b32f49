/- The program's own package bill: Find, Credit, Issue. -/
import Derived.Test.YtjjbdemhccpllaaDoorBillC2
namespace Go.Proofs.YtjjbdemhccpllaaDoor.Bill
open Go.ChangeShapes Go.WideShapes Go.ChangeAt Go.RowKit Plan Date Cal Money Box Rws Slice

def foundB (M : List Bl) (m : Int) : Bl := if 0 ≤ findI M m then M.getD (findI M m).toNat bl0 else bl0
theorem find_cases (M : List Bl) (m : Int) : (findI M m = -1 ∧ foundB M m = bl0) ∨ ∃ (i : Nat) (x : Bl), goodM M = true ∧ idx (isB m) M = i ∧ i < M.length ∧ M[i]? = some x ∧ findI M m = i ∧ foundB M m = x := by
  unfold foundB findI
  by_cases h : goodM M = true
  · rw [if_pos h]
    rcases idx_cases (isB m) M with ⟨h1, -⟩ | ⟨i, x, h1, h2, -, h4, -⟩
    · exact Or.inl ⟨h1, by rw [h1]; rfl⟩
    · exact Or.inr ⟨i, x, h, h4, h1, h2, h4, by rw [h4, if_pos (by omega), List.getD_eq_getElem?_getD, show ((i : Int)).toNat = i from rfl, h2]; rfl⟩
  · rw [if_neg h]
    exact Or.inl ⟨rfl, rfl⟩
/-- What Find tells. -/
def FoundT (x : Bl) (ok : Bool) (w : World) (e : Ending) (w' : World) : Prop := ∃ v', e = .returned (.tuple #[.agg ({ x with v := v' } : Bl).cells, .bool ok]) ∧ w'.ownsRow w.heap.size 3 1 v' x.ids.length (x.ids.map (Value.int .i64)) ∧ Below w.heap.size w w'
theorem found_none {w w' : World} (hb : Below w.heap.size w w') : FoundT bl0 false w (.returned (.tuple #[.agg #[.int .i64 0, .int .i64 0, .int .i64 0, .int .i64 0, .int .i64 0, .slice none 0 0], .bool false])) w' := ⟨.slice none 0 0, rfl, World.ownsRow_nil _ _ _ _, hb⟩
theorem bill_build (w : World) : (Instr.build 28 #[]).run Tryd.prog w = .ok (.agg #[.int .i64 0, .int .i64 0, .int .i64 0, .int .i64 0, .int .i64 0, .slice none 0 0]) w := by kernel_rfl
theorem zero_info : (Tryd.prog.info? 28).map (·.size) = some (#[.int .i64 0, .int .i64 0, .int .i64 0, .int .i64 0, .int .i64 0, .slice none 0 0] : Array Value).size := by
  show _ = some 6
  kernel_rfl
theorem zero_all : (#[.int .i64 0, .int .i64 0, .int .i64 0, .int .i64 0, .int .i64 0, .slice none 0 0] : Array Value).all (·.oneCell') = true := bl_one bl0 rfl
set_option maxRecDepth 20000 in
set_option maxHeartbeats 1000000 in
theorem b_find (M : List Bl) (m : Int) (v : Value) (B : Nat) (w : World) (hB : B ≤ w.heap.size) (hv : Bls w B v M) (hI : ∀ b ∈ M, b.ids.length ≤ 1000) (L : Laid w) : Calls Tryd.prog 11 #[v, .int .i64 m] w (FoundT (foundB M m) (decide (0 ≤ findI M m)) w) := by
  obtain ⟨g, w0, e0, f0, hG, hb⟩ := boxd_new w #[.int .i64 m] 3
  obtain ⟨k, w1, e1, f1, hK, hb2⟩ := boxd_new w0 #[.int .i64 0, .int .i64 0, .int .i64 0, .int .i64 0, .int .i64 0, .slice none 0 0] 28
  have b1 : k = g + 1 := by rw [e1, f0, Deep.nblk_alloc, ← e0]
  have hw : Below w.heap.size w w1 := below_to hb hb2
  have KG := Lib.hid (fun (_ : Unit) => b_goodM M v B w1 (Nat.le_trans hB hw.size) (hv.below (hw.mono hB)) (L.of hw))
  have cg : w1.cell? ⟨g, 0, none⟩ = some (.int .i64 m) := (hG.below hb2).cell
  have hgl : g < w1.heap.size := (hG.below hb2).lt
  have KI := Lib.hid (fun (y : World) (hy : Below w1.heap.size w1 y) => index_any 29 #[.pointer (some ⟨g, 0, none⟩)] (isB m) M v B y find_enters (Nat.le_trans hB (Nat.le_trans hw.size hy.size)) (hv.below ((below_to hw hy).mono hB)) (fun W' hW x => find_fn x m g W' ((hW.cell (p := ⟨g, 0, none⟩) (Nat.lt_of_lt_of_le hgl hy.size)).trans ((hy.cell (p := ⟨g, 0, none⟩) hgl).trans cg))))
  have HW := Lib.hid hw
  have HK := Lib.hid hK
  have HGW : Hid (w.heap.size ≤ k) := show _ ≤ _ by rw [b1, e0]; omega
  have HB := Lib.hid hB
  rcases find_cases M m with ⟨h1, h2⟩ | ⟨i, x, h1, hix, hi, hx, h2, h3⟩
  · rw [h1, h2]
    obtain ⟨A, k0, rfl⟩ := hv.1.shape
    cases hg : goodM M with
    | false =>
      rw [hg] at KG
      clear hv hG hb hK hb2 hw hB L h1 h2 hg cg hgl hI
      go_enter Tryd.func11, Tryd.ntmps11
      go_upto_region 1 with fail
      rw [← f0, ← e0, ← b1, ← f1]
      clear e0 f0 e1 f1 b1
      go_wp2_with (first
        | (go_at_call 13; (with_reducible refine (KG.out ()).mono ?_); rintro e y ⟨rfl, hb⟩; have HY := Lib.hid (below_to HW.out hb); replace HK := Lib.hid (HK.out.below hb); clear hb)
        | (refine o_store rfl 28 _ _ rfl rfl k #[.int .i64 0, .int .i64 0, .int .i64 0, .int .i64 0, .int .i64 0, .slice none 0 0] rfl rfl _ _ HK.out zero_info rfl zero_all ?_; intro z hr ho; replace HK := Lib.hid hr; replace HY := Lib.hid (below_one_of HY.out ho HGW.out HY.out.size); clear hr ho))
      refine bodyPost_ret (results_two rfl _ _ _ _ _ _ _ rfl HK.out Tryd.underlying28 rfl zero_info rfl) rfl ?_
      exact found_none HY.out
    | true =>
      have hi : idx (isB m) M = -1 := by rw [← h1]; unfold findI; rw [if_pos hg]
      rw [hg] at KG
      rw [hi] at KI
      clear hv hG hb hK hb2 hw hB L h1 h2 hg cg hgl hi hI
      go_enter Tryd.func11, Tryd.ntmps11
      go_upto_region 1 with fail
      rw [← f0, ← e0, ← b1, ← f1]
      clear e0 f0 e1 f1 b1
      go_wp2_with (first
        | (go_at_call 13; (with_reducible refine (KG.out ()).mono ?_); rintro e y ⟨rfl, hb⟩; have HY := Lib.hid (below_to HW.out hb); replace HK := Lib.hid (HK.out.below hb); have KI1 := Lib.hid (fun (_ : Unit) => KI.out _ hb); clear hb)
        | (go_at_call 28; (refine (KI1.out ()).mono ?_); rintro e y2 ⟨rfl, hb⟩; replace HY := Lib.hid (below_to HY.out hb); replace HK := Lib.hid (HK.out.below hb); clear hb)
        | (refine o_store rfl 28 _ _ rfl rfl k #[.int .i64 0, .int .i64 0, .int .i64 0, .int .i64 0, .int .i64 0, .slice none 0 0] rfl rfl _ _ HK.out zero_info rfl zero_all ?_; intro z hr ho; replace HK := Lib.hid hr; replace HY := Lib.hid (below_one_of HY.out ho HGW.out HY.out.size); clear hr ho))
      refine bodyPost_ret (results_two rfl _ _ _ _ _ _ _ rfl HK.out Tryd.underlying28 rfl zero_info rfl) rfl ?_
      exact found_none HY.out
  · rw [h2, h3]
    rw [h1] at KG
    rw [hix] at KI
    have hmem := List.mem_of_getElem? hx
    have hids := hv.2 x hmem
    have hn := hI x hmem
    obtain ⟨Ax, cx, hxv, -⟩ := id hids
    obtain ⟨b, off, k0, rfl, hbb, -⟩ := hv.1.open (by omega)
    have HR : Hid (w.rangeAt b (off + i * 6) x.cells.toList) := hv.1.at_ hx
    have HBL := Lib.hid (Nat.lt_of_lt_of_le hbb hB)
    have lM := hv.1.len
    have HS := Lib.hid (bl_info' x)
    have HSA := Lib.hid (bl_info x)
    have HZA : Hid (6 = x.cells.size) := show _ = _ from rfl
    have HOA := Lib.hid (bl_one x hxv)
    have X5 : Hid (x.cells[5]? = some (.slice Ax x.ids.length cx)) := show _ = _ by rw [← hxv]; rfl
    have KC := Lib.hid (fun (y : World) (hy : Below w.heap.size w y) => b_cloneI x.ids (.slice Ax x.ids.length cx) B y (Nat.le_trans hB hy.size) (by rw [← hxv]; exact hids.below (hy.mono hB)) hn)
    have HD : Hid (∀ v', x.cells.setIfInBounds 5 v' = ({ x with v := v' } : Bl).cells) := fun _ => rfl
    have HSD : Hid (∀ v', (Tryd.prog.info? 28).map (·.size) = some ({ x with v := v' } : Bl).cells.size) := fun v' => bl_info { x with v := v' }
    have HOD : Hid (∀ A n c, ({ x with v := .slice A n c } : Bl).cells.all (·.oneCell') = true) := fun A n c => bl_one { x with v := .slice A n c } rfl
    have HZD : Hid (∀ v', 6 = ({ x with v := v' } : Bl).cells.size) := fun _ => rfl
    have t0 : decide (0 ≤ (i : Int)) = true := decide_eq_true (by omega)
    have HFT : Hid (∀ (e : Ending) (w' : World) v', e = .returned (.tuple #[.agg ({ x with v := v' } : Bl).cells, .bool (decide (0 ≤ (i : Int)))]) → w'.ownsRow w.heap.size 3 1 v' x.ids.length (x.ids.map (Value.int .i64)) → Below w.heap.size w w' → FoundT x (decide (0 ≤ (i : Int))) w e w') := fun e w' v' h1 h2 h3 => ⟨v', h1, h2, h3⟩
    clear hv hG hb hK hb2 hw hB L h1 h2 h3 cg hgl hI hmem hids hxv hx hix hbb
    generalize hN : (fun v' => ({ x with v := v' } : Bl).cells) = N at *
    have HN : Hid (∀ v', ({ x with v := v' } : Bl).cells = N v') := fun v' => by rw [← hN]
    clear hN
    have HSN : Hid (∀ v', (Tryd.prog.info? 28).map (·.size) = some (N v').size) := fun v' => by rw [← HN.out]; exact HSD.out v'
    have HZN : Hid (∀ v', 6 = (N v').size) := fun v' => by rw [← HN.out]; exact HZD.out v'
    have HON : Hid (∀ A n c, (N (.slice A n c)).all (·.oneCell') = true) := fun A n c => by rw [← HN.out]; exact HOD.out A n c
    generalize x.cells = C at *
    go_enter Tryd.func11, Tryd.ntmps11
    go_upto_region 1 with fail
    rw [← f0, ← e0, ← b1, ← f1]
    clear e0 f0 e1 f1 b1
    go_upto_region 7 with (first
      | (go_at_call 13; (with_reducible refine (KG.out ()).mono ?_); rintro e y ⟨rfl, hb⟩; have HY := Lib.hid (below_to HW.out hb); replace HK := Lib.hid (HK.out.below hb); have KI1 := Lib.hid (fun (_ : Unit) => KI.out _ hb); clear hb)
      | (go_at_call 28; (refine (KI1.out ()).mono ?_); rintro e y2 ⟨rfl, hb⟩; replace HY := Lib.hid (below_to HY.out hb); replace HK := Lib.hid (HK.out.below hb); replace HR := Lib.hid (range_keep HR.out HY.out HBL.out); clear hb)
      | (refine load_mid_want (by rfl) 28 _ rfl _ _ rfl C _ HR.out Tryd.underlying28 rfl HS.out ?_)
      | (refine o_store rfl 28 _ _ rfl rfl y2.heap.size C rfl rfl _ _ (heap_alloc_last _ _) HSA.out HZA.out HOA.out ?_; intro z1 hr ho; have HC := Lib.hid hr; have HKL := Lib.hid HK.out.lt; replace HK := Lib.hid ((HK.out.below (below_one _ _)).one ho (Nat.ne_of_lt HK.out.lt)); have HYS := Lib.hid HY.out.size; replace HY := Lib.hid (below_one_of (below_to HY.out (below_one _ _)) ho HYS.out (below_to HY.out (below_one _ _)).size); clear hr ho))
    have c5 : z1.cell? ⟨y2.heap.size, 5, none⟩ = some (.slice Ax x.ids.length cx) := HC.out.cell.trans X5.out
    have HNE : Hid (¬ y2.heap.size = k ∧ ¬ k = y2.heap.size ∧ y2.heap.size < z1.heap.size) := show _ ∧ _ ∧ _ from ⟨fun e => Nat.lt_irrefl _ (by rw [← e] at HKL; exact HKL.out), fun e => Nat.lt_irrefl _ (by rw [e] at HKL; exact HKL.out), HC.out.lt⟩
    go_wp2_with (first
      | (go_at_call 30; (refine (KC.out _ HY.out).mono ?_); rintro e y4 ⟨v', rfl, hi, hb⟩; have HI := Lib.hid hi; replace HY := Lib.hid (below_to HY.out hb); replace HK := Lib.hid (HK.out.below hb); replace HC := Lib.hid (HC.out.below hb); obtain ⟨A6, c6, rfl⟩ := own_slice' hi; clear hi hb)
      | (refine o_put rfl 26 _ _ rfl rfl y2.heap.size 5 (.slice A6 x.ids.length c6) rfl rfl rfl 28 C HC.out (by rw [← HZA.out]; decide) ints_one ?_; intro z4 hr ho; rw [HD.out, HN.out] at hr; replace HC := Lib.hid hr; replace HK := Lib.hid (HK.out.one ho HNE.out.2.1); replace HI := Lib.hid (own_one HI.out ho HNE.out.2.2); replace HY := Lib.hid (below_one_of HY.out ho HYS.out HY.out.size); clear hr ho)
      | (refine o_load (by rfl) 28 _ rfl y2.heap.size rfl _ _ _ HC.out Tryd.underlying28 rfl (HSN.out _) ?_)
      | (refine o_store rfl 28 _ _ rfl rfl k (N (.slice A6 x.ids.length c6)) rfl rfl _ _ HK.out (HSN.out _) (HZN.out _) (HON.out _ _ _) ?_; intro z5 hr ho; replace HK := Lib.hid hr; replace HI := Lib.hid (own_one HI.out ho (Nat.lt_trans HKL.out HNE.out.2.2)); replace HY := Lib.hid (below_one_of HY.out ho HGW.out HY.out.size); clear hr ho))
    refine bodyPost_ret (results_two rfl _ _ _ _ _ _ _ rfl HK.out Tryd.underlying28 rfl (HSN.out _) rfl) rfl ?_
    exact HFT.out _ _ _ (by rw [HN.out, t0]; rfl) (HI.out.mono (Nat.le_trans HYS.out (Nat.le_of_lt HNE.out.2.2))) HY.out
end Go.Proofs.YtjjbdemhccpllaaDoor.Bill
