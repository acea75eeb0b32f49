/- The balances behind each month, in a slice that is made beforehand. -/
import Derived.Test.YtkeghiljolojlaaLevelC1
import Derived.Test.YtkeghiljolojlaaSlice
import Derived.Deep.OwnRows
namespace Go.Proofs.Ytkeghiljolojlaa.Level
open Go.ChangeShapes Go.WideShapes Go.ChangeAt Go.RowKit Bits Law Slice

theorem i64_info : (Try.prog.info? 2).map (fun i => (i.zero, i.size, i.bytes)) = some (some (.int .i64 0), 1, 8) := by kernel_rfl
/-- a row whose first cells are the list, the others 0. -/
def rowL (l : List Int) (i : Nat) : Value := .int .i64 (l.getD i 0)
theorem rowL_step {w : World} {b : Nat} {t : TypeId} {n : Nat} {l : List Int} {d : Int} (h : (w.setCell ⟨b, l.length, none⟩ (.int .i64 d)).rowIs b t n (fun i => if i = l.length then .int .i64 d else rowL l i)) :
    (w.setCell ⟨b, l.length, none⟩ (.int .i64 d)).rowIs b t n (rowL (l ++ [d])) :=
  h.congr fun i _ => by
    unfold rowL
    by_cases e : i = l.length
    · subst e
      rw [if_pos rfl]
      simp [List.getD_eq_getElem?_getD]
    · rw [if_neg e]
      by_cases h1 : i < l.length
      · simp [List.getD_eq_getElem?_getD, List.getElem?_append_left h1]
      · have h2 : (l ++ [d]).length ≤ i := by simp; omega
        simp only [List.getD_eq_getElem?_getD]
        rw [List.getElem?_eq_none (by omega), List.getElem?_eq_none h2]
theorem ints_rowL {w : World} {g : Nat} {t : TypeId} {l : List Int} (hm : l.length ≤ 9223372036854775807) (h : w.rowIs g t l.length (rowL l)) : Ints w w.heap.size .i64 (.slice (some ⟨g, 0, none⟩) l.length l.length) l :=
  ⟨some ⟨g, 0, none⟩, _, rfl, hm, fun h => (by cases h), fun _ => ⟨g, 0, rfl, h.lt, fun i hi => by rw [Nat.zero_add, h.cell hi]; rfl⟩⟩
/-- what a table is told as. -/
def Tabled (o : Option (List Int)) (w : World) (e : Ending) (w' : World) : Prop :=
  ∃ v, e = .returned (.tuple #[v, .int .i64 (errL o)]) ∧ Ints w' w'.heap.size .i64 v (lstO o) ∧ Below w.heap.size w w'

theorem tbF_nil (o : Option (List Int)) : tbF [] o = o := by cases o <;> rfl

set_option maxHeartbeats 400000 in
theorem c_tab (b p r : Int) (N : Nat) (w : World) (h : okL b p r = true) (hN : N ≤ 360) :
    Calls Try.prog 25 #[.int .i64 b, .int .i64 p, .int .i64 r, .int .i64 (N : Int)] w (Tabled (tbO p r N b) w) := by
  obtain ⟨R, hR⟩ : ∃ R, R = tbO p r N b := ⟨_, rfl⟩
  rw [← hR]
  have hmk := fun W : World => run_make_row' (P := Try.prog) 30 2 (.int .i64 0) 8 Try.underlying30 i64_info rfl .i64 .i64 N (by omega) (by omega) W
  have HR := Lib.hid hR
  have HO := Lib.hid h
  clear hR h
  go_enter Try.func25, Try.ntmps25
  go_wp2_with fail
  go_loopw [0, 17] (fun s t wr => ∃ (c : Int) (l : List Int), l.length ≤ N ∧ t = .int .i64 l.length ∧ s = .int .i64 c ∧ Hid (okL c p r = true ∧ tbF l (tbO p r (N - l.length) c) = R ∧ wr.rowIs w.heap.size 2 N (rowL l) ∧ Below w.heap.size w wr)) (fun _ t _ => N - (intOf t).toNat)
  case atStart => exact ⟨b, [], Nat.zero_le _, rfl, rfl, HO.out, by rw [tbF_nil]; exact HR.out.symm, (World.rowIs_made w (.int .i64 0) N 2).congr fun i _ => rfl, (Below.refl _ _).alloc (Nat.le_refl _) _⟩
  case round =>
    obtain ⟨c, l, hj, rfl, rfl, HX⟩ := hrel
    clear hmk
    by_cases hlt : l.length < N
    · have HE : Hid (tbF l (tbO p r (N - (l.length + 1) + 1) c) = R) := by
        have := HX.out.2.1
        rw [show N - l.length = N - (l.length + 1) + 1 from by omega] at this
        exact this
      cases hm : moO c p r with
      | none =>
        have K := Lib.hid (fun W => month_none c p r W HX.out.1 hm)
        have HV : Hid (R = none) := show R = none by rw [← HE.out, tb_none _ hm]; rfl
        clear hm HE
        go_wp2_with fail
        refine (K.out _).mono ?_
        rintro e w1 ⟨rfl, hb⟩
        have HB : Hid (Below w.heap.size w w1) := show Below _ _ _ from HX.out.2.2.2.trans (hb.mono HX.out.2.2.2.size)
        clear hb
        go_wp2_with fail
        go_ret2
        exact ⟨_, by rw [HV.out]; rfl, by rw [HV.out]; exact Ints.nil_ _ _ _, HB.out⟩
      | some d =>
        have K := Lib.hid (fun W => month_some c p r d W HX.out.1 hm)
        have HV : Hid (okL d p r = true ∧ tbF (l ++ [d]) (tbO p r (N - (l.length + 1)) d) = R) := show _ ∧ _ from ⟨okL_next HX.out.1 hm, by rw [← HE.out]; exact (tb_more _ l hm).symm⟩
        clear hm HE
        go_wp2_with fail
        refine (K.out _).mono ?_
        rintro e w1 ⟨rfl, hb⟩
        have HB : Hid (Below w.heap.size w w1) := show Below _ _ _ from HX.out.2.2.2.trans (hb.mono HX.out.2.2.2.size)
        have HW : Hid (w1.rowIs w.heap.size 2 N (rowL l)) := show World.rowIs _ _ _ _ _ from HX.out.2.2.1.of_block (hb.block _ HX.out.2.2.1.lt)
        have hp := HW.out.cell hlt
        have hf := HW.out.frozen l.length
        clear hb HX
        go_wp2_with fail
        go_roundw
        case rel => exact ⟨d, l ++ [d], by simp; omega, by simp, rfl, HV.out.1, by rw [List.length_append]; exact HV.out.2, rowL_step (HW.out.set l.length (.int .i64 d)), HB.out.setCell (Nat.le_refl _) _⟩
        case measure => simp [intOf]; omega
    · obtain rfl : l.length = N := by omega
      have HV : Hid (R = some l) := show R = some l by
        have := HX.out.2.1
        rw [Nat.sub_self] at this
        rw [← this]; show some (l ++ []) = _; rw [List.append_nil]
      go_wp2_with fail
      go_ret2
      exact ⟨_, by rw [HV.out]; rfl, by rw [HV.out]; exact ints_rowL (by omega) HX.out.2.2.1, HX.out.2.2.2⟩
end Go.Proofs.Ytkeghiljolojlaa.Level
