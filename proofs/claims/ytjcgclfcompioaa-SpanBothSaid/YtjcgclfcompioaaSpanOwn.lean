/- The laws' own copies of stretches, and that two lists that are one are told alike. -/
import Derived.Test.YtjcgclfcompioaaRefSpan2
import Derived.Deep.RegionLaw
namespace Go.Proofs.Ytjcgclfcompioaa.Span
open Go.ChangeShapes Go.WideShapes Go.ChangeAt Go.RowKit Pairs

theorem ref_info : (Try.prog.info? 53).map (fun i => (i.zero, i.size, i.bytes)) = some (some (.agg #[.int .i64 0, .int .i64 0]), 2, 16) := by kernel_rfl
theorem span_info : (Try.prog.info? 51).map (fun i => (i.zero, i.size, i.bytes)) = some (some (.agg #[.int .i64 0, .int .i64 0]), 2, 16) := by kernel_rfl
/-- The copy ahead of round j. -/
def Copied (zs : List (Int × Int)) (w : World) (j : Nat) (u : Value) (wr : World) : Prop :=
  Below w.heap.size w wr ∧ wr.ownsRow w.heap.size 53 2 u j (flat (zs.take j))
theorem copied_step {zs : List (Int × Int)} {w wr W w3 : World} {j : Nat} {u v : Value} (h : Copied zs w j u wr) (hj : j < zs.length) (hW : Below wr.heap.size wr W)
    (ho : w3.ownsRow w.heap.size 53 2 v (j + 1) (flat (zs.take j) ++ flat [zs.getD j (0, 0)])) (hg : W.grownBy w3 u.ownBlock) : Copied zs w (j + 1) v w3 := by
  refine ⟨(below_via h.1 hW).grown hg (Nat.le_trans h.1.size hW.size) (fun g hg => (h.2.lt g hg).1), ?_⟩
  rw [take_next zs j hj, flat_append]
  exact ho
set_option maxHeartbeats 1000000 in
theorem own_any (zs : List (Int × Int)) (v : Value) (B : Nat) (w : World) (hB : B ≤ w.heap.size) (hv : Prs w B v zs) (hl : zs.length ≤ 100000) :
    Calls Try.prog 9 #[v] w fun e w' => ∃ u, e = .returned u ∧ Prs w' w'.heap.size u zs ∧ Below w.heap.size w w' := by
  obtain ⟨A, c, rfl, -, -, hcell⟩ := hv
  have HC := Lib.hid hcell
  have HL := Lib.hid hl
  have hl2 : zs.length ≤ 9223372036854775807 := Nat.le_trans hl (by decide)
  obtain ⟨i0, hi0, hz0, hz1, hz2⟩ := info_parts ref_info
  have HI := Lib.hid hi0
  have HZ0 := Lib.hid hz0
  have HZ1 := Lib.hid hz1
  have HZ2 := Lib.hid hz2
  clear hcell hl hi0 hz0 hz1 hz2
  go_enter Try.func9, Try.ntmps9
  go_wp2_with fail
  go_loopw [3, 4] (fun o t wr => ∃ (j : Nat) (u : Value), j ≤ zs.length ∧ t = .int .i64 j ∧ o = u ∧ Copied zs w j u wr) (fun _ t _ => zs.length - (intOf t).toNat)
  case atStart => exact ⟨0, _, Nat.zero_le _, rfl, rfl, Below.refl _ _, World.ownsRow_nil _ _ _ _⟩
  case round =>
    obtain ⟨j, u, hj, rfl, rfl, hst⟩ := hrel
    have HS := Lib.hid hst
    obtain ⟨A0, c0, e0⟩ := own_shape hst.2
    subst e0
    clear hst
    by_cases hlt : j < zs.length
    · obtain ⟨b, off, rfl, hb, hcell⟩ := HC.out (by omega)
      obtain ⟨hx, hy⟩ := hcell j hlt
      have hx := (HS.out.1.cell (p := ⟨b, off + j * 2, none⟩) (by show b < _; omega)).trans hx
      have hy := (HS.out.1.cell (p := ⟨b, off + j * 2 + 1, none⟩) (by show b < _; omega)).trans hy
      have HST := fun W w3 v hW ho hg => copied_step (W := W) (w3 := w3) (v := v) HS.out hlt hW ho hg
      have HST := Lib.hid HST
      clear hcell
      generalize zs.getD j (0, 0) = p at *
      have HJ : Hid (j ≤ 100000) := show j ≤ 100000 from Nat.le_trans hj HL.out
      have h0 : (0 : Int) ≤ j := by omega
      go_wp2_with fail
      go_region_law (refine step_pair rfl (.tmp 11) (.tmp 23) _ rfl w.heap.size 53 i0 (.agg #[.int .i64 0, .int .i64 0]) Try.underlying24 HI.out HZ0.out HZ1.out HZ2.out rfl p _ j _ (by rfl) (World.ownsRow.alloc (World.ownsRow.drew HS.out.2) _) _ (by rfl) (by simp [go_sem]) (by simp [go_sem]) (by have := HJ.out; unfold maxLen; omega) (by have := HJ.out; omega) (by have := HS.out.1.size; simp; omega) ?_
                     intro gg cap w3 hown hgrow
                     have HS3 := Lib.hid (HST.out _ _ _ (by go_grown) hown hgrow)
                     clear hown hgrow)
      all_goals
        go_wp2_with fail
        go_roundw
        case rel => exact ⟨j + 1, _, by omega, by go_num, rfl, HS3.out⟩
        case measure => simp [intOf]; omega
    · obtain rfl : j = zs.length := by omega
      go_wp2_with fail
      go_ret
      have HO := HS.out.2
      rw [List.take_length] at HO
      exact ⟨_, rfl, Prs.of_own rfl HO, HS.out.1⟩
set_option maxHeartbeats 1000000 in
theorem same_any (zs : List (Int × Int)) (v u : Value) (B : Nat) (w : World) (hv : Prs w B v zs) (hu : Prs w B u zs) :
    Calls Try.prog 16 #[v, u] w fun e w' => e = .returned (.bool true) ∧ ∃ n, w' = w.drewN n := by
  obtain ⟨A, c, rfl, hl, -, hcell⟩ := hv
  obtain ⟨A', c', rfl, -, -, hcell'⟩ := hu
  have HC := Lib.hid hcell
  have HC' := Lib.hid hcell'
  clear hcell hcell'
  go_enter Try.func16, Try.ntmps16
  go_wp2_with fail
  go_loopw [5] (fun t wr => ∃ j : Nat, j ≤ zs.length ∧ t = .int .i64 j ∧ ∃ n, wr = w.drewN n) (fun t _ => zs.length - (intOf t).toNat)
  case atStart => exact ⟨0, Nat.zero_le _, rfl, 0, rfl⟩
  case round =>
    obtain ⟨j, hj, rfl, n, rfl⟩ := hrel
    by_cases hlt : j < zs.length
    · obtain ⟨b, off, rfl, hb, hcell⟩ := HC.out (by omega)
      obtain ⟨b', off', rfl, hb', hcell'⟩ := HC'.out (by omega)
      obtain ⟨hx, hy⟩ := hcell j hlt
      obtain ⟨hx', hy'⟩ := hcell' j hlt
      clear hcell hcell'
      generalize zs.getD j (0, 0) = p at *
      obtain ⟨p0, p1⟩ := p
      have h0 : (0 : Int) ≤ j := by omega
      go_wp2_with fail
      go_quiet (fail)
      go_wp2_with fail
      go_roundw
      case rel => exact ⟨j + 1, by omega, by go_num, _, rfl⟩
      case measure => simp [intOf]; omega
    · go_wp2_with fail
      go_ret
      exact ⟨rfl, _, rfl⟩
end Go.Proofs.Ytjcgclfcompioaa.Span
