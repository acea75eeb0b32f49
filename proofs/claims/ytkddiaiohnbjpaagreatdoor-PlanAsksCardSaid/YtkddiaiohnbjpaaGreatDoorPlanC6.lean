/- Of layer 18: the map of what the plans ask. -/
import Derived.Test.YtkddiaiohnbjpaaGreatDoorPlanC4
import Derived.Test.YtkddiaiohnbjpaaGreatDoorMapAny
namespace Go.Proofs.YtkddiaiohnbjpaaGreatDoor.Plan
open Go.ChangeShapes Go.WideShapes Go.ChangeAt Go.RowKit Loan Money Box Rws Slice MapF

abbrev fOne : Value := .func (.func 73) #[] #[]
abbrev fTwo : Value := .func (.func 74) #[] #[]
abbrev fThree (gd : Nat) : Value := .func (.func 75) #[] #[.pointer (some ⟨gd, 0, none⟩)]
abbrev fEach (g : Nat) : Value := .func (.func 108) #[] #[.pointer (some ⟨g, 0, none⟩)]
theorem box_fn (w : World) (fn : Fn) (cap : Array Value) : (World.alloc w (.cells (Value.func fn #[] cap).cells 101)) = w.alloc (.cells #[.func fn #[] cap] 101) := rfl
theorem c_mk (fn : Fn) (cap : Array Value) (w : World) : Calls Tryz.prog 72 #[.func fn #[] cap] w fun e w' => ∃ g, e = .returned (fEach g) ∧ w.heap.size ≤ g ∧ w'.cell? ⟨g, 0, none⟩ = some (.func fn #[] cap) ∧ Below w.heap.size w w' := by
  obtain ⟨g, wb, e1, e2, hB, hb⟩ := boxd_new w #[.func fn #[] cap] 101
  have c0 : wb.cell? ⟨g, 0, none⟩ = some (.func fn #[] cap) := hB.cell
  have HC := Lib.hid c0
  have HW := Lib.hid hb
  have HG : Hid (w.heap.size ≤ g) := show _ ≤ _ from Nat.le_of_eq e1.symm
  have hmf := make_fn
  clear hB hb c0
  go_enter Tryz.func72, Tryz.ntmps72
  go_upto_region 1 with fail
  rw [← e2, ← e1]
  clear e1 e2
  go_wp2_with fail
  go_ret
  exact ⟨g, rfl, HG.out, HC.out, HW.out⟩
/-- A plan's asking, as the map holds it. -/
def Ready (w : World) (how day : Int) (V : Value) : Prop :=
  ∃ gb gd : Nat, V = fEach gb ∧ ((how = 1 ∧ w.cell? ⟨gb, 0, none⟩ = some fOne) ∨ (how = 2 ∧ w.cell? ⟨gb, 0, none⟩ = some fTwo) ∨ (how = 3 ∧ w.cell? ⟨gb, 0, none⟩ = some (fThree gd) ∧ w.cell? ⟨gd, 0, none⟩ = some (.int .i64 day)))
theorem Ready.keep {w w' : World} {how day : Int} {V : Value} (h : Ready w how day V) (hk : ∀ b (_v : Value), w.cell? ⟨b, 0, none⟩ = some _v → w'.cell? ⟨b, 0, none⟩ = w.cell? ⟨b, 0, none⟩) : Ready w' how day V := by
  obtain ⟨gb, gd, rfl, h⟩ := h
  refine ⟨gb, gd, rfl, ?_⟩
  rcases h with ⟨h, c⟩ | ⟨h, c⟩ | ⟨h, c, d⟩
  · exact Or.inl ⟨h, (hk _ _ c).trans c⟩
  · exact Or.inr (Or.inl ⟨h, (hk _ _ c).trans c⟩)
  · exact Or.inr (Or.inr ⟨h, (hk _ _ c).trans c, (hk _ _ d).trans d⟩)
theorem Ready.below {w w' : World} {how day : Int} {V : Value} (h : Ready w how day V) (hb : Below w.heap.size w w') : Ready w' how day V := h.keep fun b _ c => hb.cell (p := ⟨b, 0, none⟩) (Rws.lt_of c)
theorem Ready.turned {w w' : World} {how day : Int} {V : Value} {m : Nat} {z : Value} {n : Nat} {f : Int → Option Value} (h : Ready w how day V) (hm : MapIs z w m n f) (ht : Turned m w w') : Ready w' how day V := h.keep fun b v c => ht.cell (fun e => by
  subst e
  obtain ⟨D, ⟨es, clock, hh, -⟩, -⟩ := hm
  simp [World.cell?, hh] at c)
/-- The map of the plans that ask loan by loan. -/
structure Plans (w : World) (m : Nat) (n : Nat) (day : Int) (f : Int → Option Value) : Prop where
  map : MapIs .nilFunc w m n f
  yes : ∀ k : Int, 1 ≤ k → k ≤ 3 → ∃ V, f k = some V ∧ Ready w k day V
  no : ∀ k : Int, ¬ (1 ≤ k ∧ k ≤ 3) → f k = none
theorem Plans.below {w w' : World} {m n : Nat} {day : Int} {f : Int → Option Value} (h : Plans w m n day f) (hb : Below w.heap.size w w') : Plans w' m n day f :=
  ⟨h.map.below hb, fun k k1 k3 => by
    obtain ⟨V, e, r⟩ := h.yes k k1 k3
    exact ⟨V, e, r.below hb⟩, h.no⟩
theorem zero_fn (w : World) : (zeroValue 76).run Tryz.prog w = .ok .nilFunc w := by kernel_rfl
theorem in_small {k : Int} (h0 : 0 ≤ k) (h1 : k ≤ 100) : In64 k := by unfold In64; omega
set_option maxRecDepth 20000 in
theorem c_plans (day : Int) (w : World) : Calls Tryz.prog 37 #[.int .i64 day] w fun e w' => ∃ m f, e = .returned (.map (some m)) ∧ w.heap.size ≤ m ∧ Plans w' m 3 day f ∧ Below w.heap.size w w' := by
  obtain ⟨gd, wb, e1, e2, hB, hb⟩ := boxd_new w #[.int .i64 day] 3
  have c0 : wb.cell? ⟨gd, 0, none⟩ = some (.int .i64 day) := hB.cell
  have HC := Lib.hid c0
  have HW := Lib.hid hb
  have HG : Hid (w.heap.size ≤ gd) := show _ ≤ _ from Nat.le_of_eq e1.symm
  have hmf := make_fn
  have hmm : ∀ w, (Instr.makeMap 71 none).run Tryz.prog w = .ok (.map (some w.heap.size)) (w.alloc (.map #[] 0)) := fun w => run_makeMap _ _
  have K1 := Lib.hid (fun W => c_mk (.func 73) #[] W)
  have K2 := Lib.hid (fun W => c_mk (.func 74) #[] W)
  have K3 := Lib.hid (fun W => c_mk (.func 75) #[.pointer (some ⟨gd, 0, none⟩)] W)
  have HM0 : Hid (MapIs .nilFunc (wb.alloc (.map #[] 0)) wb.heap.size 0 (fun _ => none)) := map_made _ wb
  have HB0 : Hid (Below w.heap.size w (wb.alloc (.map #[] 0))) := HW.out.alloc HW.out.size _
  have HC0 : Hid ((wb.alloc (.map #[] 0)).cell? ⟨gd, 0, none⟩ = some (.int .i64 day)) := ((Below.refl wb.heap.size wb).alloc (Nat.le_refl _) _ |>.cell (p := ⟨gd, 0, none⟩) (Rws.lt_of c0)).trans c0
  have HGM : Hid (w.heap.size ≤ wb.heap.size) := HW.out.size
  clear hB hb c0 HC
  go_enter Tryz.func37, Tryz.ntmps37
  go_upto_region 1 with fail
  rw [← e2, ← e1]
  clear e1 e2
  generalize hz : wb.alloc (.map #[] 0) = w0 at *
  go_wp2_with (first
    | (go_at_call 72; (with_reducible refine (K1.out _).mono ?_); rintro e y ⟨g1, rfl, hg, hc, hb⟩
       have HC1 : Hid (y.cell? ⟨gd, 0, none⟩ = some (.int .i64 day)) := (hb.cell (p := ⟨gd, 0, none⟩) (Rws.lt_of HC0.out)).trans HC0.out
       have HR1 : Hid (Ready y 1 day (fEach g1)) := ⟨g1, gd, rfl, Or.inl ⟨rfl, hc⟩⟩
       have HM1 := Lib.hid (HM0.out.below hb)
       obtain ⟨z1, hr1, hm1, ht1⟩ := HM1.out.store (by omega) Tryz.underlying71 (in_small (k := 1) (by omega) (by omega)) (fEach g1)
       have HB1 : Hid (Below w.heap.size w z1) := ht1.below (below_to HB0.out hb) HGM.out
       have HR2 := Lib.hid (HR1.out.turned HM1.out ht1)
       have HC2 : Hid (z1.cell? ⟨gd, 0, none⟩ = some (.int .i64 day)) := (ht1.cell (fun e => by have h1 := hm1.lt; have := HC1.out; subst e; obtain ⟨D, ⟨es, clock, hh, -⟩, -⟩ := HM1.out; simp [World.cell?, hh] at this)).trans HC1.out
       have HM2 := Lib.hid hm1
       clear hg hc hb hm1 ht1)
    | (go_at_call 72; (with_reducible refine (K2.out _).mono ?_); rintro e y2 ⟨g2, rfl, hg, hc, hb⟩
       have HC3 : Hid (y2.cell? ⟨gd, 0, none⟩ = some (.int .i64 day)) := (hb.cell (p := ⟨gd, 0, none⟩) (Rws.lt_of HC2.out)).trans HC2.out
       have HR3 : Hid (Ready y2 1 day (fEach g1) ∧ Ready y2 2 day (fEach g2)) := ⟨HR2.out.below hb, g2, gd, rfl, Or.inr (Or.inl ⟨rfl, hc⟩)⟩
       have HM3 := Lib.hid (HM2.out.below hb)
       obtain ⟨z2, hr2, hm2, ht2⟩ := HM3.out.store (by omega) Tryz.underlying71 (in_small (k := 2) (by omega) (by omega)) (fEach g2)
       have HB2 : Hid (Below w.heap.size w z2) := ht2.below (below_to HB1.out hb) HGM.out
       have HR4 : Hid (Ready z2 1 day (fEach g1) ∧ Ready z2 2 day (fEach g2)) := ⟨HR3.out.1.turned HM3.out ht2, HR3.out.2.turned HM3.out ht2⟩
       have HC4 : Hid (z2.cell? ⟨gd, 0, none⟩ = some (.int .i64 day)) := (ht2.cell (fun e => by have := HC3.out; subst e; obtain ⟨D, ⟨es, clock, hh, -⟩, -⟩ := HM3.out; simp [World.cell?, hh] at this)).trans HC3.out
       have HM4 := Lib.hid hm2
       clear hg hc hb hm2 ht2)
    | (go_at_call 72; (with_reducible refine (K3.out _).mono ?_); rintro e y3 ⟨g3, rfl, hg, hc, hb⟩
       have HC5 : Hid (y3.cell? ⟨gd, 0, none⟩ = some (.int .i64 day)) := (hb.cell (p := ⟨gd, 0, none⟩) (Rws.lt_of HC4.out)).trans HC4.out
       have HR5 : Hid (Ready y3 1 day (fEach g1) ∧ Ready y3 2 day (fEach g2) ∧ Ready y3 3 day (fEach g3)) := ⟨HR4.out.1.below hb, HR4.out.2.below hb, g3, gd, rfl, Or.inr (Or.inr ⟨rfl, hc, HC5.out⟩)⟩
       have HM5 := Lib.hid (HM4.out.below hb)
       obtain ⟨z3, hr3, hm3, ht3⟩ := HM5.out.store (by omega) Tryz.underlying71 (in_small (k := 3) (by omega) (by omega)) (fEach g3)
       have HB3 : Hid (Below w.heap.size w z3) := ht3.below (below_to HB2.out hb) HGM.out
       have HR6 : Hid (Ready z3 1 day (fEach g1) ∧ Ready z3 2 day (fEach g2) ∧ Ready z3 3 day (fEach g3)) := ⟨HR5.out.1.turned HM5.out ht3, HR5.out.2.1.turned HM5.out ht3, HR5.out.2.2.turned HM5.out ht3⟩
       have HM6 := Lib.hid hm3
       clear hg hc hb hm3 ht3))
  go_ret
  refine ⟨_, _, rfl, HGM.out, ⟨HM6.out, fun k k1 k3 => ?_, fun k hk => ?_⟩, HB3.out⟩
  · rcases (show k = 1 ∨ k = 2 ∨ k = 3 by omega) with rfl | rfl | rfl
    · exact ⟨_, rfl, HR6.out.1⟩
    · exact ⟨_, rfl, HR6.out.2.1⟩
    · exact ⟨_, rfl, HR6.out.2.2⟩
  · show (if k = 3 then _ else if k = 2 then _ else if k = 1 then _ else _) = _
    rw [if_neg (by omega), if_neg (by omega), if_neg (by omega)]
end Go.Proofs.YtkddiaiohnbjpaaGreatDoor.Plan
