/- Layer 9's examples. -/
import Derived.Test.YtcmdonckilajjaaGEvC
import Derived.Deep.DeepCutAuto
import Derived.Test.YtcmdonckilajjaaGPack
namespace Go.Proofs.Ytcmdonckilajjaa.Event
open Go.ChangeShapes Go.WideShapes Go.ChangeAt Go.RowKit Fl Date Cal Pack

theorem store_row {P : Program} {ops : Array Oper} {rest : List Oper} {o : Oper} {a : Act} {w : World} {Q : Exit → Act → World → Prop} (hgd : o.guard = none) (ty : TypeId) (x y : Operand) (ho : o.op = .store ty x y) (hd : o.dst = none)
    (g : Nat) (cells : Array Value) (hx : a.eval x = .pointer (some ⟨g, 0, none⟩)) (hy : a.eval y = .agg cells)
    (t : TypeId) (old : Array Value) (hg : w.heap[g]? = some (.cells old t (0, 0))) (hi : (P.info? ty).map (·.size) = some cells.size)
    (hold : old.size = cells.size) (h1 : cells.all (·.oneCell') = true)
    (h : wpList P ops Q rest a (w.setRow g cells)) : wpList P ops Q (o :: rest) a w :=
  wpList_store_row hgd ty x y ho g cells hx hy t old hg hi hold h1 (by rw [hd]; exact h)
theorem load_want {P : Program} {ops : Array Oper} {rest : List Oper} {o : Oper} {a : Act} {w : World} {Q : Exit → Act → World → Prop} (hw : Region.wanted o (yielded ops a.tmps) = true) (ty : TypeId) (x : Operand) (ho : o.op = .load ty x)
    (g : Nat) (hx : a.eval x = .pointer (some ⟨g, 0, none⟩)) (t : TypeId) (cs : Array Value) (d : TypeDesc) (hg : Boxd w g cs t)
    (hu : P.underlying ty = some d) (hd : (match d with | .struct _ | .array _ _ => true | _ => false) = true) (hi : (P.info? ty).map (·.size) = some cs.size)
    (h : wpList P ops Q rest (a.put o.dst (.agg cs)) w) : wpList P ops Q (o :: rest) a w :=
  BigFrame.wpList_want hw fun _ hK => wp_load_row ty x ho g hx t cs (0, 0) d hg hu hd hi (hK _ _ h)
theorem text_ne' {s t : ByteArray} (h : s ≠ t) : ¬ s.toList = t.toList := fun e => h (Go.WideShapes.bytes_inj (by rw [← ByteArray.toList_eq, ← ByteArray.toList_eq]; exact e))
theorem text_ne {s t : ByteArray} (h : s ≠ t) : (s.toList == t.toList) = false := by rw [beq_eq_false_iff_ne]; exact text_ne' h
theorem range_below {w w' : World} {g o : Nat} {C : Array Value} {T : TypeId} {cs : List Value} (h : Boxd w g C T) (hr : w.rangeAt g o cs) (hb : Below w.heap.size w w') : w'.rangeAt g o cs := fun j v hj =>
  (hb.cell (p := ⟨g, o + j, none⟩) (by
    rcases Nat.lt_or_ge g w.heap.size with hlt | hge
    · exact hlt
    · unfold Boxd at h; rw [Array.getElem?_eq_none hge] at h; cases h)).trans (hr j v hj)
theorem take_row {P : Program} {ops : Array Oper} {Q : Exit → Act → World → Prop} {md : Region.Mode} {S : World → Prop} {oi : Oper} {fuel : Nat} {listed : Array Bool} {a : Act} {w : World}
    (i k : Nat) (hi : ops[i]? = some oi) (hd : oi.dst = some k) (hs : Region.noSelect ops = true) (hf : Region.free md ops listed i = true) (hr : (Region.ready md ops listed).contains i = true)
    (T : TypeId) (x : Operand) (ho : oi.op = .load T x) (g : Nat) (hx : a.eval x = .pointer (some ⟨g, 0, none⟩)) (C : Array Value) (d : TypeDesc) (hu : P.underlying T = some d) (ht : (match d with | .struct _ | .array _ _ => true | _ => false) = true) (hz : (P.info? T).map (·.size) = some C.size)
    (hB : ∀ w, S w → Boxd w g C T)
    (hQ : ∀ c a w, Q (.panic c) (a.put oi.dst (.agg C)) w → Q (.panic c) a w) (hw : Region.wanted oi (yielded ops a.tmps) = true) (hS : S w)
    (h : wpAnyH P md ops Q S fuel (listed.setIfInBounds i true) (a.put (some k) (.agg C)) w) : wpAnyH P md ops Q S (fuel + 1) listed a w :=
  ByHand.take_yes (v := .agg C) i k hi hd hs hf hr hQ hw (fun W hW => by
    unfold execOp
    simp only [ho, hx, Instr.loadAt, Instr.sureAddr, Sem.run_bind, Sem.run_pure, Result.andThen_ok, run_loadVar_row W g T T C (0, 0) d (hB W hW) hu ht hz]) hS h
theorem held_rows4 {P : Program} {f : FuncId} {args : Array Value} {v : Value} {A B C D : Array Value} {T1 T2 T3 T4 : TypeId} {w W : World} {g1 g2 g3 g4 : Nat}
    (hS : Boxd W g1 A T1 ∧ Boxd W g2 B T2 ∧ Boxd W g3 C T3 ∧ Boxd W g4 D T4 ∧ Below w.heap.size w W) (hc : Calls P f args W fun e w' => e = .returned v ∧ Below W.heap.size W w') :
    Calls P f args W fun e w' => e = .returned v ∧ (Boxd w' g1 A T1 ∧ Boxd w' g2 B T2 ∧ Boxd w' g3 C T3 ∧ Boxd w' g4 D T4 ∧ Below w.heap.size w w') :=
  hc.mono fun _ _ ⟨he, hb⟩ => ⟨he, hS.1.below hb, hS.2.1.below hb, hS.2.2.1.below hb, hS.2.2.2.1.below hb, hS.2.2.2.2.trans (hb.mono hS.2.2.2.2.size)⟩
theorem held_rows {P : Program} {f : FuncId} {args : Array Value} {v : Value} {A B C : Array Value} {T1 T2 T3 : TypeId} {w W : World} {g1 g2 g3 : Nat}
    (hS : Boxd W g1 A T1 ∧ Boxd W g2 B T2 ∧ Boxd W g3 C T3 ∧ Below w.heap.size w W) (hc : Calls P f args W fun e w' => e = .returned v ∧ Below W.heap.size W w') :
    Calls P f args W fun e w' => e = .returned v ∧ (Boxd w' g1 A T1 ∧ Boxd w' g2 B T2 ∧ Boxd w' g3 C T3 ∧ Below w.heap.size w w') :=
  hc.mono fun _ _ ⟨he, hb⟩ => ⟨he, hS.1.below hb, hS.2.1.below hb, hS.2.2.1.below hb, hS.2.2.2.trans (hb.mono hS.2.2.2.size)⟩
/-- What was encoded is decoded as it was. -/
theorem enc_back (e : Ev) (hf : e.Fit) : ∃ (s : ByteArray) (x : Int), (∀ W, Calls Try.prog 9 #[.agg e.cells] W fun r w' => r = .returned (.tuple #[.string s, .int .i64 x]) ∧ Below W.heap.size W w') ∧
    ((x = 0 ∧ ∀ W, Calls Try.prog 11 #[.string s] W fun r w' => r = .returned (.tuple #[.agg e.cells, .int .i64 0]) ∧ Below W.heap.size W w') ∨ x = 11) := by
  refine ⟨encT e, encX e, fun W => c_encode e W hf, ?_⟩
  cases hg : goodE e with
  | false => exact Or.inr (by unfold encX; simp [hg])
  | true =>
    obtain ⟨h1, h2⟩ := dec_enc hf hg
    refine Or.inl ⟨by unfold encX; simp [hg], fun W => ?_⟩
    have := c_decode (encS e) W (by rw [enc_size]; decide)
    rw [show decE (encS e) = e by unfold decE; rw [h1, h2]; rfl, show decX (encS e) = 0 by unfold decX; rw [h1]; rfl] at this
    rwa [show encT e = encS e by unfold encT; simp [hg]]
theorem pack_back (c : Cm) (hf : c.Fit) : ∃ (s : ByteArray) (x : Int), (∀ W, Calls Try.prog 17 #[.agg c.cells] W fun r w' => r = .returned (.tuple #[.string s, .int .i64 x]) ∧ Below W.heap.size W w') ∧
    ((x = 0 ∧ ∀ W, Calls Try.prog 19 #[.string s] W fun r w' => r = .returned (.tuple #[.agg c.cells, .int .i64 0]) ∧ Below W.heap.size W w') ∨ x = 11) := by
  refine ⟨packT c, packX c, fun W => c_pack c W hf, ?_⟩
  cases hg : fineC c with
  | false => exact Or.inr (by unfold packX; simp [hg])
  | true =>
    obtain ⟨h1, h2⟩ := opn_pack hf hg
    refine Or.inl ⟨by unfold packX; simp [hg], fun W => ?_⟩
    have := c_open (cmdS c) W (by rw [cmd_size]; split <;> decide)
    rw [show opnE (cmdS c) = c by unfold opnE; rw [h1, h2]; rfl, show opnX (cmdS c) = 0 by unfold opnX; rw [h1]; rfl] at this
    rwa [show packT c = cmdS c by unfold packT; simp [hg]]
theorem fit_ok {b : ByteArray} (h : okD b = true) : (evD b).Fit := by
  unfold okD at h
  simp only [Bool.and_eq_true, decide_eq_true_iff] at h
  obtain ⟨-, h4, h5, h6, -, -⟩ := h
  have f0 : fld b 0 < 256 ^ 1 := valN_lt b 1 _
  have f1 : fld b 1 < 256 ^ 4 := valN_lt b 4 _
  have f2 : fld b 2 < 256 ^ 4 := valN_lt b 4 _
  have f3 : fld b 3 < 256 ^ 2 := valN_lt b 2 _
  have f8 : fld b 8 < 256 ^ 1 := valN_lt b 1 _
  have f9 : fld b 9 < 256 ^ 1 := valN_lt b 1 _
  have f10 : fld b 10 < 256 ^ 1 := valN_lt b 1 _
  have r5 := of_yes h5
  have r6 := of_yes h6
  have q5 : fld b 5 < 9218868437227405312 := of_decide_eq_true h5
  have q6 : fld b 6 < 9218868437227405312 := of_decide_eq_true h6
  constructor <;> unfold evD <;> dsimp only <;> omega
theorem ev0_fit : ev0.Fit := by constructor <;> decide
theorem fit_okC {b : ByteArray} (h : okC b = true) : (cmD b).Fit := by
  unfold okC at h
  simp only [Bool.and_eq_true] at h
  have v1 : valN b 1 4 < 256 ^ 4 := valN_lt b 4 _
  have v5 : valN b 5 4 < 256 ^ 4 := valN_lt b 4 _
  unfold cmD
  by_cases hu : valN b 0 1 = 1
  · rw [if_pos hu]
    exact ⟨v1, ev0_fit, v5⟩
  · rw [if_neg hu] at h ⊢
    simp only [Bool.and_eq_true] at h
    exact ⟨v1, fit_ok h.2.2.1, (by decide : (0 : Nat) < 4294967296)⟩
/-- What was decoded is encoded as it stood. -/
theorem dec_back (b : ByteArray) (hl : b.size ≤ 100000) : ∃ (e : Ev) (x : Int), (∀ W, Calls Try.prog 11 #[.string b] W fun r w' => r = .returned (.tuple #[.agg e.cells, .int .i64 x]) ∧ Below W.heap.size W w') ∧
    ((x = 0 ∧ ∀ W, Calls Try.prog 9 #[.agg e.cells] W fun r w' => r = .returned (.tuple #[.string b, .int .i64 0]) ∧ Below W.heap.size W w') ∨ x = 11) := by
  refine ⟨decE b, decX b, fun W => c_decode b W hl, ?_⟩
  cases h : okD b with
  | false => exact Or.inr (by unfold decX; simp [h])
  | true =>
    refine Or.inl ⟨by unfold decX; simp [h], fun W => ?_⟩
    have := c_encode (evD b) W (fit_ok h)
    rw [show encT (evD b) = b by unfold encT; rw [good_dec h, if_pos rfl, enc_dec h], show encX (evD b) = 0 by unfold encX; rw [good_dec h]; rfl] at this
    rwa [show decE b = evD b by unfold decE; rw [h]; rfl]
theorem open_back (b : ByteArray) (hl : b.size ≤ 100000) : ∃ (c : Cm) (x : Int), (∀ W, Calls Try.prog 19 #[.string b] W fun r w' => r = .returned (.tuple #[.agg c.cells, .int .i64 x]) ∧ Below W.heap.size W w') ∧
    ((x = 0 ∧ ∀ W, Calls Try.prog 17 #[.agg c.cells] W fun r w' => r = .returned (.tuple #[.string b, .int .i64 0]) ∧ Below W.heap.size W w') ∨ x = 11) := by
  refine ⟨opnE b, opnX b, fun W => c_open b W hl, ?_⟩
  cases h : okC b with
  | false => exact Or.inr (by unfold opnX; simp [h])
  | true =>
    obtain ⟨h1, h2⟩ := pack_opn h
    refine Or.inl ⟨by unfold opnX; simp [h], fun W => ?_⟩
    have := c_pack (cmD b) W (fit_okC h)
    rw [show packT (cmD b) = b by unfold packT; rw [h2, if_pos rfl, h1], show packX (cmD b) = 0 by unfold packX; rw [h2]; rfl] at this
    rwa [show opnE b = cmD b by unfold opnE; rw [h]; rfl]
def evW : Ev := ⟨3, 5, 7, 0, 5, 0, 0, false, 0, 0, 0⟩
def cmW : Cm := ⟨true, 9, ev0, 7⟩
theorem evW_fit : evW.Fit := by constructor <;> decide
theorem cmW_fit : cmW.Fit := ⟨by decide, by constructor <;> decide, by decide⟩
theorem evW_good : goodE evW = true := by decide
theorem evW_cells : evW.cells = #[.int .i64 3, .int .i64 5, .int .u32 7, .int .i64 0, .int .i64 5, .float .f64 0, .float .f64 0, .bool false, .int .i64 0, .int .i64 0, .int .i64 0] := rfl
theorem cmW_cells : cmW.cells = #[.bool true, .int .u32 9, .int .i64 0, .int .i64 0, .int .u32 0, .int .i64 0, .int .i64 0, .float .f64 0, .float .f64 0, .bool false, .int .i64 0, .int .i64 0, .int .i64 0, .int .u32 7] := rfl
theorem evW_enc : encT evW = encS evW ∧ encX evW = 0 := by unfold encT encX; rw [evW_good]; exact ⟨rfl, rfl⟩
theorem evW_dec : decE (encS evW) = evW ∧ decX (encS evW) = 0 := by
  obtain ⟨h1, h2⟩ := dec_enc evW_fit evW_good
  unfold decE decX
  rw [h1, h2]
  exact ⟨rfl, rfl⟩
theorem cmW_fine : fineC cmW = true := by decide
theorem cmW_pack : packT cmW = ⟨#[1, 9, 0, 0, 0, 7, 0, 0, 0]⟩ ∧ packX cmW = 0 := by
  unfold packT packX
  rw [cmW_fine]
  exact ⟨by kernel_rfl, rfl⟩
attribute [local go_sem] run_store_float'
set_option maxRecDepth 20000 in
set_option maxHeartbeats 4000000 in
theorem wakes_event (w : World) : Calls Try.prog 8 #[] w fun e w' => e = .returned (.bool true) ∧ Below w.heap.size w w' := by
  have HE : Hid (∀ W, Calls Try.prog 9 #[.agg evW.cells] W fun x w' => x = .returned (.tuple #[.string (encS evW), .int .i64 0]) ∧ Below W.heap.size W w') := fun W => by
    have := c_encode evW W evW_fit
    rwa [evW_enc.1, evW_enc.2] at this
  have HD : Hid (∀ W, Calls Try.prog 11 #[.string (encS evW)] W fun x w' => x = .returned (.tuple #[.agg evW.cells, .int .i64 0]) ∧ Below W.heap.size W w') := fun W => by
    have := c_decode (encS evW) W (by rw [enc_size]; decide)
    rwa [evW_dec.1, evW_dec.2] at this
  have HP : Hid (∀ W, Calls Try.prog 17 #[.agg cmW.cells] W fun x w' => x = .returned (.tuple #[.string ⟨#[1, 9, 0, 0, 0, 7, 0, 0, 0]⟩, .int .i64 0]) ∧ Below W.heap.size W w') := fun W => by
    have := c_pack cmW W cmW_fit
    rwa [cmW_pack.1, cmW_pack.2] at this
  have HG : Hid (∀ W, Calls Try.prog 13 #[.agg evW.cells] W fun x w' => x = .returned (.bool true) ∧ Below W.heap.size W w') := fun W => by
    have := c_good evW W evW_fit
    rwa [evW_good] at this
  have HK : Hid (∀ W, Calls Try.prog 15 #[.agg evW.cells, .agg evW.cells] W fun x w' => x = .returned (.bool true) ∧ Below W.heap.size W w') := fun W => by
    have := k_event evW evW W
    rwa [eqE_self] at this
  have hsz := enc_size evW
  have HS := Lib.hid (ev_info evW)
  have H1 := Lib.hid (ev_one evW)
  have hlen : evW.cells.size = 11 := rfl
  obtain ⟨g, wb, e1, e2, hB, hb⟩ := boxd_new w evW.cells 25
  have HB := Lib.hid hB
  have HW := Lib.hid hb
  clear hB hb
  rw [evW_cells] at e2
  rw [cmW_cells] at HP
  generalize evW.cells = C at *
  generalize encS evW = s at *
  go_enter Try.func8, Try.ntmps8
  go_upto_region 2 with fail
  rw [← e2, ← e1]
  clear e1 e2
  go_upto_region 3 with (first
    | (refine load_want (by rfl) 25 _ rfl _ rfl _ _ _ HB.out Try.underlying25 rfl HS.out ?_)
    | (go_at_call 9
       refine (HE.out wb).mono ?_
       rintro e y1 ⟨rfl, hb⟩
       have HB1 := Lib.hid (HB.out.below hb)
       have HW1 := Lib.hid (below_via HW.out hb)
       clear hb))
  go_upto_region 4 with (first
    | (go_at_call 11
       refine (HD.out y1).mono ?_
       rintro e y2 ⟨rfl, hb⟩
       have HB2 := Lib.hid (HB1.out.below hb)
       have HW2 := Lib.hid (below_via HW1.out hb)
       clear hb)
    | (refine store_row rfl 25 _ _ rfl rfl _ _ rfl rfl _ _ (heap_alloc_last _ _) HS.out (hlen.symm ▸ rfl) H1.out ?_; rw [World.setRow_alloc_new]))
  obtain ⟨g2, wc, e3, e4, hB2, hb2⟩ := boxd_new y2 C 25
  rw [← e4, ← e3]
  clear e3 e4
  have HC := Lib.hid hB2
  have HB3 := Lib.hid (HB2.out.below hb2)
  have HW3 := Lib.hid (below_via HW2.out hb2)
  clear hB2 hb2
  go_wp2_with (first
    | (go_at_call 17
       refine (HP.out wc).mono ?_
       rintro e y3 ⟨rfl, hb⟩
       have HB4 := Lib.hid (HB3.out.below hb)
       have HC4 := Lib.hid (HC.out.below hb)
       have HW4 := Lib.hid (below_via HW3.out hb)
       clear hb)
    | (go_at_call 15
       refine (HK.out y3).mono ?_
       rintro e y4 ⟨rfl, hb⟩
       have HB5 := Lib.hid (HB4.out.below hb)
       have HW5 := Lib.hid (below_via HW4.out hb)
       clear hb)
    | (go_at_call 13
       refine (HG.out y4).mono ?_
       rintro e y5 ⟨rfl, hb⟩
       have HW6 := Lib.hid (below_via HW5.out hb)
       clear hb)
    | (refine load_want (by rfl) 25 _ rfl _ rfl _ _ _ HB5.out Try.underlying25 rfl HS.out ?_)
    | (refine load_want (by rfl) 25 _ rfl _ rfl _ _ _ HB4.out Try.underlying25 rfl HS.out ?_)
    | (refine load_want (by rfl) 25 _ rfl _ rfl _ _ _ HC4.out Try.underlying25 rfl HS.out ?_))
  go_ret
  exact ⟨rfl, HW6.out⟩
end Go.Proofs.Ytcmdonckilajjaa.Event
