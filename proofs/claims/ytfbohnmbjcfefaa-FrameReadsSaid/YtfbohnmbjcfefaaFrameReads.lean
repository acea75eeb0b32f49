/- The record with which any sectors begin, by any number, or that there is none; each one's number; no condition. -/
import Derived.Test.YtfbohnmbjcfefaaShell
import Derived.Test.YtfbohnmbjcfefaaFrameWakes
import Derived.Test.YtfbohnmbjcfefaaGFr
import Derived.Deep.RegionHeld3
import Derived.Deep.DeepCutAuto
import Derived.BigFrame
namespace Go.Proofs.Ytfbohnmbjcfefaa.Law
open Go.ChangeShapes Go.WideShapes Go.ChangeAt Go.RowKit Go.Proofs.Ytfbohnmbjcfefaa.Frame Pack Crc Els

theorem u32_nat {z : Int} (h : (Lit.int .u32 z).wf = true) : ∃ n : Nat, z = n ∧ n < 4294967296 := by
  have h : 0 ≤ z ∧ z ≤ 4294967295 := by simpa [Lit.wf, IntKind.min, IntKind.max, IntKind.bits, IntKind.signed] using h
  exact ⟨z.toNat, by omega, by omega⟩
theorem i64_range {z : Int} (h : (Lit.int .i64 z).wf = true) : -9223372036854775808 ≤ z ∧ z ≤ 9223372036854775807 := by
  simpa [Lit.wf, IntKind.min, IntKind.max, IntKind.bits, IntKind.signed] using h
theorem below_new {a b : World} (h : Below a.heap.size a b) (o : Obj) : Below a.heap.size a (b.alloc o) := h.alloc h.size o
theorem fr_store {P : Program} {ops : Array Oper} {rest : List Oper} {o : Oper} {a : Act} {w : World} {Q : Exit → Act → World → Prop} (hgd : o.guard = none) (ty : TypeId) (x y : Operand) (ho : o.op = .store ty x y) (hd : o.dst = none)
    (g : Nat) (cells : Array Value) (hx : a.eval x = .pointer (some ⟨g, 0, none⟩)) (hy : a.eval y = .agg cells)
    (t : TypeId) (old : Array Value) (hg : w.heap[g]? = some (.cells old t (0, 0))) (hi : (P.info? ty).map (·.size) = some cells.size)
    (hold : old.size = cells.size) (h1 : cells.all (·.oneCell') = true)
    (h : wpList P ops Q rest a (w.setRow g cells)) : wpList P ops Q (o :: rest) a w :=
  wpList_store_row hgd ty x y ho g cells hx hy t old hg hi hold h1 (by rw [hd]; exact h)
theorem got_info (s : ByteArray) (n : Int) (b : Bool) : (Try.prog.info? 37).map (·.size) = some (#[.string s, .int .i64 n, .bool b] : Array Value).size := by
  show _ = some 3
  kernel_rfl
theorem reads_unfair (l : List ByteArray) (num : Nat) (v : Value) (w : World) (hv : Txts w w.heap.size v l) (hf : fairT l = false) :
    Calls Try.prog 4 #[v, .int .u32 (num : Nat)] w fun e w' => e = .returned (.bool true) ∧ Below w.heap.size w w' := by
  have F := r_ffair l v _ w hv
  rw [hf] at F
  obtain ⟨A, c, rfl⟩ := hv.shape
  clear hv hf
  go_enter Try.func4, Try.ntmps4
  go_wp2_with (first
    | (go_at_call 14; refine F.mono ?_; rintro e w1 ⟨rfl, rfl⟩)
    | (go_at_call 8; refine (wakes_frame _).mono ?_; rintro e w1 ⟨rfl, hb⟩; have HB := Lib.hid hb; clear hb))
  go_ret
  exact ⟨rfl, HB.out⟩
set_option maxRecDepth 20000 in
set_option maxHeartbeats 4000000 in
theorem reads_fair (l : List ByteArray) (num : Nat) (v : Value) (w : World) (hv : Txts w w.heap.size v l) (hn : num < 4294967296) (hf : fairT l = true) :
    Calls Try.prog 4 #[v, .int .u32 (num : Nat)] w fun e w' => e = .returned (.bool true) ∧ Below w.heap.size w w' := by
  have F := r_ffair l v _ w hv
  rw [hf] at F
  have HX := Lib.hid (fairT_yes hf)
  have hl3 := HX.out.1
  have HFR : Hid (∀ (v : Value) (W : World), Txts W W.heap.size v l → Calls Try.prog 15 #[v, .int .u32 (num : Nat)] W fun e w' => e = .returned (.tuple #[.string (readS l num), .int .i64 (readN l num : Nat), .bool (okR l num)]) ∧ Below W.heap.size W w') := fun v W h => f_read l num v W h hn HX.out
  have HRR : Hid (∀ (v : Value) (W : World), Txts W W.heap.size v l → Calls Try.prog 16 #[v, .int .u32 (num : Nat)] W fun e w' => e = .returned (.agg #[.string (readS l num), .int .i64 (readN l num : Nat), .bool (okR l num)]) ∧ Below W.heap.size W w') := fun v W h => r_read l num v W h hn
  generalize readS l num = S at *
  generalize ((readN l num : Nat) : Int) = N at *
  generalize okR l num = q at *
  obtain ⟨i0, hi0, hz0, hz1, hz2⟩ := str_info
  have HI := Lib.hid hi0
  have HZ0 := Lib.hid hz0
  have HZ1 := Lib.hid hz1
  have HZ2 := Lib.hid hz2
  obtain ⟨A, c, rfl, hlm, hnn, hc⟩ := hv
  have HV : Hid (Txts w w.heap.size (.slice A l.length c) l) := ⟨A, c, rfl, hlm, hnn, hc⟩
  have HC := Lib.hid hc
  have HGI : Hid (∀ s n b, (Try.prog.info? 37).map (·.size) = some (#[.string s, .int .i64 n, .bool b] : Array Value).size) := got_info
  clear hf hi0 hz0 hz1 hz2 hc hnn hlm
  go_enter Try.func4, Try.ntmps4
  go_upto_region 4 with (first
    | (go_at_call 14; refine F.mono ?_; rintro e w1 ⟨rfl, rfl⟩)
    | (at_builtin
       refine wpList_append_els rfl (.tmp 15) (.tmp 16) _ rfl w.heap.size 9 i0 (.string ⟨#[]⟩) 16 Try.underlying24 HI.out HZ0.out HZ1.out HZ2.out rfl (.slice (some ⟨w.heap.size, 0, none⟩) 0 0) 0 [] rfl
         (World.ownsRow_made w #[] 0 (Nat.le_refl _) (by simp) (by simp)) w.heap.size (.slice A l.length c) l rfl (HV.out.below (below_new (Below.refl _ _) _)) (fun y => rfl) (by unfold maxLen; omega) (by omega) (by simp) ?_
       intro v3 w3 hown hgrow
       have IN : Hid (Txts w3 w3.heap.size v3 l) := Els.of_own (base := w.heap.size) (e := 9) (n := 0 + l.length) (Nat.zero_add _) hown
       have HB3 : Hid (Below w.heap.size w w3) := (below_new (Below.refl _ _) _).grown hgrow (below_new (Below.refl _ _) _).size (fun g hg => by
         have e : w.heap.size = g := by simpa [Value.ownBlock] using hg
         omega)
       clear hown hgrow))
  obtain ⟨A3, c3, rfl, -, -, hc3⟩ := id IN.out
  have HC3 := Lib.hid hc3
  clear hc3 F
  go_upto_region 5 with (go_at_call 15
                         refine (HFR.out _ w3 IN.out).mono ?_
                         rintro e w4 ⟨rfl, hb⟩
                         have H34 := Lib.hid hb
                         have HB4 := Lib.hid (below_on HB3.out hb)
                         clear hb)
  have HV4 : Hid (Txts w4 w4.heap.size (.slice A l.length c) l) := (HV.out.below HB4.out).more HB4.out.size
  go_upto_region 6 with (first
    | (go_at_call 16
       refine (HRR.out _ w4 HV4.out).mono ?_
       rintro e w5 ⟨rfl, hb⟩
       have H35 := Lib.hid (below_on H34.out hb)
       have HB5 := Lib.hid (below_on HB4.out hb)
       clear hb)
    | (refine fr_store rfl 37 _ _ rfl rfl _ #[.string S, .int .i64 N, .bool q] rfl rfl _ _ (heap_alloc_last _ _) (HGI.out S N q) (by rfl) (by simp [Value.oneCell']) ?_; rw [World.setRow_alloc_new]))
  have HB6 := Lib.hid (below_new HB5.out (.cells #[.string S, .int .i64 N, .bool q] 37))
  have H36 := Lib.hid (below_new H35.out (.cells #[.string S, .int .i64 N, .bool q] 37))
  have GC : Hid (∀ i : Nat, (w5.alloc (.cells #[.string S, .int .i64 N, .bool q] 37)).cell? ⟨w5.heap.size, i, none⟩ = (#[.string S, .int .i64 N, .bool q] : Array Value)[i]?) := fun i => by
    simp only [World.cell?]
    rw [heap_alloc_last]
    rfl
  have GL : Hid (w5.heap.size < (w5.alloc (.cells #[.string S, .int .i64 N, .bool q] 37)).heap.size) := show _ < _ by rw [Deep.nblk_alloc]; exact Nat.lt_succ_self _
  clear HV4 H34 H35 HB4 HB5 HFR HRR HI HZ0 HZ1 HZ2 HGI
  generalize w5.alloc (.cells #[.string S, .int .i64 N, .bool q] 37) = y6 at *
  generalize w5.heap.size = g9 at *
  go_wp2_with fail
  go_loopw [10] (fun t wr => ∃ j : Nat, j ≤ l.length ∧ t = .int .i64 j ∧ Hid (Below y6.heap.size y6 wr)) (fun t _ => l.length - (intOf t).toNat)
  case atStart => exact ⟨0, Nat.zero_le _, rfl, Below.refl _ _⟩
  case round =>
    obtain ⟨j, hj, rfl, HR⟩ := hrel
    by_cases hlt : j < l.length
    · obtain ⟨b, off, rfl, hb, hcell⟩ := HC.out (by omega)
      obtain ⟨b3, off3, rfl, hb3, hcell3⟩ := HC3.out (by omega)
      obtain ⟨x, hx⟩ : ∃ x, l[j]? = some x := ⟨_, List.getElem?_eq_getElem hlt⟩
      have hxs := HX.out.2 x (List.mem_of_getElem? hx)
      have c1 : wr.cell? ⟨b, off + j, none⟩ = some (.string x) := ((below_on HB6.out HR.out).cell (p := ⟨b, off + j, none⟩) hb).trans (hcell j x hx)
      have c2 : wr.cell? ⟨b3, off3 + j, none⟩ = some (.string x) := ((below_on H36.out HR.out).cell (p := ⟨b3, off3 + j, none⟩) hb3).trans (hcell3 j x hx)
      have l1 := World.block_lt_of_cell? wr _ c1
      have l2 := World.block_lt_of_cell? wr _ c2
      have HNF := Lib.hid (f_num x wr.drew (by omega))
      have HNR : Hid (∀ W, Calls Try.prog 18 #[.string x] W fun e w' => e = .returned (.int .u32 (numV x : Nat)) ∧ ∃ n, w' = W.drewN n) := fun W => r_fnum x W
      have u0 : decide ((j : Int) < (l.length : Int)) = true := decide_eq_true (by omega)
      have j0 : (0 : Int) ≤ j := by omega
      clear hcell hcell3 hx hxs
      generalize numV x = nx at *
      go_wp2_with fail
      go_region_held3 (fun w' => w'.cell? ⟨b, off + j, none⟩ = some (.string x) ∧ w'.cell? ⟨b3, off3 + j, none⟩ = some (.string x))
        (first | exact ⟨d1, d2⟩ | exact ⟨c1, c2⟩)
        (first
          | (go_at_call 17
             refine HNF.out.mono ?_
             rintro e w7 ⟨rfl, hb7⟩
             have d1 : w7.cell? ⟨b, off + j, none⟩ = some (.string x) := (hb7.cell (p := ⟨b, off + j, none⟩) l1).trans c1
             have d2 : w7.cell? ⟨b3, off3 + j, none⟩ = some (.string x) := (hb7.cell (p := ⟨b3, off3 + j, none⟩) l2).trans c2
             have HR7 : Hid (Below y6.heap.size y6 w7) := below_on (show Below y6.heap.size y6 wr.drew from ⟨HR.out.os, HR.out.tape, HR.out.output, HR.out.size, HR.out.block⟩) hb7
             clear hb7)
          | (go_at_call 18
             refine (HNR.out _).mono ?_
             rintro e w8 ⟨rfl, m, rfl⟩))
      have HR8 : Hid (Below y6.heap.size y6 (w7.drewN m)) := show Below _ _ _ from ⟨HR7.out.os, HR7.out.tape, HR7.out.output, HR7.out.size, HR7.out.block⟩
      generalize w7.drewN m = w8 at *
      go_wp2_with fail
      go_roundw
      case rel => exact ⟨j + 1, by omega, by go_num, HR8⟩
      case measure => simp [intOf]; omega
    · obtain rfl : j = l.length := by omega
      have u0 : decide ((l.length : Int) < (l.length : Int)) = false := decide_eq_false (by omega)
      have c0 : wr.cell? ⟨g9, 0, none⟩ = some (.string S) := (HR.out.cell (p := ⟨g9, 0, none⟩) GL.out).trans (GC.out 0)
      have c1 : wr.cell? ⟨g9, 1, none⟩ = some (.int .i64 N) := (HR.out.cell (p := ⟨g9, 1, none⟩) GL.out).trans (GC.out 1)
      have c2 : wr.cell? ⟨g9, 2, none⟩ = some (.bool q) := (HR.out.cell (p := ⟨g9, 2, none⟩) GL.out).trans (GC.out 2)
      have HBB := Lib.hid (below_on HB6.out HR.out)
      go_wp2_with (go_at_call 8
                   refine (wakes_frame _).mono ?_
                   rintro e w9 ⟨rfl, hb⟩
                   have HB9 := Lib.hid (below_on HBB.out hb)
                   clear hb)
      go_ret
      exact ⟨rfl, HB9.out⟩
theorem reads_walk (l : List ByteArray) (num : Nat) (v : Value) (w : World) (hv : Txts w w.heap.size v l) (hn : num < 4294967296) :
    Calls Try.prog 4 #[v, .int .u32 (num : Nat)] w fun e w' => e = .returned (.bool true) ∧ Below w.heap.size w w' := by
  cases hf : fairT l with
  | false => exact reads_unfair l num v w hv hf
  | true => exact reads_fair l num v w hv hn hf

set_option maxRecDepth 100000 in
theorem frameReads_lifted (os : Os) (started : os.Started) (H : Type) (enc : TypeId × Value → H) :
    ReturnsInHanded {} Try.checked os 4 .any (Rows.frameReadsSpec.pre6 enc Try.prog Try.f4 Rows.frameReadsRow.domain false) (Rows.frameReadsSpec.post enc Try.prog Try.f4 false true false false) := by
  refine Shell.law_lifted (C := Try.checked) (tb := 4) (by kernel_rfl) started (by kernel_rfl) Try.func4
    (ChangeSpec.witness6 (enc := enc) (C := Try.checked) false ⟨#[], #[Value.slice none 0 0, .int .u32 0], []⟩ 8 (by kernel_rfl) (by kernel_rfl) (by kernel_rfl) (by kernel_rfl))
    (by kernel_rfl) (by kernel_rfl) rfl rfl Try.underlying4 ?_
  intro W base args ds p hval0 hA0
  have hval : ∀ (j : Nat) t v, Try.f4.params[j]? = some t → args[j]? = some v → Value.okWide Try.prog W .any base t v := hval0
  have hA : DataW.TrodAll enc Try.prog W 0 (fun _ => true) true Try.f4.params.toList args.toList ds p := hA0
  clear hval0 hA0
  rw [Try.params4] at hA hval
  obtain ⟨v0, vs0, d0, ds0, p0, q0, hargs, rfl, rfl, h0, r0⟩ := trodAll_cons hA
  obtain ⟨v1, vs1, d1, ds1, p1, q1, rfl, rfl, rfl, h1, r1⟩ := trodAll_cons r0
  obtain ⟨rfl, rfl, rfl⟩ := trodAll_nil r1
  obtain rfl : args = #[v0, v1] := by cases args; simp_all
  refine ⟨rfl, ?_⟩
  obtain ⟨l, hv0, -⟩ := open_texts Try.underlying24 Try.underlying9 (by kernel_rfl) (hval 0 24 v0 rfl rfl) h0
  obtain ⟨z1, rfl, -, -, w1⟩ := open_int Try.underlying22 (hval 1 22 v1 rfl rfl) h1
  obtain ⟨num, rfl, b1⟩ := u32_nat w1
  exact reads_walk l num v0 W hv0 b1

theorem frameReads_over : Rows.frameReadsRow.holds Try.pinned (OpenSpec.ofChange Rows.frameReadsSpec) :=
  OpenClaim.holds_of_wide 4 Try.f4 rfl rfl rfl rfl rfl rfl rfl ⟨rfl, rfl, rfl, rfl, rfl⟩ rfl rfl rfl rfl rfl (by kernel_rfl) Try.func4 (by kernel_rfl)
    (of_decide_eq_true (by kernel_rfl)) (by unfold Func.isWrapper; first | (rw [if_pos (by decide +kernel)]; kernel_rfl) | (rw [if_neg (by decide +kernel)]; exact ⟨rfl, rfl⟩))
    (fun os st H enc _ => frameReads_lifted os st H enc)

/-- The statement. -/
theorem frameReads_proved : Rows.FrameReadsSaid := frameReads_over
end Go.Proofs.Ytfbohnmbjcfefaa.Law
