/- The program's own Packer: Done. -/
import Derived.Test.YtndmimmkjccgmaaPackOwn4
import Derived.Test.YtndmimmkjccgmaaPackMath2
namespace Go.Proofs.Ytndmimmkjccgmaa.Pack
open Go.ChangeShapes Go.WideShapes Go.ChangeAt Go.RowKit

/-- A text that is copied into a row. -/
theorem copy_text {w : World} {g n o dLen dCap : Nat} {f : Nat → Value} (h : w.rowIs g 5 n f) (b : ByteArray) (hle : b.size ≤ dLen) (hfit : o + b.size ≤ n) :
    ∃ w', (Builtin.copy_ #[59, 9] 3 #[.slice (some ⟨g, o, none⟩) dLen dCap, .string b]).run Try.prog w = .ok (goInt b.size) w' ∧
      w'.rowIs g 5 n (fun i => if o ≤ i ∧ i < o + b.size then .int .u8 (byteN b (i - o) : Nat) else f i) ∧ w.grownBy w' (some g) := by
  obtain ⟨c, h1, h2, h3⟩ := h
  have hcp := Lib.run_copy_row_string (P := Try.prog) w 59 9 3 5 g o dLen dCap b c 5 Try.underlying59 (by kernel_rfl) h1 hle (by omega)
  refine ⟨_, hcp, ⟨_, setRow_heap _ _ c _ 5 (0, 0) h1, ?_, fun i hi => ?_⟩, ⟨rfl, rfl, rfl, by simp, fun k _ hne => setRow_other _ _ _ _ (fun e => hne (by rw [e]))⟩⟩
  · have hbl : (Lib.byteCells b.data.toList).length = b.size := by rw [Lib.byteCells_length, ← Lib.size_eq]
    simp only [List.size_toArray, List.length_append, List.length_take, List.length_drop, Array.length_toList, hbl]; omega
  · have hcl : c.toList.length = n := by rw [Array.length_toList]; exact h2
    have hbl : (Lib.byteCells b.data.toList).length = b.size := by rw [Lib.byteCells_length, ← Lib.size_eq]
    rw [List.getElem?_toArray]
    show _ = some (if o ≤ i ∧ i < o + b.size then Value.int .u8 (byteN b (i - o) : Nat) else f i)
    by_cases h4 : i < o
    · rw [if_neg (by omega), List.append_assoc, List.getElem?_append_left (by rw [List.length_take]; omega), List.getElem?_take_of_lt h4, ← h3 i hi]
      simp
    · by_cases h5 : i < o + b.size
      · rw [if_pos ⟨by omega, h5⟩, List.getElem?_append_left (by rw [List.length_append, List.length_take]; omega), List.getElem?_append_right (by rw [List.length_take]; omega)]
        have ho : (List.take o c.toList).length = o := by rw [List.length_take]; omega
        rw [ho]
        unfold Lib.byteCells
        rw [List.getElem?_map, List.getElem?_eq_getElem (by rw [Array.length_toList]; show i - o < b.size; omega)]
        have hi2 : i - o < b.size := by omega
        have := byteN_at hi2
        rw [← this]; rfl
      · rw [if_neg (by omega), List.getElem?_append_right (by rw [List.length_append, List.length_take]; omega), List.getElem?_drop, ← h3 i hi, Array.getElem?_toList]
        congr 1
        rw [List.length_append, List.length_take]
        omega
/-- What a row holds whose last bytes are those of s, from k on. -/
def doneCell (s : ByteArray) (k i : Nat) : Value := if i < k then .int .u8 0 else .int .u8 (byteN s i : Nat)
theorem done_text {w : World} {g : Nat} {s : ByteArray} {T : TypeId} (h : w.rowIs g T s.size (doneCell s 0)) {P : Program} (src dst : TypeId) (hs : P.underlying src = some (.slice T)) (he : P.underlying T = some (.int .u8)) (hd : P.underlying dst = some .string) :
    (convert src dst (.slice (some ⟨g, 0, none⟩) s.size s.size)).run P w = .ok (.string s) w := by
  have hl : s.data.toList.length = s.size := by rw [Array.length_toList]; rfl
  have := run_convert_bytes_back (P := P) w src dst T ⟨g, 0, none⟩ s.size s.data.toList hs he hd (fun j hj => by
    rw [hl] at hj
    rw [Go.WideShapes.add_plain, Nat.zero_add, h.cell hj]
    unfold doneCell
    rw [if_neg (by omega), ← byteN_at hj]; rfl)
  rw [hl] at this
  exact this
theorem done_next {w : World} {g k : Nat} {s a b t : ByteArray} {T : TypeId} (hs : s = (a ++ b) ++ t) (hk : k = (a ++ b).size)
    (h : w.rowIs g T s.size (fun i => if a.size ≤ i ∧ i < a.size + b.size then .int .u8 (byteN b (i - a.size) : Nat) else doneCell s k i)) : w.rowIs g T s.size (doneCell s a.size) := by
  refine h.congr fun i hi => ?_
  have hab : (a ++ b).size = a.size + b.size := ByteArray.size_append
  by_cases h1 : i < a.size
  · rw [if_neg (by omega)]
    unfold doneCell
    rw [if_pos (by omega), if_pos h1]
  · by_cases h2 : i < a.size + b.size
    · rw [if_pos ⟨by omega, h2⟩]
      unfold doneCell
      rw [if_neg h1, hs, byteN_left _ _ (by omega)]
      rw [show i = a.size + (i - a.size) by omega, byteN_right]
      rw [show a.size + (i - a.size) - a.size = i - a.size by omega]
    · rw [if_neg (by omega)]
      unfold doneCell
      rw [if_neg (by omega), if_neg h1]
theorem pk_nil_done (w : World) : Calls Try.prog 14 #[.pointer none] w fun e w' => e = .returned (.tuple #[.string ⟨#[]⟩, .int .i64 1]) ∧ Below w.heap.size w w' := by
  go_enter Try.func14, Try.ntmps14
  go_wp2_with fail
  go_ret2
  exact ⟨rfl, Below.refl _ _⟩
theorem pk_done_bad (p : PSt) (g : Nat) (F : Nat → Prop) (w : World) (hp : PkAt w F g p) (he : p.e ≠ 0) :
    Calls Try.prog 14 #[.pointer (some ⟨g, 0, none⟩)] w fun e w' => e = .returned (.tuple #[.string ⟨#[]⟩, .int .i64 p.e]) ∧ Below w.heap.size w w' := by
  obtain ⟨h1, h2, L, n, h3, -⟩ := hp
  have c2 : w.cell? ⟨g, 2, none⟩ = some (.int .i64 p.e) := h3.cell (i := 2) (by omega)
  have b1 : (p.e != 0) = true := by rw [bne_iff_ne]; exact he
  clear h1 h2 h3
  go_enter Try.func14, Try.ntmps14
  go_wp2_with fail
  go_quiet (fail)
  go_wp2_with fail
  go_ret2
  exact ⟨rfl, ⟨rfl, rfl, rfl, Nat.le_refl _, fun _ _ => rfl⟩⟩
set_option maxHeartbeats 2000000 in
theorem pk_done_ok (p : PSt) (g : Nat) (F : Nat → Prop) (w : World) (hp : PkAt w F g p) (he : p.e = 0) :
    Calls Try.prog 14 #[.pointer (some ⟨g, 0, none⟩)] w fun e w' => e = .returned (.tuple #[.string p.s, .int .i64 0]) ∧ Below w.heap.size w w' := by
  have hmk := fun W : World => run_make_row' (P := Try.prog) 59 5 (.int .u8 0) 1 Try.underlying59 u8_info rfl .i64 .i64 p.s.size
  have HP := Lib.hid hp
  obtain ⟨h1, h2, L, n, h3, h4⟩ := hp
  obtain ⟨rfl, hs, ps, hps, hch⟩ := h4 he
  have hmk := hmk w (by omega) (by omega)
  have c0 : w.cell? ⟨g, 0, none⟩ = some (.pointer L) := h3.cell (i := 0) (by omega)
  have c1 : w.cell? ⟨g, 1, none⟩ = some (.int .i64 (p.s.size : Int)) := h3.cell (i := 1) (by omega)
  have c2 : w.cell? ⟨g, 2, none⟩ = some (.int .i64 p.e) := h3.cell (i := 2) (by omega)
  have b1 : (p.e != 0) = false := by rw [he]; rfl
  have hg := h2 g h1
  have HPS := Lib.hid hps
  have H2 := Lib.hid h2
  have HCH := Lib.hid hch
  clear h1 h2 h3 h4 hps hch
  go_enter Try.func14, Try.ntmps14
  go_wp2_with fail
  go_loopw [5, 6] (fun t u wr => ∃ (rest : List ByteArray) (A : Option Addr), t = .int .i64 ((catR rest).size : Nat) ∧ u = .pointer A ∧ Hid (Chain wr (fun k => F k ∧ k ≠ g) A rest) ∧ Hid (wr.rowIs w.heap.size 5 p.s.size (doneCell p.s (catR rest).size)) ∧ Hid (∃ tl, p.s = catR rest ++ tl) ∧ Hid (∀ b ∈ rest, 0 < b.size) ∧ Hid (Below w.heap.size w wr)) (fun t _ _ => (intOf t).toNat)
  case atStart =>
    refine ⟨ps, L, ?_, rfl, HCH.out.keep (fun _ h => h) (fun i hi => Below.heap_alloc _ _ i (H2.out i hi.1)), (World.rowIs_made w (.int .u8 0) p.s.size 5).congr fun i hi => ?_, ⟨⟨#[]⟩, ?_⟩, HPS.out.2, below_one w _⟩
    · rw [← HPS.out.1]
    · unfold doneCell; rw [← HPS.out.1, if_pos hi]
    · rw [← HPS.out.1]; apply ByteArray.ext; simp
  case round =>
    obtain ⟨rest, A, rfl, rfl, hc, hr, ht, hn, hb⟩ := hrel
    clear hmk
    rcases rest with _ | ⟨b, rest⟩
    · obtain rfl : A = none := hc.out
      have cv := done_text (P := Try.prog) hr.out 59 9 Try.underlying59 Try.underlying5 Try.underlying9
      clear c0 c1 c2 hr ht hn hc
      go_wp2_with fail
      go_ret2
      exact ⟨rfl, hb.out⟩
    · obtain ⟨k, nxt, rfl, hk, hkr, hch⟩ := hc.out
      have HKR := Lib.hid hkr
      have HNX := Lib.hid hch
      have k0 : wr.cell? ⟨k, 0, none⟩ = some (.string b) := hkr.cell (i := 0) (by omega)
      have k1 : wr.cell? ⟨k, 1, none⟩ = some (.pointer nxt) := hkr.cell (i := 1) (by omega)
      have hb0 : 0 < b.size := hn.out b (List.mem_cons_self ..)
      have hsz : (catR (b :: rest)).size = (catR rest).size + b.size := ByteArray.size_append
      have hle : (catR rest).size + b.size ≤ p.s.size := by
        obtain ⟨tl, e⟩ := ht.out
        rw [e, ByteArray.size_append, hsz]; omega
      obtain ⟨m, hm⟩ : ∃ m, m = (catR rest).size := ⟨_, rfl⟩
      rw [hsz, ← hm]
      rw [← hm] at hle
      have HM := Lib.hid hm
      clear hm
      have e1 : IntKind.i64.wrap (((m + b.size : Nat) : Int) - b.size) = m := by rw [IntWalk.i64_in _ (by omega)]; omega
      have e2 : wrap64 (((m + b.size : Nat) : Int) - b.size) = m := by unfold wrap64; omega
      have g0 : ¬ p.s.size = m := by omega
      have g1 : ((m : Nat) : Int) ≤ ((p.s.size : Nat) : Int) := by omega
      have g2 : (0 : Int) ≤ ((m : Nat) : Int) := by omega
      have hr2 : Hid (wr.drew.rowIs w.heap.size 5 p.s.size (doneCell p.s (m + b.size))) := show World.rowIs _ _ _ _ _ by have := hr.out; rw [hsz, ← HM.out] at this; exact this
      obtain ⟨w', hcp, hrow, hgr⟩ := copy_text (o := m) (dLen := p.s.size - m) (dCap := p.s.size - m) hr2.out b (by omega) (by omega)
      have hkw := H2.out k hk.1
      have hkr2 := hb.out.size
      have hkk : w'.heap[k]? = wr.heap[k]? := hgr.block k (by show k < wr.heap.size; omega) (by simp; omega)
      have j0 : w'.cell? ⟨k, 0, none⟩ = some (.string b) := (World.cell?_of_block (w := wr) (a := ⟨k, 0, none⟩) hkk).trans k0
      have j1 : w'.cell? ⟨k, 1, none⟩ = some (.pointer nxt) := (World.cell?_of_block (w := wr) (a := ⟨k, 1, none⟩) hkk).trans k1
      have HROW := Lib.hid hrow
      have HGR : Hid (wr.grownBy w' (some w.heap.size)) := show World.grownBy _ _ _ from ⟨hgr.os, hgr.tape, hgr.output, hgr.size, hgr.block⟩
      clear c0 c1 c2 hsz hc hkr hch hr hrow hgr
      go_wp2_with fail
      go_region_held3 (fun w' => w'.cell? ⟨k, 0, none⟩ = some (.string b))
        (first | exact j0 | exact k0)
        (first
          | fail)
      clear k0 k1 hcp
      go_wp2_with fail
      go_roundw
      case rel =>
        refine ⟨rest, nxt, by rw [HM.out], rfl, HNX.out.keep (fun _ h => h) (fun i hi => HGR.out.block i (by have := H2.out i hi.1; have := hb.out.size; omega) (by have := H2.out i hi.1; simp; omega)), ?_, ?_, fun x hx => hn.out x (List.mem_cons_of_mem _ hx), ?_⟩
        · obtain ⟨tl, e⟩ := ht.out
          have hq := done_next (k := m + b.size) (s := p.s) (a := catR rest) (b := b) (t := tl) e (by rw [ByteArray.size_append, HM.out]) (by rw [← HM.out]; exact HROW.out)
          exact hq
        · obtain ⟨tl, e⟩ := ht.out
          exact ⟨b ++ tl, by rw [e]; show catR rest ++ b ++ tl = _; rw [ByteArray.append_assoc]⟩
        · exact hb.out.trans ⟨HGR.out.os, HGR.out.tape, HGR.out.output, HGR.out.size, fun i hi => HGR.out.block i (by have := hb.out.size; omega) (by simp; omega)⟩
      case measure => simp [intOf]; omega
theorem pk_done (p : PSt) (g : Nat) (F : Nat → Prop) (w : World) (hp : PkAt w F g p) :
    Calls Try.prog 14 #[.pointer (some ⟨g, 0, none⟩)] w fun e w' => e = .returned (.tuple #[.string p.told, .int .i64 p.e]) ∧ ∃ F', PkAt w' F' g p ∧ Only F w w' ∧ (∀ i, F' i → F i ∨ w.heap.size ≤ i) := by
  by_cases he : p.e = 0
  · have H : p.told = p.s := by unfold PSt.told; rw [if_pos he]
    rw [H, he]
    exact (pk_done_ok p g F w hp he).mono fun e w' h => ⟨h.1, F, pk_new hp h.2, only_new h.2, fun i hi => Or.inl hi⟩
  · have H : p.told = ⟨#[]⟩ := by unfold PSt.told; rw [if_neg he]
    rw [H]
    exact (pk_done_bad p g F w hp he).mono fun e w' h => ⟨h.1, F, pk_new hp h.2, only_new h.2, fun i hi => Or.inl hi⟩
end Go.Proofs.Ytndmimmkjccgmaa.Pack
