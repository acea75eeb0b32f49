/- The program's own package journal: what it asks of a disk (fits, areas, all sectors, the greatest number), and of a head. The program's own package journal: all sectors of a disk, the greatest number, a head's number. slices.Backward at texts: what a range over it is handed. Of no one law. A region that draws, in a round of a range over a function: walked as anywhere. Of no one law. The program's own package journal: a record is written, the last sector first. The program's own package journal: what a journal holds, and what is told of it (Left, Next, Base, Records); why a text is refused; a journal begins anew. -/
import Derived.Test.YtndanhacmfhlaaaGreatGFrC
import Derived.Test.YtndanhacmfhlaaaGreatGDc
import Derived.Test.YtndanhacmfhlaaaGreatGJm
import Derived.RangeFuncNested
import Derived.RangeFuncBound
import Derived.RangeFuncCalls
import Derived.RangeFuncLeaves
import Derived.Shelf.Abstract
import Derived.Shelf.RegionOpen
import Derived.WalkKit
import Derived.OwnWalkIn
import Derived.TacticsInMore
import Derived.LoopNIn
import Derived.LoopIn
import Derived.Lib.Hide
import Derived.Test.YtndanhacmfhlaaaGreatProg
import Derived.OrdersIn
import Derived.TacticsIn
import Derived.Deep.RegionHeld3
namespace Go.Proofs.YtndanhacmfhlaaaGreat.Jour
open Go.ChangeShapes Go.WideShapes Go.ChangeAt Go.RowKit Go.Deep Els Go.Proofs.YtndanhacmfhlaaaGreat.Frame Disk

theorem s_size (q : DSt) (g b : Nat) (w : World) (h : Dk w g b q) : Calls Tryz.prog 59 #[.pointer (some ⟨g, 0, none⟩)] w fun e w' => e = .returned (.int .i64 q.S.length) ∧ w = w' := by
  obtain ⟨a0, -, -, -, -, -, -, -⟩ := dk_cells h
  clear h
  go_enter Tryz.func59, Tryz.ntmps59
  go_wp2_with fail
  go_ret
  exact ⟨rfl, rfl⟩
theorem j_fits (q : DSt) (g b : Nat) (w : World) (h : Dk w g b q) (hl : q.S.length ≤ 4096) :
    Calls Tryz.prog 32 #[.pointer (some ⟨g, 0, none⟩)] w fun e w' => e = .returned (.bool (fitsD q)) ∧ w = w' := by
  have SZ := Lib.hid (s_size q g b w h)
  have HF : Hid (fitsD q = (decide (8 ≤ q.S.length) && decide (q.S.length % 2 = 0))) := show _ = _ by unfold fitsD; exact Bool.decide_and ..
  clear h
  generalize fitsD q = R at *
  generalize q.S.length = n at *
  by_cases h8 : 8 ≤ n
  · have t1 : decide (8 ≤ (n : Int)) = true := decide_eq_true (by omega)
    by_cases h2 : n % 2 = 0
    · have t2 : ((n : Int) % 2 == 0) = true := by rw [beq_iff_eq]; omega
      rw [decide_eq_true h8, decide_eq_true h2] at HF
      obtain rfl : R = true := HF.out
      clear h2
      go_enter Tryz.func32, Tryz.ntmps32
      go_wp2_with fail
      refine SZ.out.mono ?_
      rintro e w1 ⟨rfl, rfl⟩
      go_wp2_with fail
      refine SZ.out.mono ?_
      rintro e w1 ⟨rfl, rfl⟩
      go_wp2_with fail
      go_ret
      exact ⟨rfl, rfl⟩
    · have t2 : ((n : Int) % 2 == 0) = false := by rw [beq_eq_false_iff_ne]; omega
      rw [decide_eq_false h2, Bool.and_false] at HF
      obtain rfl : R = false := HF.out
      clear h2
      go_enter Tryz.func32, Tryz.ntmps32
      go_wp2_with fail
      refine SZ.out.mono ?_
      rintro e w1 ⟨rfl, rfl⟩
      go_wp2_with fail
      refine SZ.out.mono ?_
      rintro e w1 ⟨rfl, rfl⟩
      go_wp2_with fail
      go_ret
      exact ⟨rfl, rfl⟩
  · have t1 : decide (8 ≤ (n : Int)) = false := decide_eq_false (by omega)
    rw [decide_eq_false h8, Bool.false_and] at HF
    obtain rfl : R = false := HF.out
    go_enter Tryz.func32, Tryz.ntmps32
    go_wp2_with fail
    refine SZ.out.mono ?_
    rintro e w1 ⟨rfl, rfl⟩
    go_wp2_with fail
    go_ret
    exact ⟨rfl, rfl⟩
theorem j_fits_nil (w : World) : Calls Tryz.prog 32 #[.pointer none] w fun e w' => e = .returned (.bool false) ∧ Below w.heap.size w w' := by
  have SZ := Lib.hid (Disk.k_nil_size w)
  go_enter Tryz.func32, Tryz.ntmps32
  go_wp2_with fail
  refine SZ.out.mono ?_
  rintro e w1 ⟨rfl, hb⟩
  have HB := Lib.hid hb
  clear hb
  go_wp2_with fail
  go_ret
  exact ⟨rfl, HB.out⟩
theorem j_room (q : DSt) (g b : Nat) (w : World) (h : Dk w g b q) (hl : q.S.length ≤ 4096) (h2 : 2 ≤ q.S.length) :
    Calls Tryz.prog 34 #[.pointer (some ⟨g, 0, none⟩)] w fun e w' => e = .returned (.int .i64 (roomD q : Nat)) ∧ w = w' := by
  have SZ := Lib.hid (s_size q g b w h)
  have HR : Hid (roomD q = (q.S.length - 2) / 2) := show _ = _ from rfl
  generalize roomD q = R at *
  have i1 : IntKind.i64.wrap ((q.S.length : Int) - 2) = ((q.S.length - 2 : Nat) : Int) := by rw [IntWalk.i64_in _ (by omega)]; omega
  clear h
  generalize q.S.length = n at *
  have x1 : Int.tdiv ((n - 2 : Nat) : Int) 2 = (((n - 2) / 2 : Nat) : Int) := rfl
  have i2 : IntKind.i64.wrap (((n - 2) / 2 : Nat) : Int) = (((n - 2) / 2 : Nat) : Int) := IntWalk.i64_in _ (by omega)
  obtain ⟨z, hz⟩ : ∃ z, n - 2 = z := ⟨_, rfl⟩
  rw [hz] at i1 x1 i2
  have HR2 : Hid (R = z / 2) := show _ = _ by rw [HR.out, hz]
  clear hl hz HR h2
  obtain ⟨y, hy⟩ : ∃ y, z / 2 = y := ⟨_, rfl⟩
  rw [hy] at HR2 x1 i2
  obtain rfl : R = y := HR2.out
  clear hy HR2
  go_enter Tryz.func34, Tryz.ntmps34
  go_wp2_with fail
  refine SZ.out.mono ?_
  rintro e w1 ⟨rfl, rfl⟩
  go_wp2_with fail
  go_ret
  exact ⟨rfl, rfl⟩
theorem j_start (q : DSt) (g b a : Nat) (w : World) (h : Dk w g b q) (hl : q.S.length ≤ 4096) (h2 : 2 ≤ q.S.length) (ha : a ≤ 1) :
    Calls Tryz.prog 49 #[.pointer (some ⟨g, 0, none⟩), .int .i64 (a : Nat)] w fun e w' => e = .returned (.int .i64 (startD q a : Nat)) ∧ w = w' := by
  have RM := Lib.hid (j_room q g b w h hl h2)
  have hb : roomD q ≤ 4096 := by unfold roomD; omega
  have hab : a * roomD q ≤ 4096 := by
    rcases Nat.le_one_iff_eq_zero_or_eq_one.1 ha with rfl | rfl <;> omega
  have HS : Hid (startD q a = 2 + a * roomD q) := show _ = _ from rfl
  generalize startD q a = R at *
  generalize roomD q = y at *
  obtain ⟨z, hz⟩ : ∃ z, a * y = z := ⟨_, rfl⟩
  rw [hz] at HS hab
  have i1 : IntKind.i64.wrap ((a : Int) * (y : Int)) = (z : Nat) := by
    rw [← hz, Int.natCast_mul]
    exact IntWalk.i64_in _ (by rw [← Int.natCast_mul, hz]; omega)
  have i2 : IntKind.i64.wrap (2 + (z : Int)) = ((2 + z : Nat) : Int) := by rw [IntWalk.i64_in _ (by omega)]; omega
  have hc : (a : Int) * (y : Int) = (z : Nat) := by rw [← hz, Int.natCast_mul]
  obtain rfl : R = 2 + z := HS.out
  clear hz HS h
  go_enter Tryz.func49, Tryz.ntmps49
  go_wp2_with fail
  refine RM.out.mono ?_
  rintro e w1 ⟨rfl, rfl⟩
  go_wp2_with fail
  go_ret
  exact ⟨rfl, rfl⟩
/-- Why a text does not go into so many sectors. -/
def tooE (n : Nat) (room : Int) : Int := if 60000 < n then 2 else if room < sizeN n then 73 else 0
theorem j_tooLong (s : ByteArray) (room : Int) (w : World) (hs : s.size ≤ 9223372036854775807) (_hr : -9223372036854775808 ≤ room ∧ room ≤ 9223372036854775807) :
    Calls Tryz.prog 33 #[.string s, .int .i64 room] w fun e w' => e = .returned (.int .i64 (tooE s.size room)) ∧ Below w.heap.size w w' := by
  by_cases h1 : 60000 < s.size
  · have t1 : decide ((60000 : Int) < s.size) = true := decide_eq_true (by omega)
    rw [show tooE s.size room = 2 by unfold tooE; rw [if_pos h1]]
    clear h1
    go_enter Tryz.func33, Tryz.ntmps33
    go_wp2_with fail
    go_ret
    exact ⟨rfl, Below.refl _ _⟩
  · have t1 : decide ((60000 : Int) < s.size) = false := decide_eq_false (by omega)
    have SZ : Hid (∀ W, Calls Tryz.prog 51 #[.int .i64 (s.size : Nat)] W fun e w' => e = .returned (.int .i64 (sizeN s.size : Nat)) ∧ Below W.heap.size W w') := fun W => by
      have h := f_size (s.size : Int) W (by omega)
      rwa [show sizeV (s.size : Int) = (sizeN s.size : Nat) by unfold sizeV; rw [if_pos (by omega), Int.toNat_natCast]] at h
    by_cases h2 : room < sizeN s.size
    · have t2 : decide (room < (sizeN s.size : Int)) = true := decide_eq_true h2
      rw [show tooE s.size room = 73 by unfold tooE; rw [if_neg h1, if_pos h2]]
      clear h1 h2
      generalize sizeN s.size = z at *
      go_enter Tryz.func33, Tryz.ntmps33
      go_wp2_with fail
      refine (SZ.out w).mono ?_
      rintro e w1 ⟨rfl, hb⟩
      have HB := Lib.hid hb
      clear hb
      go_wp2_with fail
      go_ret
      exact ⟨rfl, HB.out⟩
    · have t2 : decide (room < (sizeN s.size : Int)) = false := decide_eq_false h2
      rw [show tooE s.size room = 0 by unfold tooE; rw [if_neg h1, if_neg h2]]
      clear h1 h2
      generalize sizeN s.size = z at *
      go_enter Tryz.func33, Tryz.ntmps33
      go_wp2_with fail
      refine (SZ.out w).mono ?_
      rintro e w1 ⟨rfl, hb⟩
      have HB := Lib.hid hb
      clear hb
      go_wp2_with fail
      go_ret
      exact ⟨rfl, HB.out⟩
theorem jone_byte (a : Nat) (ha : a < 256) (W : World) : (convert 66 9 (.slice (some ⟨W.heap.size, 0, none⟩) 1 1)).run Tryz.prog (W.alloc (.cells #[.int .u8 (a : Nat)] 5)) = .ok (.string ⟨#[UInt8.ofNat a]⟩) (W.alloc (.cells #[.int .u8 (a : Nat)] 5)) := by
  have := run_convert_bytes_back (P := Tryz.prog) (W.alloc (.cells #[.int .u8 (a : Nat)] 5)) 66 9 5 ⟨W.heap.size, 0, none⟩ 1 [UInt8.ofNat a] Tryz.underlying66 Tryz.underlying5 Tryz.underlying9 (fun j hj => by
    obtain rfl : j = 0 := by have : j < 1 := hj; omega
    have e8 : (UInt8.ofNat a).toNat = a := by rw [UInt8.toNat_ofNat']; omega
    rw [Go.WideShapes.add_plain]
    show _ = some (Value.int .u8 (((UInt8.ofNat a).toNat : Nat) : Int))
    rw [e8]
    exact World.cell?_alloc_new ..)
  exact this
set_option maxRecDepth 20000 in
theorem j_head (a : Nat) (w : World) (ha : a ≤ 1) : Calls Tryz.prog 62 #[.int .i64 (a : Nat)] w fun e w' => e = .returned (.string (headB a)) ∧ Below w.heap.size w w' := by
  have HH : Hid (headB a = ⟨#[74]⟩ ++ ⟨#[UInt8.ofNat a]⟩) := show _ = _ by
    unfold headB
    apply ByteArray.ext
    rfl
  have i1 : IntKind.u8.wrap (a : Int) = (a : Nat) := by
    rcases Nat.le_one_iff_eq_zero_or_eq_one.1 ha with rfl | rfl <;> decide
  have cv := jone_byte a (by omega)
  have hz : (⟨#[UInt8.ofNat a]⟩ : ByteArray).size = 1 := rfl
  generalize headB a = R at *
  generalize (⟨#[UInt8.ofNat a]⟩ : ByteArray) = X at *
  go_enter Tryz.func62, Tryz.ntmps62
  go_wp2_with fail
  go_ret
  exact ⟨by rw [HH.out]; rfl, (Below.refl _ _).alloc (Nat.le_refl _) _⟩
end Go.Proofs.YtndanhacmfhlaaaGreat.Jour
namespace Go.Proofs.YtndanhacmfhlaaaGreat.Jour
open Go.ChangeShapes Go.WideShapes Go.ChangeAt Go.RowKit Go.Deep Els Go.Proofs.YtndanhacmfhlaaaGreat.Frame Disk

theorem below_new {a b : World} (h : Below a.heap.size a b) (o : Obj) : Below a.heap.size a (b.alloc o) := h.alloc h.size o
/-- A row of a disk's sectors of which the first n are read. -/
def sctRow (q : DSt) (n i : Nat) : Value := if i < n then .string (q.S.getD i none_) else .string ⟨#[]⟩
theorem sctRow_step {w : World} {r T n k : Nat} {q : DSt} (h : w.rowIs r T k (fun j => if j = n then .string (q.S.getD n none_) else sctRow q n j)) : w.rowIs r T k (sctRow q (n + 1)) :=
  h.congr fun j _ => by
    unfold sctRow
    by_cases h1 : j = n
    · rw [if_pos h1, if_pos (by omega), h1]
    · rw [if_neg h1]
      by_cases h2 : j < n
      · rw [if_pos h2, if_pos (by omega)]
      · rw [if_neg h2, if_neg (by omega)]
/-- In a row of its own stand all sectors of a disk. -/
def SctAt (w : World) (r : Nat) (q : DSt) : Prop := w.rowIs r 9 q.S.length (fun i => .string (q.S.getD i none_))
theorem sctRow_all {w : World} {r : Nat} {q : DSt} (h : w.rowIs r 9 q.S.length (sctRow q q.S.length)) : SctAt w r q :=
  h.congr fun j hj => by unfold sctRow; rw [if_pos hj]
def F2 (g b : Nat) (i : Nat) : Prop := i = g ∨ i = b
theorem j_read (q : DSt) (g b i : Nat) (w : World) (h : Dk w g b q) (hi : i < 100000) :
    Calls Tryz.prog 60 #[.pointer (some ⟨g, 0, none⟩), .int .i64 (i : Nat)] w fun e w' => e = .returned (.tuple #[.string (q.readS i), .int .i64 (q.readE i)]) ∧ Dk w' g b q ∧ OnlyF (F2 g b) w w' :=
  (d_read q (F2 g b) g b i w (fun _ => Iff.rfl) h (by omega)).mono fun _ _ h => h
theorem readE_dead {q : DSt} (h : q.dead = true) (i : Int) : q.readE i = 74 := by unfold DSt.readE; rw [if_pos h]
theorem read_at {q : DSt} (h : q.dead = false) {i : Nat} (hi : i < q.S.length) : q.readE i = 0 ∧ q.readS i = q.S.getD i none_ := by
  have hh : q.has (i : Nat) = true := has_iff.2 (by omega)
  refine ⟨by unfold DSt.readE; rw [if_neg (by rw [h]; decide), if_pos hh], ?_⟩
  unfold DSt.readS
  rw [if_pos ⟨h, hh⟩]
  rfl
set_option maxRecDepth 20000 in
set_option maxHeartbeats 1000000 in
theorem j_sectors_dead (q : DSt) (g b : Nat) (w : World) (h : Dk w g b q) (hl : q.S.length ≤ 4096) (h1 : 1 ≤ q.S.length) (hd : q.dead = true) :
    Calls Tryz.prog 35 #[.pointer (some ⟨g, 0, none⟩)] w fun e w' => e = .returned (.tuple #[.slice none 0 0, .int .i64 74]) ∧ Dk w' g b q ∧ OnlyF (F2 g b) w w' := by
  have SZ := Lib.hid (s_size q g b w h)
  have H := Lib.hid h
  have RD : Hid (∀ W, Dk W g b q → Calls Tryz.prog 60 #[.pointer (some ⟨g, 0, none⟩), .int .i64 (0 : Nat)] W fun e w' => e = .returned (.tuple #[.string (q.readS (0 : Nat)), .int .i64 74]) ∧ Dk w' g b q ∧ OnlyF (F2 g b) W w') := fun W hW => by
    have := j_read q g b 0 W hW (by omega)
    rwa [readE_dead hd] at this
  generalize q.readS (0 : Nat) = x at *
  have hmk := fun W : World => run_make_row' (P := Tryz.prog) 50 9 (.string ⟨#[]⟩) 16 Tryz.underlying50 txt_info rfl .i64 .i64 q.S.length (by omega) (by omega) W
  have t1 : decide (0 < q.S.length) = true := decide_eq_true (by omega)
  clear h hd
  generalize q.S.length = n at *
  go_enter Tryz.func35, Tryz.ntmps35
  go_wp2_with fail
  refine SZ.out.mono ?_
  rintro e w1 ⟨rfl, rfl⟩
  go_wp2_with fail
  have GG : ∃ r, r = w.heap.size := ⟨_, rfl⟩
  have HB := Lib.hid ((Below.refl w.heap.size w).alloc (Nat.le_refl _) (.cells (madeCells #[.string ⟨#[]⟩] n) 9))
  generalize w.alloc (.cells (madeCells #[.string ⟨#[]⟩] n) 9) = w3 at *
  have D3 := Lib.hid (H.out.keep (HB.out.block g H.out.lt.1) (HB.out.block b H.out.lt.2))
  obtain ⟨r, hr⟩ := GG
  rw [← hr]
  clear hmk hr
  go_loopw [13] (fun t wr => t = .int .i64 0 ∧ wr = w3) (fun _ _ => 0)
  case atStart => exact ⟨rfl, rfl⟩
  case round =>
    obtain ⟨rfl, rfl⟩ := hrel
    go_wp2_with fail
    refine (RD.out _ D3.out).mono ?_
    rintro e w4 ⟨rfl, hd4, ho4⟩
    have HD4 := Lib.hid hd4
    have HO4 := Lib.hid ho4
    clear hd4 ho4
    go_wp2_with fail
    go_ret2
    exact ⟨rfl, HD4.out, (OnlyF.of_below HB.out).trans HO4.out⟩
set_option maxRecDepth 20000 in
set_option maxHeartbeats 1000000 in
theorem j_sectors (q : DSt) (g b : Nat) (w : World) (h : Dk w g b q) (hl : q.S.length ≤ 4096) (h1 : 1 ≤ q.S.length) (hd : q.dead = false) :
    Calls Tryz.prog 35 #[.pointer (some ⟨g, 0, none⟩)] w fun e w' => ∃ r, e = .returned (.tuple #[.slice (some ⟨r, 0, none⟩) q.S.length q.S.length, .int .i64 0]) ∧ SctAt w' r q ∧ w.heap.size ≤ r ∧ Dk w' g b q ∧ OnlyF (F2 g b) w w' := by
  have SZ := Lib.hid (s_size q g b w h)
  have H := Lib.hid h
  have RD : Hid (∀ W i, i < q.S.length → Dk W g b q → Calls Tryz.prog 60 #[.pointer (some ⟨g, 0, none⟩), .int .i64 (i : Nat)] W fun e w' => e = .returned (.tuple #[.string (q.S.getD i none_), .int .i64 0]) ∧ Dk w' g b q ∧ OnlyF (F2 g b) W w') := fun W i hi hW => by
    have := j_read q g b i W hW (by omega)
    rwa [(read_at hd hi).1, (read_at hd hi).2] at this
  have HE : Hid (∀ W r, W.rowIs r 9 q.S.length (sctRow q q.S.length) → SctAt W r q) := fun W r h => sctRow_all h
  have HST : Hid (∀ (W : World) (r i : Nat), W.rowIs r 9 q.S.length (sctRow q i) → (W.setCell ⟨r, i, none⟩ (.string (q.S.getD i none_))).rowIs r 9 q.S.length (sctRow q (i + 1))) := fun W r i h => sctRow_step (h.set i _)
  have hmk := fun W : World => run_make_row' (P := Tryz.prog) 50 9 (.string ⟨#[]⟩) 16 Tryz.underlying50 txt_info rfl .i64 .i64 q.S.length (by omega) (by omega) W
  clear h hd
  generalize q.S.length = n at *
  go_enter Tryz.func35, Tryz.ntmps35
  go_wp2_with fail
  refine SZ.out.mono ?_
  rintro e w1 ⟨rfl, rfl⟩
  go_wp2_with fail
  have GG : ∃ r, r = w.heap.size := ⟨_, rfl⟩
  have HR0 := Lib.hid (World.rowIs_made w (.string ⟨#[]⟩) n 9)
  have HB := Lib.hid ((Below.refl w.heap.size w).alloc (Nat.le_refl _) (.cells (madeCells #[.string ⟨#[]⟩] n) 9))
  generalize w.alloc (.cells (madeCells #[.string ⟨#[]⟩] n) 9) = w3 at *
  have D3 := Lib.hid (H.out.keep (HB.out.block g H.out.lt.1) (HB.out.block b H.out.lt.2))
  obtain ⟨r, hr⟩ := GG
  rw [← hr] at HR0 ⊢
  have hrw : w.heap.size ≤ r := by omega
  have hrg : ¬ F2 g b r := fun e => by
    have := H.out.lt
    rcases e with e | e <;> omega
  clear hmk hr
  go_loopw [13] (fun t wr => ∃ i : Nat, i ≤ n ∧ t = .int .i64 i ∧ Hid (wr.rowIs r 9 n (sctRow q i)) ∧ Hid (Dk wr g b q) ∧ Hid (OnlyF (F2 g b) w wr)) (fun t _ => n - (intOf t).toNat)
  case atStart => exact ⟨0, Nat.zero_le _, rfl, (HR0.out.congr fun i _ => rfl : World.rowIs _ _ _ _ _), D3, OnlyF.of_below HB.out⟩
  case round =>
    obtain ⟨i, hi, rfl, HR, HD, HO⟩ := hrel
    by_cases hlt : i < n
    · have t3 : decide ((i : Int) < (n : Int)) = true := decide_eq_true (by omega)
      have HX := Lib.hid (HST.out · r i)
      have RI : Hid (Calls _ _ _ _ _) := RD.out wr i hlt HD.out
      generalize q.S.getD i none_ = x at *
      go_wp2_with fail
      refine RI.out.mono ?_
      rintro e w4 ⟨rfl, hd4, ho4⟩
      have hr4 := HR.out.of_block (ho4.block r HR.out.lt hrg)
      have HR4 := Lib.hid hr4
      have HD4 := Lib.hid hd4
      have HO4 := Lib.hid (HO.out.trans ho4)
      have hp := hr4.cell hlt
      have hf := hr4.frozen i
      have ho := hr4.lt
      clear hd4 ho4 hr4 RI
      go_wp2_with fail
      go_roundw
      case rel => exact ⟨i + 1, by omega, by go_num, HX.out _ HR4.out, HD4.out.keep (blk_setCell_other _ _ _ _ (fun e => hrg (Or.inl e.symm))) (blk_setCell_other _ _ _ _ (fun e => hrg (Or.inr e.symm))), ⟨HO4.out.os, HO4.out.tape, HO4.out.output, by rw [nblk_setCell]; exact HO4.out.size, fun k hk hf => (blk_setCell_other _ _ _ _ (by show k ≠ r; omega)).trans (HO4.out.block k hk hf)⟩⟩
      case measure => simp [intOf]; omega
    · obtain rfl : i = n := by omega
      have t3 : decide ((i : Int) < (i : Int)) = false := decide_eq_false (by omega)
      have HT := Lib.hid (HE.out wr r HR.out)
      go_wp2_with fail
      go_ret2
      exact ⟨r, rfl, HT.out, hrw, HD.out, HO.out⟩
theorem topK_lt (q : DSt) : ∀ k, topK q k < 4294967296
  | 0 => (by decide : (0 : Nat) < 4294967296)
  | k + 1 => by
    have := topK_lt q k
    have := numV_lt (q.S.getD k none_)
    show max _ _ < _
    omega
set_option maxRecDepth 20000 in
set_option maxHeartbeats 1000000 in
theorem j_greatest (q : DSt) (r : Nat) (w : World) (h : SctAt w r q) (hl : q.S.length ≤ 4096) (hs : ∀ i, i < q.S.length → (q.S.getD i none_).size ≤ 1000) :
    Calls Tryz.prog 36 #[.slice (some ⟨r, 0, none⟩) q.S.length q.S.length] w fun e w' => e = .returned (.int .u32 (topN q : Nat)) ∧ Below w.heap.size w w' := by
  have NM : Hid (∀ W i, i < q.S.length → Calls Tryz.prog 61 #[.string (q.S.getD i none_)] W fun e w' => e = .returned (.int .u32 (numV (q.S.getD i none_) : Nat)) ∧ Below W.heap.size W w') := fun W i hi => f_num _ W (by have := hs i hi; omega)
  have HK : Hid (∀ k, topK q (k + 1) = max (topK q k) (numV (q.S.getD k none_))) := fun k => rfl
  have HN : Hid (topN q = topK q q.S.length) := show _ = _ from rfl
  have hr := h.lt
  have H := Lib.hid h
  unfold SctAt at H
  clear h hs
  generalize topN q = T at *
  generalize q.S.length = n at *
  go_enter Tryz.func36, Tryz.ntmps36
  go_wp2_with fail
  go_loopw [3, 8] (fun u t wr => ∃ i : Nat, i ≤ n ∧ u = .int .u32 (topK q i : Nat) ∧ t = .int .i64 i ∧ Hid (Below w.heap.size w wr)) (fun _ t _ => n - (intOf t).toNat)
  case atStart => exact ⟨0, Nat.zero_le _, rfl, rfl, Below.refl _ _⟩
  case round =>
    obtain ⟨i, hi, rfl, rfl, HB⟩ := hrel
    by_cases hlt : i < n
    · have t3 : decide ((i : Int) < (n : Int)) = true := decide_eq_true (by omega)
      have hc : wr.cell? ⟨r, i, none⟩ = some (.string (q.S.getD i none_)) := (H.out.of_block (HB.out.block r hr)).cell hlt
      have NI : Hid (Calls _ _ _ _ _) := NM.out wr i hlt
      have b1 := topK_lt q i
      have b2 := numV_lt (q.S.getD i none_)
      have HM : Hid (topK q (i + 1) = max (topK q i) (numV (q.S.getD i none_))) := HK.out i
      generalize numV (q.S.getD i none_) = y at *
      generalize q.S.getD i none_ = x at *
      clear HK
      go_wp2_with fail
      refine NI.out.mono ?_
      rintro e w4 ⟨rfl, hb⟩
      have HB4 := Lib.hid (HB.out.trans (hb.mono HB.out.size))
      clear hb NI
      go_wp2_with fail
      go_roundw
      case rel => exact ⟨i + 1, by omega, by rw [HM.out]; congr 1; omega, by go_num, HB4⟩
      case measure => simp [intOf]; omega
    · obtain rfl : i = n := by omega
      have t3 : decide ((i : Int) < (i : Int)) = false := decide_eq_false (by omega)
      obtain rfl : T = topK q i := HN.out
      go_wp2_with fail
      go_ret
      exact ⟨rfl, HB.out⟩
/-- The number of an area's head; 0, if the sector is none of it. -/
def headNum (x : ByteArray) (a : Nat) : Nat := if (okR [x] (numV x) && (decide (readS [x] (numV x) = headB a) && decide (numV x ≤ most))) = true then numV x else 0
theorem jone_text (w : World) (x : ByteArray) : Txts (w.alloc (.cells #[.string x] 9)) (w.alloc (.cells #[.string x] 9)).heap.size (.slice (some ⟨w.heap.size, 0, none⟩) 1 1) [x] :=
  ⟨_, _, rfl, (show (1 : Nat) ≤ 9223372036854775807 by decide), ⟨fun h => (by cases h), Nat.le_refl _⟩, fun _ => ⟨w.heap.size, 0, rfl, by simp, fun i y hi => by
    have hlt : i < 1 := (List.getElem?_eq_some_iff.1 hi).1
    obtain rfl : i = 0 := by omega
    injection hi with hi
    rw [← hi]
    exact World.cell?_alloc_new ..⟩⟩
set_option maxRecDepth 20000 in
set_option maxHeartbeats 1000000 in
theorem j_headNum (x : ByteArray) (a : Nat) (w : World) (ha : a ≤ 1) (hx : x.size ≤ 1000) :
    Calls Tryz.prog 52 #[.string x, .int .i64 (a : Nat)] w fun e w' => e = .returned (.int .u32 (headNum x a : Nat)) ∧ Below w.heap.size w w' := by
  have NM := Lib.hid (f_num x w (by omega))
  have hn := numV_lt x
  have HT : Hid (∀ W, Calls Tryz.prog 62 #[.int .i64 (a : Nat)] W fun e w' => e = .returned (.string (headB a)) ∧ Below W.heap.size W w') := fun W => j_head a W ha
  have RD : Hid (∀ W v, Txts W W.heap.size v [x] → Calls Tryz.prog 68 #[v, .int .u32 (numV x : Nat)] W fun e w' => e = .returned (.tuple #[.string (readS [x] (numV x)), .int .i64 (readN [x] (numV x) : Nat), .bool (okR [x] (numV x))]) ∧ Below W.heap.size W w') := fun W v hv => f_read [x] (numV x) v W hv hn ⟨by simp, by simp; omega⟩
  have HH : Hid (headNum x a = if (okR [x] (numV x) && (decide (readS [x] (numV x) = headB a) && decide (numV x ≤ most))) = true then numV x else 0) := show _ = _ from rfl
  have HTX : Hid (∀ W : World, Txts (W.alloc (.cells #[.string x] 9)) (W.alloc (.cells #[.string x] 9)).heap.size (.slice (some ⟨W.heap.size, 0, none⟩) 1 1) [x]) := fun W => jone_text W x
  generalize headNum x a = R at *
  generalize hy1 : readS [x] (numV x) = y1 at *
  generalize readN [x] (numV x) = y2 at *
  generalize okR [x] (numV x) = y3 at *
  generalize headB a = z at *
  generalize numV x = num at *
  cases y3 with
  | false =>
    have e : R = 0 := by rw [HH.out]; rfl
    subst e
    clear hy1
    go_enter Tryz.func52, Tryz.ntmps52
    go_wp2_with fail
    refine NM.out.mono ?_
    rintro e w1 ⟨rfl, hb⟩
    have HB1 := Lib.hid hb
    have HX := Lib.hid (HTX.out w1)
    clear hb HTX HH
    go_wp2_with fail
    refine (RD.out _ _ HX.out).mono ?_
    rintro e w2 ⟨rfl, hb⟩
    have HB2 := Lib.hid ((below_new HB1.out _).trans (hb.mono (below_new HB1.out _).size))
    clear hb
    go_wp2_with fail
    go_ret
    exact ⟨rfl, HB2.out⟩
  | true =>
    by_cases h1 : y1 = z
    · subst h1
      have q1 : (y1.toList == y1.toList) = true := by simp
      by_cases h2 : num ≤ most
      · have e : R = num := by rw [HH.out, if_pos (by simp [h2])]
        subst e
        unfold most at h2
        have t2 : decide ((2147483648 + 1000000 : Int) < (R : Int)) = false := decide_eq_false (by omega)
        have t3 : decide ((2148483648 : Int) < (R : Int)) = false := decide_eq_false (by omega)
        clear hy1 h2
        go_enter Tryz.func52, Tryz.ntmps52
        go_wp2_with fail
        refine NM.out.mono ?_
        rintro e w1 ⟨rfl, hb⟩
        have HB1 := Lib.hid hb
        have HX := Lib.hid (HTX.out w1)
        clear hb HTX HH
        go_wp2_with fail
        refine (RD.out _ _ HX.out).mono ?_
        rintro e w2 ⟨rfl, hb⟩
        have HB2 := Lib.hid ((below_new HB1.out _).trans (hb.mono (below_new HB1.out _).size))
        clear hb
        go_wp2_with fail
        refine (HT.out w2).mono ?_
        rintro e w3 ⟨rfl, hb⟩
        have HB3 := Lib.hid (HB2.out.trans (hb.mono HB2.out.size))
        clear hb
        go_wp2_with fail
        go_ret
        exact ⟨rfl, HB3.out⟩
      · have e : R = 0 := by rw [HH.out, if_neg (by simp [h2])]
        subst e
        unfold most at h2
        have t3 : decide ((2148483648 : Int) < (num : Int)) = true := decide_eq_true (by omega)
        clear hy1 h2
        go_enter Tryz.func52, Tryz.ntmps52
        go_wp2_with fail
        refine NM.out.mono ?_
        rintro e w1 ⟨rfl, hb⟩
        have HB1 := Lib.hid hb
        have HX := Lib.hid (HTX.out w1)
        clear hb HTX HH
        go_wp2_with fail
        refine (RD.out _ _ HX.out).mono ?_
        rintro e w2 ⟨rfl, hb⟩
        have HB2 := Lib.hid ((below_new HB1.out _).trans (hb.mono (below_new HB1.out _).size))
        clear hb
        go_wp2_with fail
        refine (HT.out w2).mono ?_
        rintro e w3 ⟨rfl, hb⟩
        have HB3 := Lib.hid (HB2.out.trans (hb.mono HB2.out.size))
        clear hb
        go_wp2_with fail
        go_ret
        exact ⟨rfl, HB3.out⟩
    · have q1 : (y1.toList == z.toList) = false := text_ne h1
      have q2 : ¬ y1.toList = z.toList := text_apart h1
      have e : R = 0 := by rw [HH.out, if_neg (by simp [h1])]
      subst e
      clear hy1 h1
      go_enter Tryz.func52, Tryz.ntmps52
      go_wp2_with fail
      refine NM.out.mono ?_
      rintro e w1 ⟨rfl, hb⟩
      have HB1 := Lib.hid hb
      have HX := Lib.hid (HTX.out w1)
      clear hb HTX HH
      go_wp2_with fail
      refine (RD.out _ _ HX.out).mono ?_
      rintro e w2 ⟨rfl, hb⟩
      have HB2 := Lib.hid ((below_new HB1.out _).trans (hb.mono (below_new HB1.out _).size))
      clear hb
      go_wp2_with fail
      refine (HT.out w2).mono ?_
      rintro e w3 ⟨rfl, hb⟩
      have HB3 := Lib.hid (HB2.out.trans (hb.mono HB2.out.size))
      clear hb
      go_wp2_with fail
      go_ret
      exact ⟨rfl, HB3.out⟩
end Go.Proofs.YtndanhacmfhlaaaGreat.Jour
namespace Go.Proofs.YtndanhacmfhlaaaGreat.Backw
open Go.RowKit Go.Shelf

attribute [local go_sem] Oper.semAt_some

/-- What has come when k rounds are over. -/
def upto {α : Type} (f : Nat → α) (k : Nat) : List α := (List.range k).map f
theorem upto_succ {α : Type} (f : Nat → α) (k : Nat) : upto f (k + 1) = upto f k ++ [f k] := by simp [upto, List.range_succ]
theorem upto_length {α : Type} (f : Nat → α) (k : Nat) : (upto f k).length = k := by simp [upto]
/-- A place and a text. -/
abbrev Pt := { x : Nat × ByteArray // x.1 ≤ 100000 }
/-- The k-th round's place and text. -/
def nth (L : Nat → ByteArray) (n : Nat) (h : n ≤ 100000) (k : Nat) : Pt := ⟨(n - 1 - k, L (n - 1 - k)), by show n - 1 - k ≤ 100000; omega⟩
/-- These two blocks are as they were. -/
def Kept2 (b c : Nat) (W W' : World) : Prop := W'.heap[b]? = W.heap[b]? ∧ W'.heap[c]? = W.heap[c]?
theorem Kept2.refl (b c : Nat) (W : World) : Kept2 b c W W := ⟨rfl, rfl⟩
theorem Kept2.trans {b c : Nat} {W W' W'' : World} (h : Kept2 b c W W') (k : Kept2 b c W' W'') : Kept2 b c W W'' := ⟨k.1.trans h.1, k.2.trans h.2⟩
theorem Kept2.cell1 {b c i : Nat} {W W' : World} (h : Kept2 b c W W') : W'.cell? ⟨b, i, none⟩ = W.cell? ⟨b, i, none⟩ := World.cell?_of_block h.1
theorem Kept2.cell2 {b c i : Nat} {W W' : World} (h : Kept2 b c W W') : W'.cell? ⟨c, i, none⟩ = W.cell? ⟨c, i, none⟩ := World.cell?_of_block h.2
theorem kept2_b {b c : Nat} {w : World} (hb : b < w.heap.size) (hc : c < w.heap.size) (W : World) (l : Nat) (o o' : Obj) (hl : w.heap.size ≤ l) (_ : W.heap[l]? = some o) (_ : o.isCells = false) (_ : o.isWalk = false) : Kept2 b c W (W.putObj l o') :=
  ⟨World.putObj_heap_other (by omega), World.putObj_heap_other (by omega)⟩
set_option maxRecDepth 100000 in
set_option maxHeartbeats 2000000 in
theorem back1_in (F : Fence) (n : Nat) (h8 : F.fn 75) (hro : F.round = none) (hn : 1 ≤ n) (l Bs b off len cap : Nat) (L : Nat → ByteArray) (hreach : len ≤ 100000) (J Jx : List Pt → World → Prop)
    (hY : ∀ pre x W, J pre W → pre.length < len → YieldAt F (n - 1) Tryz.prog l #[.int .i64 (x.1.1 : Int), .string x.1.2] W fun e W' =>
      (e = .returned (.bool true) ∧ J (pre ++ [x]) W' ∧ Kept2 b Bs W W') ∨ (e = .returned (.bool false) ∧ Jx (pre ++ [x]) W'))
    (W : World) (hBs : W.cell? ⟨Bs, 0, none⟩ = some (.slice (some ⟨b, off, none⟩) len cap)) (hc : ∀ j, j < len → W.cell? ⟨b, off + j, none⟩ = some (.string (L j))) (h0 : J [] W) :
    CallsIn F n Tryz.prog 75 #[.func (.yield l) #[] #[], .pointer (some ⟨Bs, 0, none⟩)] W fun e W' => (∃ v, e = .returned v) ∧
      ((∃ ys, ys = upto (nth L len hreach) len ∧ J ys W') ∨ (∃ pre, (∃ k, k ≤ len ∧ pre = upto (nth L len hreach) k) ∧ Jx pre W')) := by
  refine callsIn_of_wp Tryz.func75 rfl h8 ?_ hro
  simp only [Tryz.ntmps75, List.size_toArray, List.length_cons, List.length_nil, Nat.reduceAdd, Nat.reduceSub, Array.replicate_succ, Array.replicate_zero, List.push_toArray, List.append_toArray, List.nil_append, List.cons_append]
  have i0 : wrap64 ((len : Int) - 1) = (len : Int) - 1 := IntWalk.wrap64_in _ (by omega)
  gi_wp2
  gi_loopw [3] (fun i wr => ∃ k : Nat, k ≤ len ∧ i = .int .i64 ((len : Int) - 1 - k) ∧ J (upto (nth L len hreach) k) wr ∧ Kept2 b Bs W wr)
    (fun i _ => (intOf i + 1).toNat)
  case atStart => exact ⟨0, Nat.zero_le _, by simp, h0, Kept2.refl _ _ _⟩
  case round =>
    obtain ⟨k, hk, rfl, hJs, hnx⟩ := hrel
    have hBs' := hnx.cell2.trans hBs
    by_cases hlt : k < len
    · obtain ⟨j, hj⟩ : ∃ j : Nat, len - 1 - k = j := ⟨_, rfl⟩
      have hji : (len : Int) - 1 - k = (j : Int) := by omega
      have hnth : nth L len hreach k = ⟨(j, L j), by show j ≤ 100000; omega⟩ := by unfold nth; apply Subtype.ext; show (_, _) = (_, _); rw [hj]
      have hcx : wr.cell? ⟨b, off + j, none⟩ = some (.string (L j)) := hnx.cell1.trans (hc j (by omega))
      obtain ⟨fn, tmps, assign, body, hy, hR⟩ := hY _ ⟨(j, L j), by show j ≤ 100000; omega⟩ wr hJs (by rw [upto_length]; exact hlt)
      dsimp only at hy
      rw [hji]
      have t1 : decide ((0 : Int) ≤ (j : Int)) = true := decide_eq_true (by omega)
      have hjl : j < len := by omega
      have i1 : wrap64 ((j : Int) - 1) = (j : Int) - 1 := IntWalk.wrap64_in _ (by omega)
      have HNX := Lib.hid hnx
      clear hnx
      generalize L j = x at *
      gi_wp2
      refine hR.mono ?_
      rintro e W3 (⟨rfl, hJ3, hk3⟩ | ⟨rfl, hJx3⟩)
      · gi_wp2
        go_roundw
        case rel => exact ⟨k + 1, by omega, by congr 1; omega, by rw [upto_succ, hnth]; exact hJ3, HNX.out.trans hk3⟩
        case measure => simp [intOf]
      · gi_wp2
        refine bodyPost_ret (results_none rfl _ _ _) rfl ?_
        exact ⟨⟨_, rfl⟩, .inr ⟨_, ⟨k + 1, by omega, by rw [upto_succ, hnth]⟩, hJx3⟩⟩
    · obtain rfl : k = len := by omega
      have t1 : decide ((0 : Int) ≤ (k : Int) - 1 - k) = false := decide_eq_false (by omega)
      gi_wp2
      go_end0
      exact ⟨⟨_, rfl⟩, .inl ⟨_, rfl, hJs⟩⟩
set_option maxHeartbeats 1000000 in
/-- The slice value is boxed; the function value captures the box. -/
theorem back_in (F : Fence) (n : Nat) (h6 : F.fn 66) (hro : F.round = none) (a : Option Addr) (len cap : Nat) (w : World) :
    CallsIn F n Tryz.prog 66 #[.slice a len cap] w fun e w' => e = .returned (.func (.func 75) #[] #[.pointer (some ⟨w.heap.size, 0, none⟩)]) ∧ w' = w.alloc (.cells #[.slice a len cap] 50) := by
  refine callsIn_of_wp Tryz.func66 rfl h6 ?_ hro
  simp only [Tryz.ntmps66, List.size_toArray, List.length_cons, List.length_nil, Nat.reduceAdd, Nat.reduceSub, Array.replicate_succ, Array.replicate_zero, List.push_toArray, List.append_toArray, List.nil_append, List.cons_append]
  gi_wp2
  go_ret
  exact ⟨rfl, rfl⟩
/-- All of these texts, from the last one to the first; or the first k of them. -/
theorem back_stops (F : Fence) (n : Nat) (h8 : F.fn 75) (hro : F.round = none) (hn : 1 ≤ n) (Bs b off len cap : Nat) (L : Nat → ByteArray) (hreach : len ≤ 100000) (w : World) (hBs : Bs < w.heap.size) (hb : b < w.heap.size)
    (hc : w.cell? ⟨Bs, 0, none⟩ = some (.slice (some ⟨b, off, none⟩) len cap)) (hI : ∀ j, j < len → w.cell? ⟨b, off + j, none⟩ = some (.string (L j))) :
    SeqStopsK F n Tryz.prog 75 #[.pointer (some ⟨Bs, 0, none⟩)] (fun x : Pt => #[Value.int .i64 (x.1.1 : Int), Value.string x.1.2]) (Kept2 b Bs) (fun ys => ys = upto (nth L len hreach) len)
      (fun pre => ∃ k, k ≤ len ∧ pre = upto (nth L len hreach) k) len w := fun l J Jx W hW _ _ hY h0 =>
  back1_in F n h8 hro hn l Bs b off len cap L hreach J Jx hY W ((hW.cell (p := ⟨Bs, 0, none⟩) hBs).trans hc) (fun j hj => (hW.cell (p := ⟨b, off + j, none⟩) hb).trans (hI j hj)) h0
end Go.Proofs.YtndanhacmfhlaaaGreat.Backw
namespace Go.Proofs.YtndanhacmfhlaaaGreat.InRound
open Go
variable {P : Program} {ops : Array Oper} {Q : Exit → Act → World → Prop} {md : Region.Mode} {S : World → Prop}
theorem oper_in (l n : Nat) {o : Oper} {a : Act} {w : World} {K : Act → World → Prop} (hd : ∀ c, o.op ≠ .defer c) (h : o.wp P a w K Q) : o.wpIn (Fence.wide.inRound l) n P a w K Q := by
  refine ⟨fun _ _ => trivial, ?_⟩
  rw [show (Fence.wide.inRound l).round = some l from rfl, Oper.semAt_some l _ _ hd]
  unfold Oper.wp at h
  generalize (execOp a.eval o).run P w = r at *
  cases r with
  | ok x w' =>
    cases x with
    | value v => exact h
    | skip => exact h
    | defer d => exact h
    | enter f args => exact ⟨fun h => (by cases h), CallsIn.inRound l (callsIn_wide.2 h)⟩
    | row r args => exact ⟨fun h => (by cases h), fun c cs _ => let ⟨v, w', r, s⟩ := h c cs; ⟨v, w', r, stepsIn_wide.2 s⟩⟩
    | _ => exact h.elim
  | halt x w' =>
    cases x with
    | panic v => exact h
    | _ => exact h.elim
theorem op_in (l n : Nat) (hd : ∀ (i : Nat) (o : Oper), ops[i]? = some o → ∀ c, o.op ≠ .defer c) (hL : ¬ LetsOut Q) {i : Nat} {a : Act} {w : World} {K : Act → World → Prop} (h : wpOp P ops Q i K a w) : wpOpIn (Fence.wide.inRound l) n P ops Q i K a w := by
  unfold wpOp at h
  unfold wpOpIn
  cases ho : ops[i]? with
  | none => rw [ho] at h; exact h
  | some o =>
    rw [ho] at h
    dsimp only at h ⊢
    split
    · rename_i hw
      rw [if_pos hw] at h
      exact oper_in l n (hd i o ho) (h.resolve_right fun h => hL h.2)
    · rename_i hw
      rw [if_neg hw] at h
      exact ⟨fun _ _ => trivial, h⟩
theorem any_in (l n : Nat) (hd : ∀ (i : Nat) (o : Oper), ops[i]? = some o → ∀ c, o.op ≠ .defer c) (hL : ¬ LetsOut Q) : ∀ (fuel : Nat) (listed : Array Bool) (a : Act) (w : World), wpAny P md ops Q fuel listed a w → wpAnyIn (Fence.wide.inRound l) n P md ops Q fuel listed a w
  | 0, _, _, _, h => h
  | fuel + 1, _, _, _, h => ⟨h.1, fun i hi => wpOpIn_mono (fun a w h => any_in l n hd hL fuel _ a w h) (op_in l n hd hL (h.2 i hi))⟩
def noDefer (o : Oper) : Bool := match o.op with | .defer _ => false | _ => true
theorem no_defer (h : ops.all noDefer = true) : ∀ (i : Nat) (o : Oper), ops[i]? = some o → ∀ c, o.op ≠ .defer c := by
  intro i o ho c hc
  obtain ⟨hi, he⟩ := Array.getElem?_eq_some_iff.1 ho
  have := Array.all_eq_true.1 h i hi
  rw [he] at this
  unfold noDefer at this
  rw [hc] at this
  cases this
theorem region_in {id : Nat} {a : Act} {w : World} (l n : Nat) (hm : P.follows .mixedOrders = true) (hd : ops.all noDefer = true) (hL : ¬ LetsOut Q) (hS : S w.drew)
    (h : S w.drew → wpAnyH P .any ops Q S ops.size (Array.replicate ops.size false) a w.drew) : (Code.region id ops true).wpIn (Fence.wide.inRound l) n P Q a w :=
  wpIn_region_any hm (any_in l n (no_defer hd) hL _ _ _ _ (wpAny_of_held _ _ _ _ (h hS)))
end Go.Proofs.YtndanhacmfhlaaaGreat.InRound
namespace Go.Proofs.YtndanhacmfhlaaaGreat.Jour
open Go.ChangeShapes Go.WideShapes Go.ChangeAt Go.RowKit Go.Deep Els Go.Proofs.YtndanhacmfhlaaaGreat.Frame Disk Backw

/-- One sector more is written, if none failed. -/
def wr1 (at_ : Nat) (x : DSt × Int) (p : Pt) : DSt × Int := if x.2 = 0 then (x.1.write (at_ + p.1.1 : Nat) p.1.2, x.1.writeE (at_ + p.1.1 : Nat) p.1.2) else x
def wrF (at_ : Nat) (q : DSt) (l : List Pt) : DSt × Int := l.foldl (wr1 at_) (q, 0)
theorem wrF_snoc (at_ : Nat) (q : DSt) (l : List Pt) (p : Pt) : wrF at_ q (l ++ [p]) = wr1 at_ (wrF at_ q l) p := by unfold wrF; rw [List.foldl_append]; rfl
theorem wrF_fit' {at_ k : Nat} : ∀ (l : List Pt) (m : Nat) (x : DSt × Int), x.1.Fit k m → (l.foldl (wr1 at_) x).1.Fit k (m + l.length)
  | [], m, x, h => h
  | p :: l, m, x, h => by
    have h1 : (wr1 at_ x p).1.Fit k (m + 1) := by
      unfold wr1
      split
      · exact h.write _ _
      · exact h.more (by omega)
    have := wrF_fit' (at_ := at_) l (m + 1) _ h1
    rwa [show m + 1 + l.length = m + (p :: l).length by rw [List.length_cons]; omega] at this
theorem wrF_fit {at_ : Nat} {q : DSt} {k m : Nat} (h : q.Fit k m) (l : List Pt) : (wrF at_ q l).1.Fit k (m + l.length) := wrF_fit' l m (q, 0) h
theorem wrF_upto {at_ : Nat} {q : DSt} {l : List ByteArray} (hn : l.length ≤ 100000) : ∀ k, k ≤ l.length →
    ((wrF at_ q (upto (nth (fun j => l.getD j e0) l.length hn) k)).2 = 0 → wrK l at_ (l.length - k) (wrF at_ q (upto (nth (fun j => l.getD j e0) l.length hn) k)).1 = wrK l at_ l.length q) ∧
    ((wrF at_ q (upto (nth (fun j => l.getD j e0) l.length hn) k)).2 ≠ 0 → wrF at_ q (upto (nth (fun j => l.getD j e0) l.length hn) k) = wrK l at_ l.length q)
  | 0, _ => ⟨fun _ => rfl, fun h => absurd rfl h⟩
  | k + 1, hk => by
    obtain ⟨h1, h2⟩ := wrF_upto (at_ := at_) (q := q) hn k (by omega)
    rw [upto_succ, wrF_snoc]
    generalize wrF at_ q (upto (nth (fun j => l.getD j e0) l.length hn) k) = X at *
    generalize wrK l at_ l.length q = T at *
    by_cases h0 : X.2 = 0
    · have h3 := h1 h0
      rw [show l.length - k = (l.length - (k + 1)) + 1 by omega] at h3
      unfold wrK at h3
      unfold wr1
      rw [if_pos h0]
      show (X.1.writeE (at_ + (l.length - 1 - k) : Nat) (l.getD (l.length - 1 - k) e0) = 0 → _) ∧ (X.1.writeE (at_ + (l.length - 1 - k) : Nat) (l.getD (l.length - 1 - k) e0) ≠ 0 → (X.1.write (at_ + (l.length - 1 - k) : Nat) (l.getD (l.length - 1 - k) e0), X.1.writeE (at_ + (l.length - 1 - k) : Nat) (l.getD (l.length - 1 - k) e0)) = _)
      rw [show l.length - 1 - k = l.length - (k + 1) by omega]
      constructor
      · intro h4
        rw [if_pos h4] at h3
        rw [← h3]
        show wrK l at_ _ (X.1.write (at_ + (l.length - 1 - k) : Nat) (l.getD (l.length - 1 - k) e0)) = _
        rw [show l.length - 1 - k = l.length - (k + 1) by omega]
      · intro h4
        rwa [if_neg h4] at h3
    · have e : wr1 at_ X (nth (fun j => l.getD j e0) l.length hn k) = X := by unfold wr1; rw [if_neg h0]
      rw [e]
      exact ⟨fun h => absurd h h0, h2⟩
def F3 (gj g b : Nat) (i : Nat) : Prop := i = gj ∨ i = g ∨ i = b
/-- What holds between two rounds of a write. -/
structure Mid (w : World) (g b gj B1 B2 E B at_ : Nat) (f : Nat → Value) (q : DSt) (ev : Int) (W : World) : Prop where
  dk : Dk W g b q
  row : W.rowIs gj 74 7 f
  b1 : Boxed W B1 32 (.pointer (some ⟨gj, 0, none⟩))
  b2 : Boxed W B2 3 (.int .i64 (at_ : Nat))
  e : Boxed W E 26 (.int .i64 ev)
  only : OnlyF (F3 gj g b) w W
  sz : B ≤ W.heap.size
theorem Mid.grown {w W W' : World} {g b gj B1 B2 E at_ B : Nat} {f : Nat → Value} {q : DSt} {ev : Int} {row : Option Nat} (h : Mid w g b gj B1 B2 E B at_ f q ev W) (hg : W.grownBy W' row) (hr : ∀ r, row = some r → B ≤ r) (h1 : g < B) (h2 : b < B) (h3 : gj < B) (h4 : B1 < B ∧ B2 < B) (h5 : E < B) (h6 : w.heap.size ≤ B) : Mid w g b gj B1 B2 E B at_ f q ev W' := by
  have hk : ∀ i, i < B → i < W.heap.size → W'.heap[i]? = W.heap[i]? := fun i hi hl => hg.block i hl (fun e => by have := hr i e.symm; omega)
  exact ⟨h.dk.keep (hk _ h1 h.dk.lt.1) (hk _ h2 h.dk.lt.2), h.row.of_block (hk _ h3 h.row.lt), (hk _ h4.1 h.b1.lt).trans h.b1, (hk _ h4.2 h.b2.lt).trans h.b2, (hk _ h5 h.e.lt).trans h.e,
    ⟨hg.os.trans h.only.os, hg.tape.trans h.only.tape, hg.output.trans h.only.output, Nat.le_trans h.only.size hg.size, fun i hi hf => (hk i (by omega) (Nat.lt_of_lt_of_le hi h.only.size)).trans (h.only.block i hi hf)⟩, Nat.le_trans h.sz hg.size⟩
theorem f23 {gj g b : Nat} : ∀ i, F2 g b i → F3 gj g b i := fun _ h => Or.inr h
theorem only_drew {F : Nat → Prop} {w W W' : World} (h : OnlyF F w W) (k : OnlyF F W.drew W') : OnlyF F w W' := h.trans ⟨k.os, k.tape, k.output, k.size, k.block⟩
theorem Mid.wrote {w W W' : World} {g b gj B1 B2 E at_ B : Nat} {f : Nat → Value} {q q' : DSt} {ev : Int} (h : Mid w g b gj B1 B2 E B at_ f q ev W) (hd : Dk W' g b q') (ho : OnlyF (F2 g b) W.drew W') (h1 : gj ≠ g ∧ gj ≠ b) (h2 : ¬ F2 g b B1) (h3 : ¬ F2 g b B2) (h4 : ¬ F2 g b E) : Mid w g b gj B1 B2 E B at_ f q' ev W' :=
  ⟨hd, h.row.of_block (ho.block gj h.row.lt (fun e => by rcases e with e | e; exact h1.1 e; exact h1.2 e)), (ho.block _ h.b1.lt h2).trans h.b1, (ho.block _ h.b2.lt h3).trans h.b2, (ho.block _ h.e.lt h4).trans h.e, only_drew h.only (ho.weaken f23), Nat.le_trans h.sz ho.size⟩
theorem Mid.set {w W : World} {g b gj B1 B2 E at_ B : Nat} {f : Nat → Value} {q : DSt} {ev : Int} (h : Mid w g b gj B1 B2 E B at_ f q ev W) (ev' : Int) (h1 : g ≠ E) (h2 : b ≠ E) (h3 : gj ≠ E) (h4 : B1 ≠ E) (h5 : B2 ≠ E) (h6 : w.heap.size ≤ E) : Mid w g b gj B1 B2 E B at_ f q ev' (W.setCell ⟨E, 0, none⟩ (.int .i64 ev')) :=
  ⟨h.dk.keep (blk_setCell_other _ _ _ _ h1) (blk_setCell_other _ _ _ _ h2), h.row.of_block (blk_setCell_other _ _ _ _ h3), (blk_setCell_other _ _ _ _ h4).trans h.b1, (blk_setCell_other _ _ _ _ h5).trans h.b2, h.e.set _,
    ⟨h.only.os, h.only.tape, h.only.output, by rw [nblk_setCell]; exact h.only.size, fun i hi hf => (blk_setCell_other _ _ _ _ (by show i ≠ E; omega)).trans (h.only.block i hi hf)⟩, by rw [nblk_setCell]; exact h.sz⟩
theorem keeps_after {W W' : World} {g b E B : Nat} (v : Value) (ho : OnlyF (F2 g b) W.drew W') (h1 : g < B) (h2 : b < B) (h3 : E < B) : KeepsFrom B W (W'.setCell ⟨E, 0, none⟩ v) :=
  ⟨by rw [nblk_setCell]; exact ho.size, fun k o hk h _ => (blk_setCell_other _ _ _ _ (by show k ≠ E; omega)).trans ((ho.block k (Array.getElem?_eq_some_iff.1 h).1 (fun e => by rcases e with e | e <;> omega)).trans h)⟩
theorem kept_after {W W' : World} {g b E c d : Nat} (v : Value) (ho : OnlyF (F2 g b) W.drew W') (h1 : c ≠ g ∧ c ≠ b ∧ c ≠ E) (h2 : d ≠ g ∧ d ≠ b ∧ d ≠ E) (h3 : c < W.heap.size) (h4 : d < W.heap.size) : Kept2 c d W (W'.setCell ⟨E, 0, none⟩ v) :=
  ⟨(blk_setCell_other _ _ _ _ h1.2.2).trans (ho.block c h3 (fun e => by rcases e with e | e; exact h1.1 e; exact h1.2.1 e)), (blk_setCell_other _ _ _ _ h2.2.2).trans (ho.block d h4 (fun e => by rcases e with e | e; exact h2.1 e; exact h2.2.1 e))⟩
/-- Behind the rounds: dead or not is written, the rounds' own block goes. -/
theorem mid_end {w W : World} {g b gj B1 B2 E at_ B D : Nat} {f : Nat → Value} {q : DSt} {ev : Int} {v : Value} (h : Mid w g b gj B1 B2 E B at_ f q ev W) (o : Obj) (hv : v = .bool (decide (ev ≠ 0))) (h1 : gj ≠ g ∧ gj ≠ b) (h2 : w.heap.size ≤ B) (h3 : B ≤ D) (h4 : gj < w.heap.size ∧ g < w.heap.size ∧ b < w.heap.size) :
    Dk ((W.setCell ⟨gj, 6, none⟩ v).putObj D o) g b q ∧ ((W.setCell ⟨gj, 6, none⟩ v).putObj D o).rowIs gj 74 7 (fun i => if i = 6 then .bool (decide (ev ≠ 0)) else f i) ∧ OnlyF (F3 gj g b) w ((W.setCell ⟨gj, 6, none⟩ v).putObj D o) := by
  subst hv
  have hk : ∀ i, i < w.heap.size → ((W.setCell ⟨gj, 6, none⟩ (.bool (decide (ev ≠ 0)))).putObj D o).heap[i]? = (W.setCell ⟨gj, 6, none⟩ (.bool (decide (ev ≠ 0)))).heap[i]? := fun i hi => World.putObj_heap_other (by omega)
  refine ⟨h.dk.keep ((hk _ h4.2.1).trans (blk_setCell_other _ _ _ _ h1.1.symm)) ((hk _ h4.2.2).trans (blk_setCell_other _ _ _ _ h1.2.symm)), (h.row.set 6 _).of_block (hk _ h4.1), ⟨h.only.os, h.only.tape, h.only.output, ?_, fun i hi hf => ((hk i hi).trans (blk_setCell_other _ _ _ _ (fun e => hf (Or.inl e)))).trans (h.only.block i hi hf)⟩⟩
  have h5 := h.only.size
  have h6 := (grownBy_putObj' (W.setCell ⟨gj, 6, none⟩ (.bool (decide (ev ≠ 0)))) D o).size
  rw [nblk_setCell] at h6
  exact Nat.le_trans h5 h6
attribute [local go_sem] Oper.semAt_some
set_option maxRecDepth 100000 in
set_option maxHeartbeats 4000000 in
theorem j_write (q : DSt) (g b gj k m at_ num : Nat) (s : ByteArray) (f : Nat → Value) (w : World) (hD : Dk w g b q) (hf : q.Fit k m) (hm : m ≤ 100000000) (hR : w.rowIs gj 74 7 f) (f0 : f 0 = .pointer (some ⟨g, 0, none⟩)) (f5 : f 5 = .int .u32 (num : Nat))
    (ne : gj ≠ g ∧ gj ≠ b) (h0 : num ≠ 0) (hn : num < 4294967296) (hs : s.size ≤ 60000) (ha : at_ ≤ 10000) :
    Calls Tryz.prog 48 #[.pointer (some ⟨gj, 0, none⟩), .int .i64 (at_ : Nat), .string s] w fun e w' =>
      e = .returned (.int .i64 (writeR q at_ num s).2) ∧ Dk w' g b (writeR q at_ num s).1 ∧ w'.rowIs gj 74 7 (fun i => if i = 6 then .bool (decide ((writeR q at_ num s).2 ≠ 0)) else f i) ∧ OnlyF (F3 gj g b) w w' := by
  have MK : Hid (∀ W, Calls Tryz.prog 65 #[.int .u32 (num : Nat), .string s] W (MadeN num s W)) := fun W => f_makeN num s W hn (by omega)
  unfold MadeN at MK
  have hl : makL num s = recL num s := rfl
  have hX : makX num s = 0 := by unfold makX; rw [if_neg h0, if_neg (by omega)]
  rw [hl, hX] at MK
  have hlen : (recL num s).length ≤ 100000 := Nat.le_trans (rec_len num s) (by omega)
  have hpos : 1 ≤ (recL num s).length := by
    unfold recL
    rw [if_neg (by omega), secL_length]
    exact (size_most hs).1
  obtain ⟨Q, hQ⟩ : ∃ Q, writeR q at_ num s = Q := ⟨_, rfl⟩
  rw [hQ]
  unfold writeR at hQ
  have c0 : w.cell? ⟨gj, 0, none⟩ = some (.pointer (some ⟨g, 0, none⟩)) := by rw [← f0]; exact hR.cell (by decide)
  have c5 : w.cell? ⟨gj, 5, none⟩ = some (.int .u32 (num : Nat)) := by rw [← f5]; exact hR.cell (by decide)
  have hgj := hR.lt
  generalize recL num s = l at *
  refine (callsIn_wide (n := 6)).1 ?_
  refine callsIn_of_wp_marks Tryz.func48 rfl trivial ?_ rfl
  simp only [Tryz.ntmps48, List.size_toArray, List.length_cons, List.length_nil, Nat.reduceAdd, Nat.reduceSub, Array.replicate_succ, Array.replicate_zero, List.push_toArray, List.append_toArray, List.nil_append, List.cons_append]
  have bJ := Boxed.new w 32 (.pointer (some ⟨gj, 0, none⟩))
  have bA := Boxed.new (w.alloc (.cells #[.pointer (some ⟨gj, 0, none⟩)] 32)) 3 (.int .i64 (at_ : Nat))
  rw [World.size_alloc] at bA
  have bJ := bJ.alloc (.cells #[.int .i64 (at_ : Nat)] 3)
  have HB0 : Hid (Below w.heap.size w ((w.alloc (.cells #[.pointer (some ⟨gj, 0, none⟩)] 32)).alloc (.cells #[.int .i64 (at_ : Nat)] 3))) := ((Below.refl _ w).alloc (Nat.le_refl _) _).alloc (by simp) _
  have HSZ : Hid (((w.alloc (.cells #[.pointer (some ⟨gj, 0, none⟩)] 32)).alloc (.cells #[.int .i64 (at_ : Nat)] 3)).heap.size = w.heap.size + 2) := show _ = _ by simp
  have BJ := Lib.hid bJ
  have BA := Lib.hid bA
  clear bJ bA
  gi_wp2
  refine ⟨trivial, ?_⟩
  refine (callsIn_wide.2 (MK.out _)).mono ?_
  rintro e w1 ⟨v, rfl, hv, hb, hnew⟩
  generalize (w.alloc (.cells #[.pointer (some ⟨gj, 0, none⟩)] 32)).alloc (.cells #[.int .i64 (at_ : Nat)] 3) = w0 at *
  have HB1 := Lib.hid (HB0.out.trans (hb.mono (by rw [HSZ.out]; omega)))
  have HL1 : Hid (w.heap.size + 2 ≤ w1.heap.size) := show _ ≤ _ by have := hb.size; have := HSZ.out; omega
  have BJ1 : Hid (Boxed w1 w.heap.size 32 (.pointer (some ⟨gj, 0, none⟩))) := (hb.block _ (by rw [HSZ.out]; omega)).trans BJ.out
  have BA1 : Hid (Boxed w1 (w.heap.size + 1) 3 (.int .i64 (at_ : Nat))) := (hb.block _ (by rw [HSZ.out]; omega)).trans BA.out
  obtain ⟨A, cv, rfl, -, -, hcell⟩ := hv
  obtain ⟨vb, off, rfl, hvb, hcs⟩ := hcell hpos
  have hvb1 : w.heap.size + 2 ≤ vb := by have := hnew ⟨vb, off, none⟩ _ _ rfl; have := HSZ.out; show _ ≤ (⟨vb, off, none⟩ : Addr).block; omega
  have HCS := Lib.hid hcs
  clear hb hnew hcell hcs HB0 BJ BA HSZ
  gi_wp2
  refine ⟨trivial, ?_⟩
  refine (back_in Fence.wide 5 trivial rfl _ _ _ _).mono ?_
  rintro e w2 ⟨rfl, hw2⟩
  have bE := Boxed.new w1 26 (.int .i64 0)
  have bS := Boxed.new (w1.alloc (.cells #[.int .i64 0] 26)) 50 (.slice (some ⟨vb, off, none⟩) l.length cv)
  rw [World.size_alloc] at bS
  have bE := bE.alloc (.cells #[.slice (some ⟨vb, off, none⟩) l.length cv] 50)
  have hb2 : Below w1.heap.size w1 ((w1.alloc (.cells #[.int .i64 0] 26)).alloc (.cells #[.slice (some ⟨vb, off, none⟩) l.length cv] 50)) := ((Below.refl _ w1).alloc (Nat.le_refl _) _).alloc (by simp) _
  rw [← hw2] at bE bS hb2
  rw [World.size_alloc]
  have hsz2 : w2.heap.size = w1.heap.size + 2 := by rw [hw2]; simp
  have hl1 := HL1.out
  have HS2 := Lib.hid bS
  have M0 : Hid (Mid w g b gj w.heap.size (w.heap.size + 1) w1.heap.size w2.heap.size at_ f q 0 w2) := show Mid _ _ _ _ _ _ _ _ _ _ _ _ _ from ⟨hD.keep ((hb2.block _ (by have := hD.lt; omega)).trans (HB1.out.block _ hD.lt.1)) ((hb2.block _ (by have := hD.lt; omega)).trans (HB1.out.block _ hD.lt.2)), hR.of_block ((hb2.block _ (by omega)).trans (HB1.out.block _ hgj)), (hb2.block _ (by omega)).trans BJ1.out, (hb2.block _ (by omega)).trans BA1.out, bE, OnlyF.of_below (HB1.out.trans (hb2.mono HB1.out.size)), Nat.le_refl _⟩
  have HC2 : Hid (∀ j, j < l.length → w2.cell? ⟨vb, off + j, none⟩ = some (.string (l.getD j e0))) := fun j hj => (hb2.cell (p := ⟨vb, off + j, none⟩) (by omega)).trans (HCS.out j _ (getD_at hj))
  clear hw2 bE bS hb2 HCS BJ1 BA1 HB1
  gi_wp2
  have h9 : 1 ≤ 6 := by decide
  have HFIT : Hid (∀ pre : List Pt, (wrF at_ q pre).1.Fit k (m + pre.length)) := fun pre => wrF_fit hf pre
  have hgl := hD.lt
  have hrl := hR.lt
  have HQ := Lib.hid hQ
  have HUP := Lib.hid (wrF_upto (at_ := at_) (q := q) hlen)
  clear hD hR hf c0 c5 hQ
  refine wpIn_rangeFunc_ownG rfl h9 (gf := 75) (lb := #[.pointer (some ⟨w1.heap.size + 1, 0, none⟩)]) rfl trivial (enters_of Tryz.func75 (by kernel_rfl) rfl)
    (back_stops Fence.wide 5 trivial rfl (by decide) (w1.heap.size + 1) vb off l.length cv (fun j => l.getD j e0) hlen w2 (by omega) (by omega) HS2.out.cell HC2.out) Kept2.trans (kept2_b (by omega) (by omega)) (Below.refl _ _) (fun _ => rfl)
    (fun pre W => (wrF at_ q pre).2 = 0 ∧ Mid w g b gj w.heap.size (w.heap.size + 1) w1.heap.size w2.heap.size at_ f (wrF at_ q pre).1 0 W)
    (fun c pre W => (c = .exit 0 ∧ (wrF at_ q pre).2 ≠ 0) ∧ Mid w g b gj w.heap.size (w.heap.size + 1) w1.heap.size w2.heap.size at_ f (wrF at_ q pre).1 (wrF at_ q pre).2 W)
    (fun pre W W' row hs hg hr => ⟨hs.1, hs.2.grown hg (fun r e => (hr r e).1) (by omega) (by omega) (by omega) (by omega) (by omega) (by omega)⟩)
    (fun c pre W W' row hs hg hr => ⟨hs.1, hs.2.grown hg (fun r e => (hr r e).1) (by omega) (by omega) (by omega) (by omega) (by omega) (by omega)⟩)
    ⟨rfl, M0.out⟩
    (fun x => { tmps := #[.pointer (some ⟨gj, 0, none⟩), .int .i64 (at_ : Nat), .string s, .pointer (some ⟨w.heap.size, 0, none⟩), .pointer (some ⟨w.heap.size + 1, 0, none⟩), undef, .int .i64 0, .slice (some ⟨vb, off, none⟩) l.length cv, .pointer (some ⟨w1.heap.size, 0, none⟩), .int .i64 (x.1.1 : Int), .string x.1.2, .tuple #[.slice (some ⟨vb, off, none⟩) l.length cv, .int .i64 0], .pointer (some ⟨gj, 0, none⟩), .pointer (some ⟨gj, 0, none⟩), .pointer (some ⟨gj, 5, none⟩), .int .u32 (num : Nat), .string s, .tuple #[.slice (some ⟨vb, off, none⟩) l.length cv, .int .i64 0], .slice (some ⟨vb, off, none⟩) l.length cv, .int .i64 0, .slice (some ⟨vb, off, none⟩) l.length cv, .func (.func 75) #[] #[.pointer (some ⟨w1.heap.size + 1, 0, none⟩)], .int .i64 (x.1.1 : Int), .string x.1.2, undef, undef, undef, undef, undef, undef, undef, undef, undef, undef, undef, undef, undef, undef, undef, undef, undef], defers := [] }) ?assign ?body ?done ?stop
  case assign =>
    intro l x W K hK
    gi_wp2
    exact hK
  case body =>
    rintro ll pre x W ⟨h1, hM⟩ hpl
    have HM := Lib.hid hM
    have cJ := hM.b1.cell
    have cA := hM.b2.cell
    have c0 : W.cell? ⟨gj, 0, none⟩ = some (.pointer (some ⟨g, 0, none⟩)) := by rw [← f0]; exact hM.row.cell (by decide)
    have hx := x.2
    have hsz := hM.sz
    have HF := Lib.hid (HFIT.out pre)
    have HE : Hid (wrF at_ q (pre ++ [x]) = ((wrF at_ q pre).1.write (at_ + x.1.1 : Nat) x.1.2, (wrF at_ q pre).1.writeE (at_ + x.1.1 : Nat) x.1.2)) := show _ = _ by
      rw [wrF_snoc]
      unfold wr1
      rw [if_pos h1]
    have i1 : IntKind.i64.wrap ((at_ : Int) + (x.1.1 : Int)) = ((at_ + x.1.1 : Nat) : Int) := by rw [IntWalk.i64_in _ (by omega)]; omega
    have WR : Hid (Calls Tryz.prog 21 #[.pointer (some ⟨g, 0, none⟩), .int .i64 (at_ + x.1.1 : Nat), .string x.1.2] W.drew (DidX (F2 g b) g b ((wrF at_ q pre).1.write (at_ + x.1.1 : Nat) x.1.2) (.int .i64 ((wrF at_ q pre).1.writeE (at_ + x.1.1 : Nat) x.1.2)) W.drew)) := d_write _ (F2 g b) g b _ _ W.drew k _ (fun _ => Iff.rfl) (hM.dk.keep rfl rfl) HF.out (by omega)
    obtain ⟨ii, hii⟩ : ∃ ii, x.1.1 = ii := ⟨_, rfl⟩
    obtain ⟨ss, hss⟩ : ∃ ss, x.1.2 = ss := ⟨_, rfl⟩
    rw [hii, hss] at WR HE
    rw [hii] at i1 hx
    have HC : Hid (ownPostG w2.heap.size (Kept2 vb (w1.heap.size + 1)) (fun pre W => (wrF at_ q pre).2 = 0 ∧ Mid w g b gj w.heap.size (w.heap.size + 1) w1.heap.size w2.heap.size at_ f (wrF at_ q pre).1 0 W)
      (fun c pre W => (c = .exit 0 ∧ (wrF at_ q pre).2 ≠ 0) ∧ Mid w g b gj w.heap.size (w.heap.size + 1) w1.heap.size w2.heap.size at_ f (wrF at_ q pre).1 (wrF at_ q pre).2 W) (pre ++ [x]) W = ownPostG w2.heap.size (Kept2 vb (w1.heap.size + 1)) (fun pre W => (wrF at_ q pre).2 = 0 ∧ Mid w g b gj w.heap.size (w.heap.size + 1) w1.heap.size w2.heap.size at_ f (wrF at_ q pre).1 0 W)
      (fun c pre W => (c = .exit 0 ∧ (wrF at_ q pre).2 ≠ 0) ∧ Mid w g b gj w.heap.size (w.heap.size + 1) w1.heap.size w2.heap.size at_ f (wrF at_ q pre).1 (wrF at_ q pre).2 W) (pre ++ [x]) W) := show _ = _ from rfl
    generalize hPQ : ownPostG w2.heap.size (Kept2 vb (w1.heap.size + 1)) (fun pre W => (wrF at_ q pre).2 = 0 ∧ Mid w g b gj w.heap.size (w.heap.size + 1) w1.heap.size w2.heap.size at_ f (wrF at_ q pre).1 0 W)
      (fun c pre W => (c = .exit 0 ∧ (wrF at_ q pre).2 ≠ 0) ∧ Mid w g b gj w.heap.size (w.heap.size + 1) w1.heap.size w2.heap.size at_ f (wrF at_ q pre).1 (wrF at_ q pre).2 W) (pre ++ [x]) W = PQ
    have HPQ := Lib.hid hPQ
    dsimp only
    rw [hii, hss]
    generalize (wrF at_ q pre).1.write (at_ + ii : Nat) ss = q3 at *
    generalize (wrF at_ q pre).1.writeE (at_ + ii : Nat) ss = ev at *
    have HNL : Hid (∀ a w, ¬ PQ .outgrown a w) := show ∀ a w, _ from fun a w h => by rw [← hPQ] at h; exact h
    have HNP : Hid (∀ c a w, ¬ PQ (.panic c) a w) := show ∀ c a w, _ from fun c a w h => by rw [← hPQ] at h; exact h
    have HMD : Hid (∀ w6 : World, Dk w6 g b q3 → OnlyF (F2 g b) W.drew w6 → Mid w g b gj w.heap.size (w.heap.size + 1) w1.heap.size w2.heap.size at_ f q3 0 w6) := show ∀ w6 : World, _ from fun w6 h1 h2 => hM.wrote h1 h2 ne (by unfold F2; omega) (by unfold F2; omega) (by unfold F2; omega)
    clear hM hii hss hPQ HC
    obtain ⟨z, hz⟩ : ∃ z, at_ + ii = z := ⟨_, rfl⟩
    rw [hz] at i1 WR
    have hmo : Tryz.prog.follows .mixedOrders = true := by kernel_rfl
    gi_wp2
    refine InRound.region_in (S := fun w' => w'.cell? ⟨w.heap.size, 0, none⟩ = some (.pointer (some ⟨gj, 0, none⟩)) ∧ w'.cell? ⟨w.heap.size + 1, 0, none⟩ = some (.int .i64 (at_ : Nat)) ∧ w'.cell? ⟨gj, 0, none⟩ = some (.pointer (some ⟨g, 0, none⟩))) ll _ (by kernel_rfl) (by kernel_rfl) (by rintro ⟨a, w, h⟩; exact HNL.out _ _ h) ⟨cJ, cA, c0⟩ (fun hHeld => ?_)
    refine ByHand.take_yes (v := ?_) 0 24 rfl rfl (by kernel_rfl) (by kernel_rfl) (by kernel_rfl) (fun _ _ _ h => (HNP.out _ _ _ h).elim) (by rfl) ?_ (by assumption) ?_
    rotate_left
    · intro w' hSw
      (try dsimp only at hSw)
      go_simp
      all_goals with_reducible rfl
    (try simp only [Act.put, List.setIfInBounds_toArray, List.set_cons_zero, List.set_cons_succ])
    refine ByHand.take_yes (v := ?_) 1 25 rfl rfl (by kernel_rfl) (by kernel_rfl) (by kernel_rfl) (fun _ _ _ h => (HNP.out _ _ _ h).elim) (by rfl) ?_ (by assumption) ?_
    rotate_left
    · intro w' hSw
      (try dsimp only at hSw)
      go_simp
      all_goals with_reducible rfl
    (try simp only [Act.put, List.setIfInBounds_toArray, List.set_cons_zero, List.set_cons_succ])
    refine ByHand.take_yes (v := ?_) 2 26 rfl rfl (by kernel_rfl) (by kernel_rfl) (by kernel_rfl) (fun _ _ _ h => (HNP.out _ _ _ h).elim) (by rfl) ?_ (by assumption) ?_
    rotate_left
    · intro w' hSw
      (try dsimp only at hSw)
      go_simp
      all_goals with_reducible rfl
    (try simp only [Act.put, List.setIfInBounds_toArray, List.set_cons_zero, List.set_cons_succ])
    refine ByHand.take_yes (v := ?_) 3 27 rfl rfl (by kernel_rfl) (by kernel_rfl) (by kernel_rfl) (fun _ _ _ h => (HNP.out _ _ _ h).elim) (by rfl) ?_ (by assumption) ?_
    rotate_left
    · intro w' hSw
      (try dsimp only at hSw)
      go_simp
      all_goals with_reducible rfl
    (try simp only [Act.put, List.setIfInBounds_toArray, List.set_cons_zero, List.set_cons_succ])
    refine ByHand.take_yes (v := ?_) 4 28 rfl rfl (by kernel_rfl) (by kernel_rfl) (by kernel_rfl) (fun _ _ _ h => (HNP.out _ _ _ h).elim) (by rfl) ?_ (by assumption) ?_
    rotate_left
    · intro w' hSw
      (try dsimp only at hSw)
      go_simp
      all_goals with_reducible rfl
    (try simp only [Act.put, List.setIfInBounds_toArray, List.set_cons_zero, List.set_cons_succ])
    refine ByHand.take_yes (v := ?_) 5 29 rfl rfl (by kernel_rfl) (by kernel_rfl) (by kernel_rfl) (fun _ _ _ h => (HNP.out _ _ _ h).elim) (by rfl) ?_ (by assumption) ?_
    rotate_left
    · intro w' hSw
      (try dsimp only at hSw)
      go_simp
      all_goals with_reducible rfl
    (try simp only [Act.put, List.setIfInBounds_toArray, List.set_cons_zero, List.set_cons_succ])
    refine ByHand.take_yes (v := ?_) 6 30 rfl rfl (by kernel_rfl) (by kernel_rfl) (by kernel_rfl) (fun _ _ _ h => (HNP.out _ _ _ h).elim) (by rfl) ?_ (by assumption) ?_
    rotate_left
    · intro w' hSw
      (try dsimp only at hSw)
      go_simp
      all_goals with_reducible rfl
    (try simp only [Act.put, List.setIfInBounds_toArray, List.set_cons_zero, List.set_cons_succ])
    refine ByHand.take_yes (v := ?_) 7 31 rfl rfl (by kernel_rfl) (by kernel_rfl) (by kernel_rfl) (fun _ _ _ h => (HNP.out _ _ _ h).elim) (by rfl) ?_ (by assumption) ?_
    rotate_left
    · intro w' hSw
      (try dsimp only at hSw)
      go_simp
      all_goals with_reducible rfl
    (try simp only [Act.put, List.setIfInBounds_toArray, List.set_cons_zero, List.set_cons_succ])
    refine wpAnyH_ready (rs := [8]) (by kernel_rfl) (by simp) (AllReadyH.cons rfl (fun K hK => ?_) (AllReadyH.nil))
    go_simp
    go_at_call 21
    refine WR.out.mono ?_
    rintro e w6 ⟨rfl, hd6, ho6⟩
    have hM6 := HMD.out _ hd6 ho6
    have HM6 := Lib.hid hM6
    have HO6 := Lib.hid ho6
    have cE := hM6.e.cell
    have fE := hM6.e.frozen
    have lE := hM6.e.lt
    have HS6 : Hid (w6.cell? ⟨w.heap.size, 0, none⟩ = some (.pointer (some ⟨gj, 0, none⟩)) ∧ w6.cell? ⟨w.heap.size + 1, 0, none⟩ = some (.int .i64 (at_ : Nat)) ∧ w6.cell? ⟨gj, 0, none⟩ = some (.pointer (some ⟨g, 0, none⟩))) := show _ ∧ _ ∧ _ from ⟨hM6.b1.cell, hM6.b2.cell, by rw [← f0]; exact hM6.row.cell (by decide)⟩
    have HS7 : Hid (∀ v, (w6.setCell ⟨w1.heap.size, 0, none⟩ v).cell? ⟨w.heap.size, 0, none⟩ = some (.pointer (some ⟨gj, 0, none⟩)) ∧ (w6.setCell ⟨w1.heap.size, 0, none⟩ v).cell? ⟨w.heap.size + 1, 0, none⟩ = some (.int .i64 (at_ : Nat)) ∧ (w6.setCell ⟨w1.heap.size, 0, none⟩ v).cell? ⟨gj, 0, none⟩ = some (.pointer (some ⟨g, 0, none⟩))) := show ∀ v, _ ∧ _ ∧ _ from fun v => by
      have h1 : w.heap.size ≠ w1.heap.size := by omega
      have h2 : w.heap.size + 1 ≠ w1.heap.size := by omega
      have h3 : gj ≠ w1.heap.size := by omega
      exact ⟨(World.cell?_of_block (blk_setCell_other _ _ _ _ h1)).trans HS6.out.1, (World.cell?_of_block (blk_setCell_other _ _ _ _ h2)).trans HS6.out.2.1, (World.cell?_of_block (blk_setCell_other _ _ _ _ h3)).trans HS6.out.2.2⟩
    clear hd6 ho6 hM6
    go_wp2_with fail
    refine hK.out _ _ ?_ (fun hHeld => ?_)
    · exact HS6.out
    clear hK K
    (try simp only [Act.put, List.setIfInBounds_toArray, List.set_cons_zero, List.set_cons_succ])
    refine wpAnyH_ready (rs := [9]) (by kernel_rfl) (by simp) (AllReadyH.cons rfl (fun K hK => ?_) (AllReadyH.nil))
    go_simp
    refine hK.out _ _ ?_ (fun hHeld => ?_)
    · exact HS7.out _
    clear hK K
    (try simp only [Act.put, List.setIfInBounds_toArray, List.set_cons_zero, List.set_cons_succ])
    refine wpAnyH_done (by kernel_rfl) ?_ _
    by_cases hev : ev = 0
    · subst hev
      have t1 : ((0 : Int) != 0) = false := rfl
      gi_wp2
      rw [← HPQ.out]
      refine ⟨keeps_after _ HO6.out (by omega) (by omega) (by omega), kept_after _ HO6.out ⟨by omega, by omega, by omega⟩ ⟨by omega, by omega, by omega⟩ (by omega) (by omega), ?_, ?_⟩
      · rw [HE.out]
      · rw [HE.out]
        exact HM6.out.set 0 (by omega) (by omega) (by omega) (by omega) (by omega) (by omega)
    · have t1 : (ev != 0) = true := by rw [bne_iff_ne]; exact hev
      gi_wp2
      rw [← HPQ.out]
      refine ⟨keeps_after _ HO6.out (by omega) (by omega) (by omega), ⟨rfl, ?_⟩, ?_⟩
      · rw [HE.out]; exact hev
      · rw [HE.out]
        exact HM6.out.set ev (by omega) (by omega) (by omega) (by omega) (by omega) (by omega)
  case done =>
    rintro D ys W hD rfl ⟨h1, hM⟩ hK
    have hq := (HUP.out l.length (Nat.le_refl _)).1 h1
    rw [HQ.out, Nat.sub_self] at hq
    have hq2 : ((wrF at_ q (upto (nth (fun j => l.getD j e0) l.length hlen) l.length)).1, (0 : Int)) = Q := hq
    generalize (wrF at_ q (upto (nth (fun j => l.getD j e0) l.length hlen) l.length)).1 = q3 at *
    subst hq2
    have HM := Lib.hid hM
    have HKD := Lib.hid hK
    have cJ := hM.b1.cell
    have cE := hM.e.cell
    have fD := hM.row.frozen 6
    have lG := hM.row.lt
    have cD : W.cell? ⟨gj, 6, none⟩ = some (f 6) := hM.row.cell (by decide)
    clear hM hq h1 hK
    gi_wp2
    have hK2 : (W.setCell ⟨gj, 6, none⟩ (Value.bool false)).heap[D]? = some (.deferred (some [])) := (blk_setCell_other _ _ _ _ (by show D ≠ gj; omega)).trans HKD.out
    refine ⟨by simp, .inl ⟨_, _, rfl, run_takeDeferred hK2, ?_⟩⟩
    exact ⟨_, results_tmp rfl _ _ _, rfl, mid_end HM.out _ rfl ne (by omega) hD ⟨hrl, hgl⟩⟩
  case stop =>
    rintro D c pre W hD ⟨kk, hkk, rfl⟩ ⟨⟨rfl, h1⟩, hM⟩ hK
    have hq := (HUP.out kk hkk).2 h1
    rw [HQ.out] at hq
    rw [hq] at h1 hM
    have t1 : (Q.2 != 0) = true := by rw [bne_iff_ne]; exact h1
    have HM := Lib.hid hM
    have HKD := Lib.hid hK
    have cJ := hM.b1.cell
    have cE := hM.e.cell
    have fD := hM.row.frozen 6
    have lG := hM.row.lt
    have cD : W.cell? ⟨gj, 6, none⟩ = some (f 6) := hM.row.cell (by decide)
    have HDE : Hid (Value.bool true = .bool (decide (Q.2 ≠ 0))) := show _ = _ by rw [decide_eq_true h1]
    clear hM hq h1 hK
    gi_wp2
    have hK2 : (W.setCell ⟨gj, 6, none⟩ (Value.bool true)).heap[D]? = some (.deferred (some [])) := (blk_setCell_other _ _ _ _ (by show D ≠ gj; omega)).trans HKD.out
    refine ⟨by simp, .inl ⟨_, _, rfl, run_takeDeferred hK2, ?_⟩⟩
    exact ⟨_, results_tmp rfl _ _ _, rfl, mid_end HM.out _ HDE.out ne (by omega) hD ⟨hrl, hgl⟩⟩
end Go.Proofs.YtndanhacmfhlaaaGreat.Jour
namespace Go.Proofs.YtndanhacmfhlaaaGreat.Jour
open Go.ChangeShapes Go.WideShapes Go.ChangeAt Go.RowKit Go.Deep Els Go.Proofs.YtndanhacmfhlaaaGreat.Frame Disk

theorem own_keep {w w' : World} {base n size : Nat} {e : TypeId} {v : Value} {xs : List Value} (h : w.ownsRow base e size v n xs) (hk : ∀ c, v.ownBlock = some c → w'.heap[c]? = w.heap[c]?) : w'.ownsRow base e size v n xs := by
  obtain ⟨hl, ⟨rfl, h0⟩ | ⟨g, cap, cur, rfl, hb, hg, hr⟩⟩ := h
  · exact ⟨hl, Or.inl ⟨rfl, h0⟩⟩
  · exact ⟨hl, Or.inr ⟨g, cap, cur, rfl, hb, (hk g rfl).trans hg, hr⟩⟩
theorem own_of_row {w : World} {base g T n : Nat} {f : Nat → Value} (h : w.rowIs g T n f) (hb : base ≤ g) (hn : n ≤ maxLen) : w.ownsRow base T 1 (.slice (some ⟨g, 0, none⟩) n n) n ((List.range n).map f) := by
  obtain ⟨cur, hc, hs, hf⟩ := h
  refine ⟨by simp, Or.inr ⟨g, n, cur, rfl, hb, hc, Nat.le_refl _, hn, by omega, ?_⟩⟩
  apply List.ext_getElem?
  intro i
  by_cases hi : i < n
  · rw [List.getElem?_take_of_lt (by omega), List.getElem?_map, List.getElem?_range hi, Array.getElem?_toList, hf i hi]
    rfl
  · rw [List.getElem?_eq_none (by rw [List.length_take]; omega), List.getElem?_eq_none (by simp; omega)]
def pcell (g : Nat) (V : Value) (j : JSt) (i : Nat) : Value :=
  if i = 0 then .pointer (some ⟨g, 0, none⟩) else if i = 1 then .int .i64 j.area else if i = 2 then .string j.base else if i = 3 then V else if i = 4 then .int .i64 j.used else if i = 5 then .int .u32 j.next else .bool j.dead
/-- At block gj stands a journal that holds j, its records at V, over the disk of these two blocks that holds q. -/
structure JAt (w : World) (gj g b : Nat) (V : Value) (q : DSt) (j : JSt) : Prop where
  dk : Dk w g b q
  row : w.rowIs gj 74 7 (pcell g V j)
  own : w.ownsRow 0 9 1 V j.recs.length (j.recs.map Value.string)
  ne : gj ≠ g ∧ gj ≠ b
  apart : ∀ c, V.ownBlock = some c → c ≠ gj ∧ c ≠ g ∧ c ≠ b
/-- Its blocks. -/
def J4 (gj g b : Nat) (V : Value) (i : Nat) : Prop := F3 gj g b i ∨ V.ownBlock = some i
structure JSt.Ok (j : JSt) (q : DSt) : Prop where
  fit : j.Fit q
  pos : 1 ≤ j.next
  base : j.base.size ≤ 60000
  texts : ∀ s ∈ j.recs, s.size ≤ 60000
section
variable {w w' : World} {gj g b : Nat} {V : Value} {q q' : DSt} {j j' : JSt}
theorem JAt.lt (h : JAt w gj g b V q j) : gj < w.heap.size ∧ g < w.heap.size ∧ b < w.heap.size := ⟨h.row.lt, h.dk.lt⟩
theorem JAt.lt4 (h : JAt w gj g b V q j) : ∀ i, J4 gj g b V i → i < w.heap.size := by
  intro i hi
  have := h.lt
  rcases hi with (rfl | rfl | rfl) | hi
  · exact this.1
  · exact this.2.1
  · exact this.2.2
  · exact (h.own.lt i hi).2
theorem JAt.keep (h : JAt w gj g b V q j) (hk : ∀ i, J4 gj g b V i → w'.heap[i]? = w.heap[i]?) : JAt w' gj g b V q j :=
  ⟨h.dk.keep (hk g (Or.inl (Or.inr (Or.inl rfl)))) (hk b (Or.inl (Or.inr (Or.inr rfl)))), h.row.of_block (hk gj (Or.inl (Or.inl rfl))), own_keep h.own (fun c hc => hk c (Or.inr hc)), h.ne, h.apart⟩
theorem JAt.heap (h : JAt w gj g b V q j) (hh : w'.heap = w.heap) : JAt w' gj g b V q j := h.keep fun i _ => by rw [hh]
theorem JAt.below (h : JAt w gj g b V q j) (hb : Below w.heap.size w w') : JAt w' gj g b V q j := h.keep fun i hi => hb.block i (h.lt4 i hi)
theorem JAt.only {F : Nat → Prop} (h : JAt w gj g b V q j) (ho : OnlyF F w w') (hF : ∀ i, J4 gj g b V i → ¬ F i) : JAt w' gj g b V q j := h.keep fun i hi => ho.block i (h.lt4 i hi) (hF i hi)
/-- The disk's blocks turn, the journal's stay. -/
theorem JAt.disk (h : JAt w gj g b V q j) (hd : Dk w' g b q') (ho : OnlyF (F2 g b) w w') : JAt w' gj g b V q' j :=
  ⟨hd, h.row.of_block (ho.block gj h.row.lt (fun e => by rcases e with e | e; exact h.ne.1 e; exact h.ne.2 e)), own_keep h.own (fun c hc => ho.block c (h.own.lt c hc).2 (fun e => by rcases e with e | e; exact (h.apart c hc).2.1 e; exact (h.apart c hc).2.2 e)), h.ne, h.apart⟩
/-- The disk's blocks and the journal's cells turn, its records stay. -/
theorem JAt.turn (h : JAt w gj g b V q j) (hd : Dk w' g b q') (hr : w'.rowIs gj 74 7 (pcell g V j')) (ho : OnlyF (F3 gj g b) w w') (he : j'.recs = j.recs) : JAt w' gj g b V q' j' :=
  ⟨hd, hr, by rw [he]; exact own_keep h.own (fun c hc => ho.block c (h.own.lt c hc).2 (fun e => by have := h.apart c hc; rcases e with e | e | e; exact this.1 e; exact this.2.1 e; exact this.2.2 e)), h.ne, h.apart⟩
theorem JAt.cells (h : JAt w gj g b V q j) : w.cell? ⟨gj, 0, none⟩ = some (.pointer (some ⟨g, 0, none⟩)) ∧ w.cell? ⟨gj, 1, none⟩ = some (.int .i64 j.area) ∧ w.cell? ⟨gj, 2, none⟩ = some (.string j.base) ∧ w.cell? ⟨gj, 3, none⟩ = some V ∧
    w.cell? ⟨gj, 4, none⟩ = some (.int .i64 j.used) ∧ w.cell? ⟨gj, 5, none⟩ = some (.int .u32 j.next) ∧ w.cell? ⟨gj, 6, none⟩ = some (.bool j.dead) ∧ (∀ i, w.frozen? ⟨gj, i, none⟩ = false) :=
  ⟨h.row.cell (by decide), h.row.cell (by decide), h.row.cell (by decide), h.row.cell (by decide), h.row.cell (by decide), h.row.cell (by decide), h.row.cell (by decide), h.row.frozen⟩
/-- A cell of its own is written, its records are not. -/
theorem JAt.set (h : JAt w gj g b V q j) (i : Nat) (v : Value) (he : j'.recs = j.recs) (hi : ∀ k, k < 7 → pcell g V j' k = if k = i then v else pcell g V j k) : JAt (w.setCell ⟨gj, i, none⟩ v) gj g b V q j' :=
  ⟨h.dk.keep (blk_setCell_other _ _ _ _ h.ne.1.symm) (blk_setCell_other _ _ _ _ h.ne.2.symm), (h.row.set i v).congr (fun k hk => (hi k hk).symm), by rw [he]; exact own_keep h.own (fun c hc => blk_setCell_other _ _ _ _ (h.apart c hc).1), h.ne, h.apart⟩
end
theorem p_next (q : DSt) (j : JSt) (gj g b : Nat) (V : Value) (w : World) (h : JAt w gj g b V q j) : Calls Tryz.prog 30 #[.pointer (some ⟨gj, 0, none⟩)] w fun e w' => e = .returned (.int .u32 (j.next : Nat)) ∧ w = w' := by
  obtain ⟨-, -, -, -, -, c5, -, -⟩ := h.cells
  clear h
  go_enter Tryz.func30, Tryz.ntmps30
  go_wp2_with fail
  go_ret
  exact ⟨rfl, rfl⟩
theorem p_left (q : DSt) (j : JSt) (gj g b : Nat) (V : Value) (w : World) (h : JAt w gj g b V q j) (hl : q.S.length ≤ 4096) (h2 : 2 ≤ q.S.length) (hj : j.Fit q) :
    Calls Tryz.prog 31 #[.pointer (some ⟨gj, 0, none⟩)] w fun e w' => e = .returned (.int .i64 (leftN q j)) ∧ ∃ n, w' = w.drewN n := by
  obtain ⟨c0, -, -, -, c4, -, -, -⟩ := h.cells
  have RM : Hid (∀ W, Dk W g b q → Calls Tryz.prog 34 #[.pointer (some ⟨g, 0, none⟩)] W fun e w' => e = .returned (.int .i64 (roomD q : Nat)) ∧ W = w') := fun W hW => j_room q g b W hW hl h2
  have hb : roomD q ≤ 4096 := by unfold roomD; omega
  have hu := hj.used
  have D := Lib.hid h.dk
  have HL : Hid (leftN q j = (roomD q : Int) - j.used) := show _ = _ from rfl
  generalize leftN q j = L at *
  generalize roomD q = R at *
  have i1 : IntKind.i64.wrap ((R : Int) - (j.used : Int)) = (R : Int) - j.used := IntWalk.i64_in _ (by omega)
  obtain rfl : L = (R : Int) - j.used := HL.out
  clear hj h HL
  go_enter Tryz.func31, Tryz.ntmps31
  go_wp2_with fail
  have DD : Hid (Dk w.drew g b q) := D.out.keep rfl rfl
  go_region_held3 (fun w' => w'.cell? ⟨gj, 0, none⟩ = some (.pointer (some ⟨g, 0, none⟩)) ∧ w'.cell? ⟨gj, 4, none⟩ = some (.int .i64 j.used))
    (first | exact ⟨c0, c4⟩)
    (first
      | (go_at_call 34
         with_reducible refine (RM.out _ DD.out).mono ?_
         rintro e w1 ⟨rfl, rfl⟩))
  go_wp2_with fail
  go_ret
  exact ⟨rfl, 1, rfl⟩
theorem p_base (q : DSt) (j : JSt) (gj g b : Nat) (V : Value) (w : World) (h : JAt w gj g b V q j) (hs : j.base.size ≤ 60000) : Calls Tryz.prog 27 #[.pointer (some ⟨gj, 0, none⟩)] w fun e w' => e = .returned (.string j.base) ∧ Below w.heap.size w w' := by
  obtain ⟨-, -, c2, -, -, -, -, -⟩ := h.cells
  have CL := Lib.hid (Pack.p_clone j.base w (by omega))
  generalize j.base = s at *
  clear h hs
  go_enter Tryz.func27, Tryz.ntmps27
  go_wp2_with fail
  refine CL.out.mono ?_
  rintro e w1 ⟨rfl, hb⟩
  have HB := Lib.hid hb
  clear hb
  go_wp2_with fail
  go_ret
  exact ⟨rfl, HB.out⟩
/-- A row of texts of which the first n are there. -/
def strRow (l : List ByteArray) (n i : Nat) : Value := if i < n then .string (l.getD i e0) else .string ⟨#[]⟩
theorem strRow_step {w : World} {r T k n : Nat} {l : List ByteArray} (h : w.rowIs r T k (fun j => if j = n then .string (l.getD n e0) else strRow l n j)) : w.rowIs r T k (strRow l (n + 1)) :=
  h.congr fun j _ => by
    unfold strRow
    by_cases h1 : j = n
    · rw [if_pos h1, if_pos (by omega), h1]
    · rw [if_neg h1]
      by_cases h2 : j < n
      · rw [if_pos h2, if_pos (by omega)]
      · rw [if_neg h2, if_neg (by omega)]
theorem str_own {w : World} {base r T : Nat} {l : List ByteArray} (h : w.rowIs r T l.length (strRow l l.length)) (hb : base ≤ r) (hn : l.length ≤ maxLen) : w.ownsRow base T 1 (.slice (some ⟨r, 0, none⟩) l.length l.length) l.length (l.map Value.string) := by
  have := own_of_row h hb hn
  rwa [show (List.range l.length).map (strRow l l.length) = l.map Value.string from by
    apply List.ext_getElem?
    intro i
    by_cases hi : i < l.length
    · rw [List.getElem?_map, List.getElem?_range hi, List.getElem?_map, getD_at hi]
      show some (strRow l l.length i) = some (Value.string (l.getD i e0))
      unfold strRow
      rw [if_pos hi]
    · rw [List.getElem?_eq_none (by simp; omega), List.getElem?_eq_none (by simp; omega)]] at this
set_option maxRecDepth 20000 in
set_option maxHeartbeats 2000000 in
theorem p_records (q : DSt) (j : JSt) (gj g b : Nat) (V : Value) (w : World) (h : JAt w gj g b V q j) (hn : j.recs.length ≤ 5000) (hs : ∀ s ∈ j.recs, s.size ≤ 60000) :
    Calls Tryz.prog 29 #[.pointer (some ⟨gj, 0, none⟩)] w fun e w' => ∃ v, e = .returned v ∧ w'.ownsRow w.heap.size 9 1 v j.recs.length (j.recs.map Value.string) ∧ Below w.heap.size w w' := by
  obtain ⟨-, -, -, c3, -, -, -, -⟩ := h.cells
  have lgj := h.row.lt
  have HV := Lib.hid (Els.of_own (l := j.recs) rfl h.own)
  obtain ⟨A, cv, rfl⟩ := Slice.own_slice h.own
  have HST : Hid (∀ (W : World) (r i : Nat), W.rowIs r 9 j.recs.length (strRow j.recs i) → (W.setCell ⟨r, i, none⟩ (.string (j.recs.getD i e0))).rowIs r 9 j.recs.length (strRow j.recs (i + 1))) := fun W r i h => strRow_step (h.set i _)
  have HE : Hid (∀ (W : World) (r : Nat), w.heap.size ≤ r → W.rowIs r 9 j.recs.length (strRow j.recs j.recs.length) → W.ownsRow w.heap.size 9 1 (.slice (some ⟨r, 0, none⟩) j.recs.length j.recs.length) j.recs.length (j.recs.map Value.string)) := fun W r hr h => str_own h hr (by unfold maxLen; omega)
  have CL : Hid (∀ W i, i < j.recs.length → Calls Tryz.prog 50 #[.string (j.recs.getD i e0)] W fun e w' => e = .returned (.string (j.recs.getD i e0)) ∧ Below W.heap.size W w') := fun W i hi => Pack.p_clone _ W (by
    have := hs (j.recs.getD i e0) (List.mem_iff_getElem?.2 ⟨i, getD_at hi⟩)
    omega)
  clear hs
  clear h
  generalize j.recs = l at *
  have hmk := fun W : World => run_make_row' (P := Tryz.prog) 50 9 (.string ⟨#[]⟩) 16 Tryz.underlying50 txt_info rfl .i64 .i64 l.length (by omega) (by omega) W
  obtain ⟨n, hln⟩ : ∃ n, l.length = n := ⟨_, rfl⟩
  have HLN := Lib.hid hln
  rw [hln] at hmk HST HE c3 CL HV hn ⊢
  go_enter Tryz.func29, Tryz.ntmps29
  go_wp2_with fail
  have GG : ∃ r, r = w.heap.size := ⟨_, rfl⟩
  have HR0 := Lib.hid (World.rowIs_made w (.string ⟨#[]⟩) n 9)
  have HB := Lib.hid ((Below.refl w.heap.size w).alloc (Nat.le_refl _) (.cells (madeCells #[.string ⟨#[]⟩] n) 9))
  generalize w.alloc (.cells (madeCells #[.string ⟨#[]⟩] n) 9) = w3 at *
  obtain ⟨r, hr⟩ := GG
  rw [← hr] at HR0 ⊢
  have hrw : w.heap.size ≤ r := by omega
  clear hmk hr hln
  have c3' : w3.cell? ⟨gj, 3, none⟩ = some (.slice A n cv) := (HB.out.cell (p := ⟨gj, 3, none⟩) lgj).trans c3
  go_wp2_with fail
  go_loopw [19] (fun t wr => ∃ i : Nat, i ≤ n ∧ t = .int .i64 i ∧ Hid (wr.rowIs r 9 n (strRow l i)) ∧ Hid (Below w.heap.size w wr)) (fun t _ => n - (intOf t).toNat)
  case atStart => exact ⟨0, Nat.zero_le _, rfl, (HR0.out.congr fun i _ => rfl : World.rowIs _ _ _ _ _), HB.out⟩
  case round =>
    obtain ⟨i, hi, rfl, HR, HW⟩ := hrel
    by_cases hlt : i < n
    · have t3 : decide ((i : Int) < (n : Int)) = true := decide_eq_true (by omega)
      obtain ⟨A', c', hA, -, -, hcell⟩ := HV.out
      rw [HLN.out] at hA hcell
      injection hA with hA _ hC
      subst hA hC
      obtain ⟨vb, off, rfl, hvb, hcs⟩ := hcell (by omega)
      have hci : wr.cell? ⟨vb, off + i, none⟩ = some (.string (l.getD i e0)) := (HW.out.cell (p := ⟨vb, off + i, none⟩) hvb).trans (hcs i _ (getD_at (by rw [HLN.out]; exact hlt)))
      have CI : Hid (Calls _ _ _ _ _) := CL.out wr i hlt
      have HX : Hid (∀ W : World, W.rowIs r 9 n (strRow l i) → (W.setCell ⟨r, i, none⟩ (.string (l.getD i e0))).rowIs r 9 n (strRow l (i + 1))) := fun W h => HST.out W r i h
      clear hcell hcs
      generalize l.getD i e0 = x at *
      go_wp2_with fail
      refine CI.out.mono ?_
      rintro e w4 ⟨rfl, hb⟩
      have hr4 := HR.out.of_block (hb.block r HR.out.lt)
      have HR4 := Lib.hid hr4
      have HW4 := Lib.hid (HW.out.trans (hb.mono HW.out.size))
      have hp := hr4.cell hlt
      have hf := hr4.frozen i
      have ho := hr4.lt
      clear hb hr4 CI
      go_wp2_with fail
      go_roundw
      case rel => exact ⟨i + 1, by omega, by go_num, HX.out _ HR4.out, HW4.out.setCell (p := ⟨r, i, none⟩) hrw _⟩
      case measure => simp [intOf]; omega
    · obtain rfl : i = n := by omega
      have t3 : decide ((i : Int) < (i : Int)) = false := decide_eq_false (by omega)
      have HT := Lib.hid (HE.out wr r hrw HR.out)
      go_wp2_with fail
      go_ret
      exact ⟨_, rfl, HT.out, HW.out⟩
/-- Why a text that has so many sectors of room is not written. -/
def refE (d : Bool) (n next : Nat) (room : Int) : Int := if d = true then 74 else if tooE n room ≠ 0 then tooE n room else if most < next then 73 else 0
theorem p_refuses (q : DSt) (j : JSt) (gj g b : Nat) (V : Value) (s : ByteArray) (room : Int) (w : World) (h : JAt w gj g b V q j) (hs : s.size ≤ 9223372036854775807) (hr : -9223372036854775808 ≤ room ∧ room ≤ 9223372036854775807) :
    Calls Tryz.prog 47 #[.pointer (some ⟨gj, 0, none⟩), .string s, .int .i64 room] w fun e w' => e = .returned (.int .i64 (refE j.dead s.size j.next room)) ∧ Below w.heap.size w w' := by
  obtain ⟨-, -, -, -, -, c5, c6, -⟩ := h.cells
  have lgj := h.row.lt
  have TL := Lib.hid (j_tooLong s room w hs hr)
  clear h
  cases hd : j.dead with
  | true =>
    rw [hd] at c6
    rw [show refE true s.size j.next room = 74 from rfl]
    clear hd
    go_enter Tryz.func47, Tryz.ntmps47
    go_wp2_with fail
    go_ret
    exact ⟨rfl, Below.refl _ _⟩
  | false =>
    rw [hd] at c6
    have HR : Hid (refE false s.size j.next room = if tooE s.size room ≠ 0 then tooE s.size room else if most < j.next then 73 else 0) := show _ = _ by unfold refE; rw [if_neg (by decide)]
    generalize refE false s.size j.next room = R at *
    generalize tooE s.size room = T at *
    clear hd
    by_cases hT : T = 0
    · have t1 : (T != 0) = false := by rw [hT]; rfl
      by_cases hm : most < j.next
      · have t2 : decide ((2148483648 : Int) < j.next) = true := decide_eq_true (by unfold most at hm; omega)
        obtain rfl : R = 73 := by rw [HR.out, if_neg (by simp [hT]), if_pos hm]
        clear hT hm
        go_enter Tryz.func47, Tryz.ntmps47
        go_wp2_with fail
        refine TL.out.mono ?_
        rintro e w1 ⟨rfl, hb⟩
        have HB := Lib.hid hb
        have c5' := (hb.cell (p := ⟨gj, 5, none⟩) lgj).trans c5
        clear hb c5
        go_wp2_with fail
        go_ret
        exact ⟨rfl, HB.out⟩
      · have t2 : decide ((2148483648 : Int) < j.next) = false := decide_eq_false (by unfold most at hm; omega)
        obtain rfl : R = 0 := by rw [HR.out, if_neg (by simp [hT]), if_neg hm]
        clear hT hm
        go_enter Tryz.func47, Tryz.ntmps47
        go_wp2_with fail
        refine TL.out.mono ?_
        rintro e w1 ⟨rfl, hb⟩
        have HB := Lib.hid hb
        have c5' := (hb.cell (p := ⟨gj, 5, none⟩) lgj).trans c5
        clear hb c5
        go_wp2_with fail
        go_ret
        exact ⟨rfl, HB.out⟩
    · have t1 : (T != 0) = true := by rw [bne_iff_ne]; exact hT
      obtain rfl : R = T := by rw [HR.out, if_pos hT]
      clear hT
      go_enter Tryz.func47, Tryz.ntmps47
      go_wp2_with fail
      refine TL.out.mono ?_
      rintro e w1 ⟨rfl, hb⟩
      have HB := Lib.hid hb
      clear hb
      go_wp2_with fail
      go_ret
      exact ⟨rfl, HB.out⟩
end Go.Proofs.YtndanhacmfhlaaaGreat.Jour
