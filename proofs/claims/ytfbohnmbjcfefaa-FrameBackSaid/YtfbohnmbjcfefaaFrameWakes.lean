/- Layer 10's example. -/
import Derived.Test.YtfbohnmbjcfefaaGFrC
namespace Go.Proofs.Ytfbohnmbjcfefaa.Frame
open Go.ChangeShapes Go.WideShapes Go.ChangeAt Go.RowKit Pack Crc Els

def ab : ByteArray := ⟨#[97, 98]⟩
theorem ab_size : ab.size = 2 := rfl
theorem ab_secs : secL 5 ab = [secS 5 1 0 (pieceS ab 0)] := rfl
theorem ab_piece : (pieceS ab 0).size = 244 := piece_size (by decide)
theorem ab_makes : makL 5 ab = [secS 5 1 0 (pieceS ab 0)] ∧ makX 5 ab = 0 := ⟨rfl, rfl⟩
theorem ab_reads : okR [secS 5 1 0 (pieceS ab 0)] 5 = true ∧ readS [secS 5 1 0 (pieceS ab 0)] 5 = ab ∧ readN [secS 5 1 0 (pieceS ab 0)] 5 = 1 := by
  have := read_made (num := 5) (s := ab) [] (by decide) (by decide) (by decide)
  rwa [List.append_nil, ab_secs] at this
theorem ab_six : okR [secS 5 1 0 (pieceS ab 0)] 6 = false := okR_first (by
  show numV (secS 5 1 0 (pieceS ab 0)) ≠ 6
  rw [num_sec ab_piece (by decide)]
  decide)
theorem read_no {l : List ByteArray} {num : Nat} (h : okR l num = false) : readS l num = ⟨#[]⟩ ∧ readN l num = 0 := by
  unfold readS readN
  rw [h]
  exact ⟨rfl, rfl⟩
theorem wakes_frame (w : World) : Calls Try.prog 8 #[] w fun e w' => e = .returned (.bool true) ∧ Below w.heap.size w w' := by
  have HM := f_make 5 ab w (by decide) (by decide)
  unfold Made at HM
  rw [ab_makes.1, ab_makes.2] at HM
  have hs : [secS 5 1 0 (pieceS ab 0)].length ≤ 300 ∧ ∀ x ∈ [secS 5 1 0 (pieceS ab 0)], x.size ≤ 2000 := ⟨by show 1 ≤ 300; decide, fun x hx => by rw [List.mem_singleton.1 hx, sec_size ab_piece]; decide⟩
  have R5 : Hid (∀ (v : Value) (W : World), Txts W W.heap.size v [secS 5 1 0 (pieceS ab 0)] → Calls Try.prog 15 #[v, .int .u32 5] W fun e w' => e = .returned (.tuple #[.string ab, .int .i64 1, .bool true]) ∧ Below W.heap.size W w') := fun v W h => by
    have := f_read [secS 5 1 0 (pieceS ab 0)] 5 v W h (by decide) hs
    rw [ab_reads.1, ab_reads.2.1, ab_reads.2.2] at this
    exact this
  have R6 : Hid (∀ (v : Value) (W : World), Txts W W.heap.size v [secS 5 1 0 (pieceS ab 0)] → Calls Try.prog 15 #[v, .int .u32 6] W fun e w' => e = .returned (.tuple #[.string ⟨#[]⟩, .int .i64 0, .bool false]) ∧ Below W.heap.size W w') := fun v W h => by
    have := f_read [secS 5 1 0 (pieceS ab 0)] 6 v W h (by decide) hs
    rw [ab_six, (read_no ab_six).1, (read_no ab_six).2] at this
    exact this
  have N5 : Hid (∀ W, Calls Try.prog 17 #[.string (secS 5 1 0 (pieceS ab 0))] W fun e w' => e = .returned (.int .u32 5) ∧ Below W.heap.size W w') := fun W => by
    have := f_num (secS 5 1 0 (pieceS ab 0)) W (by rw [sec_size ab_piece]; decide)
    rw [num_sec ab_piece (by decide)] at this
    exact this
  have hsz := sec_size (num := 5) (n := 1) (i := 0) ab_piece
  have S236 : Hid (∀ W, Calls Try.prog 12 #[.int .i64 236] W fun e w' => e = .returned (.int .i64 1) ∧ Below W.heap.size W w') := fun W => f_size 236 W (by decide)
  have S237 : Hid (∀ W, Calls Try.prog 12 #[.int .i64 237] W fun e w' => e = .returned (.int .i64 2) ∧ Below W.heap.size W w') := fun W => f_size 237 W (by decide)
  clear hs
  have hab : ab.toList = [97, 98] := by rw [ByteArray.toList_eq]; rfl
  generalize secS 5 1 0 (pieceS ab 0) = x at *
  go_enter Try.func8, Try.ntmps8
  go_wp2_with fail
  refine HM.mono ?_
  rintro e w1 ⟨v, rfl, ht, hb⟩
  have HT := Lib.hid ht
  have B1 := Lib.hid hb
  obtain ⟨A, c, rfl, -, -, hc⟩ := id ht
  obtain ⟨b0, off, rfl, hb0, hcell⟩ := hc (by show 0 < 1; decide)
  have c0 : w1.cell? ⟨b0, off, none⟩ = some (.string x) := hcell 0 x rfl
  clear ht hb hc hcell HM
  go_wp2_with fail
  refine (R5.out _ _ HT.out).mono ?_
  rintro e w2 ⟨rfl, hb⟩
  have HT2 := Lib.hid ((HT.out.below hb).more hb.size)
  have B2 := Lib.hid (below_on B1.out hb)
  have c1 : w2.cell? ⟨b0, off, none⟩ = some (.string x) := (hb.cell (p := ⟨b0, off, none⟩) hb0).trans c0
  have hb2 := Nat.lt_of_lt_of_le hb0 hb.size
  clear hb c0 hb0 HT
  go_wp2_with fail
  refine (R6.out _ _ HT2.out).mono ?_
  rintro e w3 ⟨rfl, hb⟩
  have B3 := Lib.hid (below_on B2.out hb)
  have c2 : w3.cell? ⟨b0, off, none⟩ = some (.string x) := (hb.cell (p := ⟨b0, off, none⟩) hb2).trans c1
  clear hb c1 hb2 HT2
  go_wp2_with (first
    | (go_at_call 17
       refine (N5.out _).mono ?_
       rintro e w4 ⟨rfl, hb⟩
       have B4 := Lib.hid (below_on B3.out hb)
       clear hb)
    | (go_at_call 12
       with_reducible refine (S236.out _).mono ?_
       rintro e w5 ⟨rfl, hb⟩
       have B5 := Lib.hid (below_on B4.out hb)
       clear hb)
    | (go_at_call 12
       with_reducible refine (S237.out _).mono ?_
       rintro e w6 ⟨rfl, hb⟩
       have B6 := Lib.hid (below_on B5.out hb)
       clear hb))
  go_ret
  exact ⟨rfl, B6.out⟩
end Go.Proofs.Ytfbohnmbjcfefaa.Frame
