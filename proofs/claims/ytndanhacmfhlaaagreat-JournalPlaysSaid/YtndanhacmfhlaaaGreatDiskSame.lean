/- The checker's comparison of two disks. -/
import Derived.Test.YtndanhacmfhlaaaGreatDiskWakes
import Derived.Deep.RegionHeld3
namespace Go.Proofs.YtndanhacmfhlaaaGreat.Disk
open Go.ChangeShapes Go.WideShapes Go.ChangeAt Go.RowKit Go.Deep Stp Nul

def AsTwo (w : World) (g r : Nat) (a : Addr) (q : DSt) (x : Value) (e : Ending) (w' : World) : Prop := e = .returned x ∧ ∃ F, TwoD w w' g r F a q q
theorem TwoD.read {w wr : World} {g r : Nat} {F : Nat → Prop} {a : Addr} {q : DSt} {k m : Nat} (h : TwoD w wr g r F a q q) (hf : q.Fit k m) (i : Int) (hi : -9223372036854775808 ≤ i ∧ i ≤ 9223372036854775807) :
    Calls Tryz.prog 60 #[.pointer (some a), .int .i64 i] wr (AsTwo w g r a q (.tuple #[.string (q.readS i), .int .i64 (q.readE i)])) :=
  (k_read q F a i wr k m h.own hf hi).mono fun e w' k => by
    obtain ⟨k0, F', k1, k2, k3⟩ := k
    exact ⟨k0, F', h.first k1 k2 k3⟩
set_option maxRecDepth 20000 in
set_option maxHeartbeats 2000000 in
theorem same_two (w wr : World) (g r : Nat) (F : Nat → Prop) (a : Addr) (q : DSt) (k m : Nat) (h : TwoD w wr g r F a q q) (hf : q.Fit k m) :
    Calls Tryz.prog 26 #[.pointer (some a), .pointer (some ⟨g, 0, none⟩)] wr (AsTwo w g r a q (.bool true)) := by
  have H := Lib.hid h
  obtain ⟨c, -, a0, a1, -, -, -, a5, -⟩ := doc_cells h.doc
  have HC : Hid (∀ W : World, W.heap[g]? = wr.heap[g]? → W.cell? ⟨g, 0, none⟩ = some (.slice (some ⟨r, 0, none⟩) q.S.length c) ∧ W.cell? ⟨g, 1, none⟩ = some (.bool q.dead) ∧ W.cell? ⟨g, 5, none⟩ = some (.int .i64 q.writes)) := fun W hh => by
    refine ⟨?_, ?_, ?_⟩
    · rw [← a0]; exact World.cell?_of_block hh
    · rw [← a1]; exact World.cell?_of_block hh
    · rw [← a5]; exact World.cell?_of_block hh
  have E0 : Hid (wr.drew.heap[g]? = wr.heap[g]?) := rfl
  have C0 := HC.out wr.drew E0.out
  clear a0 a1 a5
  unfold AsTwo
  go_enter Tryz.func26, Tryz.ntmps26
  go_wp2_with fail
  have HD := Lib.hid h.drew
  clear h
  go_region_held3 (fun w' => w'.cell? ⟨g, 0, none⟩ = some (.slice (some ⟨r, 0, none⟩) q.S.length c) ∧ w'.cell? ⟨g, 1, none⟩ = some (.bool q.dead) ∧ w'.cell? ⟨g, 5, none⟩ = some (.int .i64 q.writes))
    (first | exact C3 | exact C2 | exact C1 | exact C0)
    (first
      | (go_at_call 24
         with_reducible refine (k_dead q F a wr.drew k m HD.out.own hf).mono ?_
         rintro e w1 ⟨rfl, F1, n1, n2, n3⟩
         have E1 := Lib.hid ((n2.block g HD.out.doc.lt.1 HD.out.apart.1).trans E0.out)
         have H1 := Lib.hid (HD.out.first n1 n2 n3)
         have C1 := HC.out w1 E1.out
         clear n1 n2 n3)
      | (go_at_call 59
         with_reducible refine (k_size q F1 a w1 k m H1.out.own hf).mono ?_
         rintro e w2 ⟨rfl, F2, n1, n2, n3⟩
         have E2 := Lib.hid ((n2.block g H1.out.doc.lt.1 H1.out.apart.1).trans E1.out)
         have H2 := Lib.hid (H1.out.first n1 n2 n3)
         have C2 := HC.out w2 E2.out
         clear n1 n2 n3)
      | (go_at_call 25
         with_reducible refine (k_writes q F2 a w2 k m H2.out.own hf).mono ?_
         rintro e w3 ⟨rfl, F3, n1, n2, n3⟩
         have E3 := Lib.hid ((n2.block g H2.out.doc.lt.1 H2.out.apart.1).trans E2.out)
         have H3 := Lib.hid (H2.out.first n1 n2 n3)
         have C3 := HC.out w3 E3.out
         clear n1 n2 n3))
  clear C0 C1 C2 C3 HD H1 H2 H E0 E1 E2
  have hmost : q.S.length ≤ 4096 := by rw [hf.len]; exact hf.most
  have HF := Lib.hid hf
  go_wp2_with fail
  go_loopw [5] (fun t W => ∃ (n : Nat) (F : Nat → Prop), n ≤ q.S.length + 2 ∧ t = .int .i64 ((n : Int) - 1) ∧ Hid (TwoD w W g r F a q q) ∧ Hid (W.heap[g]? = wr.heap[g]?)) (fun t _ => q.S.length + 2 - ((intOf t) + 1).toNat)
  case atStart => exact ⟨0, F3, Nat.zero_le _, rfl, H3, E3⟩
  case round =>
    obtain ⟨n, F4, hn, rfl, HT, HE⟩ := hrel
    obtain ⟨a0, -, -⟩ := HC.out _ HE.out
    by_cases hlt : n < q.S.length + 2
    · have t1 : decide ((n : Int) - 1 ≤ (q.S.length : Int)) = true := decide_eq_true (by omega)
      have i1 : IntKind.i64.wrap ((n : Int) - 1 + 1) = ((n + 1 : Nat) : Int) - 1 := by rw [IntWalk.i64_in _ (by omega)]; omega
      have RD := Lib.hid (k_read q F4 a ((n : Int) - 1) _ k m HT.out.own HF.out (by omega))
      have RR : Hid (∀ W, DocAt W g r q → Calls Tryz.prog 41 #[.pointer (some ⟨g, 0, none⟩), .int .i64 ((n : Int) - 1)] W fun e w' => e = .returned (.tuple #[.string (q.readS ((n : Int) - 1)), .int .i64 (q.readE ((n : Int) - 1))]) ∧ W = w') := fun W hW => r_read q g r ((n : Int) - 1) W hW (by omega)
      generalize q.readS ((n : Int) - 1) = s1 at *
      generalize q.readE ((n : Int) - 1) = s2 at *
      go_wp2_with fail
      refine RD.out.mono ?_
      rintro e w5 ⟨rfl, F5, n1, n2, n3⟩
      have E5 := Lib.hid ((n2.block g HT.out.doc.lt.1 HT.out.apart.1).trans HE.out)
      have H5 := Lib.hid (HT.out.first n1 n2 n3)
      clear n1 n2 n3 RD
      go_wp2_with fail
      refine (RR.out w5 H5.out.doc).mono ?_
      rintro e w6 ⟨rfl, rfl⟩
      clear RR a0
      go_wp2_with fail
      go_roundw
      case rel => exact ⟨n + 1, F5, by omega, by first | go_num | (congr 1; omega), H5, E5⟩
      case measure => simp [intOf]; omega
    · obtain rfl : n = q.S.length + 2 := by omega
      have t1 : decide (((q.S.length + 2 : Nat) : Int) - 1 ≤ (q.S.length : Int)) = false := decide_eq_false (by omega)
      go_wp2_with fail
      go_ret
      exact ⟨rfl, F4, HT.out⟩
end Go.Proofs.YtndanhacmfhlaaaGreat.Disk
