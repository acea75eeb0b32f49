/- What accrue.Add and Take answer, at every input. -/
import Derived.Test.YtkegmgjagcefhaaAccrue
namespace Go.Proofs.Ytkegmgjagcefhaa.Accr
open Go.ChangeShapes Go.WideShapes Go.ChangeAt Go.RowKit Bits Law

theorem add_enters : ∀ (args : Array Value) (w : World), (callFunc 72 args).run Try.prog w = .ok (.enter 72 args) w :=
  enters_of Try.func72 (by kernel_rfl) rfl

theorem below_four (w : World) (a b c d : Obj) : Below w.heap.size w ((((w.alloc a).alloc b).alloc c).alloc d) := below_new (below_new (below_new (below_new (Below.refl _ _) _) _) _) _

theorem c_add_no (h p r n : Int) (w : World) (b1 b2 b3 : Bool) (hb : (b1 && b2 && b3) = false) (H1 : Hid (decide (0 ≤ h ∧ h ≤ 1000000000000000000) = b1)) (H2 : Hid (okD p r = b2)) (H3 : Hid (decide (0 ≤ n ∧ n ≤ 87658) = b3)) :
    Calls Try.prog 40 #[.int .i64 h, .int .i64 p, .int .i64 r, .int .i64 n] w fun e w' => e = .returned (.tuple #[.int .i64 0, .int .i64 1]) ∧ Below w.heap.size w w' := by
  have HB := Lib.hid (below_four w (.cells #[.int .i64 h] 2) (.cells #[.int .i64 p] 2) (.cells #[.int .i64 r] 3) (.cells #[.int .i64 n] 3))
  have K1 := Lib.hid (fun W => within_is h 1000000000000000000 b1 W H1)
  have K2 := Lib.hid (fun W => good_is p r b2 W H2)
  have K3 := Lib.hid (fun W => within_is n 87658 b3 W H3)
  clear H1 H2 H3
  go_enter Try.func40, Try.ntmps40
  cases b1 with
  | false =>
    go_wp2_with fail
    refine (K1.out _).mono ?_
    rintro e w' ⟨rfl, rfl⟩
    go_wp2_with fail
    go_ret2
    exact ⟨rfl, HB.out⟩
  | true =>
    cases b2 with
    | false =>
      go_wp2_with fail
      refine (K1.out _).mono ?_
      rintro e w' ⟨rfl, rfl⟩
      go_wp2_with fail
      refine (K2.out _).mono ?_
      rintro e w' ⟨rfl, rfl⟩
      go_wp2_with fail
      go_ret2
      exact ⟨rfl, HB.out⟩
    | true =>
      cases b3 with
      | true => cases hb
      | false =>
        go_wp2_with fail
        refine (K1.out _).mono ?_
        rintro e w' ⟨rfl, rfl⟩
        go_wp2_with fail
        refine (K2.out _).mono ?_
        rintro e w' ⟨rfl, rfl⟩
        go_wp2_with fail
        refine (K3.out _).mono ?_
        rintro e w' ⟨rfl, rfl⟩
        go_wp2_with fail
        go_ret2
        exact ⟨rfl, HB.out⟩

theorem c_add_yes (h p r n : Int) (w : World) (h0 : 0 ≤ h) (h1 : h ≤ 1000000000000000000) (hg : okD p r = true) (n0 : 0 ≤ n) (n1 : n ≤ 87658) (v x : Int) (hv : (h + dayI p r * n ≤ 1000000000000000000 ∧ v = h + dayI p r * n ∧ x = 0) ∨ (¬ h + dayI p r * n ≤ 1000000000000000000 ∧ v = 0 ∧ x = 14)) :
    Calls Try.prog 40 #[.int .i64 h, .int .i64 p, .int .i64 r, .int .i64 n] w fun e w' => e = .returned (.tuple #[.int .i64 v, .int .i64 x]) ∧ Below w.heap.size w w' := by
  have hmf : ∀ (fn : Fn) (first cap : Array Value) (w : World), (Instr.makeFunc fn first cap).run Try.prog w = .ok (.func fn first cap) w := fun _ _ _ _ => rfl
  have HB := Lib.hid (below_four w (.cells #[.int .i64 h] 2) (.cells #[.int .i64 p] 2) (.cells #[.int .i64 r] 3) (.cells #[.int .i64 n] 3))
  have K1 := Lib.hid (fun W => within_is h 1000000000000000000 true W (decide_eq_true ⟨h0, h1⟩))
  have K2 := Lib.hid (fun W => good_is p r true W hg)
  have K3 := Lib.hid (fun W => within_is n 87658 true W (decide_eq_true ⟨n0, n1⟩))
  have KT : Hid (∀ W a b c d, W.cell? ⟨a, 0, none⟩ = some (.int .i64 h) → W.cell? ⟨b, 0, none⟩ = some (.int .i64 p) → W.cell? ⟨c, 0, none⟩ = some (.int .i64 r) → W.cell? ⟨d, 0, none⟩ = some (.int .i64 n) → a < W.heap.size → b < W.heap.size → c < W.heap.size → d < W.heap.size →
      Calls Try.prog 71 #[.func (.func 72) #[] #[.pointer (some ⟨a, 0, none⟩), .pointer (some ⟨b, 0, none⟩), .pointer (some ⟨c, 0, none⟩), .pointer (some ⟨d, 0, none⟩)]] W fun e w' => e = .returned (.tuple #[.int .i64 v, .int .i64 x]) ∧ Below W.heap.size W w') := by
    intro W a b c d ca cb cc cd la lb lc ld
    have cell2 : ∀ (g : Nat) (u : Value), W.cell? ⟨g, 0, none⟩ = some u → g < W.heap.size → ((W.alloc (.cells #[.int .i64 0] 2)).alloc (.cells #[.int .i64 0] 24)).cell? ⟨g, 0, none⟩ = some u := fun g u hu hl =>
      ((below_new (below_new (Below.refl _ W) _) _).cell (p := ⟨g, 0, none⟩) hl).trans hu
    rcases hv with ⟨hs, rfl, rfl⟩ | ⟨hs, rfl, rfl⟩
    · exact told_ok _ _ _ _ add_enters (add_ok _ h p r n a b c d (cell2 _ _ ca la) (cell2 _ _ cb lb) (cell2 _ _ cc lc) (cell2 _ _ cd ld) h0 h1 hg n0 n1 hs)
    · by_cases hf : dayI p r * n ≤ 1000000000000000000
      · exact told_bad _ _ _ add_enters (add_over _ h p r n a b c d (cell2 _ _ ca la) (cell2 _ _ cb lb) (cell2 _ _ cc lc) (cell2 _ _ cd ld) h0 h1 hg n0 n1 hf hs)
      · exact told_bad _ _ _ add_enters (add_far _ h p r n a b c d (cell2 _ _ ca la) (cell2 _ _ cb lb) (cell2 _ _ cc lc) (cell2 _ _ cd ld) hg n0 n1 hf)
  clear h0 h1 hg n0 n1 hv
  go_enter Try.func40, Try.ntmps40
  go_wp2_with fail
  refine (K1.out _).mono ?_
  rintro e w' ⟨rfl, rfl⟩
  go_wp2_with fail
  refine (K2.out _).mono ?_
  rintro e w' ⟨rfl, rfl⟩
  go_wp2_with fail
  refine (K3.out _).mono ?_
  rintro e w' ⟨rfl, rfl⟩
  go_wp2_with fail
  refine (KT.out _ w.heap.size (w.heap.size + 1) (w.heap.size + 2) (w.heap.size + 3) (by simp [go_sem]) (by simp [go_sem]) (by simp [go_sem]) (by simp [go_sem]) (by simp <;> omega) (by simp <;> omega) (by simp <;> omega) (by simp <;> omega)).mono ?_
  rintro e w1 ⟨rfl, hb⟩
  have HB1 := Lib.hid hb
  clear hb
  go_wp2_with fail
  go_ret2
  exact ⟨rfl, HB.out.trans (HB1.out.mono HB.out.size)⟩

theorem c_add (h p r n : Int) (w : World) : Calls Try.prog 40 #[.int .i64 h, .int .i64 p, .int .i64 r, .int .i64 n] w fun e w' => e = .returned (.tuple #[.int .i64 (aV h p r n), .int .i64 (aE h p r n)]) ∧ Below w.heap.size w w' := by
  cases hk : okA h p r n with
  | false =>
    rw [(aV_no hk).1, (aV_no hk).2]
    exact c_add_no h p r n w _ _ _ (by unfold okA at hk; exact hk) (Lib.hid rfl) (Lib.hid rfl) (Lib.hid rfl)
  | true =>
    obtain ⟨h0, h1, hg, n0, n1⟩ := okA_iff.1 hk
    refine c_add_yes h p r n w h0 h1 hg n0 n1 _ _ ?_
    by_cases hs : h + dayI p r * n ≤ 1000000000000000000
    · exact Or.inl ⟨hs, aV_yes hk hs⟩
    · exact Or.inr ⟨hs, aV_over hk hs⟩

theorem c_take (m c : Int) (w : World) (hm : m ≤ 9223372036854775807) : Calls Try.prog 60 #[.int .i64 m, .int .i64 c] w fun e w' => e = .returned (.tuple #[.int .i64 (tV m c), .int .i64 (tE m c)]) ∧ w = w' := by
  have KW := Lib.hid (fun W => whole_any m W hm)
  cases h1 : decide (0 ≤ m ∧ m ≤ 1000000000000000000) with
  | false =>
    have hk : okT m c = false := by
      unfold okT; rw [decide_eq_false_iff_not]; exact fun h => of_decide_eq_false h1 ⟨h.1, h.2.1⟩
    rw [(tV_no hk).1, (tV_no hk).2]
    have K1 := Lib.hid (fun W => within_is m 1000000000000000000 false W h1)
    clear h1 hk hm
    go_enter Try.func60, Try.ntmps60
    go_wp2_with fail
    refine (K1.out _).mono ?_
    rintro e w' ⟨rfl, rfl⟩
    go_wp2_with fail
    go_ret2
    exact ⟨rfl, rfl⟩
  | true =>
    have K1 := Lib.hid (fun W => within_is m 1000000000000000000 true W h1)
    obtain ⟨m0, m1⟩ := of_decide_eq_true h1
    obtain ⟨q0, q1, q2⟩ := wholeI_le m hm
    cases h2 : decide (0 ≤ c ∧ c ≤ wholeI m) with
    | false =>
      have hk : okT m c = false := by
        unfold okT; rw [decide_eq_false_iff_not]; exact fun h => of_decide_eq_false h2 h.2.2
      rw [(tV_no hk).1, (tV_no hk).2]
      have K2 := Lib.hid (fun W => within_is c (wholeI m) false W h2)
      clear h1 h2 hk hm m0 m1 q0 q1 q2
      go_enter Try.func60, Try.ntmps60
      go_wp2_with fail
      refine (K1.out _).mono ?_
      rintro e w' ⟨rfl, rfl⟩
      go_wp2_with fail
      refine (KW.out _).mono ?_
      rintro e w' ⟨rfl, rfl⟩
      go_wp2_with fail
      refine (K2.out _).mono ?_
      rintro e w' ⟨rfl, rfl⟩
      go_wp2_with fail
      go_ret2
      exact ⟨rfl, rfl⟩
    | true =>
      obtain ⟨c0, c1⟩ := of_decide_eq_true h2
      have hk : okT m c = true := by
        unfold okT; rw [decide_eq_true_eq]; exact ⟨m0, m1, c0, c1⟩
      rw [(tV_yes hk).1, (tV_yes hk).2]
      have K2 := Lib.hid (fun W => within_is c (wholeI m) true W h2)
      have W1 : wrap64 (c * 1000000) = c * 1000000 := by unfold wrap64; omega
      have W2 : wrap64 (m - c * 1000000) = m - c * 1000000 := by unfold wrap64; omega
      clear h1 h2 hk hm m0 m1 q0 q1 q2 c0 c1
      go_enter Try.func60, Try.ntmps60
      go_wp2_with fail
      refine (K1.out _).mono ?_
      rintro e w' ⟨rfl, rfl⟩
      go_wp2_with fail
      refine (KW.out _).mono ?_
      rintro e w' ⟨rfl, rfl⟩
      go_wp2_with fail
      refine (K2.out _).mono ?_
      rintro e w' ⟨rfl, rfl⟩
      go_wp2_with fail
      go_ret2
      exact ⟨by show Ending.returned (.tuple #[.int .i64 (wrap64 (m - c * 1000000)), .int .i64 0]) = _; rw [W2], rfl⟩
end Go.Proofs.Ytkegmgjagcefhaa.Accr
