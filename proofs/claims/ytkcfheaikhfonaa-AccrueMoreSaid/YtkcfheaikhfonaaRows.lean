/-
  No cell of these rows narrows 'for every input' (looked for: loops, veiled, ifaces, maps, wideKeys, modest, calm, conditions, laid).
  DERIVED. THE GIVEN ROWS OF THIS SEAT. 4 by the template 'for every input the law returns true; each argument reads behind the call as it read before'; 0 by the template 'total and deterministic' (their statements: YtkcfheaikhfonaaTotals.lean).
  GIVEN WITH THE SEED: the statements are not yours to turn. If you find one false, say at which input.
  Laid BY PROGRAM, IN A SANDBOX (cutbox-rows.mjs): the forced cells as the released guide's own fill.sh prints them over the translation 9233b971e01e67c8… (all of the seat's roots in one cut). By AI agents, Wed Nov 11 2026. No macro, syntax, notation, axiom, sorry.
-/
import Derived.Test.YtkcfheaikhfonaaChecked
import GoSem.Claim
import GoSem.ClaimJoined
import GoSem.ClaimMapViews
import Derived.JoinedTies
import Derived.KernelRfl
namespace Go.Proofs.Ytkcfheaikhfonaa
/- THE CELL 'sum', in the pinned program and in every row, IS THE sha256 OF THE DUMP (.gsa) THAT YtkcfheaikhfonaaProg.lean LOADS. Nothing in Lean hashes anything: it is a label: what it is worth is what the hold of that sum in a sandbox is worth. -/
noncomputable def Try.pinned : Pinned := { name := "ytkcfheaikhfonaa", sum := "9233b971e01e67c85b39c48b8a4e1e549e2c95f2cdaff4fca6e542447162fe58", checked := Try.checked }
namespace Rows
def none {H : Type} : Left H := { results := [], args := [] }

/-- 'annuitylaw13.AccrueTells': WHATEVER THE INPUT: true; the input reads as it did. -/
def accrueTellsSpec : ChangeSpec := { name := "accrueTells", fn := fun _ => fun
  | [d1, d2, d3] => { results := [.lit (.bool true)], args := [d1, d2, d3] }
  | _ => none }
def accrueTellsRow : OpenClaim := { program := "ytkcfheaikhfonaa", sum := "9233b971e01e67c85b39c48b8a4e1e549e2c95f2cdaff4fca6e542447162fe58", func := "annuity/annuitylaw13.AccrueTells", spec := "accrueTells", unfollowed := true, recurses := true, named := ["math/bits.divideError", "math/bits.overflowError"], apart := false }
def AccrueTellsSaid : Prop := accrueTellsRow.holds Try.pinned (OpenSpec.ofChange accrueTellsSpec)

/-- ITS FALSE NEIGHBOUR: 'it returns false'. Refute it at one input. -/
def accrueTellsWrong : ChangeSpec := { name := "accrueTells", fn := fun _ => fun
  | [d1, d2, d3] => { results := [.lit (.bool false)], args := [d1, d2, d3] }
  | _ => none }
def AccrueTellsWrongFalsely : Prop := accrueTellsRow.holds Try.pinned (OpenSpec.ofChange accrueTellsWrong)

/-- 'annuitylaw13.AccrueTakes': WHATEVER THE INPUT: true; the input reads as it did. -/
def accrueTakesSpec : ChangeSpec := { name := "accrueTakes", fn := fun _ => fun
  | [d1, d2] => { results := [.lit (.bool true)], args := [d1, d2] }
  | _ => none }
def accrueTakesRow : OpenClaim := { program := "ytkcfheaikhfonaa", sum := "9233b971e01e67c85b39c48b8a4e1e549e2c95f2cdaff4fca6e542447162fe58", func := "annuity/annuitylaw13.AccrueTakes", spec := "accrueTakes", unfollowed := true, recurses := true, named := ["math/bits.divideError", "math/bits.overflowError"], apart := false }
def AccrueTakesSaid : Prop := accrueTakesRow.holds Try.pinned (OpenSpec.ofChange accrueTakesSpec)

/-- ITS FALSE NEIGHBOUR: 'it returns false'. Refute it at one input. -/
def accrueTakesWrong : ChangeSpec := { name := "accrueTakes", fn := fun _ => fun
  | [d1, d2] => { results := [.lit (.bool false)], args := [d1, d2] }
  | _ => none }
def AccrueTakesWrongFalsely : Prop := accrueTakesRow.holds Try.pinned (OpenSpec.ofChange accrueTakesWrong)

/-- 'annuitylaw13.AccrueAdds': WHATEVER THE INPUT: true; the input reads as it did. -/
def accrueAddsSpec : ChangeSpec := { name := "accrueAdds", fn := fun _ => fun
  | [d1, d2, d3] => { results := [.lit (.bool true)], args := [d1, d2, d3] }
  | _ => none }
def accrueAddsRow : OpenClaim := { program := "ytkcfheaikhfonaa", sum := "9233b971e01e67c85b39c48b8a4e1e549e2c95f2cdaff4fca6e542447162fe58", func := "annuity/annuitylaw13.AccrueAdds", spec := "accrueAdds", unfollowed := true, recurses := true, named := ["math/bits.divideError", "math/bits.overflowError"], apart := false }
def AccrueAddsSaid : Prop := accrueAddsRow.holds Try.pinned (OpenSpec.ofChange accrueAddsSpec)

/-- ITS FALSE NEIGHBOUR: 'it returns false'. Refute it at one input. -/
def accrueAddsWrong : ChangeSpec := { name := "accrueAdds", fn := fun _ => fun
  | [d1, d2, d3] => { results := [.lit (.bool false)], args := [d1, d2, d3] }
  | _ => none }
def AccrueAddsWrongFalsely : Prop := accrueAddsRow.holds Try.pinned (OpenSpec.ofChange accrueAddsWrong)

/-- 'annuitylaw13.AccrueMore': WHATEVER THE INPUT: true; the input reads as it did. -/
def accrueMoreSpec : ChangeSpec := { name := "accrueMore", fn := fun _ => fun
  | [d1, d2, d3] => { results := [.lit (.bool true)], args := [d1, d2, d3] }
  | _ => none }
def accrueMoreRow : OpenClaim := { program := "ytkcfheaikhfonaa", sum := "9233b971e01e67c85b39c48b8a4e1e549e2c95f2cdaff4fca6e542447162fe58", func := "annuity/annuitylaw13.AccrueMore", spec := "accrueMore", unfollowed := true, recurses := true, named := ["math/bits.divideError", "math/bits.overflowError"], apart := false }
def AccrueMoreSaid : Prop := accrueMoreRow.holds Try.pinned (OpenSpec.ofChange accrueMoreSpec)

/-- ITS FALSE NEIGHBOUR: 'it returns false'. Refute it at one input. -/
def accrueMoreWrong : ChangeSpec := { name := "accrueMore", fn := fun _ => fun
  | [d1, d2, d3] => { results := [.lit (.bool false)], args := [d1, d2, d3] }
  | _ => none }
def AccrueMoreWrongFalsely : Prop := accrueMoreRow.holds Try.pinned (OpenSpec.ofChange accrueMoreWrong)

/- THE SECOND FORM. 'bulk': how many values and letters a reading holds, each counted each time it is reached (what is shared counts as often as it is met; a slice's spare places count too). A statement '..UptoSaid' is the law's where the arguments, and the package variables that the reading takes, are together of bulk at most 1048576: NARROWER than '..Said'. Prove '..Said' where nothing that the law and all that it calls make is longer than what came in: it says more and counts as full. Else prove '..UptoSaid'. A law counts once. -/
mutual
def uptoBulk {H : Type} : DataW H → Nat
  | .lit (.string bytes) => bytes.length + 1
  | .lit _ => 1
  | .nil => 1
  | .ptr d => uptoBulk d + 1
  | .slice elems spare => uptoBulkAll elems + uptoBulkAll spare + 1
  | .agg parts => uptoBulkAll parts + 1
  | .iface _ d => uptoBulk d + 1
  | .map entries => uptoBulkEntries entries + 1
  | .held _ => 1
def uptoBulkAll {H : Type} : List (DataW H) → Nat
  | [] => 0
  | d :: r => uptoBulk d + uptoBulkAll r
def uptoBulkEntries {H : Type} : List (Lit × DataW H) → Nat
  | [] => 0
  | x :: r => uptoBulkEntry x + uptoBulkEntries r
def uptoBulkEntry {H : Type} : Lit × DataW H → Nat
  | (.string bytes, d) => bytes.length + uptoBulk d + 1
  | (_, d) => uptoBulk d + 1
 end
def uptoSmall : (H : Type) → List (DataW H) → Bool := fun _ ds => decide (uptoBulkAll ds ≤ 1048576)
def OpenSpec.upto (s : _root_.Go.ChangeSpec) : _root_.Go.OpenSpec := { _root_.Go.OpenSpec.ofChange s with cond := some uptoSmall }

/-- 'annuitylaw13.AccrueTells', WHERE WHAT IT READS IS OF BULK AT MOST 1048576: true; the input reads as it did. -/
def accrueTellsUptoRow : OpenClaim := { program := "ytkcfheaikhfonaa", sum := "9233b971e01e67c85b39c48b8a4e1e549e2c95f2cdaff4fca6e542447162fe58", func := "annuity/annuitylaw13.AccrueTells", spec := "accrueTells", unfollowed := true, recurses := true, named := ["math/bits.divideError", "math/bits.overflowError"], apart := false, narrowed := true }
def AccrueTellsUptoSaid : Prop := accrueTellsUptoRow.holds Try.pinned (OpenSpec.upto accrueTellsSpec)

/-- 'annuitylaw13.AccrueTakes', WHERE WHAT IT READS IS OF BULK AT MOST 1048576: true; the input reads as it did. -/
def accrueTakesUptoRow : OpenClaim := { program := "ytkcfheaikhfonaa", sum := "9233b971e01e67c85b39c48b8a4e1e549e2c95f2cdaff4fca6e542447162fe58", func := "annuity/annuitylaw13.AccrueTakes", spec := "accrueTakes", unfollowed := true, recurses := true, named := ["math/bits.divideError", "math/bits.overflowError"], apart := false, narrowed := true }
def AccrueTakesUptoSaid : Prop := accrueTakesUptoRow.holds Try.pinned (OpenSpec.upto accrueTakesSpec)

/-- 'annuitylaw13.AccrueAdds', WHERE WHAT IT READS IS OF BULK AT MOST 1048576: true; the input reads as it did. -/
def accrueAddsUptoRow : OpenClaim := { program := "ytkcfheaikhfonaa", sum := "9233b971e01e67c85b39c48b8a4e1e549e2c95f2cdaff4fca6e542447162fe58", func := "annuity/annuitylaw13.AccrueAdds", spec := "accrueAdds", unfollowed := true, recurses := true, named := ["math/bits.divideError", "math/bits.overflowError"], apart := false, narrowed := true }
def AccrueAddsUptoSaid : Prop := accrueAddsUptoRow.holds Try.pinned (OpenSpec.upto accrueAddsSpec)

/-- 'annuitylaw13.AccrueMore', WHERE WHAT IT READS IS OF BULK AT MOST 1048576: true; the input reads as it did. -/
def accrueMoreUptoRow : OpenClaim := { program := "ytkcfheaikhfonaa", sum := "9233b971e01e67c85b39c48b8a4e1e549e2c95f2cdaff4fca6e542447162fe58", func := "annuity/annuitylaw13.AccrueMore", spec := "accrueMore", unfollowed := true, recurses := true, named := ["math/bits.divideError", "math/bits.overflowError"], apart := false, narrowed := true }
def AccrueMoreUptoSaid : Prop := accrueMoreUptoRow.holds Try.pinned (OpenSpec.upto accrueMoreSpec)

end Rows
end Go.Proofs.Ytkcfheaikhfonaa
