/-
  NARROWER THAN 'FOR EVERY INPUT', by the rows' own cells (each row's printed sentence says how): StepTells: laid · StepRises: laid.
  DERIVED. THE GIVEN ROWS OF THIS SEAT. 2 by the template 'for every input the law returns true; each argument reads behind the call as it read before'; 0 by the template 'total and deterministic' (their statements: YtppogilkhgppdaaDoorTotals.lean).
  GIVEN WITH THE SEED: the statements are not yours to turn. If you find one false, say at which input.
  Laid BY PROGRAM, IN A SANDBOX (cutbox-rows.mjs): the forced cells as the released guide's own fill.sh prints them over the translation fd0e439dab947702… (all of the seat's roots in one cut). By AI agents, Wed Nov 11 2026. No macro, syntax, notation, axiom, sorry.
-/
import Derived.Test.YtppogilkhgppdaaDoorChecked
import GoSem.Claim
import GoSem.ClaimJoined
import GoSem.ClaimMapViews
import Derived.JoinedTies
import Derived.KernelRfl
namespace Go.Proofs.YtppogilkhgppdaaDoor
/- THE CELL 'sum', in the pinned program and in every row, IS THE sha256 OF THE DUMP (.gsa) THAT YtppogilkhgppdaaDoorProg.lean LOADS. Nothing in Lean hashes anything: it is a label: what it is worth is what the hold of that sum in a sandbox is worth. -/
noncomputable def Tryd.pinned : Pinned := { name := "ytppogilkhgppdaadoor", sum := "fd0e439dab947702e6d40382e3e521fa175cdcbb366c7a72d052d1453dc4d9a1", checked := Tryd.checked }
namespace Rows
def none {H : Type} : Left H := { results := [], args := [] }

/- WHAT THE LISTED PACKAGE-LEVEL VARIABLES READ AS WHEN THE CALL BEGINS. Each datum BY PROGRAM (the guide's laid-datum.mjs) off the statement by which the dump's own 'gosem.cut.vars' lays the variable. In a bare row this is a premise. The card (YtppogilkhgppdaaDoorCards.lean) ties it to the program's text. -/
def laid_annuity_step_shares {H : Type} : DataW H := .agg [.lit (.int .i64 60), .lit (.int .i64 80), .lit (.int .i64 100), .lit (.int .i64 125), .lit (.int .i64 150)]

/-- 'annuitylaw16.StepTells': WHATEVER THE INPUT: true; the input reads as it did. -/
def stepTellsSpec : ChangeSpec := { name := "stepTells", fn := fun _ => fun
  | [d1, d2, d3] => { results := [.lit (.bool true)], args := [d1, d2, d3] }
  | _ => none }
def stepTellsRow : OpenClaim := { program := "ytppogilkhgppdaadoor", sum := "fd0e439dab947702e6d40382e3e521fa175cdcbb366c7a72d052d1453dc4d9a1", func := "annuity/annuitylaw16.StepTells", spec := "stepTells", named := ["annuity/step.shares", "math/bits.divideError", "math/bits.overflowError"], apart := false, laid := [("annuity/step.shares", laid_annuity_step_shares)] }
def StepTellsSaid : Prop := stepTellsRow.holds Tryd.pinned (OpenSpec.ofChange stepTellsSpec)

/-- ITS FALSE NEIGHBOUR: 'it returns false'. Refute it at one input. -/
def stepTellsWrong : ChangeSpec := { name := "stepTells", fn := fun _ => fun
  | [d1, d2, d3] => { results := [.lit (.bool false)], args := [d1, d2, d3] }
  | _ => none }
def StepTellsWrongFalsely : Prop := stepTellsRow.holds Tryd.pinned (OpenSpec.ofChange stepTellsWrong)

/-- 'annuitylaw16.StepRises': WHATEVER THE INPUT: true; the input reads as it did. -/
def stepRisesSpec : ChangeSpec := { name := "stepRises", fn := fun _ => fun
  | [d1, d2, d3] => { results := [.lit (.bool true)], args := [d1, d2, d3] }
  | _ => none }
def stepRisesRow : OpenClaim := { program := "ytppogilkhgppdaadoor", sum := "fd0e439dab947702e6d40382e3e521fa175cdcbb366c7a72d052d1453dc4d9a1", func := "annuity/annuitylaw16.StepRises", spec := "stepRises", named := ["annuity/step.shares", "math/bits.divideError", "math/bits.overflowError"], apart := false, laid := [("annuity/step.shares", laid_annuity_step_shares)] }
def StepRisesSaid : Prop := stepRisesRow.holds Tryd.pinned (OpenSpec.ofChange stepRisesSpec)

/-- ITS FALSE NEIGHBOUR: 'it returns false'. Refute it at one input. -/
def stepRisesWrong : ChangeSpec := { name := "stepRises", fn := fun _ => fun
  | [d1, d2, d3] => { results := [.lit (.bool false)], args := [d1, d2, d3] }
  | _ => none }
def StepRisesWrongFalsely : Prop := stepRisesRow.holds Tryd.pinned (OpenSpec.ofChange stepRisesWrong)

/- THE SECOND FORM. 'bulk': how many values and letters a reading holds, each counted each time it is reached (what is shared counts as often as it is met; a slice's spare places count too). A statement '..UptoSaid' is the law's where the arguments, and the package variables that the reading takes, are together of bulk at most 1048576: NARROWER than '..Said'. Prove '..Said' where nothing that the law and all that it calls make is longer than what came in: it says more and counts as full. Else prove '..UptoSaid'. A law counts once. -/
mutual
def uptoBulk {H : Type} : DataW H → Nat
  | .lit (.string bytes) => bytes.length + 1
  | .lit _ => 1
  | .nil => 1
  | .ptr d => uptoBulk d + 1
  | .slice elems spare => uptoBulkAll elems + uptoBulkAll spare + 1
  | .agg parts => uptoBulkAll parts + 1
  | .iface _ d => uptoBulk d + 1
  | .map entries => uptoBulkEntries entries + 1
  | .held _ => 1
def uptoBulkAll {H : Type} : List (DataW H) → Nat
  | [] => 0
  | d :: r => uptoBulk d + uptoBulkAll r
def uptoBulkEntries {H : Type} : List (Lit × DataW H) → Nat
  | [] => 0
  | x :: r => uptoBulkEntry x + uptoBulkEntries r
def uptoBulkEntry {H : Type} : Lit × DataW H → Nat
  | (.string bytes, d) => bytes.length + uptoBulk d + 1
  | (_, d) => uptoBulk d + 1
 end
def uptoSmall : (H : Type) → List (DataW H) → Bool := fun _ ds => decide (uptoBulkAll ds ≤ 1048576)
def OpenSpec.upto (s : _root_.Go.ChangeSpec) : _root_.Go.OpenSpec := { _root_.Go.OpenSpec.ofChange s with cond := some uptoSmall }

/-- 'annuitylaw16.StepTells', WHERE WHAT IT READS IS OF BULK AT MOST 1048576: true; the input reads as it did. -/
def stepTellsUptoRow : OpenClaim := { program := "ytppogilkhgppdaadoor", sum := "fd0e439dab947702e6d40382e3e521fa175cdcbb366c7a72d052d1453dc4d9a1", func := "annuity/annuitylaw16.StepTells", spec := "stepTells", named := ["annuity/step.shares", "math/bits.divideError", "math/bits.overflowError"], apart := false, laid := [("annuity/step.shares", laid_annuity_step_shares)], narrowed := true }
def StepTellsUptoSaid : Prop := stepTellsUptoRow.holds Tryd.pinned (OpenSpec.upto stepTellsSpec)

/-- 'annuitylaw16.StepRises', WHERE WHAT IT READS IS OF BULK AT MOST 1048576: true; the input reads as it did. -/
def stepRisesUptoRow : OpenClaim := { program := "ytppogilkhgppdaadoor", sum := "fd0e439dab947702e6d40382e3e521fa175cdcbb366c7a72d052d1453dc4d9a1", func := "annuity/annuitylaw16.StepRises", spec := "stepRises", named := ["annuity/step.shares", "math/bits.divideError", "math/bits.overflowError"], apart := false, laid := [("annuity/step.shares", laid_annuity_step_shares)], narrowed := true }
def StepRisesUptoSaid : Prop := stepRisesUptoRow.holds Tryd.pinned (OpenSpec.upto stepRisesSpec)

end Rows
end Go.Proofs.YtppogilkhgppdaaDoor
