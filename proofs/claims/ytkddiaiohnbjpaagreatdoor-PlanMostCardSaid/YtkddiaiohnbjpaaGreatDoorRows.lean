/-
  NARROWER THAN 'FOR EVERY INPUT', by the rows' own cells (each row's printed sentence says how): PlanSets: laid · PlanAsks: laid · PlanMost: laid · PlanLapses: laid.
  DERIVED. THE GIVEN ROWS OF THIS SEAT. 4 by the template 'for every input the law returns true; each argument reads behind the call as it read before'; 0 by the template 'total and deterministic' (their statements: YtkddiaiohnbjpaaGreatDoorTotals.lean).
  GIVEN WITH THE SEED: the statements are not yours to turn. If you find one false, say at which input.
  Laid BY PROGRAM, IN A SANDBOX (cutbox-rows.mjs): the forced cells as the released guide's own fill.sh prints them over the translation d5396547e62c0ee1… (all of the seat's roots in one cut). By AI agents, Wed Nov 11 2026. No macro, syntax, notation, axiom, sorry.
-/
import Derived.Test.YtkddiaiohnbjpaaGreatDoorChecked
import GoSem.Claim
import GoSem.ClaimJoined
import GoSem.ClaimMapViews
import Derived.JoinedTies
import Derived.KernelRfl
namespace Go.Proofs.YtkddiaiohnbjpaaGreatDoor
/- THE CELL 'sum', in the pinned program and in every row, IS THE sha256 OF THE DUMP (.gsa) THAT YtkddiaiohnbjpaaGreatDoorProg.lean LOADS. Nothing in Lean hashes anything: it is a label: what it is worth is what the hold of that sum in a sandbox is worth. -/
noncomputable def Tryz.pinned : Pinned := { name := "ytkddiaiohnbjpaagreatdoor", sum := "d5396547e62c0ee1138e9736986beb9158387ce0707b09dfcbf6372245fc9cd9", checked := Tryz.checked }
namespace Rows
def none {H : Type} : Left H := { results := [], args := [] }

/- WHAT THE LISTED PACKAGE-LEVEL VARIABLES READ AS WHEN THE CALL BEGINS. Each datum BY PROGRAM (the guide's laid-datum.mjs) off the statement by which the dump's own 'gosem.cut.vars' lays the variable. In a bare row this is a premise. The card (YtkddiaiohnbjpaaGreatDoorCards.lean) ties it to the program's text. -/
def laid_annuity_date_lengths {H : Type} : DataW H := .agg [.lit (.int .i64 31), .lit (.int .i64 28), .lit (.int .i64 31), .lit (.int .i64 30), .lit (.int .i64 31), .lit (.int .i64 30), .lit (.int .i64 31), .lit (.int .i64 31), .lit (.int .i64 30), .lit (.int .i64 31), .lit (.int .i64 30), .lit (.int .i64 31)]
def laid_annuity_step_shares {H : Type} : DataW H := .agg [.lit (.int .i64 60), .lit (.int .i64 80), .lit (.int .i64 100), .lit (.int .i64 125), .lit (.int .i64 150)]

/-- 'annuitylaw18.PlanSets': WHATEVER THE INPUT: true; the input reads as it did. -/
def planSetsSpec : ChangeSpec := { name := "planSets", fn := fun _ => fun
  | [d] => { results := [.lit (.bool true)], args := [d] }
  | _ => none }
def planSetsRow : OpenClaim := { program := "ytkddiaiohnbjpaagreatdoor", sum := "d5396547e62c0ee1138e9736986beb9158387ce0707b09dfcbf6372245fc9cd9", func := "annuity/annuitylaw18.PlanSets", spec := "planSets", unfollowed := true, recurses := true, named := ["math/bits.divideError", "math/bits.overflowError", "annuity/date.lengths", "annuity/step.shares"], apart := false, laid := [("annuity/date.lengths", laid_annuity_date_lengths), ("annuity/step.shares", laid_annuity_step_shares)] }
def PlanSetsSaid : Prop := planSetsRow.holds Tryz.pinned (OpenSpec.ofChange planSetsSpec)

/-- ITS FALSE NEIGHBOUR: 'it returns false'. Refute it at one input. -/
def planSetsWrong : ChangeSpec := { name := "planSets", fn := fun _ => fun
  | [d] => { results := [.lit (.bool false)], args := [d] }
  | _ => none }
def PlanSetsWrongFalsely : Prop := planSetsRow.holds Tryz.pinned (OpenSpec.ofChange planSetsWrong)

/-- 'annuitylaw18.PlanAsks': WHATEVER THE INPUT: true; the input reads as it did. -/
def planAsksSpec : ChangeSpec := { name := "planAsks", fn := fun _ => fun
  | [d1, d2, d3] => { results := [.lit (.bool true)], args := [d1, d2, d3] }
  | _ => none }
def planAsksRow : OpenClaim := { program := "ytkddiaiohnbjpaagreatdoor", sum := "d5396547e62c0ee1138e9736986beb9158387ce0707b09dfcbf6372245fc9cd9", func := "annuity/annuitylaw18.PlanAsks", spec := "planAsks", unfollowed := true, recurses := true, named := ["math/bits.divideError", "math/bits.overflowError", "annuity/date.lengths", "annuity/step.shares"], apart := false, laid := [("annuity/date.lengths", laid_annuity_date_lengths), ("annuity/step.shares", laid_annuity_step_shares)] }
def PlanAsksSaid : Prop := planAsksRow.holds Tryz.pinned (OpenSpec.ofChange planAsksSpec)

/-- ITS FALSE NEIGHBOUR: 'it returns false'. Refute it at one input. -/
def planAsksWrong : ChangeSpec := { name := "planAsks", fn := fun _ => fun
  | [d1, d2, d3] => { results := [.lit (.bool false)], args := [d1, d2, d3] }
  | _ => none }
def PlanAsksWrongFalsely : Prop := planAsksRow.holds Tryz.pinned (OpenSpec.ofChange planAsksWrong)

/-- 'annuitylaw18.PlanMost': WHATEVER THE INPUT: true; the input reads as it did. -/
def planMostSpec : ChangeSpec := { name := "planMost", fn := fun _ => fun
  | [d1, d2, d3] => { results := [.lit (.bool true)], args := [d1, d2, d3] }
  | _ => none }
def planMostRow : OpenClaim := { program := "ytkddiaiohnbjpaagreatdoor", sum := "d5396547e62c0ee1138e9736986beb9158387ce0707b09dfcbf6372245fc9cd9", func := "annuity/annuitylaw18.PlanMost", spec := "planMost", unfollowed := true, recurses := true, named := ["math/bits.divideError", "math/bits.overflowError", "annuity/date.lengths", "annuity/step.shares"], apart := false, laid := [("annuity/date.lengths", laid_annuity_date_lengths), ("annuity/step.shares", laid_annuity_step_shares)] }
def PlanMostSaid : Prop := planMostRow.holds Tryz.pinned (OpenSpec.ofChange planMostSpec)

/-- ITS FALSE NEIGHBOUR: 'it returns false'. Refute it at one input. -/
def planMostWrong : ChangeSpec := { name := "planMost", fn := fun _ => fun
  | [d1, d2, d3] => { results := [.lit (.bool false)], args := [d1, d2, d3] }
  | _ => none }
def PlanMostWrongFalsely : Prop := planMostRow.holds Tryz.pinned (OpenSpec.ofChange planMostWrong)

/-- 'annuitylaw18.PlanLapses': WHATEVER THE INPUT: true; the input reads as it did. -/
def planLapsesSpec : ChangeSpec := { name := "planLapses", fn := fun _ => fun
  | [d1, d2, d3] => { results := [.lit (.bool true)], args := [d1, d2, d3] }
  | _ => none }
def planLapsesRow : OpenClaim := { program := "ytkddiaiohnbjpaagreatdoor", sum := "d5396547e62c0ee1138e9736986beb9158387ce0707b09dfcbf6372245fc9cd9", func := "annuity/annuitylaw18.PlanLapses", spec := "planLapses", unfollowed := true, recurses := true, named := ["annuity/date.lengths", "math/bits.divideError", "math/bits.overflowError", "annuity/step.shares"], apart := false, laid := [("annuity/date.lengths", laid_annuity_date_lengths), ("annuity/step.shares", laid_annuity_step_shares)] }
def PlanLapsesSaid : Prop := planLapsesRow.holds Tryz.pinned (OpenSpec.ofChange planLapsesSpec)

/-- ITS FALSE NEIGHBOUR: 'it returns false'. Refute it at one input. -/
def planLapsesWrong : ChangeSpec := { name := "planLapses", fn := fun _ => fun
  | [d1, d2, d3] => { results := [.lit (.bool false)], args := [d1, d2, d3] }
  | _ => none }
def PlanLapsesWrongFalsely : Prop := planLapsesRow.holds Tryz.pinned (OpenSpec.ofChange planLapsesWrong)

/- THE SECOND FORM. 'bulk': how many values and letters a reading holds, each counted each time it is reached (what is shared counts as often as it is met; a slice's spare places count too). A statement '..UptoSaid' is the law's where the arguments, and the package variables that the reading takes, are together of bulk at most 1048576: NARROWER than '..Said'. Prove '..Said' where nothing that the law and all that it calls make is longer than what came in: it says more and counts as full. Else prove '..UptoSaid'. A law counts once. -/
mutual
def uptoBulk {H : Type} : DataW H → Nat
  | .lit (.string bytes) => bytes.length + 1
  | .lit _ => 1
  | .nil => 1
  | .ptr d => uptoBulk d + 1
  | .slice elems spare => uptoBulkAll elems + uptoBulkAll spare + 1
  | .agg parts => uptoBulkAll parts + 1
  | .iface _ d => uptoBulk d + 1
  | .map entries => uptoBulkEntries entries + 1
  | .held _ => 1
def uptoBulkAll {H : Type} : List (DataW H) → Nat
  | [] => 0
  | d :: r => uptoBulk d + uptoBulkAll r
def uptoBulkEntries {H : Type} : List (Lit × DataW H) → Nat
  | [] => 0
  | x :: r => uptoBulkEntry x + uptoBulkEntries r
def uptoBulkEntry {H : Type} : Lit × DataW H → Nat
  | (.string bytes, d) => bytes.length + uptoBulk d + 1
  | (_, d) => uptoBulk d + 1
 end
def uptoSmall : (H : Type) → List (DataW H) → Bool := fun _ ds => decide (uptoBulkAll ds ≤ 1048576)
def OpenSpec.upto (s : _root_.Go.ChangeSpec) : _root_.Go.OpenSpec := { _root_.Go.OpenSpec.ofChange s with cond := some uptoSmall }

/-- 'annuitylaw18.PlanSets', WHERE WHAT IT READS IS OF BULK AT MOST 1048576: true; the input reads as it did. -/
def planSetsUptoRow : OpenClaim := { program := "ytkddiaiohnbjpaagreatdoor", sum := "d5396547e62c0ee1138e9736986beb9158387ce0707b09dfcbf6372245fc9cd9", func := "annuity/annuitylaw18.PlanSets", spec := "planSets", unfollowed := true, recurses := true, named := ["math/bits.divideError", "math/bits.overflowError", "annuity/date.lengths", "annuity/step.shares"], apart := false, laid := [("annuity/date.lengths", laid_annuity_date_lengths), ("annuity/step.shares", laid_annuity_step_shares)], narrowed := true }
def PlanSetsUptoSaid : Prop := planSetsUptoRow.holds Tryz.pinned (OpenSpec.upto planSetsSpec)

/-- 'annuitylaw18.PlanAsks', WHERE WHAT IT READS IS OF BULK AT MOST 1048576: true; the input reads as it did. -/
def planAsksUptoRow : OpenClaim := { program := "ytkddiaiohnbjpaagreatdoor", sum := "d5396547e62c0ee1138e9736986beb9158387ce0707b09dfcbf6372245fc9cd9", func := "annuity/annuitylaw18.PlanAsks", spec := "planAsks", unfollowed := true, recurses := true, named := ["math/bits.divideError", "math/bits.overflowError", "annuity/date.lengths", "annuity/step.shares"], apart := false, laid := [("annuity/date.lengths", laid_annuity_date_lengths), ("annuity/step.shares", laid_annuity_step_shares)], narrowed := true }
def PlanAsksUptoSaid : Prop := planAsksUptoRow.holds Tryz.pinned (OpenSpec.upto planAsksSpec)

/-- 'annuitylaw18.PlanMost', WHERE WHAT IT READS IS OF BULK AT MOST 1048576: true; the input reads as it did. -/
def planMostUptoRow : OpenClaim := { program := "ytkddiaiohnbjpaagreatdoor", sum := "d5396547e62c0ee1138e9736986beb9158387ce0707b09dfcbf6372245fc9cd9", func := "annuity/annuitylaw18.PlanMost", spec := "planMost", unfollowed := true, recurses := true, named := ["math/bits.divideError", "math/bits.overflowError", "annuity/date.lengths", "annuity/step.shares"], apart := false, laid := [("annuity/date.lengths", laid_annuity_date_lengths), ("annuity/step.shares", laid_annuity_step_shares)], narrowed := true }
def PlanMostUptoSaid : Prop := planMostUptoRow.holds Tryz.pinned (OpenSpec.upto planMostSpec)

/-- 'annuitylaw18.PlanLapses', WHERE WHAT IT READS IS OF BULK AT MOST 1048576: true; the input reads as it did. -/
def planLapsesUptoRow : OpenClaim := { program := "ytkddiaiohnbjpaagreatdoor", sum := "d5396547e62c0ee1138e9736986beb9158387ce0707b09dfcbf6372245fc9cd9", func := "annuity/annuitylaw18.PlanLapses", spec := "planLapses", unfollowed := true, recurses := true, named := ["annuity/date.lengths", "math/bits.divideError", "math/bits.overflowError", "annuity/step.shares"], apart := false, laid := [("annuity/date.lengths", laid_annuity_date_lengths), ("annuity/step.shares", laid_annuity_step_shares)], narrowed := true }
def PlanLapsesUptoSaid : Prop := planLapsesUptoRow.holds Tryz.pinned (OpenSpec.upto planLapsesSpec)

end Rows
end Go.Proofs.YtkddiaiohnbjpaaGreatDoor
