/-
  NARROWER THAN 'FOR EVERY INPUT', by the rows' own cells (each row's printed sentence says how): BillTells: laid · BillIssues: laid · BillCredits: laid · BillAll: laid · BillAhead: laid.
  DERIVED. THE GIVEN ROWS OF THIS SEAT. 5 by the template 'for every input the law returns true; each argument reads behind the call as it read before'; 0 by the template 'total and deterministic' (their statements: YtjjbdemhccpllaaDoorTotals.lean).
  GIVEN WITH THE SEED: the statements are not yours to turn. If you find one false, say at which input.
  Laid BY PROGRAM, IN A SANDBOX (cutbox-rows.mjs): the forced cells as the released guide's own fill.sh prints them over the translation 38f8824ff6d6aa13… (all of the seat's roots in one cut). By AI agents, Wed Nov 11 2026. No macro, syntax, notation, axiom, sorry.
-/
import Derived.Test.YtjjbdemhccpllaaDoorChecked
import GoSem.Claim
import GoSem.ClaimJoined
import GoSem.ClaimMapViews
import Derived.JoinedTies
import Derived.KernelRfl
namespace Go.Proofs.YtjjbdemhccpllaaDoor
/- THE CELL 'sum', in the pinned program and in every row, IS THE sha256 OF THE DUMP (.gsa) THAT YtjjbdemhccpllaaDoorProg.lean LOADS. Nothing in Lean hashes anything: it is a label: what it is worth is what the hold of that sum in a sandbox is worth. -/
noncomputable def Tryd.pinned : Pinned := { name := "ytjjbdemhccpllaadoor", sum := "38f8824ff6d6aa13ac9611fe429c91b4354b051206017f01a7a7d069d058a267", checked := Tryd.checked }
namespace Rows
def none {H : Type} : Left H := { results := [], args := [] }

/- WHAT THE LISTED PACKAGE-LEVEL VARIABLES READ AS WHEN THE CALL BEGINS. Each datum BY PROGRAM (the guide's laid-datum.mjs) off the statement by which the dump's own 'gosem.cut.vars' lays the variable. In a bare row this is a premise. The card (YtjjbdemhccpllaaDoorCards.lean) ties it to the program's text. -/
def laid_annuity_date_lengths {H : Type} : DataW H := .agg [.lit (.int .i64 31), .lit (.int .i64 28), .lit (.int .i64 31), .lit (.int .i64 30), .lit (.int .i64 31), .lit (.int .i64 30), .lit (.int .i64 31), .lit (.int .i64 31), .lit (.int .i64 30), .lit (.int .i64 31), .lit (.int .i64 30), .lit (.int .i64 31)]

/-- 'annuitylaw19.BillTells': WHATEVER THE INPUT: true; the input reads as it did. -/
def billTellsSpec : ChangeSpec := { name := "billTells", fn := fun _ => fun
  | [d1, d2, d3] => { results := [.lit (.bool true)], args := [d1, d2, d3] }
  | _ => none }
def billTellsRow : OpenClaim := { program := "ytjjbdemhccpllaadoor", sum := "38f8824ff6d6aa13ac9611fe429c91b4354b051206017f01a7a7d069d058a267", func := "annuity/annuitylaw19.BillTells", spec := "billTells", unfollowed := true, recurses := true, named := ["annuity/date.lengths"], apart := false, laid := [("annuity/date.lengths", laid_annuity_date_lengths)] }
def BillTellsSaid : Prop := billTellsRow.holds Tryd.pinned (OpenSpec.ofChange billTellsSpec)

/-- ITS FALSE NEIGHBOUR: 'it returns false'. Refute it at one input. -/
def billTellsWrong : ChangeSpec := { name := "billTells", fn := fun _ => fun
  | [d1, d2, d3] => { results := [.lit (.bool false)], args := [d1, d2, d3] }
  | _ => none }
def BillTellsWrongFalsely : Prop := billTellsRow.holds Tryd.pinned (OpenSpec.ofChange billTellsWrong)

/-- 'annuitylaw19.BillIssues': WHATEVER THE INPUT: true; the input reads as it did. -/
def billIssuesSpec : ChangeSpec := { name := "billIssues", fn := fun _ => fun
  | [d1, d2, d3] => { results := [.lit (.bool true)], args := [d1, d2, d3] }
  | _ => none }
def billIssuesRow : OpenClaim := { program := "ytjjbdemhccpllaadoor", sum := "38f8824ff6d6aa13ac9611fe429c91b4354b051206017f01a7a7d069d058a267", func := "annuity/annuitylaw19.BillIssues", spec := "billIssues", unfollowed := true, recurses := true, named := ["annuity/date.lengths"], apart := false, laid := [("annuity/date.lengths", laid_annuity_date_lengths)] }
def BillIssuesSaid : Prop := billIssuesRow.holds Tryd.pinned (OpenSpec.ofChange billIssuesSpec)

/-- ITS FALSE NEIGHBOUR: 'it returns false'. Refute it at one input. -/
def billIssuesWrong : ChangeSpec := { name := "billIssues", fn := fun _ => fun
  | [d1, d2, d3] => { results := [.lit (.bool false)], args := [d1, d2, d3] }
  | _ => none }
def BillIssuesWrongFalsely : Prop := billIssuesRow.holds Tryd.pinned (OpenSpec.ofChange billIssuesWrong)

/-- 'annuitylaw19.BillCredits': WHATEVER THE INPUT: true; the input reads as it did. -/
def billCreditsSpec : ChangeSpec := { name := "billCredits", fn := fun _ => fun
  | [d1, d2, d3] => { results := [.lit (.bool true)], args := [d1, d2, d3] }
  | _ => none }
def billCreditsRow : OpenClaim := { program := "ytjjbdemhccpllaadoor", sum := "38f8824ff6d6aa13ac9611fe429c91b4354b051206017f01a7a7d069d058a267", func := "annuity/annuitylaw19.BillCredits", spec := "billCredits", unfollowed := true, recurses := true, named := ["annuity/date.lengths"], apart := false, laid := [("annuity/date.lengths", laid_annuity_date_lengths)] }
def BillCreditsSaid : Prop := billCreditsRow.holds Tryd.pinned (OpenSpec.ofChange billCreditsSpec)

/-- ITS FALSE NEIGHBOUR: 'it returns false'. Refute it at one input. -/
def billCreditsWrong : ChangeSpec := { name := "billCredits", fn := fun _ => fun
  | [d1, d2, d3] => { results := [.lit (.bool false)], args := [d1, d2, d3] }
  | _ => none }
def BillCreditsWrongFalsely : Prop := billCreditsRow.holds Tryd.pinned (OpenSpec.ofChange billCreditsWrong)

/-- 'annuitylaw19.BillAll': WHATEVER THE INPUT: true; the input reads as it did. -/
def billAllSpec : ChangeSpec := { name := "billAll", fn := fun _ => fun
  | [d1, d2, d3] => { results := [.lit (.bool true)], args := [d1, d2, d3] }
  | _ => none }
def billAllRow : OpenClaim := { program := "ytjjbdemhccpllaadoor", sum := "38f8824ff6d6aa13ac9611fe429c91b4354b051206017f01a7a7d069d058a267", func := "annuity/annuitylaw19.BillAll", spec := "billAll", unfollowed := true, recurses := true, named := ["annuity/date.lengths"], apart := false, laid := [("annuity/date.lengths", laid_annuity_date_lengths)] }
def BillAllSaid : Prop := billAllRow.holds Tryd.pinned (OpenSpec.ofChange billAllSpec)

/-- ITS FALSE NEIGHBOUR: 'it returns false'. Refute it at one input. -/
def billAllWrong : ChangeSpec := { name := "billAll", fn := fun _ => fun
  | [d1, d2, d3] => { results := [.lit (.bool false)], args := [d1, d2, d3] }
  | _ => none }
def BillAllWrongFalsely : Prop := billAllRow.holds Tryd.pinned (OpenSpec.ofChange billAllWrong)

/-- 'annuitylaw19.BillAhead': WHATEVER THE INPUT: true; the input reads as it did. -/
def billAheadSpec : ChangeSpec := { name := "billAhead", fn := fun _ => fun
  | [d1, d2, d3] => { results := [.lit (.bool true)], args := [d1, d2, d3] }
  | _ => none }
def billAheadRow : OpenClaim := { program := "ytjjbdemhccpllaadoor", sum := "38f8824ff6d6aa13ac9611fe429c91b4354b051206017f01a7a7d069d058a267", func := "annuity/annuitylaw19.BillAhead", spec := "billAhead", unfollowed := true, recurses := true, named := ["annuity/date.lengths"], apart := false, laid := [("annuity/date.lengths", laid_annuity_date_lengths)] }
def BillAheadSaid : Prop := billAheadRow.holds Tryd.pinned (OpenSpec.ofChange billAheadSpec)

/-- ITS FALSE NEIGHBOUR: 'it returns false'. Refute it at one input. -/
def billAheadWrong : ChangeSpec := { name := "billAhead", fn := fun _ => fun
  | [d1, d2, d3] => { results := [.lit (.bool false)], args := [d1, d2, d3] }
  | _ => none }
def BillAheadWrongFalsely : Prop := billAheadRow.holds Tryd.pinned (OpenSpec.ofChange billAheadWrong)

/- THE SECOND FORM. 'bulk': how many values and letters a reading holds, each counted each time it is reached (what is shared counts as often as it is met; a slice's spare places count too). A statement '..UptoSaid' is the law's where the arguments, and the package variables that the reading takes, are together of bulk at most 1048576: NARROWER than '..Said'. Prove '..Said' where nothing that the law and all that it calls make is longer than what came in: it says more and counts as full. Else prove '..UptoSaid'. A law counts once. -/
mutual
def uptoBulk {H : Type} : DataW H → Nat
  | .lit (.string bytes) => bytes.length + 1
  | .lit _ => 1
  | .nil => 1
  | .ptr d => uptoBulk d + 1
  | .slice elems spare => uptoBulkAll elems + uptoBulkAll spare + 1
  | .agg parts => uptoBulkAll parts + 1
  | .iface _ d => uptoBulk d + 1
  | .map entries => uptoBulkEntries entries + 1
  | .held _ => 1
def uptoBulkAll {H : Type} : List (DataW H) → Nat
  | [] => 0
  | d :: r => uptoBulk d + uptoBulkAll r
def uptoBulkEntries {H : Type} : List (Lit × DataW H) → Nat
  | [] => 0
  | x :: r => uptoBulkEntry x + uptoBulkEntries r
def uptoBulkEntry {H : Type} : Lit × DataW H → Nat
  | (.string bytes, d) => bytes.length + uptoBulk d + 1
  | (_, d) => uptoBulk d + 1
 end
def uptoSmall : (H : Type) → List (DataW H) → Bool := fun _ ds => decide (uptoBulkAll ds ≤ 1048576)
def OpenSpec.upto (s : _root_.Go.ChangeSpec) : _root_.Go.OpenSpec := { _root_.Go.OpenSpec.ofChange s with cond := some uptoSmall }

/-- 'annuitylaw19.BillTells', WHERE WHAT IT READS IS OF BULK AT MOST 1048576: true; the input reads as it did. -/
def billTellsUptoRow : OpenClaim := { program := "ytjjbdemhccpllaadoor", sum := "38f8824ff6d6aa13ac9611fe429c91b4354b051206017f01a7a7d069d058a267", func := "annuity/annuitylaw19.BillTells", spec := "billTells", unfollowed := true, recurses := true, named := ["annuity/date.lengths"], apart := false, laid := [("annuity/date.lengths", laid_annuity_date_lengths)], narrowed := true }
def BillTellsUptoSaid : Prop := billTellsUptoRow.holds Tryd.pinned (OpenSpec.upto billTellsSpec)

/-- 'annuitylaw19.BillIssues', WHERE WHAT IT READS IS OF BULK AT MOST 1048576: true; the input reads as it did. -/
def billIssuesUptoRow : OpenClaim := { program := "ytjjbdemhccpllaadoor", sum := "38f8824ff6d6aa13ac9611fe429c91b4354b051206017f01a7a7d069d058a267", func := "annuity/annuitylaw19.BillIssues", spec := "billIssues", unfollowed := true, recurses := true, named := ["annuity/date.lengths"], apart := false, laid := [("annuity/date.lengths", laid_annuity_date_lengths)], narrowed := true }
def BillIssuesUptoSaid : Prop := billIssuesUptoRow.holds Tryd.pinned (OpenSpec.upto billIssuesSpec)

/-- 'annuitylaw19.BillCredits', WHERE WHAT IT READS IS OF BULK AT MOST 1048576: true; the input reads as it did. -/
def billCreditsUptoRow : OpenClaim := { program := "ytjjbdemhccpllaadoor", sum := "38f8824ff6d6aa13ac9611fe429c91b4354b051206017f01a7a7d069d058a267", func := "annuity/annuitylaw19.BillCredits", spec := "billCredits", unfollowed := true, recurses := true, named := ["annuity/date.lengths"], apart := false, laid := [("annuity/date.lengths", laid_annuity_date_lengths)], narrowed := true }
def BillCreditsUptoSaid : Prop := billCreditsUptoRow.holds Tryd.pinned (OpenSpec.upto billCreditsSpec)

/-- 'annuitylaw19.BillAll', WHERE WHAT IT READS IS OF BULK AT MOST 1048576: true; the input reads as it did. -/
def billAllUptoRow : OpenClaim := { program := "ytjjbdemhccpllaadoor", sum := "38f8824ff6d6aa13ac9611fe429c91b4354b051206017f01a7a7d069d058a267", func := "annuity/annuitylaw19.BillAll", spec := "billAll", unfollowed := true, recurses := true, named := ["annuity/date.lengths"], apart := false, laid := [("annuity/date.lengths", laid_annuity_date_lengths)], narrowed := true }
def BillAllUptoSaid : Prop := billAllUptoRow.holds Tryd.pinned (OpenSpec.upto billAllSpec)

/-- 'annuitylaw19.BillAhead', WHERE WHAT IT READS IS OF BULK AT MOST 1048576: true; the input reads as it did. -/
def billAheadUptoRow : OpenClaim := { program := "ytjjbdemhccpllaadoor", sum := "38f8824ff6d6aa13ac9611fe429c91b4354b051206017f01a7a7d069d058a267", func := "annuity/annuitylaw19.BillAhead", spec := "billAhead", unfollowed := true, recurses := true, named := ["annuity/date.lengths"], apart := false, laid := [("annuity/date.lengths", laid_annuity_date_lengths)], narrowed := true }
def BillAheadUptoSaid : Prop := billAheadUptoRow.holds Tryd.pinned (OpenSpec.upto billAheadSpec)

end Rows
end Go.Proofs.YtjjbdemhccpllaaDoor
