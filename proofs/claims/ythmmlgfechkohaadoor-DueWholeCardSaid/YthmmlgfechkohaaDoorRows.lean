/-
  NARROWER THAN 'FOR EVERY INPUT', by the rows' own cells (each row's printed sentence says how): DueMonths: laid · DueTells: laid · DueParts: laid · DueWhole: laid · DueYears: laid.
  DERIVED. THE GIVEN ROWS OF THIS SEAT. 5 by the template 'for every input the law returns true; each argument reads behind the call as it read before'; 0 by the template 'total and deterministic' (their statements: YthmmlgfechkohaaDoorTotals.lean).
  GIVEN WITH THE SEED: the statements are not yours to turn. If you find one false, say at which input.
  Laid BY PROGRAM, IN A SANDBOX (cutbox-rows.mjs): the forced cells as the released guide's own fill.sh prints them over the translation 22f6078103151ad5… (all of the seat's roots in one cut). By AI agents, Wed Nov 11 2026. No macro, syntax, notation, axiom, sorry.
-/
import Derived.Test.YthmmlgfechkohaaDoorChecked
import GoSem.Claim
import GoSem.ClaimJoined
import GoSem.ClaimMapViews
import Derived.JoinedTies
import Derived.KernelRfl
namespace Go.Proofs.YthmmlgfechkohaaDoor
/- THE CELL 'sum', in the pinned program and in every row, IS THE sha256 OF THE DUMP (.gsa) THAT YthmmlgfechkohaaDoorProg.lean LOADS. Nothing in Lean hashes anything: it is a label: what it is worth is what the hold of that sum in a sandbox is worth. -/
noncomputable def Tryd.pinned : Pinned := { name := "ythmmlgfechkohaadoor", sum := "22f6078103151ad5530e405cb26e9dd21ab02585f4d4ecb4f8a534e6e8ce88b6", checked := Tryd.checked }
namespace Rows
def none {H : Type} : Left H := { results := [], args := [] }

/- WHAT THE LISTED PACKAGE-LEVEL VARIABLES READ AS WHEN THE CALL BEGINS. Each datum BY PROGRAM (the guide's laid-datum.mjs) off the statement by which the dump's own 'gosem.cut.vars' lays the variable. In a bare row this is a premise. The card (YthmmlgfechkohaaDoorCards.lean) ties it to the program's text. -/
def laid_annuity_date_lengths {H : Type} : DataW H := .agg [.lit (.int .i64 31), .lit (.int .i64 28), .lit (.int .i64 31), .lit (.int .i64 30), .lit (.int .i64 31), .lit (.int .i64 30), .lit (.int .i64 31), .lit (.int .i64 31), .lit (.int .i64 30), .lit (.int .i64 31), .lit (.int .i64 30), .lit (.int .i64 31)]

/-- 'annuitylaw05.DueMonths': WHATEVER THE INPUT: true; the input reads as it did. -/
def dueMonthsSpec : ChangeSpec := { name := "dueMonths", fn := fun _ => fun
  | [d1, d2] => { results := [.lit (.bool true)], args := [d1, d2] }
  | _ => none }
def dueMonthsRow : OpenClaim := { program := "ythmmlgfechkohaadoor", sum := "22f6078103151ad5530e405cb26e9dd21ab02585f4d4ecb4f8a534e6e8ce88b6", func := "annuity/annuitylaw05.DueMonths", spec := "dueMonths", named := ["annuity/date.lengths"], apart := false, laid := [("annuity/date.lengths", laid_annuity_date_lengths)] }
def DueMonthsSaid : Prop := dueMonthsRow.holds Tryd.pinned (OpenSpec.ofChange dueMonthsSpec)

/-- ITS FALSE NEIGHBOUR: 'it returns false'. Refute it at one input. -/
def dueMonthsWrong : ChangeSpec := { name := "dueMonths", fn := fun _ => fun
  | [d1, d2] => { results := [.lit (.bool false)], args := [d1, d2] }
  | _ => none }
def DueMonthsWrongFalsely : Prop := dueMonthsRow.holds Tryd.pinned (OpenSpec.ofChange dueMonthsWrong)

/-- 'annuitylaw05.DueTells': WHATEVER THE INPUT: true; the input reads as it did. -/
def dueTellsSpec : ChangeSpec := { name := "dueTells", fn := fun _ => fun
  | [d1, d2, d3] => { results := [.lit (.bool true)], args := [d1, d2, d3] }
  | _ => none }
def dueTellsRow : OpenClaim := { program := "ythmmlgfechkohaadoor", sum := "22f6078103151ad5530e405cb26e9dd21ab02585f4d4ecb4f8a534e6e8ce88b6", func := "annuity/annuitylaw05.DueTells", spec := "dueTells", named := ["annuity/date.lengths"], apart := false, laid := [("annuity/date.lengths", laid_annuity_date_lengths)] }
def DueTellsSaid : Prop := dueTellsRow.holds Tryd.pinned (OpenSpec.ofChange dueTellsSpec)

/-- ITS FALSE NEIGHBOUR: 'it returns false'. Refute it at one input. -/
def dueTellsWrong : ChangeSpec := { name := "dueTells", fn := fun _ => fun
  | [d1, d2, d3] => { results := [.lit (.bool false)], args := [d1, d2, d3] }
  | _ => none }
def DueTellsWrongFalsely : Prop := dueTellsRow.holds Tryd.pinned (OpenSpec.ofChange dueTellsWrong)

/-- 'annuitylaw05.DueParts': WHATEVER THE INPUT: true; the input reads as it did. -/
def duePartsSpec : ChangeSpec := { name := "dueParts", fn := fun _ => fun
  | [d1, d2, d3] => { results := [.lit (.bool true)], args := [d1, d2, d3] }
  | _ => none }
def duePartsRow : OpenClaim := { program := "ythmmlgfechkohaadoor", sum := "22f6078103151ad5530e405cb26e9dd21ab02585f4d4ecb4f8a534e6e8ce88b6", func := "annuity/annuitylaw05.DueParts", spec := "dueParts", named := ["annuity/date.lengths"], apart := false, laid := [("annuity/date.lengths", laid_annuity_date_lengths)] }
def DuePartsSaid : Prop := duePartsRow.holds Tryd.pinned (OpenSpec.ofChange duePartsSpec)

/-- ITS FALSE NEIGHBOUR: 'it returns false'. Refute it at one input. -/
def duePartsWrong : ChangeSpec := { name := "dueParts", fn := fun _ => fun
  | [d1, d2, d3] => { results := [.lit (.bool false)], args := [d1, d2, d3] }
  | _ => none }
def DuePartsWrongFalsely : Prop := duePartsRow.holds Tryd.pinned (OpenSpec.ofChange duePartsWrong)

/-- 'annuitylaw05.DueWhole': WHATEVER THE INPUT: true; the input reads as it did. -/
def dueWholeSpec : ChangeSpec := { name := "dueWhole", fn := fun _ => fun
  | [d1, d2, d3] => { results := [.lit (.bool true)], args := [d1, d2, d3] }
  | _ => none }
def dueWholeRow : OpenClaim := { program := "ythmmlgfechkohaadoor", sum := "22f6078103151ad5530e405cb26e9dd21ab02585f4d4ecb4f8a534e6e8ce88b6", func := "annuity/annuitylaw05.DueWhole", spec := "dueWhole", named := ["annuity/date.lengths"], apart := false, laid := [("annuity/date.lengths", laid_annuity_date_lengths)] }
def DueWholeSaid : Prop := dueWholeRow.holds Tryd.pinned (OpenSpec.ofChange dueWholeSpec)

/-- ITS FALSE NEIGHBOUR: 'it returns false'. Refute it at one input. -/
def dueWholeWrong : ChangeSpec := { name := "dueWhole", fn := fun _ => fun
  | [d1, d2, d3] => { results := [.lit (.bool false)], args := [d1, d2, d3] }
  | _ => none }
def DueWholeWrongFalsely : Prop := dueWholeRow.holds Tryd.pinned (OpenSpec.ofChange dueWholeWrong)

/-- 'annuitylaw05.DueYears': WHATEVER THE INPUT: true; the input reads as it did. -/
def dueYearsSpec : ChangeSpec := { name := "dueYears", fn := fun _ => fun
  | [d1, d2, d3] => { results := [.lit (.bool true)], args := [d1, d2, d3] }
  | _ => none }
def dueYearsRow : OpenClaim := { program := "ythmmlgfechkohaadoor", sum := "22f6078103151ad5530e405cb26e9dd21ab02585f4d4ecb4f8a534e6e8ce88b6", func := "annuity/annuitylaw05.DueYears", spec := "dueYears", named := ["annuity/date.lengths"], apart := false, laid := [("annuity/date.lengths", laid_annuity_date_lengths)] }
def DueYearsSaid : Prop := dueYearsRow.holds Tryd.pinned (OpenSpec.ofChange dueYearsSpec)

/-- ITS FALSE NEIGHBOUR: 'it returns false'. Refute it at one input. -/
def dueYearsWrong : ChangeSpec := { name := "dueYears", fn := fun _ => fun
  | [d1, d2, d3] => { results := [.lit (.bool false)], args := [d1, d2, d3] }
  | _ => none }
def DueYearsWrongFalsely : Prop := dueYearsRow.holds Tryd.pinned (OpenSpec.ofChange dueYearsWrong)

/- THE SECOND FORM. 'bulk': how many values and letters a reading holds, each counted each time it is reached (what is shared counts as often as it is met; a slice's spare places count too). A statement '..UptoSaid' is the law's where the arguments, and the package variables that the reading takes, are together of bulk at most 1048576: NARROWER than '..Said'. Prove '..Said' where nothing that the law and all that it calls make is longer than what came in: it says more and counts as full. Else prove '..UptoSaid'. A law counts once. -/
mutual
def uptoBulk {H : Type} : DataW H → Nat
  | .lit (.string bytes) => bytes.length + 1
  | .lit _ => 1
  | .nil => 1
  | .ptr d => uptoBulk d + 1
  | .slice elems spare => uptoBulkAll elems + uptoBulkAll spare + 1
  | .agg parts => uptoBulkAll parts + 1
  | .iface _ d => uptoBulk d + 1
  | .map entries => uptoBulkEntries entries + 1
  | .held _ => 1
def uptoBulkAll {H : Type} : List (DataW H) → Nat
  | [] => 0
  | d :: r => uptoBulk d + uptoBulkAll r
def uptoBulkEntries {H : Type} : List (Lit × DataW H) → Nat
  | [] => 0
  | x :: r => uptoBulkEntry x + uptoBulkEntries r
def uptoBulkEntry {H : Type} : Lit × DataW H → Nat
  | (.string bytes, d) => bytes.length + uptoBulk d + 1
  | (_, d) => uptoBulk d + 1
 end
def uptoSmall : (H : Type) → List (DataW H) → Bool := fun _ ds => decide (uptoBulkAll ds ≤ 1048576)
def OpenSpec.upto (s : _root_.Go.ChangeSpec) : _root_.Go.OpenSpec := { _root_.Go.OpenSpec.ofChange s with cond := some uptoSmall }

/-- 'annuitylaw05.DueMonths', WHERE WHAT IT READS IS OF BULK AT MOST 1048576: true; the input reads as it did. -/
def dueMonthsUptoRow : OpenClaim := { program := "ythmmlgfechkohaadoor", sum := "22f6078103151ad5530e405cb26e9dd21ab02585f4d4ecb4f8a534e6e8ce88b6", func := "annuity/annuitylaw05.DueMonths", spec := "dueMonths", named := ["annuity/date.lengths"], apart := false, laid := [("annuity/date.lengths", laid_annuity_date_lengths)], narrowed := true }
def DueMonthsUptoSaid : Prop := dueMonthsUptoRow.holds Tryd.pinned (OpenSpec.upto dueMonthsSpec)

/-- 'annuitylaw05.DueTells', WHERE WHAT IT READS IS OF BULK AT MOST 1048576: true; the input reads as it did. -/
def dueTellsUptoRow : OpenClaim := { program := "ythmmlgfechkohaadoor", sum := "22f6078103151ad5530e405cb26e9dd21ab02585f4d4ecb4f8a534e6e8ce88b6", func := "annuity/annuitylaw05.DueTells", spec := "dueTells", named := ["annuity/date.lengths"], apart := false, laid := [("annuity/date.lengths", laid_annuity_date_lengths)], narrowed := true }
def DueTellsUptoSaid : Prop := dueTellsUptoRow.holds Tryd.pinned (OpenSpec.upto dueTellsSpec)

/-- 'annuitylaw05.DueParts', WHERE WHAT IT READS IS OF BULK AT MOST 1048576: true; the input reads as it did. -/
def duePartsUptoRow : OpenClaim := { program := "ythmmlgfechkohaadoor", sum := "22f6078103151ad5530e405cb26e9dd21ab02585f4d4ecb4f8a534e6e8ce88b6", func := "annuity/annuitylaw05.DueParts", spec := "dueParts", named := ["annuity/date.lengths"], apart := false, laid := [("annuity/date.lengths", laid_annuity_date_lengths)], narrowed := true }
def DuePartsUptoSaid : Prop := duePartsUptoRow.holds Tryd.pinned (OpenSpec.upto duePartsSpec)

/-- 'annuitylaw05.DueWhole', WHERE WHAT IT READS IS OF BULK AT MOST 1048576: true; the input reads as it did. -/
def dueWholeUptoRow : OpenClaim := { program := "ythmmlgfechkohaadoor", sum := "22f6078103151ad5530e405cb26e9dd21ab02585f4d4ecb4f8a534e6e8ce88b6", func := "annuity/annuitylaw05.DueWhole", spec := "dueWhole", named := ["annuity/date.lengths"], apart := false, laid := [("annuity/date.lengths", laid_annuity_date_lengths)], narrowed := true }
def DueWholeUptoSaid : Prop := dueWholeUptoRow.holds Tryd.pinned (OpenSpec.upto dueWholeSpec)

/-- 'annuitylaw05.DueYears', WHERE WHAT IT READS IS OF BULK AT MOST 1048576: true; the input reads as it did. -/
def dueYearsUptoRow : OpenClaim := { program := "ythmmlgfechkohaadoor", sum := "22f6078103151ad5530e405cb26e9dd21ab02585f4d4ecb4f8a534e6e8ce88b6", func := "annuity/annuitylaw05.DueYears", spec := "dueYears", named := ["annuity/date.lengths"], apart := false, laid := [("annuity/date.lengths", laid_annuity_date_lengths)], narrowed := true }
def DueYearsUptoSaid : Prop := dueYearsUptoRow.holds Tryd.pinned (OpenSpec.upto dueYearsSpec)

end Rows
end Go.Proofs.YthmmlgfechkohaaDoor
