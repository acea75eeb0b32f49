/-
  NARROWER THAN 'FOR EVERY INPUT', by the rows' own cells (each row's printed sentence says how): DateNumbers: laid · DateCivil: laid · DateAdds: laid · DateBack: laid · DateMonths: laid · DateOrder: laid.
  DERIVED. THE GIVEN ROWS OF THIS SEAT. 6 by the template 'for every input the law returns true; each argument reads behind the call as it read before'; 0 by the template 'total and deterministic' (their statements: YtkhimogdkcibmaaDoorTotals.lean).
  GIVEN WITH THE SEED: the statements are not yours to turn. If you find one false, say at which input.
  Laid BY PROGRAM, IN A SANDBOX (cutbox-rows.mjs): the forced cells as the released guide's own fill.sh prints them over the translation 54a9edc1e5aad758… (all of the seat's roots in one cut). By AI agents, Wed Nov 11 2026. No macro, syntax, notation, axiom, sorry.
-/
import Derived.Test.YtkhimogdkcibmaaDoorChecked
import GoSem.Claim
import GoSem.ClaimJoined
import GoSem.ClaimMapViews
import Derived.JoinedTies
import Derived.KernelRfl
namespace Go.Proofs.YtkhimogdkcibmaaDoor
/- THE CELL 'sum', in the pinned program and in every row, IS THE sha256 OF THE DUMP (.gsa) THAT YtkhimogdkcibmaaDoorProg.lean LOADS. Nothing in Lean hashes anything: it is a label: what it is worth is what the hold of that sum in a sandbox is worth. -/
noncomputable def Tryd.pinned : Pinned := { name := "ytkhimogdkcibmaadoor", sum := "54a9edc1e5aad758cea23e410d2c16f97a4920c90073f10e943efe0ec48381f4", checked := Tryd.checked }
namespace Rows
def none {H : Type} : Left H := { results := [], args := [] }

/- WHAT THE LISTED PACKAGE-LEVEL VARIABLES READ AS WHEN THE CALL BEGINS. Each datum BY PROGRAM (the guide's laid-datum.mjs) off the statement by which the dump's own 'gosem.cut.vars' lays the variable. In a bare row this is a premise. The card (YtkhimogdkcibmaaDoorCards.lean) ties it to the program's text. -/
def laid_annuity_date_lengths {H : Type} : DataW H := .agg [.lit (.int .i64 31), .lit (.int .i64 28), .lit (.int .i64 31), .lit (.int .i64 30), .lit (.int .i64 31), .lit (.int .i64 30), .lit (.int .i64 31), .lit (.int .i64 31), .lit (.int .i64 30), .lit (.int .i64 31), .lit (.int .i64 30), .lit (.int .i64 31)]

/-- 'annuitylaw04.DateNumbers': WHATEVER THE INPUT: true; the input reads as it did. -/
def dateNumbersSpec : ChangeSpec := { name := "dateNumbers", fn := fun _ => fun
  | [d1, d2, d3] => { results := [.lit (.bool true)], args := [d1, d2, d3] }
  | _ => none }
def dateNumbersRow : OpenClaim := { program := "ytkhimogdkcibmaadoor", sum := "54a9edc1e5aad758cea23e410d2c16f97a4920c90073f10e943efe0ec48381f4", func := "annuity/annuitylaw04.DateNumbers", spec := "dateNumbers", named := ["annuity/date.lengths"], apart := false, laid := [("annuity/date.lengths", laid_annuity_date_lengths)] }
def DateNumbersSaid : Prop := dateNumbersRow.holds Tryd.pinned (OpenSpec.ofChange dateNumbersSpec)

/-- ITS FALSE NEIGHBOUR: 'it returns false'. Refute it at one input. -/
def dateNumbersWrong : ChangeSpec := { name := "dateNumbers", fn := fun _ => fun
  | [d1, d2, d3] => { results := [.lit (.bool false)], args := [d1, d2, d3] }
  | _ => none }
def DateNumbersWrongFalsely : Prop := dateNumbersRow.holds Tryd.pinned (OpenSpec.ofChange dateNumbersWrong)

/-- 'annuitylaw04.DateCivil': WHATEVER THE INPUT: true; the input reads as it did. -/
def dateCivilSpec : ChangeSpec := { name := "dateCivil", fn := fun _ => fun
  | [d1, d2] => { results := [.lit (.bool true)], args := [d1, d2] }
  | _ => none }
def dateCivilRow : OpenClaim := { program := "ytkhimogdkcibmaadoor", sum := "54a9edc1e5aad758cea23e410d2c16f97a4920c90073f10e943efe0ec48381f4", func := "annuity/annuitylaw04.DateCivil", spec := "dateCivil", named := ["annuity/date.lengths"], apart := false, laid := [("annuity/date.lengths", laid_annuity_date_lengths)] }
def DateCivilSaid : Prop := dateCivilRow.holds Tryd.pinned (OpenSpec.ofChange dateCivilSpec)

/-- ITS FALSE NEIGHBOUR: 'it returns false'. Refute it at one input. -/
def dateCivilWrong : ChangeSpec := { name := "dateCivil", fn := fun _ => fun
  | [d1, d2] => { results := [.lit (.bool false)], args := [d1, d2] }
  | _ => none }
def DateCivilWrongFalsely : Prop := dateCivilRow.holds Tryd.pinned (OpenSpec.ofChange dateCivilWrong)

/-- 'annuitylaw04.DateAdds': WHATEVER THE INPUT: true; the input reads as it did. -/
def dateAddsSpec : ChangeSpec := { name := "dateAdds", fn := fun _ => fun
  | [d1, d2] => { results := [.lit (.bool true)], args := [d1, d2] }
  | _ => none }
def dateAddsRow : OpenClaim := { program := "ytkhimogdkcibmaadoor", sum := "54a9edc1e5aad758cea23e410d2c16f97a4920c90073f10e943efe0ec48381f4", func := "annuity/annuitylaw04.DateAdds", spec := "dateAdds", named := ["annuity/date.lengths"], apart := false, laid := [("annuity/date.lengths", laid_annuity_date_lengths)] }
def DateAddsSaid : Prop := dateAddsRow.holds Tryd.pinned (OpenSpec.ofChange dateAddsSpec)

/-- ITS FALSE NEIGHBOUR: 'it returns false'. Refute it at one input. -/
def dateAddsWrong : ChangeSpec := { name := "dateAdds", fn := fun _ => fun
  | [d1, d2] => { results := [.lit (.bool false)], args := [d1, d2] }
  | _ => none }
def DateAddsWrongFalsely : Prop := dateAddsRow.holds Tryd.pinned (OpenSpec.ofChange dateAddsWrong)

/-- 'annuitylaw04.DateBack': WHATEVER THE INPUT: true; the input reads as it did. -/
def dateBackSpec : ChangeSpec := { name := "dateBack", fn := fun _ => fun
  | [d] => { results := [.lit (.bool true)], args := [d] }
  | _ => none }
def dateBackRow : OpenClaim := { program := "ytkhimogdkcibmaadoor", sum := "54a9edc1e5aad758cea23e410d2c16f97a4920c90073f10e943efe0ec48381f4", func := "annuity/annuitylaw04.DateBack", spec := "dateBack", named := ["annuity/date.lengths"], apart := false, laid := [("annuity/date.lengths", laid_annuity_date_lengths)] }
def DateBackSaid : Prop := dateBackRow.holds Tryd.pinned (OpenSpec.ofChange dateBackSpec)

/-- ITS FALSE NEIGHBOUR: 'it returns false'. Refute it at one input. -/
def dateBackWrong : ChangeSpec := { name := "dateBack", fn := fun _ => fun
  | [d] => { results := [.lit (.bool false)], args := [d] }
  | _ => none }
def DateBackWrongFalsely : Prop := dateBackRow.holds Tryd.pinned (OpenSpec.ofChange dateBackWrong)

/-- 'annuitylaw04.DateMonths': WHATEVER THE INPUT: true; the input reads as it did. -/
def dateMonthsSpec : ChangeSpec := { name := "dateMonths", fn := fun _ => fun
  | [d1, d2] => { results := [.lit (.bool true)], args := [d1, d2] }
  | _ => none }
def dateMonthsRow : OpenClaim := { program := "ytkhimogdkcibmaadoor", sum := "54a9edc1e5aad758cea23e410d2c16f97a4920c90073f10e943efe0ec48381f4", func := "annuity/annuitylaw04.DateMonths", spec := "dateMonths", named := ["annuity/date.lengths"], apart := false, laid := [("annuity/date.lengths", laid_annuity_date_lengths)] }
def DateMonthsSaid : Prop := dateMonthsRow.holds Tryd.pinned (OpenSpec.ofChange dateMonthsSpec)

/-- ITS FALSE NEIGHBOUR: 'it returns false'. Refute it at one input. -/
def dateMonthsWrong : ChangeSpec := { name := "dateMonths", fn := fun _ => fun
  | [d1, d2] => { results := [.lit (.bool false)], args := [d1, d2] }
  | _ => none }
def DateMonthsWrongFalsely : Prop := dateMonthsRow.holds Tryd.pinned (OpenSpec.ofChange dateMonthsWrong)

/-- 'annuitylaw04.DateOrder': WHATEVER THE INPUT: true; the input reads as it did. -/
def dateOrderSpec : ChangeSpec := { name := "dateOrder", fn := fun _ => fun
  | [d1, d2, d3] => { results := [.lit (.bool true)], args := [d1, d2, d3] }
  | _ => none }
def dateOrderRow : OpenClaim := { program := "ytkhimogdkcibmaadoor", sum := "54a9edc1e5aad758cea23e410d2c16f97a4920c90073f10e943efe0ec48381f4", func := "annuity/annuitylaw04.DateOrder", spec := "dateOrder", named := ["annuity/date.lengths"], apart := false, laid := [("annuity/date.lengths", laid_annuity_date_lengths)] }
def DateOrderSaid : Prop := dateOrderRow.holds Tryd.pinned (OpenSpec.ofChange dateOrderSpec)

/-- ITS FALSE NEIGHBOUR: 'it returns false'. Refute it at one input. -/
def dateOrderWrong : ChangeSpec := { name := "dateOrder", fn := fun _ => fun
  | [d1, d2, d3] => { results := [.lit (.bool false)], args := [d1, d2, d3] }
  | _ => none }
def DateOrderWrongFalsely : Prop := dateOrderRow.holds Tryd.pinned (OpenSpec.ofChange dateOrderWrong)

/- THE SECOND FORM. 'bulk': how many values and letters a reading holds, each counted each time it is reached (what is shared counts as often as it is met; a slice's spare places count too). A statement '..UptoSaid' is the law's where the arguments, and the package variables that the reading takes, are together of bulk at most 1048576: NARROWER than '..Said'. Prove '..Said' where nothing that the law and all that it calls make is longer than what came in: it says more and counts as full. Else prove '..UptoSaid'. A law counts once. -/
mutual
def uptoBulk {H : Type} : DataW H → Nat
  | .lit (.string bytes) => bytes.length + 1
  | .lit _ => 1
  | .nil => 1
  | .ptr d => uptoBulk d + 1
  | .slice elems spare => uptoBulkAll elems + uptoBulkAll spare + 1
  | .agg parts => uptoBulkAll parts + 1
  | .iface _ d => uptoBulk d + 1
  | .map entries => uptoBulkEntries entries + 1
  | .held _ => 1
def uptoBulkAll {H : Type} : List (DataW H) → Nat
  | [] => 0
  | d :: r => uptoBulk d + uptoBulkAll r
def uptoBulkEntries {H : Type} : List (Lit × DataW H) → Nat
  | [] => 0
  | x :: r => uptoBulkEntry x + uptoBulkEntries r
def uptoBulkEntry {H : Type} : Lit × DataW H → Nat
  | (.string bytes, d) => bytes.length + uptoBulk d + 1
  | (_, d) => uptoBulk d + 1
 end
def uptoSmall : (H : Type) → List (DataW H) → Bool := fun _ ds => decide (uptoBulkAll ds ≤ 1048576)
def OpenSpec.upto (s : _root_.Go.ChangeSpec) : _root_.Go.OpenSpec := { _root_.Go.OpenSpec.ofChange s with cond := some uptoSmall }

/-- 'annuitylaw04.DateNumbers', WHERE WHAT IT READS IS OF BULK AT MOST 1048576: true; the input reads as it did. -/
def dateNumbersUptoRow : OpenClaim := { program := "ytkhimogdkcibmaadoor", sum := "54a9edc1e5aad758cea23e410d2c16f97a4920c90073f10e943efe0ec48381f4", func := "annuity/annuitylaw04.DateNumbers", spec := "dateNumbers", named := ["annuity/date.lengths"], apart := false, laid := [("annuity/date.lengths", laid_annuity_date_lengths)], narrowed := true }
def DateNumbersUptoSaid : Prop := dateNumbersUptoRow.holds Tryd.pinned (OpenSpec.upto dateNumbersSpec)

/-- 'annuitylaw04.DateCivil', WHERE WHAT IT READS IS OF BULK AT MOST 1048576: true; the input reads as it did. -/
def dateCivilUptoRow : OpenClaim := { program := "ytkhimogdkcibmaadoor", sum := "54a9edc1e5aad758cea23e410d2c16f97a4920c90073f10e943efe0ec48381f4", func := "annuity/annuitylaw04.DateCivil", spec := "dateCivil", named := ["annuity/date.lengths"], apart := false, laid := [("annuity/date.lengths", laid_annuity_date_lengths)], narrowed := true }
def DateCivilUptoSaid : Prop := dateCivilUptoRow.holds Tryd.pinned (OpenSpec.upto dateCivilSpec)

/-- 'annuitylaw04.DateAdds', WHERE WHAT IT READS IS OF BULK AT MOST 1048576: true; the input reads as it did. -/
def dateAddsUptoRow : OpenClaim := { program := "ytkhimogdkcibmaadoor", sum := "54a9edc1e5aad758cea23e410d2c16f97a4920c90073f10e943efe0ec48381f4", func := "annuity/annuitylaw04.DateAdds", spec := "dateAdds", named := ["annuity/date.lengths"], apart := false, laid := [("annuity/date.lengths", laid_annuity_date_lengths)], narrowed := true }
def DateAddsUptoSaid : Prop := dateAddsUptoRow.holds Tryd.pinned (OpenSpec.upto dateAddsSpec)

/-- 'annuitylaw04.DateBack', WHERE WHAT IT READS IS OF BULK AT MOST 1048576: true; the input reads as it did. -/
def dateBackUptoRow : OpenClaim := { program := "ytkhimogdkcibmaadoor", sum := "54a9edc1e5aad758cea23e410d2c16f97a4920c90073f10e943efe0ec48381f4", func := "annuity/annuitylaw04.DateBack", spec := "dateBack", named := ["annuity/date.lengths"], apart := false, laid := [("annuity/date.lengths", laid_annuity_date_lengths)], narrowed := true }
def DateBackUptoSaid : Prop := dateBackUptoRow.holds Tryd.pinned (OpenSpec.upto dateBackSpec)

/-- 'annuitylaw04.DateMonths', WHERE WHAT IT READS IS OF BULK AT MOST 1048576: true; the input reads as it did. -/
def dateMonthsUptoRow : OpenClaim := { program := "ytkhimogdkcibmaadoor", sum := "54a9edc1e5aad758cea23e410d2c16f97a4920c90073f10e943efe0ec48381f4", func := "annuity/annuitylaw04.DateMonths", spec := "dateMonths", named := ["annuity/date.lengths"], apart := false, laid := [("annuity/date.lengths", laid_annuity_date_lengths)], narrowed := true }
def DateMonthsUptoSaid : Prop := dateMonthsUptoRow.holds Tryd.pinned (OpenSpec.upto dateMonthsSpec)

/-- 'annuitylaw04.DateOrder', WHERE WHAT IT READS IS OF BULK AT MOST 1048576: true; the input reads as it did. -/
def dateOrderUptoRow : OpenClaim := { program := "ytkhimogdkcibmaadoor", sum := "54a9edc1e5aad758cea23e410d2c16f97a4920c90073f10e943efe0ec48381f4", func := "annuity/annuitylaw04.DateOrder", spec := "dateOrder", named := ["annuity/date.lengths"], apart := false, laid := [("annuity/date.lengths", laid_annuity_date_lengths)], narrowed := true }
def DateOrderUptoSaid : Prop := dateOrderUptoRow.holds Tryd.pinned (OpenSpec.upto dateOrderSpec)

end Rows
end Go.Proofs.YtkhimogdkcibmaaDoor
