/-
  DERIVED. GIVEN WITH THE SEED: THE CARDS: each row of YthmmlgfechkohaaDoorRows.lean that lists a variable, with what it lists TIED to the program's text (the seventh form; the later family's looks); each row that meets fmt, with fmt's text TOLD by the authors' own Lean function (tested against real Go, not proved from fmt's source: count such statements apart). THE CARD IS WHAT COUNTS. Prove the row's statement (the work); the ties are given (YthmmlgfechkohaaDoorTie.lean); close each card by the builder's one call (the guide's Derived/Test/ToyasCard.lean, 'card_holds'). Laid BY PROGRAM, IN A SANDBOX (cutbox-door.mjs). By AI agents, Wed Nov 11 2026. No macro, syntax, notation, axiom, sorry.
-/
import Derived.Test.YthmmlgfechkohaaDoorRows
import GoSem.ClaimSeven
namespace Go.Proofs.YthmmlgfechkohaaDoor
namespace Rows

/-- THE TIED CARD OF 'annuitylaw05.DueMonths'. -/
def dueMonthsCard : Claim7 := { stood := { row := dueMonthsRow, standIns := [], harness := (true, "8ceafc02692c3b3cb1cab411269f02b4043ddb3571f51209f1a4bb0a8baba5c4"), looks := false }, kinds := [], alts := [], laidByText := true, laidKinds := [.data], laidTests := true, laidLooks := .later }
def DueMonthsCardSaid : Prop := Claim7.holds Tryd.pinned (.plain (OpenSpec.ofChange dueMonthsSpec)) dueMonthsCard

/-- THE TIED CARD OF 'annuitylaw05.DueTells'. -/
def dueTellsCard : Claim7 := { stood := { row := dueTellsRow, standIns := [], harness := (true, "8ceafc02692c3b3cb1cab411269f02b4043ddb3571f51209f1a4bb0a8baba5c4"), looks := false }, kinds := [], alts := [], laidByText := true, laidKinds := [.data], laidTests := true, laidLooks := .later }
def DueTellsCardSaid : Prop := Claim7.holds Tryd.pinned (.plain (OpenSpec.ofChange dueTellsSpec)) dueTellsCard

/-- THE TIED CARD OF 'annuitylaw05.DueParts'. -/
def duePartsCard : Claim7 := { stood := { row := duePartsRow, standIns := [], harness := (true, "8ceafc02692c3b3cb1cab411269f02b4043ddb3571f51209f1a4bb0a8baba5c4"), looks := false }, kinds := [], alts := [], laidByText := true, laidKinds := [.data], laidTests := true, laidLooks := .later }
def DuePartsCardSaid : Prop := Claim7.holds Tryd.pinned (.plain (OpenSpec.ofChange duePartsSpec)) duePartsCard

/-- THE TIED CARD OF 'annuitylaw05.DueWhole'. -/
def dueWholeCard : Claim7 := { stood := { row := dueWholeRow, standIns := [], harness := (true, "8ceafc02692c3b3cb1cab411269f02b4043ddb3571f51209f1a4bb0a8baba5c4"), looks := false }, kinds := [], alts := [], laidByText := true, laidKinds := [.data], laidTests := true, laidLooks := .later }
def DueWholeCardSaid : Prop := Claim7.holds Tryd.pinned (.plain (OpenSpec.ofChange dueWholeSpec)) dueWholeCard

/-- THE TIED CARD OF 'annuitylaw05.DueYears'. -/
def dueYearsCard : Claim7 := { stood := { row := dueYearsRow, standIns := [], harness := (true, "8ceafc02692c3b3cb1cab411269f02b4043ddb3571f51209f1a4bb0a8baba5c4"), looks := false }, kinds := [], alts := [], laidByText := true, laidKinds := [.data], laidTests := true, laidLooks := .later }
def DueYearsCardSaid : Prop := Claim7.holds Tryd.pinned (.plain (OpenSpec.ofChange dueYearsSpec)) dueYearsCard

/-- THE SECOND FORM's CARD OF 'annuitylaw05.DueMonths'. -/
def dueMonthsUptoCard : Claim7 := { stood := { row := dueMonthsUptoRow, standIns := [], harness := (true, "8ceafc02692c3b3cb1cab411269f02b4043ddb3571f51209f1a4bb0a8baba5c4"), looks := false }, kinds := [], alts := [], laidByText := true, laidKinds := [.data], laidTests := true, laidLooks := .later }
def DueMonthsUptoCardSaid : Prop := Claim7.holds Tryd.pinned (.plain (OpenSpec.upto dueMonthsSpec)) dueMonthsUptoCard

/-- THE SECOND FORM's CARD OF 'annuitylaw05.DueTells'. -/
def dueTellsUptoCard : Claim7 := { stood := { row := dueTellsUptoRow, standIns := [], harness := (true, "8ceafc02692c3b3cb1cab411269f02b4043ddb3571f51209f1a4bb0a8baba5c4"), looks := false }, kinds := [], alts := [], laidByText := true, laidKinds := [.data], laidTests := true, laidLooks := .later }
def DueTellsUptoCardSaid : Prop := Claim7.holds Tryd.pinned (.plain (OpenSpec.upto dueTellsSpec)) dueTellsUptoCard

/-- THE SECOND FORM's CARD OF 'annuitylaw05.DueParts'. -/
def duePartsUptoCard : Claim7 := { stood := { row := duePartsUptoRow, standIns := [], harness := (true, "8ceafc02692c3b3cb1cab411269f02b4043ddb3571f51209f1a4bb0a8baba5c4"), looks := false }, kinds := [], alts := [], laidByText := true, laidKinds := [.data], laidTests := true, laidLooks := .later }
def DuePartsUptoCardSaid : Prop := Claim7.holds Tryd.pinned (.plain (OpenSpec.upto duePartsSpec)) duePartsUptoCard

/-- THE SECOND FORM's CARD OF 'annuitylaw05.DueWhole'. -/
def dueWholeUptoCard : Claim7 := { stood := { row := dueWholeUptoRow, standIns := [], harness := (true, "8ceafc02692c3b3cb1cab411269f02b4043ddb3571f51209f1a4bb0a8baba5c4"), looks := false }, kinds := [], alts := [], laidByText := true, laidKinds := [.data], laidTests := true, laidLooks := .later }
def DueWholeUptoCardSaid : Prop := Claim7.holds Tryd.pinned (.plain (OpenSpec.upto dueWholeSpec)) dueWholeUptoCard

/-- THE SECOND FORM's CARD OF 'annuitylaw05.DueYears'. -/
def dueYearsUptoCard : Claim7 := { stood := { row := dueYearsUptoRow, standIns := [], harness := (true, "8ceafc02692c3b3cb1cab411269f02b4043ddb3571f51209f1a4bb0a8baba5c4"), looks := false }, kinds := [], alts := [], laidByText := true, laidKinds := [.data], laidTests := true, laidLooks := .later }
def DueYearsUptoCardSaid : Prop := Claim7.holds Tryd.pinned (.plain (OpenSpec.upto dueYearsSpec)) dueYearsUptoCard
end Rows
end Go.Proofs.YthmmlgfechkohaaDoor
