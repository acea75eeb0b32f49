/-
  DERIVED. GIVEN WITH THE SEED: THE CARDS: each row of YtkddiaiohnbjpaaGreatDoorRows.lean that lists a variable, with what it lists TIED to the program's text (the seventh form; the later family's looks); each row that meets fmt, with fmt's text TOLD by the authors' own Lean function (tested against real Go, not proved from fmt's source: count such statements apart). THE CARD IS WHAT COUNTS. Prove the row's statement (the work); the ties are given (YtkddiaiohnbjpaaGreatDoorTie.lean); close each card by the builder's one call (the guide's Derived/Test/ToyasCard.lean, 'card_holds'). Laid BY PROGRAM, IN A SANDBOX (cutbox-door.mjs). By AI agents, Wed Nov 11 2026. No macro, syntax, notation, axiom, sorry.
-/
import Derived.Test.YtkddiaiohnbjpaaGreatDoorRows
import GoSem.ClaimSeven
namespace Go.Proofs.YtkddiaiohnbjpaaGreatDoor
namespace Rows

/-- THE TIED CARD OF 'annuitylaw18.PlanSets'. -/
def planSetsCard : Claim7 := { stood := { row := planSetsRow, standIns := [], harness := (true, "33e47640bf85655035e35b8cf167fd32a53c7ef0a5fd4ce27b84824e3159524d"), looks := true }, kinds := [], alts := [], laidByText := true, laidKinds := [.data, .data], laidTests := true, laidLooks := .later }
def PlanSetsCardSaid : Prop := Claim7.holds Tryz.pinned (.plain (OpenSpec.ofChange planSetsSpec)) planSetsCard

/-- THE TIED CARD OF 'annuitylaw18.PlanAsks'. -/
def planAsksCard : Claim7 := { stood := { row := planAsksRow, standIns := [], harness := (true, "33e47640bf85655035e35b8cf167fd32a53c7ef0a5fd4ce27b84824e3159524d"), looks := true }, kinds := [], alts := [], laidByText := true, laidKinds := [.data, .data], laidTests := true, laidLooks := .later }
def PlanAsksCardSaid : Prop := Claim7.holds Tryz.pinned (.plain (OpenSpec.ofChange planAsksSpec)) planAsksCard

/-- THE TIED CARD OF 'annuitylaw18.PlanMost'. -/
def planMostCard : Claim7 := { stood := { row := planMostRow, standIns := [], harness := (true, "33e47640bf85655035e35b8cf167fd32a53c7ef0a5fd4ce27b84824e3159524d"), looks := true }, kinds := [], alts := [], laidByText := true, laidKinds := [.data, .data], laidTests := true, laidLooks := .later }
def PlanMostCardSaid : Prop := Claim7.holds Tryz.pinned (.plain (OpenSpec.ofChange planMostSpec)) planMostCard

/-- THE TIED CARD OF 'annuitylaw18.PlanLapses'. -/
def planLapsesCard : Claim7 := { stood := { row := planLapsesRow, standIns := [], harness := (true, "33e47640bf85655035e35b8cf167fd32a53c7ef0a5fd4ce27b84824e3159524d"), looks := true }, kinds := [], alts := [], laidByText := true, laidKinds := [.data, .data], laidTests := true, laidLooks := .later }
def PlanLapsesCardSaid : Prop := Claim7.holds Tryz.pinned (.plain (OpenSpec.ofChange planLapsesSpec)) planLapsesCard

/-- THE SECOND FORM's CARD OF 'annuitylaw18.PlanSets'. -/
def planSetsUptoCard : Claim7 := { stood := { row := planSetsUptoRow, standIns := [], harness := (true, "33e47640bf85655035e35b8cf167fd32a53c7ef0a5fd4ce27b84824e3159524d"), looks := true }, kinds := [], alts := [], laidByText := true, laidKinds := [.data, .data], laidTests := true, laidLooks := .later }
def PlanSetsUptoCardSaid : Prop := Claim7.holds Tryz.pinned (.plain (OpenSpec.upto planSetsSpec)) planSetsUptoCard

/-- THE SECOND FORM's CARD OF 'annuitylaw18.PlanAsks'. -/
def planAsksUptoCard : Claim7 := { stood := { row := planAsksUptoRow, standIns := [], harness := (true, "33e47640bf85655035e35b8cf167fd32a53c7ef0a5fd4ce27b84824e3159524d"), looks := true }, kinds := [], alts := [], laidByText := true, laidKinds := [.data, .data], laidTests := true, laidLooks := .later }
def PlanAsksUptoCardSaid : Prop := Claim7.holds Tryz.pinned (.plain (OpenSpec.upto planAsksSpec)) planAsksUptoCard

/-- THE SECOND FORM's CARD OF 'annuitylaw18.PlanMost'. -/
def planMostUptoCard : Claim7 := { stood := { row := planMostUptoRow, standIns := [], harness := (true, "33e47640bf85655035e35b8cf167fd32a53c7ef0a5fd4ce27b84824e3159524d"), looks := true }, kinds := [], alts := [], laidByText := true, laidKinds := [.data, .data], laidTests := true, laidLooks := .later }
def PlanMostUptoCardSaid : Prop := Claim7.holds Tryz.pinned (.plain (OpenSpec.upto planMostSpec)) planMostUptoCard

/-- THE SECOND FORM's CARD OF 'annuitylaw18.PlanLapses'. -/
def planLapsesUptoCard : Claim7 := { stood := { row := planLapsesUptoRow, standIns := [], harness := (true, "33e47640bf85655035e35b8cf167fd32a53c7ef0a5fd4ce27b84824e3159524d"), looks := true }, kinds := [], alts := [], laidByText := true, laidKinds := [.data, .data], laidTests := true, laidLooks := .later }
def PlanLapsesUptoCardSaid : Prop := Claim7.holds Tryz.pinned (.plain (OpenSpec.upto planLapsesSpec)) planLapsesUptoCard
end Rows
end Go.Proofs.YtkddiaiohnbjpaaGreatDoor
