/-
  DERIVED. GIVEN WITH THE SEED: THE CARDS: each row of YtppogilkhgppdaaDoorRows.lean that lists a variable, with what it lists TIED to the program's text (the seventh form; the later family's looks); each row that meets fmt, with fmt's text TOLD by the authors' own Lean function (tested against real Go, not proved from fmt's source: count such statements apart). THE CARD IS WHAT COUNTS. Prove the row's statement (the work); the ties are given (YtppogilkhgppdaaDoorTie.lean); close each card by the builder's one call (the guide's Derived/Test/ToyasCard.lean, 'card_holds'). Laid BY PROGRAM, IN A SANDBOX (cutbox-door.mjs). By AI agents, Wed Nov 11 2026. No macro, syntax, notation, axiom, sorry.
-/
import Derived.Test.YtppogilkhgppdaaDoorRows
import GoSem.ClaimSeven
namespace Go.Proofs.YtppogilkhgppdaaDoor
namespace Rows

/-- THE TIED CARD OF 'annuitylaw16.StepTells'. -/
def stepTellsCard : Claim7 := { stood := { row := stepTellsRow, standIns := [], harness := (true, "4de55f023f547525569dcf006f6c0548343c3a7b8380d65f2cc2ca1e5c2ecf6c"), looks := false }, kinds := [], alts := [], laidByText := true, laidKinds := [.data], laidTests := true, laidLooks := .later }
def StepTellsCardSaid : Prop := Claim7.holds Tryd.pinned (.plain (OpenSpec.ofChange stepTellsSpec)) stepTellsCard

/-- THE TIED CARD OF 'annuitylaw16.StepRises'. -/
def stepRisesCard : Claim7 := { stood := { row := stepRisesRow, standIns := [], harness := (true, "4de55f023f547525569dcf006f6c0548343c3a7b8380d65f2cc2ca1e5c2ecf6c"), looks := false }, kinds := [], alts := [], laidByText := true, laidKinds := [.data], laidTests := true, laidLooks := .later }
def StepRisesCardSaid : Prop := Claim7.holds Tryd.pinned (.plain (OpenSpec.ofChange stepRisesSpec)) stepRisesCard

/-- THE SECOND FORM's CARD OF 'annuitylaw16.StepTells'. -/
def stepTellsUptoCard : Claim7 := { stood := { row := stepTellsUptoRow, standIns := [], harness := (true, "4de55f023f547525569dcf006f6c0548343c3a7b8380d65f2cc2ca1e5c2ecf6c"), looks := false }, kinds := [], alts := [], laidByText := true, laidKinds := [.data], laidTests := true, laidLooks := .later }
def StepTellsUptoCardSaid : Prop := Claim7.holds Tryd.pinned (.plain (OpenSpec.upto stepTellsSpec)) stepTellsUptoCard

/-- THE SECOND FORM's CARD OF 'annuitylaw16.StepRises'. -/
def stepRisesUptoCard : Claim7 := { stood := { row := stepRisesUptoRow, standIns := [], harness := (true, "4de55f023f547525569dcf006f6c0548343c3a7b8380d65f2cc2ca1e5c2ecf6c"), looks := false }, kinds := [], alts := [], laidByText := true, laidKinds := [.data], laidTests := true, laidLooks := .later }
def StepRisesUptoCardSaid : Prop := Claim7.holds Tryd.pinned (.plain (OpenSpec.upto stepRisesSpec)) stepRisesUptoCard
end Rows
end Go.Proofs.YtppogilkhgppdaaDoor
