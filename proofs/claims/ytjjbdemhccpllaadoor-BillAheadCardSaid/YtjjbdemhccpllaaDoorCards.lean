/-
  DERIVED. GIVEN WITH THE SEED: THE CARDS: each row of YtjjbdemhccpllaaDoorRows.lean that lists a variable, with what it lists TIED to the program's text (the seventh form; the later family's looks); each row that meets fmt, with fmt's text TOLD by the authors' own Lean function (tested against real Go, not proved from fmt's source: count such statements apart). THE CARD IS WHAT COUNTS. Prove the row's statement (the work); the ties are given (YtjjbdemhccpllaaDoorTie.lean); close each card by the builder's one call (the guide's Derived/Test/ToyasCard.lean, 'card_holds'). Laid BY PROGRAM, IN A SANDBOX (cutbox-door.mjs). By AI agents, Wed Nov 11 2026. No macro, syntax, notation, axiom, sorry.
-/
import Derived.Test.YtjjbdemhccpllaaDoorRows
import GoSem.ClaimSeven
namespace Go.Proofs.YtjjbdemhccpllaaDoor
namespace Rows

/-- THE TIED CARD OF 'annuitylaw19.BillTells'. -/
def billTellsCard : Claim7 := { stood := { row := billTellsRow, standIns := [], harness := (true, "02ae55fa8500039ec817757e26c358dad34fa44d5861600e0002202dd1d55ce6"), looks := false }, kinds := [], alts := [], laidByText := true, laidKinds := [.data], laidTests := true, laidLooks := .later }
def BillTellsCardSaid : Prop := Claim7.holds Tryd.pinned (.plain (OpenSpec.ofChange billTellsSpec)) billTellsCard

/-- THE TIED CARD OF 'annuitylaw19.BillIssues'. -/
def billIssuesCard : Claim7 := { stood := { row := billIssuesRow, standIns := [], harness := (true, "02ae55fa8500039ec817757e26c358dad34fa44d5861600e0002202dd1d55ce6"), looks := false }, kinds := [], alts := [], laidByText := true, laidKinds := [.data], laidTests := true, laidLooks := .later }
def BillIssuesCardSaid : Prop := Claim7.holds Tryd.pinned (.plain (OpenSpec.ofChange billIssuesSpec)) billIssuesCard

/-- THE TIED CARD OF 'annuitylaw19.BillCredits'. -/
def billCreditsCard : Claim7 := { stood := { row := billCreditsRow, standIns := [], harness := (true, "02ae55fa8500039ec817757e26c358dad34fa44d5861600e0002202dd1d55ce6"), looks := false }, kinds := [], alts := [], laidByText := true, laidKinds := [.data], laidTests := true, laidLooks := .later }
def BillCreditsCardSaid : Prop := Claim7.holds Tryd.pinned (.plain (OpenSpec.ofChange billCreditsSpec)) billCreditsCard

/-- THE TIED CARD OF 'annuitylaw19.BillAll'. -/
def billAllCard : Claim7 := { stood := { row := billAllRow, standIns := [], harness := (true, "02ae55fa8500039ec817757e26c358dad34fa44d5861600e0002202dd1d55ce6"), looks := false }, kinds := [], alts := [], laidByText := true, laidKinds := [.data], laidTests := true, laidLooks := .later }
def BillAllCardSaid : Prop := Claim7.holds Tryd.pinned (.plain (OpenSpec.ofChange billAllSpec)) billAllCard

/-- THE TIED CARD OF 'annuitylaw19.BillAhead'. -/
def billAheadCard : Claim7 := { stood := { row := billAheadRow, standIns := [], harness := (true, "02ae55fa8500039ec817757e26c358dad34fa44d5861600e0002202dd1d55ce6"), looks := false }, kinds := [], alts := [], laidByText := true, laidKinds := [.data], laidTests := true, laidLooks := .later }
def BillAheadCardSaid : Prop := Claim7.holds Tryd.pinned (.plain (OpenSpec.ofChange billAheadSpec)) billAheadCard

/-- THE SECOND FORM's CARD OF 'annuitylaw19.BillTells'. -/
def billTellsUptoCard : Claim7 := { stood := { row := billTellsUptoRow, standIns := [], harness := (true, "02ae55fa8500039ec817757e26c358dad34fa44d5861600e0002202dd1d55ce6"), looks := false }, kinds := [], alts := [], laidByText := true, laidKinds := [.data], laidTests := true, laidLooks := .later }
def BillTellsUptoCardSaid : Prop := Claim7.holds Tryd.pinned (.plain (OpenSpec.upto billTellsSpec)) billTellsUptoCard

/-- THE SECOND FORM's CARD OF 'annuitylaw19.BillIssues'. -/
def billIssuesUptoCard : Claim7 := { stood := { row := billIssuesUptoRow, standIns := [], harness := (true, "02ae55fa8500039ec817757e26c358dad34fa44d5861600e0002202dd1d55ce6"), looks := false }, kinds := [], alts := [], laidByText := true, laidKinds := [.data], laidTests := true, laidLooks := .later }
def BillIssuesUptoCardSaid : Prop := Claim7.holds Tryd.pinned (.plain (OpenSpec.upto billIssuesSpec)) billIssuesUptoCard

/-- THE SECOND FORM's CARD OF 'annuitylaw19.BillCredits'. -/
def billCreditsUptoCard : Claim7 := { stood := { row := billCreditsUptoRow, standIns := [], harness := (true, "02ae55fa8500039ec817757e26c358dad34fa44d5861600e0002202dd1d55ce6"), looks := false }, kinds := [], alts := [], laidByText := true, laidKinds := [.data], laidTests := true, laidLooks := .later }
def BillCreditsUptoCardSaid : Prop := Claim7.holds Tryd.pinned (.plain (OpenSpec.upto billCreditsSpec)) billCreditsUptoCard

/-- THE SECOND FORM's CARD OF 'annuitylaw19.BillAll'. -/
def billAllUptoCard : Claim7 := { stood := { row := billAllUptoRow, standIns := [], harness := (true, "02ae55fa8500039ec817757e26c358dad34fa44d5861600e0002202dd1d55ce6"), looks := false }, kinds := [], alts := [], laidByText := true, laidKinds := [.data], laidTests := true, laidLooks := .later }
def BillAllUptoCardSaid : Prop := Claim7.holds Tryd.pinned (.plain (OpenSpec.upto billAllSpec)) billAllUptoCard

/-- THE SECOND FORM's CARD OF 'annuitylaw19.BillAhead'. -/
def billAheadUptoCard : Claim7 := { stood := { row := billAheadUptoRow, standIns := [], harness := (true, "02ae55fa8500039ec817757e26c358dad34fa44d5861600e0002202dd1d55ce6"), looks := false }, kinds := [], alts := [], laidByText := true, laidKinds := [.data], laidTests := true, laidLooks := .later }
def BillAheadUptoCardSaid : Prop := Claim7.holds Tryd.pinned (.plain (OpenSpec.upto billAheadSpec)) billAheadUptoCard
end Rows
end Go.Proofs.YtjjbdemhccpllaaDoor
