/-
  DERIVED. GIVEN WITH THE SEED: THE CARDS: each row of YtjldkfiabgagiaaGreatDoorRows.lean that lists a variable, with what it lists TIED to the program's text (the seventh form; the later family's looks); each row that meets fmt, with fmt's text TOLD by the authors' own Lean function (tested against real Go, not proved from fmt's source: count such statements apart). THE CARD IS WHAT COUNTS. Prove the row's statement (the work); the ties are given (YtjldkfiabgagiaaGreatDoorTie.lean); close each card by the builder's one call (the guide's Derived/Test/ToyasCard.lean, 'card_holds'). Laid BY PROGRAM, IN A SANDBOX (cutbox-door.mjs). By AI agents, Wed Nov 11 2026. No macro, syntax, notation, axiom, sorry.
-/
import Derived.Test.YtjldkfiabgagiaaGreatDoorRows
import GoSem.ClaimSeven
namespace Go.Proofs.YtjldkfiabgagiaaGreatDoor
namespace Rows

/-- THE TIED CARD OF 'foretelltop.SearchBounds'. -/
def searchBoundsCard : Claim7 := { stood := { row := searchBoundsRow, standIns := [], harness := (true, "9d23d48ea92dd70f78caf94bd4208291b8d3766cf65207be1edd9ec544fda708"), looks := true }, kinds := [], alts := [], laidByText := true, laidKinds := [.data], laidTests := true, laidLooks := .later }
def SearchBoundsCardSaid : Prop := Claim7.holds Tryz.pinned (.plain (OpenSpec.ofChange searchBoundsSpec)) searchBoundsCard

/-- THE TIED CARD OF 'foretelltop.SearchSaved'. -/
def searchSavedCard : Claim7 := { stood := { row := searchSavedRow, standIns := [], harness := (true, "9d23d48ea92dd70f78caf94bd4208291b8d3766cf65207be1edd9ec544fda708"), looks := true }, kinds := [], alts := [], laidByText := true, laidKinds := [.data], laidTests := true, laidLooks := .later }
def SearchSavedCardSaid : Prop := Claim7.holds Tryz.pinned (.plain (OpenSpec.ofChange searchSavedSpec)) searchSavedCard

/-- THE TIED CARD OF 'foretelltop.SearchCrash'. -/
def searchCrashCard : Claim7 := { stood := { row := searchCrashRow, standIns := [], harness := (true, "9d23d48ea92dd70f78caf94bd4208291b8d3766cf65207be1edd9ec544fda708"), looks := true }, kinds := [], alts := [], laidByText := true, laidKinds := [.data], laidTests := true, laidLooks := .later }
def SearchCrashCardSaid : Prop := Claim7.holds Tryz.pinned (.plain (OpenSpec.ofChange searchCrashSpec)) searchCrashCard

/-- THE TIED CARD OF 'foretelltop.SearchAgain'. -/
def searchAgainCard : Claim7 := { stood := { row := searchAgainRow, standIns := [], harness := (true, "9d23d48ea92dd70f78caf94bd4208291b8d3766cf65207be1edd9ec544fda708"), looks := true }, kinds := [], alts := [], laidByText := true, laidKinds := [.data], laidTests := true, laidLooks := .later }
def SearchAgainCardSaid : Prop := Claim7.holds Tryz.pinned (.plain (OpenSpec.ofChange searchAgainSpec)) searchAgainCard

/-- THE TIED CARD OF 'foretelltop.SearchDown'. -/
def searchDownCard : Claim7 := { stood := { row := searchDownRow, standIns := [], harness := (true, "9d23d48ea92dd70f78caf94bd4208291b8d3766cf65207be1edd9ec544fda708"), looks := true }, kinds := [], alts := [], laidByText := true, laidKinds := [.data], laidTests := true, laidLooks := .later }
def SearchDownCardSaid : Prop := Claim7.holds Tryz.pinned (.plain (OpenSpec.ofChange searchDownSpec)) searchDownCard

/-- THE TIED CARD OF 'foretelltop.SearchParts'. -/
def searchPartsCard : Claim7 := { stood := { row := searchPartsRow, standIns := [], harness := (true, "9d23d48ea92dd70f78caf94bd4208291b8d3766cf65207be1edd9ec544fda708"), looks := true }, kinds := [], alts := [], laidByText := true, laidKinds := [.data], laidTests := true, laidLooks := .later }
def SearchPartsCardSaid : Prop := Claim7.holds Tryz.pinned (.plain (OpenSpec.ofChange searchPartsSpec)) searchPartsCard

/-- THE SECOND FORM's CARD OF 'foretelltop.SearchBounds'. -/
def searchBoundsUptoCard : Claim7 := { stood := { row := searchBoundsUptoRow, standIns := [], harness := (true, "9d23d48ea92dd70f78caf94bd4208291b8d3766cf65207be1edd9ec544fda708"), looks := true }, kinds := [], alts := [], laidByText := true, laidKinds := [.data], laidTests := true, laidLooks := .later }
def SearchBoundsUptoCardSaid : Prop := Claim7.holds Tryz.pinned (.plain (OpenSpec.upto searchBoundsSpec)) searchBoundsUptoCard

/-- THE SECOND FORM's CARD OF 'foretelltop.SearchSaved'. -/
def searchSavedUptoCard : Claim7 := { stood := { row := searchSavedUptoRow, standIns := [], harness := (true, "9d23d48ea92dd70f78caf94bd4208291b8d3766cf65207be1edd9ec544fda708"), looks := true }, kinds := [], alts := [], laidByText := true, laidKinds := [.data], laidTests := true, laidLooks := .later }
def SearchSavedUptoCardSaid : Prop := Claim7.holds Tryz.pinned (.plain (OpenSpec.upto searchSavedSpec)) searchSavedUptoCard

/-- THE SECOND FORM's CARD OF 'foretelltop.SearchCrash'. -/
def searchCrashUptoCard : Claim7 := { stood := { row := searchCrashUptoRow, standIns := [], harness := (true, "9d23d48ea92dd70f78caf94bd4208291b8d3766cf65207be1edd9ec544fda708"), looks := true }, kinds := [], alts := [], laidByText := true, laidKinds := [.data], laidTests := true, laidLooks := .later }
def SearchCrashUptoCardSaid : Prop := Claim7.holds Tryz.pinned (.plain (OpenSpec.upto searchCrashSpec)) searchCrashUptoCard

/-- THE SECOND FORM's CARD OF 'foretelltop.SearchAgain'. -/
def searchAgainUptoCard : Claim7 := { stood := { row := searchAgainUptoRow, standIns := [], harness := (true, "9d23d48ea92dd70f78caf94bd4208291b8d3766cf65207be1edd9ec544fda708"), looks := true }, kinds := [], alts := [], laidByText := true, laidKinds := [.data], laidTests := true, laidLooks := .later }
def SearchAgainUptoCardSaid : Prop := Claim7.holds Tryz.pinned (.plain (OpenSpec.upto searchAgainSpec)) searchAgainUptoCard

/-- THE SECOND FORM's CARD OF 'foretelltop.SearchDown'. -/
def searchDownUptoCard : Claim7 := { stood := { row := searchDownUptoRow, standIns := [], harness := (true, "9d23d48ea92dd70f78caf94bd4208291b8d3766cf65207be1edd9ec544fda708"), looks := true }, kinds := [], alts := [], laidByText := true, laidKinds := [.data], laidTests := true, laidLooks := .later }
def SearchDownUptoCardSaid : Prop := Claim7.holds Tryz.pinned (.plain (OpenSpec.upto searchDownSpec)) searchDownUptoCard

/-- THE SECOND FORM's CARD OF 'foretelltop.SearchParts'. -/
def searchPartsUptoCard : Claim7 := { stood := { row := searchPartsUptoRow, standIns := [], harness := (true, "9d23d48ea92dd70f78caf94bd4208291b8d3766cf65207be1edd9ec544fda708"), looks := true }, kinds := [], alts := [], laidByText := true, laidKinds := [.data], laidTests := true, laidLooks := .later }
def SearchPartsUptoCardSaid : Prop := Claim7.holds Tryz.pinned (.plain (OpenSpec.upto searchPartsSpec)) searchPartsUptoCard
end Rows
end Go.Proofs.YtjldkfiabgagiaaGreatDoor
