/-
  DERIVED. GIVEN WITH THE SEED: THE CARDS: each row of YtfgadcofijgghaaDoorRows.lean that lists a variable, with what it lists TIED to the program's text (the seventh form; the later family's looks); each row that meets fmt, with fmt's text TOLD by the authors' own Lean function (tested against real Go, not proved from fmt's source: count such statements apart). THE CARD IS WHAT COUNTS. Prove the row's statement (the work); the ties are given (YtfgadcofijgghaaDoorTie.lean); close each card by the builder's one call (the guide's Derived/Test/ToyasCard.lean, 'card_holds'). Laid BY PROGRAM, IN A SANDBOX (cutbox-door.mjs). By AI agents, Wed Nov 11 2026. No macro, syntax, notation, axiom, sorry.
-/
import Derived.Test.YtfgadcofijgghaaDoorRows
import GoSem.ClaimSeven
namespace Go.Proofs.YtfgadcofijgghaaDoor
namespace Rows

/-- THE TIED CARD OF 'foretelllaw.StepAfters'. -/
def stepAftersCard : Claim7 := { stood := { row := stepAftersRow, standIns := [], harness := (true, "2dcdffcb8d543733a4370ef7a2e8bf30a8b44b2b23dabadfe00a949f8886193c"), looks := true }, kinds := [], alts := [], laidByText := true, laidKinds := [.data], laidTests := true, laidLooks := .later }
def StepAftersCardSaid : Prop := Claim7.holds Tryd.pinned (.plain (OpenSpec.ofChange stepAftersSpec)) stepAftersCard

/-- THE TIED CARD OF 'foretelllaw.StepNexts'. -/
def stepNextsCard : Claim7 := { stood := { row := stepNextsRow, standIns := [], harness := (true, "2dcdffcb8d543733a4370ef7a2e8bf30a8b44b2b23dabadfe00a949f8886193c"), looks := true }, kinds := [], alts := [], laidByText := true, laidKinds := [.data], laidTests := true, laidLooks := .later }
def StepNextsCardSaid : Prop := Claim7.holds Tryd.pinned (.plain (OpenSpec.ofChange stepNextsSpec)) stepNextsCard

/-- THE TIED CARD OF 'foretelllaw.StepLetters'. -/
def stepLettersCard : Claim7 := { stood := { row := stepLettersRow, standIns := [], harness := (true, "2dcdffcb8d543733a4370ef7a2e8bf30a8b44b2b23dabadfe00a949f8886193c"), looks := true }, kinds := [], alts := [], laidByText := true, laidKinds := [.data], laidTests := true, laidLooks := .later }
def StepLettersCardSaid : Prop := Claim7.holds Tryd.pinned (.plain (OpenSpec.ofChange stepLettersSpec)) stepLettersCard

/-- THE TIED CARD OF 'foretelllaw.StepReaches'. -/
def stepReachesCard : Claim7 := { stood := { row := stepReachesRow, standIns := [], harness := (true, "2dcdffcb8d543733a4370ef7a2e8bf30a8b44b2b23dabadfe00a949f8886193c"), looks := true }, kinds := [], alts := [], laidByText := true, laidKinds := [.data], laidTests := true, laidLooks := .later }
def StepReachesCardSaid : Prop := Claim7.holds Tryd.pinned (.plain (OpenSpec.ofChange stepReachesSpec)) stepReachesCard

/-- THE SECOND FORM's CARD OF 'foretelllaw.StepAfters'. -/
def stepAftersUptoCard : Claim7 := { stood := { row := stepAftersUptoRow, standIns := [], harness := (true, "2dcdffcb8d543733a4370ef7a2e8bf30a8b44b2b23dabadfe00a949f8886193c"), looks := true }, kinds := [], alts := [], laidByText := true, laidKinds := [.data], laidTests := true, laidLooks := .later }
def StepAftersUptoCardSaid : Prop := Claim7.holds Tryd.pinned (.plain (OpenSpec.upto stepAftersSpec)) stepAftersUptoCard

/-- THE SECOND FORM's CARD OF 'foretelllaw.StepNexts'. -/
def stepNextsUptoCard : Claim7 := { stood := { row := stepNextsUptoRow, standIns := [], harness := (true, "2dcdffcb8d543733a4370ef7a2e8bf30a8b44b2b23dabadfe00a949f8886193c"), looks := true }, kinds := [], alts := [], laidByText := true, laidKinds := [.data], laidTests := true, laidLooks := .later }
def StepNextsUptoCardSaid : Prop := Claim7.holds Tryd.pinned (.plain (OpenSpec.upto stepNextsSpec)) stepNextsUptoCard

/-- THE SECOND FORM's CARD OF 'foretelllaw.StepLetters'. -/
def stepLettersUptoCard : Claim7 := { stood := { row := stepLettersUptoRow, standIns := [], harness := (true, "2dcdffcb8d543733a4370ef7a2e8bf30a8b44b2b23dabadfe00a949f8886193c"), looks := true }, kinds := [], alts := [], laidByText := true, laidKinds := [.data], laidTests := true, laidLooks := .later }
def StepLettersUptoCardSaid : Prop := Claim7.holds Tryd.pinned (.plain (OpenSpec.upto stepLettersSpec)) stepLettersUptoCard

/-- THE SECOND FORM's CARD OF 'foretelllaw.StepReaches'. -/
def stepReachesUptoCard : Claim7 := { stood := { row := stepReachesUptoRow, standIns := [], harness := (true, "2dcdffcb8d543733a4370ef7a2e8bf30a8b44b2b23dabadfe00a949f8886193c"), looks := true }, kinds := [], alts := [], laidByText := true, laidKinds := [.data], laidTests := true, laidLooks := .later }
def StepReachesUptoCardSaid : Prop := Claim7.holds Tryd.pinned (.plain (OpenSpec.upto stepReachesSpec)) stepReachesUptoCard
end Rows
end Go.Proofs.YtfgadcofijgghaaDoor
