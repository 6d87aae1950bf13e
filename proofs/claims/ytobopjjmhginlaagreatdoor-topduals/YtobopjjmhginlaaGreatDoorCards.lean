/-
  DERIVED. GIVEN WITH THE SEED: THE CARDS: each row of YtobopjjmhginlaaGreatDoorRows.lean that lists a variable, with what it lists TIED to the program's text (the seventh form; the later family's looks); each row that meets fmt, with fmt's text TOLD by the authors' own Lean function (tested against real Go, not proved from fmt's source: count such statements apart). THE CARD IS WHAT COUNTS. Prove the row's statement (the work); the ties are given (YtobopjjmhginlaaGreatDoorTie.lean); close each card by the builder's one call (the guide's Derived/Test/ToyasCard.lean, 'card_holds'). Laid BY PROGRAM, IN A SANDBOX (cutbox-door.mjs). By AI agents, Wed Nov 11 2026. No macro, syntax, notation, axiom, sorry.
-/
import Derived.Test.YtobopjjmhginlaaGreatDoorRows
import GoSem.ClaimSeven
namespace Go.Proofs.YtobopjjmhginlaaGreatDoor
namespace Rows

/-- THE TIED CARD OF 'foretelltop.TopYes'. -/
def topYesCard : Claim7 := { stood := { row := topYesRow, standIns := [], harness := (true, "4cff92c7517fa6177d95cbac6a9ce1cffa5e872968e46260c4be2e740c8ea445"), looks := true }, kinds := [], alts := [], laidByText := true, laidKinds := [.data], laidTests := true, laidLooks := .later }
def TopYesCardSaid : Prop := Claim7.holds Tryz.pinned (.plain (OpenSpec.ofChange topYesSpec)) topYesCard

/-- THE TIED CARD OF 'foretelltop.TopNot'. -/
def topNotCard : Claim7 := { stood := { row := topNotRow, standIns := [], harness := (true, "4cff92c7517fa6177d95cbac6a9ce1cffa5e872968e46260c4be2e740c8ea445"), looks := true }, kinds := [], alts := [], laidByText := true, laidKinds := [.data], laidTests := true, laidLooks := .later }
def TopNotCardSaid : Prop := Claim7.holds Tryz.pinned (.plain (OpenSpec.ofChange topNotSpec)) topNotCard

/-- THE TIED CARD OF 'foretelltop.TopAnd'. -/
def topAndCard : Claim7 := { stood := { row := topAndRow, standIns := [], harness := (true, "4cff92c7517fa6177d95cbac6a9ce1cffa5e872968e46260c4be2e740c8ea445"), looks := true }, kinds := [], alts := [], laidByText := true, laidKinds := [.data], laidTests := true, laidLooks := .later }
def TopAndCardSaid : Prop := Claim7.holds Tryz.pinned (.plain (OpenSpec.ofChange topAndSpec)) topAndCard

/-- THE TIED CARD OF 'foretelltop.TopOr'. -/
def topOrCard : Claim7 := { stood := { row := topOrRow, standIns := [], harness := (true, "4cff92c7517fa6177d95cbac6a9ce1cffa5e872968e46260c4be2e740c8ea445"), looks := true }, kinds := [], alts := [], laidByText := true, laidKinds := [.data], laidTests := true, laidLooks := .later }
def TopOrCardSaid : Prop := Claim7.holds Tryz.pinned (.plain (OpenSpec.ofChange topOrSpec)) topOrCard

/-- THE TIED CARD OF 'foretelltop.TopDuals'. -/
def topDualsCard : Claim7 := { stood := { row := topDualsRow, standIns := [], harness := (true, "4cff92c7517fa6177d95cbac6a9ce1cffa5e872968e46260c4be2e740c8ea445"), looks := true }, kinds := [], alts := [], laidByText := true, laidKinds := [.data], laidTests := true, laidLooks := .later }
def TopDualsCardSaid : Prop := Claim7.holds Tryz.pinned (.plain (OpenSpec.ofChange topDualsSpec)) topDualsCard

/-- THE TIED CARD OF 'foretelltop.TopChain'. -/
def topChainCard : Claim7 := { stood := { row := topChainRow, standIns := [], harness := (true, "4cff92c7517fa6177d95cbac6a9ce1cffa5e872968e46260c4be2e740c8ea445"), looks := true }, kinds := [], alts := [], laidByText := true, laidKinds := [.data], laidTests := true, laidLooks := .later }
def TopChainCardSaid : Prop := Claim7.holds Tryz.pinned (.plain (OpenSpec.ofChange topChainSpec)) topChainCard

/-- THE SECOND FORM's CARD OF 'foretelltop.TopYes'. -/
def topYesUptoCard : Claim7 := { stood := { row := topYesUptoRow, standIns := [], harness := (true, "4cff92c7517fa6177d95cbac6a9ce1cffa5e872968e46260c4be2e740c8ea445"), looks := true }, kinds := [], alts := [], laidByText := true, laidKinds := [.data], laidTests := true, laidLooks := .later }
def TopYesUptoCardSaid : Prop := Claim7.holds Tryz.pinned (.plain (OpenSpec.upto topYesSpec)) topYesUptoCard

/-- THE SECOND FORM's CARD OF 'foretelltop.TopNot'. -/
def topNotUptoCard : Claim7 := { stood := { row := topNotUptoRow, standIns := [], harness := (true, "4cff92c7517fa6177d95cbac6a9ce1cffa5e872968e46260c4be2e740c8ea445"), looks := true }, kinds := [], alts := [], laidByText := true, laidKinds := [.data], laidTests := true, laidLooks := .later }
def TopNotUptoCardSaid : Prop := Claim7.holds Tryz.pinned (.plain (OpenSpec.upto topNotSpec)) topNotUptoCard

/-- THE SECOND FORM's CARD OF 'foretelltop.TopAnd'. -/
def topAndUptoCard : Claim7 := { stood := { row := topAndUptoRow, standIns := [], harness := (true, "4cff92c7517fa6177d95cbac6a9ce1cffa5e872968e46260c4be2e740c8ea445"), looks := true }, kinds := [], alts := [], laidByText := true, laidKinds := [.data], laidTests := true, laidLooks := .later }
def TopAndUptoCardSaid : Prop := Claim7.holds Tryz.pinned (.plain (OpenSpec.upto topAndSpec)) topAndUptoCard

/-- THE SECOND FORM's CARD OF 'foretelltop.TopOr'. -/
def topOrUptoCard : Claim7 := { stood := { row := topOrUptoRow, standIns := [], harness := (true, "4cff92c7517fa6177d95cbac6a9ce1cffa5e872968e46260c4be2e740c8ea445"), looks := true }, kinds := [], alts := [], laidByText := true, laidKinds := [.data], laidTests := true, laidLooks := .later }
def TopOrUptoCardSaid : Prop := Claim7.holds Tryz.pinned (.plain (OpenSpec.upto topOrSpec)) topOrUptoCard

/-- THE SECOND FORM's CARD OF 'foretelltop.TopDuals'. -/
def topDualsUptoCard : Claim7 := { stood := { row := topDualsUptoRow, standIns := [], harness := (true, "4cff92c7517fa6177d95cbac6a9ce1cffa5e872968e46260c4be2e740c8ea445"), looks := true }, kinds := [], alts := [], laidByText := true, laidKinds := [.data], laidTests := true, laidLooks := .later }
def TopDualsUptoCardSaid : Prop := Claim7.holds Tryz.pinned (.plain (OpenSpec.upto topDualsSpec)) topDualsUptoCard

/-- THE SECOND FORM's CARD OF 'foretelltop.TopChain'. -/
def topChainUptoCard : Claim7 := { stood := { row := topChainUptoRow, standIns := [], harness := (true, "4cff92c7517fa6177d95cbac6a9ce1cffa5e872968e46260c4be2e740c8ea445"), looks := true }, kinds := [], alts := [], laidByText := true, laidKinds := [.data], laidTests := true, laidLooks := .later }
def TopChainUptoCardSaid : Prop := Claim7.holds Tryz.pinned (.plain (OpenSpec.upto topChainSpec)) topChainUptoCard
end Rows
end Go.Proofs.YtobopjjmhginlaaGreatDoor
