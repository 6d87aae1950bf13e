/-
  DERIVED. GIVEN WITH THE SEED: THE CARDS: each row of YtfnobbpbmelgnaaGreatDoorRows.lean that lists a variable, with what it lists TIED to the program's text (the seventh form; the later family's looks); each row that meets fmt, with fmt's text TOLD by the authors' own Lean function (tested against real Go, not proved from fmt's source: count such statements apart). THE CARD IS WHAT COUNTS. Prove the row's statement (the work); the ties are given (YtfnobbpbmelgnaaGreatDoorTie.lean); close each card by the builder's one call (the guide's Derived/Test/ToyasCard.lean, 'card_holds'). Laid BY PROGRAM, IN A SANDBOX (cutbox-door.mjs). By AI agents, Wed Nov 11 2026. No macro, syntax, notation, axiom, sorry.
-/
import Derived.Test.YtfnobbpbmelgnaaGreatDoorRows
import GoSem.ClaimSeven
namespace Go.Proofs.YtfnobbpbmelgnaaGreatDoor
namespace Rows

/-- THE TIED CARD OF 'foretelltop.TopNames'. -/
def topNamesCard : Claim7 := { stood := { row := topNamesRow, standIns := [], harness := (true, "ec1ccfa8baffa0e0ef5be4d8f1260a4127ca7b910fae85931622d9a056fbe57f"), looks := true }, kinds := [], alts := [], laidByText := true, laidKinds := [.data], laidTests := true, laidLooks := .later }
def TopNamesCardSaid : Prop := Claim7.holds Tryz.pinned (.plain (OpenSpec.ofChange topNamesSpec)) topNamesCard

/-- THE TIED CARD OF 'foretelltop.TopRing'. -/
def topRingCard : Claim7 := { stood := { row := topRingRow, standIns := [], harness := (true, "ec1ccfa8baffa0e0ef5be4d8f1260a4127ca7b910fae85931622d9a056fbe57f"), looks := true }, kinds := [], alts := [], laidByText := true, laidKinds := [.data], laidTests := true, laidLooks := .later }
def TopRingCardSaid : Prop := Claim7.holds Tryz.pinned (.plain (OpenSpec.ofChange topRingSpec)) topRingCard

/-- THE TIED CARD OF 'foretelltop.TopChoice'. -/
def topChoiceCard : Claim7 := { stood := { row := topChoiceRow, standIns := [], harness := (true, "ec1ccfa8baffa0e0ef5be4d8f1260a4127ca7b910fae85931622d9a056fbe57f"), looks := true }, kinds := [], alts := [], laidByText := true, laidKinds := [.data], laidTests := true, laidLooks := .later }
def TopChoiceCardSaid : Prop := Claim7.holds Tryz.pinned (.plain (OpenSpec.ofChange topChoiceSpec)) topChoiceCard

/-- THE SECOND FORM's CARD OF 'foretelltop.TopNames'. -/
def topNamesUptoCard : Claim7 := { stood := { row := topNamesUptoRow, standIns := [], harness := (true, "ec1ccfa8baffa0e0ef5be4d8f1260a4127ca7b910fae85931622d9a056fbe57f"), looks := true }, kinds := [], alts := [], laidByText := true, laidKinds := [.data], laidTests := true, laidLooks := .later }
def TopNamesUptoCardSaid : Prop := Claim7.holds Tryz.pinned (.plain (OpenSpec.upto topNamesSpec)) topNamesUptoCard

/-- THE SECOND FORM's CARD OF 'foretelltop.TopRing'. -/
def topRingUptoCard : Claim7 := { stood := { row := topRingUptoRow, standIns := [], harness := (true, "ec1ccfa8baffa0e0ef5be4d8f1260a4127ca7b910fae85931622d9a056fbe57f"), looks := true }, kinds := [], alts := [], laidByText := true, laidKinds := [.data], laidTests := true, laidLooks := .later }
def TopRingUptoCardSaid : Prop := Claim7.holds Tryz.pinned (.plain (OpenSpec.upto topRingSpec)) topRingUptoCard

/-- THE SECOND FORM's CARD OF 'foretelltop.TopChoice'. -/
def topChoiceUptoCard : Claim7 := { stood := { row := topChoiceUptoRow, standIns := [], harness := (true, "ec1ccfa8baffa0e0ef5be4d8f1260a4127ca7b910fae85931622d9a056fbe57f"), looks := true }, kinds := [], alts := [], laidByText := true, laidKinds := [.data], laidTests := true, laidLooks := .later }
def TopChoiceUptoCardSaid : Prop := Claim7.holds Tryz.pinned (.plain (OpenSpec.upto topChoiceSpec)) topChoiceUptoCard
end Rows
end Go.Proofs.YtfnobbpbmelgnaaGreatDoor
