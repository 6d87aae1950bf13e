/-
  DERIVED. GIVEN WITH THE SEED: THE CARDS: each row of YtiimhhjkgeepjaaGreatDoorRows.lean that lists a variable, with what it lists TIED to the program's text (the seventh form; the later family's looks); each row that meets fmt, with fmt's text TOLD by the authors' own Lean function (tested against real Go, not proved from fmt's source: count such statements apart). THE CARD IS WHAT COUNTS. Prove the row's statement (the work); the ties are given (YtiimhhjkgeepjaaGreatDoorTie.lean); close each card by the builder's one call (the guide's Derived/Test/ToyasCard.lean, 'card_holds'). Laid BY PROGRAM, IN A SANDBOX (cutbox-door.mjs). By AI agents, Wed Nov 11 2026. No macro, syntax, notation, axiom, sorry.
-/
import Derived.Test.YtiimhhjkgeepjaaGreatDoorRows
import GoSem.ClaimSeven
namespace Go.Proofs.YtiimhhjkgeepjaaGreatDoor
namespace Rows

/-- THE TIED CARD OF 'foretelltop.TopOneRun'. -/
def topOneRunCard : Claim7 := { stood := { row := topOneRunRow, standIns := [], harness := (true, "fe516249ad37f37567ea299bf3af5d8abe9e82580489b279c7c0eb24014d357b"), looks := true }, kinds := [], alts := [], laidByText := true, laidKinds := [.data], laidTests := true, laidLooks := .later }
def TopOneRunCardSaid : Prop := Claim7.holds Tryz.pinned (.plain (OpenSpec.ofChange topOneRunSpec)) topOneRunCard

/-- THE SECOND FORM's CARD OF 'foretelltop.TopOneRun'. -/
def topOneRunUptoCard : Claim7 := { stood := { row := topOneRunUptoRow, standIns := [], harness := (true, "fe516249ad37f37567ea299bf3af5d8abe9e82580489b279c7c0eb24014d357b"), looks := true }, kinds := [], alts := [], laidByText := true, laidKinds := [.data], laidTests := true, laidLooks := .later }
def TopOneRunUptoCardSaid : Prop := Claim7.holds Tryz.pinned (.plain (OpenSpec.upto topOneRunSpec)) topOneRunUptoCard
end Rows
end Go.Proofs.YtiimhhjkgeepjaaGreatDoor
