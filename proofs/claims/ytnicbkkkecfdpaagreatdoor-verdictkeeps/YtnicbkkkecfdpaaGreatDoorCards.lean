/-
  DERIVED. GIVEN WITH THE SEED: THE CARDS: each row of YtnicbkkkecfdpaaGreatDoorRows.lean that lists a variable, with what it lists TIED to the program's text (the seventh form; the later family's looks); each row that meets fmt, with fmt's text TOLD by the authors' own Lean function (tested against real Go, not proved from fmt's source: count such statements apart). THE CARD IS WHAT COUNTS. Prove the row's statement (the work); the ties are given (YtnicbkkkecfdpaaGreatDoorTie.lean); close each card by the builder's one call (the guide's Derived/Test/ToyasCard.lean, 'card_holds'). Laid BY PROGRAM, IN A SANDBOX (cutbox-door.mjs). By AI agents, Wed Nov 11 2026. No macro, syntax, notation, axiom, sorry.
-/
import Derived.Test.YtnicbkkkecfdpaaGreatDoorRows
import GoSem.ClaimSeven
namespace Go.Proofs.YtnicbkkkecfdpaaGreatDoor
namespace Rows

/-- THE TIED CARD OF 'foretelllaw.VerdictKeeps'. -/
def verdictKeepsCard : Claim7 := { stood := { row := verdictKeepsRow, standIns := [], harness := (true, "dfdca1776325d85bdddceae349c67131e4ec9983fd1e83826aa6e9fea2a87c7f"), looks := true }, kinds := [], alts := [], laidByText := true, laidKinds := [.data], laidTests := true, laidLooks := .later }
def VerdictKeepsCardSaid : Prop := Claim7.holds Tryz.pinned (.plain (OpenSpec.ofChange verdictKeepsSpec)) verdictKeepsCard

/-- THE SECOND FORM's CARD OF 'foretelllaw.VerdictKeeps'. -/
def verdictKeepsUptoCard : Claim7 := { stood := { row := verdictKeepsUptoRow, standIns := [], harness := (true, "dfdca1776325d85bdddceae349c67131e4ec9983fd1e83826aa6e9fea2a87c7f"), looks := true }, kinds := [], alts := [], laidByText := true, laidKinds := [.data], laidTests := true, laidLooks := .later }
def VerdictKeepsUptoCardSaid : Prop := Claim7.holds Tryz.pinned (.plain (OpenSpec.upto verdictKeepsSpec)) verdictKeepsUptoCard
end Rows
end Go.Proofs.YtnicbkkkecfdpaaGreatDoor
