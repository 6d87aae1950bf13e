/-
  DERIVED. GIVEN WITH THE SEED: THE CARDS: each row of YtbgllmgeklcloaaGreatDoorRows.lean that lists a variable, with what it lists TIED to the program's text (the seventh form; the later family's looks); each row that meets fmt, with fmt's text TOLD by the authors' own Lean function (tested against real Go, not proved from fmt's source: count such statements apart). THE CARD IS WHAT COUNTS. Prove the row's statement (the work); the ties are given (YtbgllmgeklcloaaGreatDoorTie.lean); close each card by the builder's one call (the guide's Derived/Test/ToyasCard.lean, 'card_holds'). Laid BY PROGRAM, IN A SANDBOX (cutbox-door.mjs). By AI agents, Wed Nov 11 2026. No macro, syntax, notation, axiom, sorry.
-/
import Derived.Test.YtbgllmgeklcloaaGreatDoorRows
import GoSem.ClaimSeven
namespace Go.Proofs.YtbgllmgeklcloaaGreatDoor
namespace Rows

/-- THE TIED CARD OF 'foretelltop.TopNow'. -/
def topNowCard : Claim7 := { stood := { row := topNowRow, standIns := [], harness := (true, "ba2360660002a747a6939c071e631424d5969ded589e1e3f03a4329c84866c7d"), looks := true }, kinds := [], alts := [], laidByText := true, laidKinds := [.data], laidTests := true, laidLooks := .later }
def TopNowCardSaid : Prop := Claim7.holds Tryz.pinned (.plain (OpenSpec.ofChange topNowSpec)) topNowCard

/-- THE SECOND FORM's CARD OF 'foretelltop.TopNow'. -/
def topNowUptoCard : Claim7 := { stood := { row := topNowUptoRow, standIns := [], harness := (true, "ba2360660002a747a6939c071e631424d5969ded589e1e3f03a4329c84866c7d"), looks := true }, kinds := [], alts := [], laidByText := true, laidKinds := [.data], laidTests := true, laidLooks := .later }
def TopNowUptoCardSaid : Prop := Claim7.holds Tryz.pinned (.plain (OpenSpec.upto topNowSpec)) topNowUptoCard
end Rows
end Go.Proofs.YtbgllmgeklcloaaGreatDoor
