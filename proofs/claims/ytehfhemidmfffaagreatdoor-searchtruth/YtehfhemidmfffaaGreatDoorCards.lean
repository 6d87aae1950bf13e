/-
  DERIVED. GIVEN WITH THE SEED: THE CARDS: each row of YtehfhemidmfffaaGreatDoorRows.lean that lists a variable, with what it lists TIED to the program's text (the seventh form; the later family's looks); each row that meets fmt, with fmt's text TOLD by the authors' own Lean function (tested against real Go, not proved from fmt's source: count such statements apart). THE CARD IS WHAT COUNTS. Prove the row's statement (the work); the ties are given (YtehfhemidmfffaaGreatDoorTie.lean); close each card by the builder's one call (the guide's Derived/Test/ToyasCard.lean, 'card_holds'). Laid BY PROGRAM, IN A SANDBOX (cutbox-door.mjs). By AI agents, Wed Nov 11 2026. No macro, syntax, notation, axiom, sorry.
-/
import Derived.Test.YtehfhemidmfffaaGreatDoorRows
import GoSem.ClaimSeven
namespace Go.Proofs.YtehfhemidmfffaaGreatDoor
namespace Rows

/-- THE TIED CARD OF 'foretelltop.SearchCalm'. -/
def searchCalmCard : Claim7 := { stood := { row := searchCalmRow, standIns := [], harness := (true, "8efd43d64f604e15da60243e9106274d85bdf40f8d4df68272322aeb5faf81ef"), looks := true }, kinds := [], alts := [], laidByText := true, laidKinds := [.data], laidTests := true, laidLooks := .later }
def SearchCalmCardSaid : Prop := Claim7.holds Tryz.pinned (.plain (OpenSpec.ofChange searchCalmSpec)) searchCalmCard

/-- THE TIED CARD OF 'foretelltop.SearchSame'. -/
def searchSameCard : Claim7 := { stood := { row := searchSameRow, standIns := [], harness := (true, "8efd43d64f604e15da60243e9106274d85bdf40f8d4df68272322aeb5faf81ef"), looks := true }, kinds := [], alts := [], laidByText := true, laidKinds := [.data], laidTests := true, laidLooks := .later }
def SearchSameCardSaid : Prop := Claim7.holds Tryz.pinned (.plain (OpenSpec.ofChange searchSameSpec)) searchSameCard

/-- THE TIED CARD OF 'foretelltop.SearchEnough'. -/
def searchEnoughCard : Claim7 := { stood := { row := searchEnoughRow, standIns := [], harness := (true, "8efd43d64f604e15da60243e9106274d85bdf40f8d4df68272322aeb5faf81ef"), looks := true }, kinds := [], alts := [], laidByText := true, laidKinds := [.data], laidTests := true, laidLooks := .later }
def SearchEnoughCardSaid : Prop := Claim7.holds Tryz.pinned (.plain (OpenSpec.ofChange searchEnoughSpec)) searchEnoughCard

/-- THE TIED CARD OF 'foretelltop.SearchTruth'. -/
def searchTruthCard : Claim7 := { stood := { row := searchTruthRow, standIns := [], harness := (true, "8efd43d64f604e15da60243e9106274d85bdf40f8d4df68272322aeb5faf81ef"), looks := true }, kinds := [], alts := [], laidByText := true, laidKinds := [.data], laidTests := true, laidLooks := .later }
def SearchTruthCardSaid : Prop := Claim7.holds Tryz.pinned (.plain (OpenSpec.ofChange searchTruthSpec)) searchTruthCard

/-- THE SECOND FORM's CARD OF 'foretelltop.SearchCalm'. -/
def searchCalmUptoCard : Claim7 := { stood := { row := searchCalmUptoRow, standIns := [], harness := (true, "8efd43d64f604e15da60243e9106274d85bdf40f8d4df68272322aeb5faf81ef"), looks := true }, kinds := [], alts := [], laidByText := true, laidKinds := [.data], laidTests := true, laidLooks := .later }
def SearchCalmUptoCardSaid : Prop := Claim7.holds Tryz.pinned (.plain (OpenSpec.upto searchCalmSpec)) searchCalmUptoCard

/-- THE SECOND FORM's CARD OF 'foretelltop.SearchSame'. -/
def searchSameUptoCard : Claim7 := { stood := { row := searchSameUptoRow, standIns := [], harness := (true, "8efd43d64f604e15da60243e9106274d85bdf40f8d4df68272322aeb5faf81ef"), looks := true }, kinds := [], alts := [], laidByText := true, laidKinds := [.data], laidTests := true, laidLooks := .later }
def SearchSameUptoCardSaid : Prop := Claim7.holds Tryz.pinned (.plain (OpenSpec.upto searchSameSpec)) searchSameUptoCard

/-- THE SECOND FORM's CARD OF 'foretelltop.SearchEnough'. -/
def searchEnoughUptoCard : Claim7 := { stood := { row := searchEnoughUptoRow, standIns := [], harness := (true, "8efd43d64f604e15da60243e9106274d85bdf40f8d4df68272322aeb5faf81ef"), looks := true }, kinds := [], alts := [], laidByText := true, laidKinds := [.data], laidTests := true, laidLooks := .later }
def SearchEnoughUptoCardSaid : Prop := Claim7.holds Tryz.pinned (.plain (OpenSpec.upto searchEnoughSpec)) searchEnoughUptoCard

/-- THE SECOND FORM's CARD OF 'foretelltop.SearchTruth'. -/
def searchTruthUptoCard : Claim7 := { stood := { row := searchTruthUptoRow, standIns := [], harness := (true, "8efd43d64f604e15da60243e9106274d85bdf40f8d4df68272322aeb5faf81ef"), looks := true }, kinds := [], alts := [], laidByText := true, laidKinds := [.data], laidTests := true, laidLooks := .later }
def SearchTruthUptoCardSaid : Prop := Claim7.holds Tryz.pinned (.plain (OpenSpec.upto searchTruthSpec)) searchTruthUptoCard
end Rows
end Go.Proofs.YtehfhemidmfffaaGreatDoor
