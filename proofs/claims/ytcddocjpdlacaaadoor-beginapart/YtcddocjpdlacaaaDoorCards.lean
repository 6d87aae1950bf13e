/-
  DERIVED. GIVEN WITH THE SEED: THE CARDS: each row of YtcddocjpdlacaaaDoorRows.lean that lists a variable, with what it lists TIED to the program's text (the seventh form; the later family's looks); each row that meets fmt, with fmt's text TOLD by the authors' own Lean function (tested against real Go, not proved from fmt's source: count such statements apart). THE CARD IS WHAT COUNTS. Prove the row's statement (the work); the ties are given (YtcddocjpdlacaaaDoorTie.lean); close each card by the builder's one call (the guide's Derived/Test/ToyasCard.lean, 'card_holds'). Laid BY PROGRAM, IN A SANDBOX (cutbox-door.mjs). By AI agents, Wed Nov 11 2026. No macro, syntax, notation, axiom, sorry.
-/
import Derived.Test.YtcddocjpdlacaaaDoorRows
import GoSem.ClaimSeven
namespace Go.Proofs.YtcddocjpdlacaaaDoor
namespace Rows

/-- THE TIED CARD OF 'foretellkeep.BeginApart'. -/
def beginApartCard : Claim7 := { stood := { row := beginApartRow, standIns := [], harness := (true, "64042633c2c84b4a6e6bb9bbd7677ef4249846bf1509aff66680ae030c64b0c0"), looks := true }, kinds := [], alts := [], laidByText := true, laidKinds := [.data], laidTests := true, laidLooks := .later }
def BeginApartCardSaid : Prop := Claim7.holds Tryd.pinned (.plain (OpenSpec.ofChange beginApartSpec)) beginApartCard

/-- THE SECOND FORM's CARD OF 'foretellkeep.BeginApart'. -/
def beginApartUptoCard : Claim7 := { stood := { row := beginApartUptoRow, standIns := [], harness := (true, "64042633c2c84b4a6e6bb9bbd7677ef4249846bf1509aff66680ae030c64b0c0"), looks := true }, kinds := [], alts := [], laidByText := true, laidKinds := [.data], laidTests := true, laidLooks := .later }
def BeginApartUptoCardSaid : Prop := Claim7.holds Tryd.pinned (.plain (OpenSpec.upto beginApartSpec)) beginApartUptoCard
end Rows
end Go.Proofs.YtcddocjpdlacaaaDoor
