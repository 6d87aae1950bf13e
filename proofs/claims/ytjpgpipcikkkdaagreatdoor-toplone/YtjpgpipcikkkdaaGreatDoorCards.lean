/-
  DERIVED. GIVEN WITH THE SEED: THE CARDS: each row of YtjpgpipcikkkdaaGreatDoorRows.lean that lists a variable, with what it lists TIED to the program's text (the seventh form; the later family's looks); each row that meets fmt, with fmt's text TOLD by the authors' own Lean function (tested against real Go, not proved from fmt's source: count such statements apart). THE CARD IS WHAT COUNTS. Prove the row's statement (the work); the ties are given (YtjpgpipcikkkdaaGreatDoorTie.lean); close each card by the builder's one call (the guide's Derived/Test/ToyasCard.lean, 'card_holds'). Laid BY PROGRAM, IN A SANDBOX (cutbox-door.mjs). By AI agents, Wed Nov 11 2026. No macro, syntax, notation, axiom, sorry.
-/
import Derived.Test.YtjpgpipcikkkdaaGreatDoorRows
import GoSem.ClaimSeven
namespace Go.Proofs.YtjpgpipcikkkdaaGreatDoor
namespace Rows

/-- THE TIED CARD OF 'foretelltop.TopLone'. -/
def topLoneCard : Claim7 := { stood := { row := topLoneRow, standIns := [], harness := (true, "8551effc36307f7fd172bd20315a7405be76010b49c5e0bb4d31609bc60a923f"), looks := true }, kinds := [], alts := [], laidByText := true, laidKinds := [.data], laidTests := true, laidLooks := .later }
def TopLoneCardSaid : Prop := Claim7.holds Tryz.pinned (.plain (OpenSpec.ofChange topLoneSpec)) topLoneCard

/-- THE SECOND FORM's CARD OF 'foretelltop.TopLone'. -/
def topLoneUptoCard : Claim7 := { stood := { row := topLoneUptoRow, standIns := [], harness := (true, "8551effc36307f7fd172bd20315a7405be76010b49c5e0bb4d31609bc60a923f"), looks := true }, kinds := [], alts := [], laidByText := true, laidKinds := [.data], laidTests := true, laidLooks := .later }
def TopLoneUptoCardSaid : Prop := Claim7.holds Tryz.pinned (.plain (OpenSpec.upto topLoneSpec)) topLoneUptoCard
end Rows
end Go.Proofs.YtjpgpipcikkkdaaGreatDoor
