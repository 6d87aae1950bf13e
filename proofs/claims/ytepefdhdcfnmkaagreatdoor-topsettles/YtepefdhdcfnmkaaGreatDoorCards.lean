/-
  DERIVED. GIVEN WITH THE SEED: THE CARDS: each row of YtepefdhdcfnmkaaGreatDoorRows.lean that lists a variable, with what it lists TIED to the program's text (the seventh form; the later family's looks); each row that meets fmt, with fmt's text TOLD by the authors' own Lean function (tested against real Go, not proved from fmt's source: count such statements apart). THE CARD IS WHAT COUNTS. Prove the row's statement (the work); the ties are given (YtepefdhdcfnmkaaGreatDoorTie.lean); close each card by the builder's one call (the guide's Derived/Test/ToyasCard.lean, 'card_holds'). Laid BY PROGRAM, IN A SANDBOX (cutbox-door.mjs). By AI agents, Wed Nov 11 2026. No macro, syntax, notation, axiom, sorry.
-/
import Derived.Test.YtepefdhdcfnmkaaGreatDoorRows
import GoSem.ClaimSeven
namespace Go.Proofs.YtepefdhdcfnmkaaGreatDoor
namespace Rows

/-- THE TIED CARD OF 'foretelltop.TopEver'. -/
def topEverCard : Claim7 := { stood := { row := topEverRow, standIns := [], harness := (true, "b9dcb32e70344beaf2ab81c405bdaedd7d9733b1c13ac0c9502bad9ef971173d"), looks := true }, kinds := [], alts := [], laidByText := true, laidKinds := [.data], laidTests := true, laidLooks := .later }
def TopEverCardSaid : Prop := Claim7.holds Tryz.pinned (.plain (OpenSpec.ofChange topEverSpec)) topEverCard

/-- THE TIED CARD OF 'foretelltop.TopUntil'. -/
def topUntilCard : Claim7 := { stood := { row := topUntilRow, standIns := [], harness := (true, "b9dcb32e70344beaf2ab81c405bdaedd7d9733b1c13ac0c9502bad9ef971173d"), looks := true }, kinds := [], alts := [], laidByText := true, laidKinds := [.data], laidTests := true, laidLooks := .later }
def TopUntilCardSaid : Prop := Claim7.holds Tryz.pinned (.plain (OpenSpec.ofChange topUntilSpec)) topUntilCard

/-- THE TIED CARD OF 'foretelltop.TopRelease'. -/
def topReleaseCard : Claim7 := { stood := { row := topReleaseRow, standIns := [], harness := (true, "b9dcb32e70344beaf2ab81c405bdaedd7d9733b1c13ac0c9502bad9ef971173d"), looks := true }, kinds := [], alts := [], laidByText := true, laidKinds := [.data], laidTests := true, laidLooks := .later }
def TopReleaseCardSaid : Prop := Claim7.holds Tryz.pinned (.plain (OpenSpec.ofChange topReleaseSpec)) topReleaseCard

/-- THE TIED CARD OF 'foretelltop.TopAgain'. -/
def topAgainCard : Claim7 := { stood := { row := topAgainRow, standIns := [], harness := (true, "b9dcb32e70344beaf2ab81c405bdaedd7d9733b1c13ac0c9502bad9ef971173d"), looks := true }, kinds := [], alts := [], laidByText := true, laidKinds := [.data], laidTests := true, laidLooks := .later }
def TopAgainCardSaid : Prop := Claim7.holds Tryz.pinned (.plain (OpenSpec.ofChange topAgainSpec)) topAgainCard

/-- THE TIED CARD OF 'foretelltop.TopSettles'. -/
def topSettlesCard : Claim7 := { stood := { row := topSettlesRow, standIns := [], harness := (true, "b9dcb32e70344beaf2ab81c405bdaedd7d9733b1c13ac0c9502bad9ef971173d"), looks := true }, kinds := [], alts := [], laidByText := true, laidKinds := [.data], laidTests := true, laidLooks := .later }
def TopSettlesCardSaid : Prop := Claim7.holds Tryz.pinned (.plain (OpenSpec.ofChange topSettlesSpec)) topSettlesCard

/-- THE SECOND FORM's CARD OF 'foretelltop.TopEver'. -/
def topEverUptoCard : Claim7 := { stood := { row := topEverUptoRow, standIns := [], harness := (true, "b9dcb32e70344beaf2ab81c405bdaedd7d9733b1c13ac0c9502bad9ef971173d"), looks := true }, kinds := [], alts := [], laidByText := true, laidKinds := [.data], laidTests := true, laidLooks := .later }
def TopEverUptoCardSaid : Prop := Claim7.holds Tryz.pinned (.plain (OpenSpec.upto topEverSpec)) topEverUptoCard

/-- THE SECOND FORM's CARD OF 'foretelltop.TopUntil'. -/
def topUntilUptoCard : Claim7 := { stood := { row := topUntilUptoRow, standIns := [], harness := (true, "b9dcb32e70344beaf2ab81c405bdaedd7d9733b1c13ac0c9502bad9ef971173d"), looks := true }, kinds := [], alts := [], laidByText := true, laidKinds := [.data], laidTests := true, laidLooks := .later }
def TopUntilUptoCardSaid : Prop := Claim7.holds Tryz.pinned (.plain (OpenSpec.upto topUntilSpec)) topUntilUptoCard

/-- THE SECOND FORM's CARD OF 'foretelltop.TopRelease'. -/
def topReleaseUptoCard : Claim7 := { stood := { row := topReleaseUptoRow, standIns := [], harness := (true, "b9dcb32e70344beaf2ab81c405bdaedd7d9733b1c13ac0c9502bad9ef971173d"), looks := true }, kinds := [], alts := [], laidByText := true, laidKinds := [.data], laidTests := true, laidLooks := .later }
def TopReleaseUptoCardSaid : Prop := Claim7.holds Tryz.pinned (.plain (OpenSpec.upto topReleaseSpec)) topReleaseUptoCard

/-- THE SECOND FORM's CARD OF 'foretelltop.TopAgain'. -/
def topAgainUptoCard : Claim7 := { stood := { row := topAgainUptoRow, standIns := [], harness := (true, "b9dcb32e70344beaf2ab81c405bdaedd7d9733b1c13ac0c9502bad9ef971173d"), looks := true }, kinds := [], alts := [], laidByText := true, laidKinds := [.data], laidTests := true, laidLooks := .later }
def TopAgainUptoCardSaid : Prop := Claim7.holds Tryz.pinned (.plain (OpenSpec.upto topAgainSpec)) topAgainUptoCard

/-- THE SECOND FORM's CARD OF 'foretelltop.TopSettles'. -/
def topSettlesUptoCard : Claim7 := { stood := { row := topSettlesUptoRow, standIns := [], harness := (true, "b9dcb32e70344beaf2ab81c405bdaedd7d9733b1c13ac0c9502bad9ef971173d"), looks := true }, kinds := [], alts := [], laidByText := true, laidKinds := [.data], laidTests := true, laidLooks := .later }
def TopSettlesUptoCardSaid : Prop := Claim7.holds Tryz.pinned (.plain (OpenSpec.upto topSettlesSpec)) topSettlesUptoCard
end Rows
end Go.Proofs.YtepefdhdcfnmkaaGreatDoor
