/-
  DERIVED. GIVEN WITH THE SEED: THE CARDS: each row of YtkdbblchkkemgabDoorRows.lean that lists a variable, with what it lists TIED to the program's text (the seventh form; the later family's looks); each row that meets fmt, with fmt's text TOLD by the authors' own Lean function (tested against real Go, not proved from fmt's source: count such statements apart). THE CARD IS WHAT COUNTS. Prove the row's statement (the work); the ties are given (YtkdbblchkkemgabDoorTie.lean); close each card by the builder's one call (the guide's Derived/Test/ToyasCard.lean, 'card_holds'). Laid BY PROGRAM, IN A SANDBOX (cutbox-door.mjs). By AI agents, Wed Nov 11 2026. No macro, syntax, notation, axiom, sorry.
-/
import Derived.Test.YtkdbblchkkemgabDoorRows
import GoSem.ClaimSeven
namespace Go.Proofs.YtkdbblchkkemgabDoor
namespace Rows

/-- THE TIED CARD OF 'foretellkeep.PolishOne'. -/
def polishOneCard : Claim7 := { stood := { row := polishOneRow, standIns := [], harness := (true, "35b5e8de039a752b6030fe39c235373b357af045367840442ddbb9c5eeb676cc"), looks := true }, kinds := [], alts := [], laidByText := true, laidKinds := [.data], laidTests := true, laidLooks := .later }
def PolishOneCardSaid : Prop := Claim7.holds Tryd.pinned (.plain (OpenSpec.ofChange polishOneSpec)) polishOneCard

/-- THE TIED CARD OF 'foretellkeep.DepthGrows'. -/
def depthGrowsCard : Claim7 := { stood := { row := depthGrowsRow, standIns := [], harness := (true, "35b5e8de039a752b6030fe39c235373b357af045367840442ddbb9c5eeb676cc"), looks := true }, kinds := [], alts := [], laidByText := true, laidKinds := [.data], laidTests := true, laidLooks := .later }
def DepthGrowsCardSaid : Prop := Claim7.holds Tryd.pinned (.plain (OpenSpec.ofChange depthGrowsSpec)) depthGrowsCard

/-- THE SECOND FORM's CARD OF 'foretellkeep.PolishOne'. -/
def polishOneUptoCard : Claim7 := { stood := { row := polishOneUptoRow, standIns := [], harness := (true, "35b5e8de039a752b6030fe39c235373b357af045367840442ddbb9c5eeb676cc"), looks := true }, kinds := [], alts := [], laidByText := true, laidKinds := [.data], laidTests := true, laidLooks := .later }
def PolishOneUptoCardSaid : Prop := Claim7.holds Tryd.pinned (.plain (OpenSpec.upto polishOneSpec)) polishOneUptoCard

/-- THE SECOND FORM's CARD OF 'foretellkeep.DepthGrows'. -/
def depthGrowsUptoCard : Claim7 := { stood := { row := depthGrowsUptoRow, standIns := [], harness := (true, "35b5e8de039a752b6030fe39c235373b357af045367840442ddbb9c5eeb676cc"), looks := true }, kinds := [], alts := [], laidByText := true, laidKinds := [.data], laidTests := true, laidLooks := .later }
def DepthGrowsUptoCardSaid : Prop := Claim7.holds Tryd.pinned (.plain (OpenSpec.upto depthGrowsSpec)) depthGrowsUptoCard
end Rows
end Go.Proofs.YtkdbblchkkemgabDoor
