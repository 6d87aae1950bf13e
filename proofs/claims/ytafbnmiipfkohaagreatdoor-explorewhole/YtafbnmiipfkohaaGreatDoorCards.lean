/-
  DERIVED. GIVEN WITH THE SEED: THE CARDS: each row of YtafbnmiipfkohaaGreatDoorRows.lean that lists a variable, with what it lists TIED to the program's text (the seventh form; the later family's looks); each row that meets fmt, with fmt's text TOLD by the authors' own Lean function (tested against real Go, not proved from fmt's source: count such statements apart). THE CARD IS WHAT COUNTS. Prove the row's statement (the work); the ties are given (YtafbnmiipfkohaaGreatDoorTie.lean); close each card by the builder's one call (the guide's Derived/Test/ToyasCard.lean, 'card_holds'). Laid BY PROGRAM, IN A SANDBOX (cutbox-door.mjs). By AI agents, Wed Nov 11 2026. No macro, syntax, notation, axiom, sorry.
-/
import Derived.Test.YtafbnmiipfkohaaGreatDoorRows
import GoSem.ClaimSeven
namespace Go.Proofs.YtafbnmiipfkohaaGreatDoor
namespace Rows

/-- THE TIED CARD OF 'foretellkeep.BehindNext'. -/
def behindNextCard : Claim7 := { stood := { row := behindNextRow, standIns := [], harness := (true, "e7c5b1420a99b7bd2833dabc5ed61d56738975ed42af3bb44911e9db5826fb65"), looks := true }, kinds := [], alts := [], laidByText := true, laidKinds := [.data], laidTests := true, laidLooks := .later }
def BehindNextCardSaid : Prop := Claim7.holds Tryz.pinned (.plain (OpenSpec.ofChange behindNextSpec)) behindNextCard

/-- THE TIED CARD OF 'foretellkeep.ExploreYes'. -/
def exploreYesCard : Claim7 := { stood := { row := exploreYesRow, standIns := [], harness := (true, "e7c5b1420a99b7bd2833dabc5ed61d56738975ed42af3bb44911e9db5826fb65"), looks := true }, kinds := [], alts := [], laidByText := true, laidKinds := [.data], laidTests := true, laidLooks := .later }
def ExploreYesCardSaid : Prop := Claim7.holds Tryz.pinned (.plain (OpenSpec.ofChange exploreYesSpec)) exploreYesCard

/-- THE TIED CARD OF 'foretellkeep.ExploreWhole'. -/
def exploreWholeCard : Claim7 := { stood := { row := exploreWholeRow, standIns := [], harness := (true, "e7c5b1420a99b7bd2833dabc5ed61d56738975ed42af3bb44911e9db5826fb65"), looks := true }, kinds := [], alts := [], laidByText := true, laidKinds := [.data], laidTests := true, laidLooks := .later }
def ExploreWholeCardSaid : Prop := Claim7.holds Tryz.pinned (.plain (OpenSpec.ofChange exploreWholeSpec)) exploreWholeCard

/-- THE SECOND FORM's CARD OF 'foretellkeep.BehindNext'. -/
def behindNextUptoCard : Claim7 := { stood := { row := behindNextUptoRow, standIns := [], harness := (true, "e7c5b1420a99b7bd2833dabc5ed61d56738975ed42af3bb44911e9db5826fb65"), looks := true }, kinds := [], alts := [], laidByText := true, laidKinds := [.data], laidTests := true, laidLooks := .later }
def BehindNextUptoCardSaid : Prop := Claim7.holds Tryz.pinned (.plain (OpenSpec.upto behindNextSpec)) behindNextUptoCard

/-- THE SECOND FORM's CARD OF 'foretellkeep.ExploreYes'. -/
def exploreYesUptoCard : Claim7 := { stood := { row := exploreYesUptoRow, standIns := [], harness := (true, "e7c5b1420a99b7bd2833dabc5ed61d56738975ed42af3bb44911e9db5826fb65"), looks := true }, kinds := [], alts := [], laidByText := true, laidKinds := [.data], laidTests := true, laidLooks := .later }
def ExploreYesUptoCardSaid : Prop := Claim7.holds Tryz.pinned (.plain (OpenSpec.upto exploreYesSpec)) exploreYesUptoCard

/-- THE SECOND FORM's CARD OF 'foretellkeep.ExploreWhole'. -/
def exploreWholeUptoCard : Claim7 := { stood := { row := exploreWholeUptoRow, standIns := [], harness := (true, "e7c5b1420a99b7bd2833dabc5ed61d56738975ed42af3bb44911e9db5826fb65"), looks := true }, kinds := [], alts := [], laidByText := true, laidKinds := [.data], laidTests := true, laidLooks := .later }
def ExploreWholeUptoCardSaid : Prop := Claim7.holds Tryz.pinned (.plain (OpenSpec.upto exploreWholeSpec)) exploreWholeUptoCard
end Rows
end Go.Proofs.YtafbnmiipfkohaaGreatDoor
