/-
  DERIVED. GIVEN WITH THE SEED: THE CARDS: each row of YtdlpmomohbdpgaaDoorRows.lean that lists a variable, with what it lists TIED to the program's text (the seventh form; the later family's looks); each row that meets fmt, with fmt's text TOLD by the authors' own Lean function (tested against real Go, not proved from fmt's source: count such statements apart). THE CARD IS WHAT COUNTS. Prove the row's statement (the work); the ties are given (YtdlpmomohbdpgaaDoorTie.lean); close each card by the builder's one call (the guide's Derived/Test/ToyasCard.lean, 'card_holds'). Laid BY PROGRAM, IN A SANDBOX (cutbox-door.mjs). By AI agents, Wed Nov 11 2026. No macro, syntax, notation, axiom, sorry.
-/
import Derived.Test.YtdlpmomohbdpgaaDoorRows
import GoSem.ClaimSeven
namespace Go.Proofs.YtdlpmomohbdpgaaDoor
namespace Rows

/-- THE TIED CARD OF 'foretelllaw.ProductBegins'. -/
def productBeginsCard : Claim7 := { stood := { row := productBeginsRow, standIns := [], harness := (true, "41e939941186743b70e495efda5f232e392f6d73c89b6a1e8a0617b8fd6094ca"), looks := true }, kinds := [], alts := [], laidByText := true, laidKinds := [.data], laidTests := true, laidLooks := .later }
def ProductBeginsCardSaid : Prop := Claim7.holds Tryd.pinned (.plain (OpenSpec.ofChange productBeginsSpec)) productBeginsCard

/-- THE SECOND FORM's CARD OF 'foretelllaw.ProductBegins'. -/
def productBeginsUptoCard : Claim7 := { stood := { row := productBeginsUptoRow, standIns := [], harness := (true, "41e939941186743b70e495efda5f232e392f6d73c89b6a1e8a0617b8fd6094ca"), looks := true }, kinds := [], alts := [], laidByText := true, laidKinds := [.data], laidTests := true, laidLooks := .later }
def ProductBeginsUptoCardSaid : Prop := Claim7.holds Tryd.pinned (.plain (OpenSpec.upto productBeginsSpec)) productBeginsUptoCard
end Rows
end Go.Proofs.YtdlpmomohbdpgaaDoor
