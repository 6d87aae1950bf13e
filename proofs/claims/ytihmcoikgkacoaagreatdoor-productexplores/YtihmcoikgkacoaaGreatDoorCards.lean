/-
  DERIVED. GIVEN WITH THE SEED: THE CARDS: each row of YtihmcoikgkacoaaGreatDoorRows.lean that lists a variable, with what it lists TIED to the program's text (the seventh form; the later family's looks); each row that meets fmt, with fmt's text TOLD by the authors' own Lean function (tested against real Go, not proved from fmt's source: count such statements apart). THE CARD IS WHAT COUNTS. Prove the row's statement (the work); the ties are given (YtihmcoikgkacoaaGreatDoorTie.lean); close each card by the builder's one call (the guide's Derived/Test/ToyasCard.lean, 'card_holds'). Laid BY PROGRAM, IN A SANDBOX (cutbox-door.mjs). By AI agents, Wed Nov 11 2026. No macro, syntax, notation, axiom, sorry.
-/
import Derived.Test.YtihmcoikgkacoaaGreatDoorRows
import GoSem.ClaimSeven
namespace Go.Proofs.YtihmcoikgkacoaaGreatDoor
namespace Rows

/-- THE TIED CARD OF 'foretelllaw.ProductBehinds'. -/
def productBehindsCard : Claim7 := { stood := { row := productBehindsRow, standIns := [], harness := (true, "377c0d2d39d72c34fbffcf561b6cfe91044edb452adf2bf8e6d3ead5a279188d"), looks := true }, kinds := [], alts := [], laidByText := true, laidKinds := [.data], laidTests := true, laidLooks := .later }
def ProductBehindsCardSaid : Prop := Claim7.holds Tryz.pinned (.plain (OpenSpec.ofChange productBehindsSpec)) productBehindsCard

/-- THE TIED CARD OF 'foretelllaw.ProductExplores'. -/
def productExploresCard : Claim7 := { stood := { row := productExploresRow, standIns := [], harness := (true, "377c0d2d39d72c34fbffcf561b6cfe91044edb452adf2bf8e6d3ead5a279188d"), looks := true }, kinds := [], alts := [], laidByText := true, laidKinds := [.data], laidTests := true, laidLooks := .later }
def ProductExploresCardSaid : Prop := Claim7.holds Tryz.pinned (.plain (OpenSpec.ofChange productExploresSpec)) productExploresCard

/-- THE SECOND FORM's CARD OF 'foretelllaw.ProductBehinds'. -/
def productBehindsUptoCard : Claim7 := { stood := { row := productBehindsUptoRow, standIns := [], harness := (true, "377c0d2d39d72c34fbffcf561b6cfe91044edb452adf2bf8e6d3ead5a279188d"), looks := true }, kinds := [], alts := [], laidByText := true, laidKinds := [.data], laidTests := true, laidLooks := .later }
def ProductBehindsUptoCardSaid : Prop := Claim7.holds Tryz.pinned (.plain (OpenSpec.upto productBehindsSpec)) productBehindsUptoCard

/-- THE SECOND FORM's CARD OF 'foretelllaw.ProductExplores'. -/
def productExploresUptoCard : Claim7 := { stood := { row := productExploresUptoRow, standIns := [], harness := (true, "377c0d2d39d72c34fbffcf561b6cfe91044edb452adf2bf8e6d3ead5a279188d"), looks := true }, kinds := [], alts := [], laidByText := true, laidKinds := [.data], laidTests := true, laidLooks := .later }
def ProductExploresUptoCardSaid : Prop := Claim7.holds Tryz.pinned (.plain (OpenSpec.upto productExploresSpec)) productExploresUptoCard
end Rows
end Go.Proofs.YtihmcoikgkacoaaGreatDoor
