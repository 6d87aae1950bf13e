/-
  DERIVED. GIVEN WITH THE SEED: THE CARDS: each row of YtalbnbcfdpfofaaDoorRows.lean that lists a variable, with what it lists TIED to the program's text (the seventh form; the later family's looks); each row that meets fmt, with fmt's text TOLD by the authors' own Lean function (tested against real Go, not proved from fmt's source: count such statements apart). THE CARD IS WHAT COUNTS. Prove the row's statement (the work); the ties are given (YtalbnbcfdpfofaaDoorTie.lean); close each card by the builder's one call (the guide's Derived/Test/ToyasCard.lean, 'card_holds'). Laid BY PROGRAM, IN A SANDBOX (cutbox-door.mjs). By AI agents, Wed Nov 11 2026. No macro, syntax, notation, axiom, sorry.
-/
import Derived.Test.YtalbnbcfdpfofaaDoorRows
import GoSem.ClaimSeven
namespace Go.Proofs.YtalbnbcfdpfofaaDoor
namespace Rows

/-- THE TIED CARD OF 'foretelllaw.WordMoments'. -/
def wordMomentsCard : Claim7 := { stood := { row := wordMomentsRow, standIns := [], harness := (true, "0fbd192ef8dc853e5e4a7b41f8ed20e035e4ddb7eef915ae3fd4690d4fe4d381"), looks := true }, kinds := [], alts := [], laidByText := true, laidKinds := [.data], laidTests := true, laidLooks := .later }
def WordMomentsCardSaid : Prop := Claim7.holds Tryd.pinned (.plain (OpenSpec.ofChange wordMomentsSpec)) wordMomentsCard

/-- THE TIED CARD OF 'foretelllaw.WordClaims'. -/
def wordClaimsCard : Claim7 := { stood := { row := wordClaimsRow, standIns := [], harness := (true, "0fbd192ef8dc853e5e4a7b41f8ed20e035e4ddb7eef915ae3fd4690d4fe4d381"), looks := true }, kinds := [], alts := [], laidByText := true, laidKinds := [.data], laidTests := true, laidLooks := .later }
def WordClaimsCardSaid : Prop := Claim7.holds Tryd.pinned (.plain (OpenSpec.ofChange wordClaimsSpec)) wordClaimsCard

/-- THE SECOND FORM's CARD OF 'foretelllaw.WordMoments'. -/
def wordMomentsUptoCard : Claim7 := { stood := { row := wordMomentsUptoRow, standIns := [], harness := (true, "0fbd192ef8dc853e5e4a7b41f8ed20e035e4ddb7eef915ae3fd4690d4fe4d381"), looks := true }, kinds := [], alts := [], laidByText := true, laidKinds := [.data], laidTests := true, laidLooks := .later }
def WordMomentsUptoCardSaid : Prop := Claim7.holds Tryd.pinned (.plain (OpenSpec.upto wordMomentsSpec)) wordMomentsUptoCard

/-- THE SECOND FORM's CARD OF 'foretelllaw.WordClaims'. -/
def wordClaimsUptoCard : Claim7 := { stood := { row := wordClaimsUptoRow, standIns := [], harness := (true, "0fbd192ef8dc853e5e4a7b41f8ed20e035e4ddb7eef915ae3fd4690d4fe4d381"), looks := true }, kinds := [], alts := [], laidByText := true, laidKinds := [.data], laidTests := true, laidLooks := .later }
def WordClaimsUptoCardSaid : Prop := Claim7.holds Tryd.pinned (.plain (OpenSpec.upto wordClaimsSpec)) wordClaimsUptoCard
end Rows
end Go.Proofs.YtalbnbcfdpfofaaDoor
