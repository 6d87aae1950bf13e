/-
  DERIVED. GIVEN WITH THE SEED: THE CARDS: each row of YtogkpocflfahoaaDoorRows.lean that lists a variable, with what it lists TIED to the program's text (the seventh form; the later family's looks); each row that meets fmt, with fmt's text TOLD by the authors' own Lean function (tested against real Go, not proved from fmt's source: count such statements apart). THE CARD IS WHAT COUNTS. Prove the row's statement (the work); the ties are given (YtogkpocflfahoaaDoorTie.lean); close each card by the builder's one call (the guide's Derived/Test/ToyasCard.lean, 'card_holds'). Laid BY PROGRAM, IN A SANDBOX (cutbox-door.mjs). By AI agents, Wed Nov 11 2026. No macro, syntax, notation, axiom, sorry.
-/
import Derived.Test.YtogkpocflfahoaaDoorRows
import GoSem.ClaimSeven
namespace Go.Proofs.YtogkpocflfahoaaDoor
namespace Rows

/-- THE TIED CARD OF 'foretellkeep.ClaimLine'. -/
def claimLineCard : Claim7 := { stood := { row := claimLineRow, standIns := [], harness := (true, "47f055f0bae6a936083d199c238cdb159d2b5b37fc54e3f9d525f16b90e42b62"), looks := true }, kinds := [], alts := [], laidByText := true, laidKinds := [.data], laidTests := true, laidLooks := .later }
def ClaimLineCardSaid : Prop := Claim7.holds Tryd.pinned (.plain (OpenSpec.ofChange claimLineSpec)) claimLineCard

/-- THE TIED CARD OF 'foretellkeep.ClaimOnly'. -/
def claimOnlyCard : Claim7 := { stood := { row := claimOnlyRow, standIns := [], harness := (true, "47f055f0bae6a936083d199c238cdb159d2b5b37fc54e3f9d525f16b90e42b62"), looks := true }, kinds := [], alts := [], laidByText := true, laidKinds := [.data], laidTests := true, laidLooks := .later }
def ClaimOnlyCardSaid : Prop := Claim7.holds Tryd.pinned (.plain (OpenSpec.ofChange claimOnlySpec)) claimOnlyCard

/-- THE TIED CARD OF 'foretellkeep.ClaimStuck'. -/
def claimStuckCard : Claim7 := { stood := { row := claimStuckRow, standIns := [], harness := (true, "47f055f0bae6a936083d199c238cdb159d2b5b37fc54e3f9d525f16b90e42b62"), looks := true }, kinds := [], alts := [], laidByText := true, laidKinds := [.data], laidTests := true, laidLooks := .later }
def ClaimStuckCardSaid : Prop := Claim7.holds Tryd.pinned (.plain (OpenSpec.ofChange claimStuckSpec)) claimStuckCard

/-- THE SECOND FORM's CARD OF 'foretellkeep.ClaimLine'. -/
def claimLineUptoCard : Claim7 := { stood := { row := claimLineUptoRow, standIns := [], harness := (true, "47f055f0bae6a936083d199c238cdb159d2b5b37fc54e3f9d525f16b90e42b62"), looks := true }, kinds := [], alts := [], laidByText := true, laidKinds := [.data], laidTests := true, laidLooks := .later }
def ClaimLineUptoCardSaid : Prop := Claim7.holds Tryd.pinned (.plain (OpenSpec.upto claimLineSpec)) claimLineUptoCard

/-- THE SECOND FORM's CARD OF 'foretellkeep.ClaimOnly'. -/
def claimOnlyUptoCard : Claim7 := { stood := { row := claimOnlyUptoRow, standIns := [], harness := (true, "47f055f0bae6a936083d199c238cdb159d2b5b37fc54e3f9d525f16b90e42b62"), looks := true }, kinds := [], alts := [], laidByText := true, laidKinds := [.data], laidTests := true, laidLooks := .later }
def ClaimOnlyUptoCardSaid : Prop := Claim7.holds Tryd.pinned (.plain (OpenSpec.upto claimOnlySpec)) claimOnlyUptoCard

/-- THE SECOND FORM's CARD OF 'foretellkeep.ClaimStuck'. -/
def claimStuckUptoCard : Claim7 := { stood := { row := claimStuckUptoRow, standIns := [], harness := (true, "47f055f0bae6a936083d199c238cdb159d2b5b37fc54e3f9d525f16b90e42b62"), looks := true }, kinds := [], alts := [], laidByText := true, laidKinds := [.data], laidTests := true, laidLooks := .later }
def ClaimStuckUptoCardSaid : Prop := Claim7.holds Tryd.pinned (.plain (OpenSpec.upto claimStuckSpec)) claimStuckUptoCard
end Rows
end Go.Proofs.YtogkpocflfahoaaDoor
