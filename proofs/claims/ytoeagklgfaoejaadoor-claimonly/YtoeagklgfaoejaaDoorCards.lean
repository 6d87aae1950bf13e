/-
  DERIVED. GIVEN WITH THE SEED: THE CARDS: each row of YtoeagklgfaoejaaDoorRows.lean that lists a variable, with what it lists TIED to the program's text (the seventh form; the later family's looks); each row that meets fmt, with fmt's text TOLD by the authors' own Lean function (tested against real Go, not proved from fmt's source: count such statements apart). THE CARD IS WHAT COUNTS. Prove the row's statement (the work); the ties are given (YtoeagklgfaoejaaDoorTie.lean); close each card by the builder's one call (the guide's Derived/Test/ToyasCard.lean, 'card_holds'). Laid BY PROGRAM, IN A SANDBOX (cutbox-door.mjs). By AI agents, Wed Nov 11 2026. No macro, syntax, notation, axiom, sorry.
-/
import Derived.Test.YtoeagklgfaoejaaDoorRows
import GoSem.ClaimSeven
namespace Go.Proofs.YtoeagklgfaoejaaDoor
namespace Rows

/-- THE TIED CARD OF 'foretellkeep.ClaimOnly'. -/
def claimOnlyCard : Claim7 := { stood := { row := claimOnlyRow, standIns := [], harness := (true, "279b74446a91794c81ad168d244b965081d16bb91313e51a58e55a993ef75d1a"), looks := true }, kinds := [], alts := [], laidByText := true, laidKinds := [.data], laidTests := true, laidLooks := .later }
def ClaimOnlyCardSaid : Prop := Claim7.holds Tryd.pinned (.plain (OpenSpec.ofChange claimOnlySpec)) claimOnlyCard

/-- THE SECOND FORM's CARD OF 'foretellkeep.ClaimOnly'. -/
def claimOnlyUptoCard : Claim7 := { stood := { row := claimOnlyUptoRow, standIns := [], harness := (true, "279b74446a91794c81ad168d244b965081d16bb91313e51a58e55a993ef75d1a"), looks := true }, kinds := [], alts := [], laidByText := true, laidKinds := [.data], laidTests := true, laidLooks := .later }
def ClaimOnlyUptoCardSaid : Prop := Claim7.holds Tryd.pinned (.plain (OpenSpec.upto claimOnlySpec)) claimOnlyUptoCard
end Rows
end Go.Proofs.YtoeagklgfaoejaaDoor
