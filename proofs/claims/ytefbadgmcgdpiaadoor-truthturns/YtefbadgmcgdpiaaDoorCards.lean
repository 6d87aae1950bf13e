/-
  DERIVED. GIVEN WITH THE SEED: THE CARDS: each row of YtefbadgmcgdpiaaDoorRows.lean that lists a variable, with what it lists TIED to the program's text (the seventh form; the later family's looks); each row that meets fmt, with fmt's text TOLD by the authors' own Lean function (tested against real Go, not proved from fmt's source: count such statements apart). THE CARD IS WHAT COUNTS. Prove the row's statement (the work); the ties are given (YtefbadgmcgdpiaaDoorTie.lean); close each card by the builder's one call (the guide's Derived/Test/ToyasCard.lean, 'card_holds'). Laid BY PROGRAM, IN A SANDBOX (cutbox-door.mjs). By AI agents, Wed Nov 11 2026. No macro, syntax, notation, axiom, sorry.
-/
import Derived.Test.YtefbadgmcgdpiaaDoorRows
import GoSem.ClaimSeven
namespace Go.Proofs.YtefbadgmcgdpiaaDoor
namespace Rows

/-- THE TIED CARD OF 'foretellkeep.TruthTurns'. -/
def truthTurnsCard : Claim7 := { stood := { row := truthTurnsRow, standIns := [], harness := (true, "98c91b141f2b89ad5e99f5e64e79d5487bd06857e2cd56041841b73fa4a8e482"), looks := true }, kinds := [], alts := [], laidByText := true, laidKinds := [.data], laidTests := true, laidLooks := .later }
def TruthTurnsCardSaid : Prop := Claim7.holds Tryd.pinned (.plain (OpenSpec.ofChange truthTurnsSpec)) truthTurnsCard

/-- THE TIED CARD OF 'foretellkeep.MeetsAll'. -/
def meetsAllCard : Claim7 := { stood := { row := meetsAllRow, standIns := [], harness := (true, "98c91b141f2b89ad5e99f5e64e79d5487bd06857e2cd56041841b73fa4a8e482"), looks := true }, kinds := [], alts := [], laidByText := true, laidKinds := [.data], laidTests := true, laidLooks := .later }
def MeetsAllCardSaid : Prop := Claim7.holds Tryd.pinned (.plain (OpenSpec.ofChange meetsAllSpec)) meetsAllCard

/-- THE SECOND FORM's CARD OF 'foretellkeep.TruthTurns'. -/
def truthTurnsUptoCard : Claim7 := { stood := { row := truthTurnsUptoRow, standIns := [], harness := (true, "98c91b141f2b89ad5e99f5e64e79d5487bd06857e2cd56041841b73fa4a8e482"), looks := true }, kinds := [], alts := [], laidByText := true, laidKinds := [.data], laidTests := true, laidLooks := .later }
def TruthTurnsUptoCardSaid : Prop := Claim7.holds Tryd.pinned (.plain (OpenSpec.upto truthTurnsSpec)) truthTurnsUptoCard

/-- THE SECOND FORM's CARD OF 'foretellkeep.MeetsAll'. -/
def meetsAllUptoCard : Claim7 := { stood := { row := meetsAllUptoRow, standIns := [], harness := (true, "98c91b141f2b89ad5e99f5e64e79d5487bd06857e2cd56041841b73fa4a8e482"), looks := true }, kinds := [], alts := [], laidByText := true, laidKinds := [.data], laidTests := true, laidLooks := .later }
def MeetsAllUptoCardSaid : Prop := Claim7.holds Tryd.pinned (.plain (OpenSpec.upto meetsAllSpec)) meetsAllUptoCard
end Rows
end Go.Proofs.YtefbadgmcgdpiaaDoor
