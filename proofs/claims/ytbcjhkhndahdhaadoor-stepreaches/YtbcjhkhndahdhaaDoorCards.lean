/-
  DERIVED. GIVEN WITH THE SEED: THE CARDS: each row of YtbcjhkhndahdhaaDoorRows.lean that lists a variable, with what it lists TIED to the program's text (the seventh form; the later family's looks); each row that meets fmt, with fmt's text TOLD by the authors' own Lean function (tested against real Go, not proved from fmt's source: count such statements apart). THE CARD IS WHAT COUNTS. Prove the row's statement (the work); the ties are given (YtbcjhkhndahdhaaDoorTie.lean); close each card by the builder's one call (the guide's Derived/Test/ToyasCard.lean, 'card_holds'). Laid BY PROGRAM, IN A SANDBOX (cutbox-door.mjs). By AI agents, Wed Nov 11 2026. No macro, syntax, notation, axiom, sorry.
-/
import Derived.Test.YtbcjhkhndahdhaaDoorRows
import GoSem.ClaimSeven
namespace Go.Proofs.YtbcjhkhndahdhaaDoor
namespace Rows

/-- THE TIED CARD OF 'foretelllaw.StepReaches'. -/
def stepReachesCard : Claim7 := { stood := { row := stepReachesRow, standIns := [], harness := (true, "1d031a355b4537304654439adcb90d3611d570f4ad7e20011643a62a3926cd2f"), looks := true }, kinds := [], alts := [], laidByText := true, laidKinds := [.data], laidTests := true, laidLooks := .later }
def StepReachesCardSaid : Prop := Claim7.holds Tryd.pinned (.plain (OpenSpec.ofChange stepReachesSpec)) stepReachesCard

/-- THE SECOND FORM's CARD OF 'foretelllaw.StepReaches'. -/
def stepReachesUptoCard : Claim7 := { stood := { row := stepReachesUptoRow, standIns := [], harness := (true, "1d031a355b4537304654439adcb90d3611d570f4ad7e20011643a62a3926cd2f"), looks := true }, kinds := [], alts := [], laidByText := true, laidKinds := [.data], laidTests := true, laidLooks := .later }
def StepReachesUptoCardSaid : Prop := Claim7.holds Tryd.pinned (.plain (OpenSpec.upto stepReachesSpec)) stepReachesUptoCard
end Rows
end Go.Proofs.YtbcjhkhndahdhaaDoor
