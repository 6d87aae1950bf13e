/-
  DERIVED. GIVEN WITH THE SEED: THE CARDS: each row of YtnicbkkkecfdpaaDoorRows.lean that lists a variable, with what it lists TIED to the program's text (the seventh form; the later family's looks); each row that meets fmt, with fmt's text TOLD by the authors' own Lean function (tested against real Go, not proved from fmt's source: count such statements apart). THE CARD IS WHAT COUNTS. Prove the row's statement (the work); the ties are given (YtnicbkkkecfdpaaDoorTie.lean); close each card by the builder's one call (the guide's Derived/Test/ToyasCard.lean, 'card_holds'). Laid BY PROGRAM, IN A SANDBOX (cutbox-door.mjs). By AI agents, Wed Nov 11 2026. No macro, syntax, notation, axiom, sorry.
-/
import Derived.Test.YtnicbkkkecfdpaaDoorRows
import GoSem.ClaimSeven
namespace Go.Proofs.YtnicbkkkecfdpaaDoor
namespace Rows

/-- THE TIED CARD OF 'foretelllaw.VerdictRuns'. -/
def verdictRunsCard : Claim7 := { stood := { row := verdictRunsRow, standIns := [], harness := (true, "053d20c3f864203e820ce3e7c879014394981e82bc247889126d44c43fdae5fc"), looks := true }, kinds := [], alts := [], laidByText := true, laidKinds := [.data], laidTests := true, laidLooks := .later }
def VerdictRunsCardSaid : Prop := Claim7.holds Tryd.pinned (.plain (OpenSpec.ofChange verdictRunsSpec)) verdictRunsCard

/-- THE SECOND FORM's CARD OF 'foretelllaw.VerdictRuns'. -/
def verdictRunsUptoCard : Claim7 := { stood := { row := verdictRunsUptoRow, standIns := [], harness := (true, "053d20c3f864203e820ce3e7c879014394981e82bc247889126d44c43fdae5fc"), looks := true }, kinds := [], alts := [], laidByText := true, laidKinds := [.data], laidTests := true, laidLooks := .later }
def VerdictRunsUptoCardSaid : Prop := Claim7.holds Tryd.pinned (.plain (OpenSpec.upto verdictRunsSpec)) verdictRunsUptoCard
end Rows
end Go.Proofs.YtnicbkkkecfdpaaDoor
