/-
  DERIVED. GIVEN WITH THE SEED: THE CARDS: each row of YtlmghhfpoeocnaaDoorRows.lean that lists a variable, with what it lists TIED to the program's text (the seventh form; the later family's looks); each row that meets fmt, with fmt's text TOLD by the authors' own Lean function (tested against real Go, not proved from fmt's source: count such statements apart). THE CARD IS WHAT COUNTS. Prove the row's statement (the work); the ties are given (YtlmghhfpoeocnaaDoorTie.lean); close each card by the builder's one call (the guide's Derived/Test/ToyasCard.lean, 'card_holds'). Laid BY PROGRAM, IN A SANDBOX (cutbox-door.mjs). By AI agents, Wed Nov 11 2026. No macro, syntax, notation, axiom, sorry.
-/
import Derived.Test.YtlmghhfpoeocnaaDoorRows
import GoSem.ClaimSeven
namespace Go.Proofs.YtlmghhfpoeocnaaDoor
namespace Rows

/-- THE TIED CARD OF 'foretelllaw.ExprChecks'. -/
def exprChecksCard : Claim7 := { stood := { row := exprChecksRow, standIns := [], harness := (true, "349e284aa516e18c8f0da2dce4384272e8d384c2f43545190963f880a4eb42cb"), looks := true }, kinds := [], alts := [], laidByText := true, laidKinds := [.data], laidTests := true, laidLooks := .later }
def ExprChecksCardSaid : Prop := Claim7.holds Tryd.pinned (.plain (OpenSpec.ofChange exprChecksSpec)) exprChecksCard

/-- THE TIED CARD OF 'foretelllaw.ExprEvals'. -/
def exprEvalsCard : Claim7 := { stood := { row := exprEvalsRow, standIns := [], harness := (true, "349e284aa516e18c8f0da2dce4384272e8d384c2f43545190963f880a4eb42cb"), looks := true }, kinds := [], alts := [], laidByText := true, laidKinds := [.data], laidTests := true, laidLooks := .later }
def ExprEvalsCardSaid : Prop := Claim7.holds Tryd.pinned (.plain (OpenSpec.ofChange exprEvalsSpec)) exprEvalsCard

/-- THE TIED CARD OF 'foretellkeep.EvalTruth'. -/
def evalTruthCard : Claim7 := { stood := { row := evalTruthRow, standIns := [], harness := (true, "349e284aa516e18c8f0da2dce4384272e8d384c2f43545190963f880a4eb42cb"), looks := true }, kinds := [], alts := [], laidByText := true, laidKinds := [.data], laidTests := true, laidLooks := .later }
def EvalTruthCardSaid : Prop := Claim7.holds Tryd.pinned (.plain (OpenSpec.ofChange evalTruthSpec)) evalTruthCard

/-- THE TIED CARD OF 'foretellkeep.EvalTurns'. -/
def evalTurnsCard : Claim7 := { stood := { row := evalTurnsRow, standIns := [], harness := (true, "349e284aa516e18c8f0da2dce4384272e8d384c2f43545190963f880a4eb42cb"), looks := true }, kinds := [], alts := [], laidByText := true, laidKinds := [.data], laidTests := true, laidLooks := .later }
def EvalTurnsCardSaid : Prop := Claim7.holds Tryd.pinned (.plain (OpenSpec.ofChange evalTurnsSpec)) evalTurnsCard

/-- THE TIED CARD OF 'foretellkeep.EvalLogic'. -/
def evalLogicCard : Claim7 := { stood := { row := evalLogicRow, standIns := [], harness := (true, "349e284aa516e18c8f0da2dce4384272e8d384c2f43545190963f880a4eb42cb"), looks := true }, kinds := [], alts := [], laidByText := true, laidKinds := [.data], laidTests := true, laidLooks := .later }
def EvalLogicCardSaid : Prop := Claim7.holds Tryd.pinned (.plain (OpenSpec.ofChange evalLogicSpec)) evalLogicCard

/-- THE TIED CARD OF 'foretellkeep.EvalOver'. -/
def evalOverCard : Claim7 := { stood := { row := evalOverRow, standIns := [], harness := (true, "349e284aa516e18c8f0da2dce4384272e8d384c2f43545190963f880a4eb42cb"), looks := true }, kinds := [], alts := [], laidByText := true, laidKinds := [.data], laidTests := true, laidLooks := .later }
def EvalOverCardSaid : Prop := Claim7.holds Tryd.pinned (.plain (OpenSpec.ofChange evalOverSpec)) evalOverCard

/-- THE SECOND FORM's CARD OF 'foretelllaw.ExprChecks'. -/
def exprChecksUptoCard : Claim7 := { stood := { row := exprChecksUptoRow, standIns := [], harness := (true, "349e284aa516e18c8f0da2dce4384272e8d384c2f43545190963f880a4eb42cb"), looks := true }, kinds := [], alts := [], laidByText := true, laidKinds := [.data], laidTests := true, laidLooks := .later }
def ExprChecksUptoCardSaid : Prop := Claim7.holds Tryd.pinned (.plain (OpenSpec.upto exprChecksSpec)) exprChecksUptoCard

/-- THE SECOND FORM's CARD OF 'foretelllaw.ExprEvals'. -/
def exprEvalsUptoCard : Claim7 := { stood := { row := exprEvalsUptoRow, standIns := [], harness := (true, "349e284aa516e18c8f0da2dce4384272e8d384c2f43545190963f880a4eb42cb"), looks := true }, kinds := [], alts := [], laidByText := true, laidKinds := [.data], laidTests := true, laidLooks := .later }
def ExprEvalsUptoCardSaid : Prop := Claim7.holds Tryd.pinned (.plain (OpenSpec.upto exprEvalsSpec)) exprEvalsUptoCard

/-- THE SECOND FORM's CARD OF 'foretellkeep.EvalTruth'. -/
def evalTruthUptoCard : Claim7 := { stood := { row := evalTruthUptoRow, standIns := [], harness := (true, "349e284aa516e18c8f0da2dce4384272e8d384c2f43545190963f880a4eb42cb"), looks := true }, kinds := [], alts := [], laidByText := true, laidKinds := [.data], laidTests := true, laidLooks := .later }
def EvalTruthUptoCardSaid : Prop := Claim7.holds Tryd.pinned (.plain (OpenSpec.upto evalTruthSpec)) evalTruthUptoCard

/-- THE SECOND FORM's CARD OF 'foretellkeep.EvalTurns'. -/
def evalTurnsUptoCard : Claim7 := { stood := { row := evalTurnsUptoRow, standIns := [], harness := (true, "349e284aa516e18c8f0da2dce4384272e8d384c2f43545190963f880a4eb42cb"), looks := true }, kinds := [], alts := [], laidByText := true, laidKinds := [.data], laidTests := true, laidLooks := .later }
def EvalTurnsUptoCardSaid : Prop := Claim7.holds Tryd.pinned (.plain (OpenSpec.upto evalTurnsSpec)) evalTurnsUptoCard

/-- THE SECOND FORM's CARD OF 'foretellkeep.EvalLogic'. -/
def evalLogicUptoCard : Claim7 := { stood := { row := evalLogicUptoRow, standIns := [], harness := (true, "349e284aa516e18c8f0da2dce4384272e8d384c2f43545190963f880a4eb42cb"), looks := true }, kinds := [], alts := [], laidByText := true, laidKinds := [.data], laidTests := true, laidLooks := .later }
def EvalLogicUptoCardSaid : Prop := Claim7.holds Tryd.pinned (.plain (OpenSpec.upto evalLogicSpec)) evalLogicUptoCard

/-- THE SECOND FORM's CARD OF 'foretellkeep.EvalOver'. -/
def evalOverUptoCard : Claim7 := { stood := { row := evalOverUptoRow, standIns := [], harness := (true, "349e284aa516e18c8f0da2dce4384272e8d384c2f43545190963f880a4eb42cb"), looks := true }, kinds := [], alts := [], laidByText := true, laidKinds := [.data], laidTests := true, laidLooks := .later }
def EvalOverUptoCardSaid : Prop := Claim7.holds Tryd.pinned (.plain (OpenSpec.upto evalOverSpec)) evalOverUptoCard
end Rows
end Go.Proofs.YtlmghhfpoeocnaaDoor
