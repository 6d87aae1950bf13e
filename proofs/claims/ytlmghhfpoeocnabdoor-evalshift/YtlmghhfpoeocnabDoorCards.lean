/-
  DERIVED. GIVEN WITH THE SEED: THE CARDS: each row of YtlmghhfpoeocnabDoorRows.lean that lists a variable, with what it lists TIED to the program's text (the seventh form; the later family's looks); each row that meets fmt, with fmt's text TOLD by the authors' own Lean function (tested against real Go, not proved from fmt's source: count such statements apart). THE CARD IS WHAT COUNTS. Prove the row's statement (the work); the ties are given (YtlmghhfpoeocnabDoorTie.lean); close each card by the builder's one call (the guide's Derived/Test/ToyasCard.lean, 'card_holds'). Laid BY PROGRAM, IN A SANDBOX (cutbox-door.mjs). By AI agents, Wed Nov 11 2026. No macro, syntax, notation, axiom, sorry.
-/
import Derived.Test.YtlmghhfpoeocnabDoorRows
import GoSem.ClaimSeven
namespace Go.Proofs.YtlmghhfpoeocnabDoor
namespace Rows

/-- THE TIED CARD OF 'foretellkeep.CheckType'. -/
def checkTypeCard : Claim7 := { stood := { row := checkTypeRow, standIns := [], harness := (true, "ae89aa0514219237c7c544636485a0a9ac8a12129fcf6746d8f106e1ff82d242"), looks := true }, kinds := [], alts := [], laidByText := true, laidKinds := [.data], laidTests := true, laidLooks := .later }
def CheckTypeCardSaid : Prop := Claim7.holds Tryd.pinned (.plain (OpenSpec.ofChange checkTypeSpec)) checkTypeCard

/-- THE TIED CARD OF 'foretellkeep.EvalShift'. -/
def evalShiftCard : Claim7 := { stood := { row := evalShiftRow, standIns := [], harness := (true, "ae89aa0514219237c7c544636485a0a9ac8a12129fcf6746d8f106e1ff82d242"), looks := true }, kinds := [], alts := [], laidByText := true, laidKinds := [.data], laidTests := true, laidLooks := .later }
def EvalShiftCardSaid : Prop := Claim7.holds Tryd.pinned (.plain (OpenSpec.ofChange evalShiftSpec)) evalShiftCard

/-- THE TIED CARD OF 'foretellkeep.EvalOrder'. -/
def evalOrderCard : Claim7 := { stood := { row := evalOrderRow, standIns := [], harness := (true, "ae89aa0514219237c7c544636485a0a9ac8a12129fcf6746d8f106e1ff82d242"), looks := true }, kinds := [], alts := [], laidByText := true, laidKinds := [.data], laidTests := true, laidLooks := .later }
def EvalOrderCardSaid : Prop := Claim7.holds Tryd.pinned (.plain (OpenSpec.ofChange evalOrderSpec)) evalOrderCard

/-- THE SECOND FORM's CARD OF 'foretellkeep.CheckType'. -/
def checkTypeUptoCard : Claim7 := { stood := { row := checkTypeUptoRow, standIns := [], harness := (true, "ae89aa0514219237c7c544636485a0a9ac8a12129fcf6746d8f106e1ff82d242"), looks := true }, kinds := [], alts := [], laidByText := true, laidKinds := [.data], laidTests := true, laidLooks := .later }
def CheckTypeUptoCardSaid : Prop := Claim7.holds Tryd.pinned (.plain (OpenSpec.upto checkTypeSpec)) checkTypeUptoCard

/-- THE SECOND FORM's CARD OF 'foretellkeep.EvalShift'. -/
def evalShiftUptoCard : Claim7 := { stood := { row := evalShiftUptoRow, standIns := [], harness := (true, "ae89aa0514219237c7c544636485a0a9ac8a12129fcf6746d8f106e1ff82d242"), looks := true }, kinds := [], alts := [], laidByText := true, laidKinds := [.data], laidTests := true, laidLooks := .later }
def EvalShiftUptoCardSaid : Prop := Claim7.holds Tryd.pinned (.plain (OpenSpec.upto evalShiftSpec)) evalShiftUptoCard

/-- THE SECOND FORM's CARD OF 'foretellkeep.EvalOrder'. -/
def evalOrderUptoCard : Claim7 := { stood := { row := evalOrderUptoRow, standIns := [], harness := (true, "ae89aa0514219237c7c544636485a0a9ac8a12129fcf6746d8f106e1ff82d242"), looks := true }, kinds := [], alts := [], laidByText := true, laidKinds := [.data], laidTests := true, laidLooks := .later }
def EvalOrderUptoCardSaid : Prop := Claim7.holds Tryd.pinned (.plain (OpenSpec.upto evalOrderSpec)) evalOrderUptoCard
end Rows
end Go.Proofs.YtlmghhfpoeocnabDoor
