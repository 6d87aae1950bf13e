/-
  DERIVED. GIVEN WITH THE SEED: THE CARDS: each row of YtipleacacfejcaaDoorRows.lean that lists a variable, with what it lists TIED to the program's text (the seventh form; the later family's looks); each row that meets fmt, with fmt's text TOLD by the authors' own Lean function (tested against real Go, not proved from fmt's source: count such statements apart). THE CARD IS WHAT COUNTS. Prove the row's statement (the work); the ties are given (YtipleacacfejcaaDoorTie.lean); close each card by the builder's one call (the guide's Derived/Test/ToyasCard.lean, 'card_holds'). Laid BY PROGRAM, IN A SANDBOX (cutbox-door.mjs). By AI agents, Wed Nov 11 2026. No macro, syntax, notation, axiom, sorry.
-/
import Derived.Test.YtipleacacfejcaaDoorRows
import GoSem.ClaimSeven
namespace Go.Proofs.YtipleacacfejcaaDoor
namespace Rows

/-- THE TIED CARD OF 'foretellkeep.ModelTwice'. -/
def modelTwiceCard : Claim7 := { stood := { row := modelTwiceRow, standIns := [], harness := (true, "135eb36711cd23146b03df5c204d0ce83edebc16115c6f6334390f30ace24cf6"), looks := true }, kinds := [], alts := [], laidByText := true, laidKinds := [.data], laidTests := true, laidLooks := .later }
def ModelTwiceCardSaid : Prop := Claim7.holds Tryd.pinned (.plain (OpenSpec.ofChange modelTwiceSpec)) modelTwiceCard

/-- THE TIED CARD OF 'foretellkeep.StepStay'. -/
def stepStayCard : Claim7 := { stood := { row := stepStayRow, standIns := [], harness := (true, "135eb36711cd23146b03df5c204d0ce83edebc16115c6f6334390f30ace24cf6"), looks := true }, kinds := [], alts := [], laidByText := true, laidKinds := [.data], laidTests := true, laidLooks := .later }
def StepStayCardSaid : Prop := Claim7.holds Tryd.pinned (.plain (OpenSpec.ofChange stepStaySpec)) stepStayCard

/-- THE SECOND FORM's CARD OF 'foretellkeep.ModelTwice'. -/
def modelTwiceUptoCard : Claim7 := { stood := { row := modelTwiceUptoRow, standIns := [], harness := (true, "135eb36711cd23146b03df5c204d0ce83edebc16115c6f6334390f30ace24cf6"), looks := true }, kinds := [], alts := [], laidByText := true, laidKinds := [.data], laidTests := true, laidLooks := .later }
def ModelTwiceUptoCardSaid : Prop := Claim7.holds Tryd.pinned (.plain (OpenSpec.upto modelTwiceSpec)) modelTwiceUptoCard

/-- THE SECOND FORM's CARD OF 'foretellkeep.StepStay'. -/
def stepStayUptoCard : Claim7 := { stood := { row := stepStayUptoRow, standIns := [], harness := (true, "135eb36711cd23146b03df5c204d0ce83edebc16115c6f6334390f30ace24cf6"), looks := true }, kinds := [], alts := [], laidByText := true, laidKinds := [.data], laidTests := true, laidLooks := .later }
def StepStayUptoCardSaid : Prop := Claim7.holds Tryd.pinned (.plain (OpenSpec.upto stepStaySpec)) stepStayUptoCard
end Rows
end Go.Proofs.YtipleacacfejcaaDoor
