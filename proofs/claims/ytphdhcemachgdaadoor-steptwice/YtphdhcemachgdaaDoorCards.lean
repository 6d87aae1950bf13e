/-
  DERIVED. GIVEN WITH THE SEED: THE CARDS: each row of YtphdhcemachgdaaDoorRows.lean that lists a variable, with what it lists TIED to the program's text (the seventh form; the later family's looks); each row that meets fmt, with fmt's text TOLD by the authors' own Lean function (tested against real Go, not proved from fmt's source: count such statements apart). THE CARD IS WHAT COUNTS. Prove the row's statement (the work); the ties are given (YtphdhcemachgdaaDoorTie.lean); close each card by the builder's one call (the guide's Derived/Test/ToyasCard.lean, 'card_holds'). Laid BY PROGRAM, IN A SANDBOX (cutbox-door.mjs). By AI agents, Wed Nov 11 2026. No macro, syntax, notation, axiom, sorry.
-/
import Derived.Test.YtphdhcemachgdaaDoorRows
import GoSem.ClaimSeven
namespace Go.Proofs.YtphdhcemachgdaaDoor
namespace Rows

/-- THE TIED CARD OF 'foretellkeep.ModelTwice'. -/
def modelTwiceCard : Claim7 := { stood := { row := modelTwiceRow, standIns := [], harness := (true, "422227079759d25ed525c2f9d05beb80a628354577b49e800fd0221680b258b2"), looks := true }, kinds := [], alts := [], laidByText := true, laidKinds := [.data], laidTests := true, laidLooks := .later }
def ModelTwiceCardSaid : Prop := Claim7.holds Tryd.pinned (.plain (OpenSpec.ofChange modelTwiceSpec)) modelTwiceCard

/-- THE TIED CARD OF 'foretellkeep.StepTwice'. -/
def stepTwiceCard : Claim7 := { stood := { row := stepTwiceRow, standIns := [], harness := (true, "422227079759d25ed525c2f9d05beb80a628354577b49e800fd0221680b258b2"), looks := true }, kinds := [], alts := [], laidByText := true, laidKinds := [.data], laidTests := true, laidLooks := .later }
def StepTwiceCardSaid : Prop := Claim7.holds Tryd.pinned (.plain (OpenSpec.ofChange stepTwiceSpec)) stepTwiceCard

/-- THE TIED CARD OF 'foretellkeep.LetterSays'. -/
def letterSaysCard : Claim7 := { stood := { row := letterSaysRow, standIns := [], harness := (true, "422227079759d25ed525c2f9d05beb80a628354577b49e800fd0221680b258b2"), looks := true }, kinds := [], alts := [], laidByText := true, laidKinds := [.data], laidTests := true, laidLooks := .later }
def LetterSaysCardSaid : Prop := Claim7.holds Tryd.pinned (.plain (OpenSpec.ofChange letterSaysSpec)) letterSaysCard

/-- THE TIED CARD OF 'foretellkeep.StepStay'. -/
def stepStayCard : Claim7 := { stood := { row := stepStayRow, standIns := [], harness := (true, "422227079759d25ed525c2f9d05beb80a628354577b49e800fd0221680b258b2"), looks := true }, kinds := [], alts := [], laidByText := true, laidKinds := [.data], laidTests := true, laidLooks := .later }
def StepStayCardSaid : Prop := Claim7.holds Tryd.pinned (.plain (OpenSpec.ofChange stepStaySpec)) stepStayCard

/-- THE SECOND FORM's CARD OF 'foretellkeep.ModelTwice'. -/
def modelTwiceUptoCard : Claim7 := { stood := { row := modelTwiceUptoRow, standIns := [], harness := (true, "422227079759d25ed525c2f9d05beb80a628354577b49e800fd0221680b258b2"), looks := true }, kinds := [], alts := [], laidByText := true, laidKinds := [.data], laidTests := true, laidLooks := .later }
def ModelTwiceUptoCardSaid : Prop := Claim7.holds Tryd.pinned (.plain (OpenSpec.upto modelTwiceSpec)) modelTwiceUptoCard

/-- THE SECOND FORM's CARD OF 'foretellkeep.StepTwice'. -/
def stepTwiceUptoCard : Claim7 := { stood := { row := stepTwiceUptoRow, standIns := [], harness := (true, "422227079759d25ed525c2f9d05beb80a628354577b49e800fd0221680b258b2"), looks := true }, kinds := [], alts := [], laidByText := true, laidKinds := [.data], laidTests := true, laidLooks := .later }
def StepTwiceUptoCardSaid : Prop := Claim7.holds Tryd.pinned (.plain (OpenSpec.upto stepTwiceSpec)) stepTwiceUptoCard

/-- THE SECOND FORM's CARD OF 'foretellkeep.LetterSays'. -/
def letterSaysUptoCard : Claim7 := { stood := { row := letterSaysUptoRow, standIns := [], harness := (true, "422227079759d25ed525c2f9d05beb80a628354577b49e800fd0221680b258b2"), looks := true }, kinds := [], alts := [], laidByText := true, laidKinds := [.data], laidTests := true, laidLooks := .later }
def LetterSaysUptoCardSaid : Prop := Claim7.holds Tryd.pinned (.plain (OpenSpec.upto letterSaysSpec)) letterSaysUptoCard

/-- THE SECOND FORM's CARD OF 'foretellkeep.StepStay'. -/
def stepStayUptoCard : Claim7 := { stood := { row := stepStayUptoRow, standIns := [], harness := (true, "422227079759d25ed525c2f9d05beb80a628354577b49e800fd0221680b258b2"), looks := true }, kinds := [], alts := [], laidByText := true, laidKinds := [.data], laidTests := true, laidLooks := .later }
def StepStayUptoCardSaid : Prop := Claim7.holds Tryd.pinned (.plain (OpenSpec.upto stepStaySpec)) stepStayUptoCard
end Rows
end Go.Proofs.YtphdhcemachgdaaDoor
