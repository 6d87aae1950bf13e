/-
  DERIVED. GIVEN WITH THE SEED: THE CARDS: each row of YtckkcpdmfgceoaaDoorRows.lean that lists a variable, with what it lists TIED to the program's text (the seventh form; the later family's looks); each row that meets fmt, with fmt's text TOLD by the authors' own Lean function (tested against real Go, not proved from fmt's source: count such statements apart). THE CARD IS WHAT COUNTS. Prove the row's statement (the work); the ties are given (YtckkcpdmfgceoaaDoorTie.lean); close each card by the builder's one call (the guide's Derived/Test/ToyasCard.lean, 'card_holds'). Laid BY PROGRAM, IN A SANDBOX (cutbox-door.mjs). By AI agents, Wed Nov 11 2026. No macro, syntax, notation, axiom, sorry.
-/
import Derived.Test.YtckkcpdmfgceoaaDoorRows
import GoSem.ClaimSeven
namespace Go.Proofs.YtckkcpdmfgceoaaDoor
namespace Rows

/-- THE TIED CARD OF 'foretellkeep.NextUp'. -/
def nextUpCard : Claim7 := { stood := { row := nextUpRow, standIns := [], harness := (true, "191d961da928f89a9a816da41cab604c640b60fef2d3f8da3d35c6588d7bae43"), looks := true }, kinds := [], alts := [], laidByText := true, laidKinds := [.data], laidTests := true, laidLooks := .later }
def NextUpCardSaid : Prop := Claim7.holds Tryd.pinned (.plain (OpenSpec.ofChange nextUpSpec)) nextUpCard

/-- THE TIED CARD OF 'foretellkeep.NextAfter'. -/
def nextAfterCard : Claim7 := { stood := { row := nextAfterRow, standIns := [], harness := (true, "191d961da928f89a9a816da41cab604c640b60fef2d3f8da3d35c6588d7bae43"), looks := true }, kinds := [], alts := [], laidByText := true, laidKinds := [.data], laidTests := true, laidLooks := .later }
def NextAfterCardSaid : Prop := Claim7.holds Tryd.pinned (.plain (OpenSpec.ofChange nextAfterSpec)) nextAfterCard

/-- THE TIED CARD OF 'foretellkeep.ReachClosed'. -/
def reachClosedCard : Claim7 := { stood := { row := reachClosedRow, standIns := [], harness := (true, "191d961da928f89a9a816da41cab604c640b60fef2d3f8da3d35c6588d7bae43"), looks := true }, kinds := [], alts := [], laidByText := true, laidKinds := [.data], laidTests := true, laidLooks := .later }
def ReachClosedCardSaid : Prop := Claim7.holds Tryd.pinned (.plain (OpenSpec.ofChange reachClosedSpec)) reachClosedCard

/-- THE TIED CARD OF 'foretellkeep.StepTwice'. -/
def stepTwiceCard : Claim7 := { stood := { row := stepTwiceRow, standIns := [], harness := (true, "191d961da928f89a9a816da41cab604c640b60fef2d3f8da3d35c6588d7bae43"), looks := true }, kinds := [], alts := [], laidByText := true, laidKinds := [.data], laidTests := true, laidLooks := .later }
def StepTwiceCardSaid : Prop := Claim7.holds Tryd.pinned (.plain (OpenSpec.ofChange stepTwiceSpec)) stepTwiceCard

/-- THE TIED CARD OF 'foretellkeep.LetterSays'. -/
def letterSaysCard : Claim7 := { stood := { row := letterSaysRow, standIns := [], harness := (true, "191d961da928f89a9a816da41cab604c640b60fef2d3f8da3d35c6588d7bae43"), looks := true }, kinds := [], alts := [], laidByText := true, laidKinds := [.data], laidTests := true, laidLooks := .later }
def LetterSaysCardSaid : Prop := Claim7.holds Tryd.pinned (.plain (OpenSpec.ofChange letterSaysSpec)) letterSaysCard

/-- THE TIED CARD OF 'foretellkeep.StepStay'. -/
def stepStayCard : Claim7 := { stood := { row := stepStayRow, standIns := [], harness := (true, "191d961da928f89a9a816da41cab604c640b60fef2d3f8da3d35c6588d7bae43"), looks := true }, kinds := [], alts := [], laidByText := true, laidKinds := [.data], laidTests := true, laidLooks := .later }
def StepStayCardSaid : Prop := Claim7.holds Tryd.pinned (.plain (OpenSpec.ofChange stepStaySpec)) stepStayCard

/-- THE SECOND FORM's CARD OF 'foretellkeep.NextUp'. -/
def nextUpUptoCard : Claim7 := { stood := { row := nextUpUptoRow, standIns := [], harness := (true, "191d961da928f89a9a816da41cab604c640b60fef2d3f8da3d35c6588d7bae43"), looks := true }, kinds := [], alts := [], laidByText := true, laidKinds := [.data], laidTests := true, laidLooks := .later }
def NextUpUptoCardSaid : Prop := Claim7.holds Tryd.pinned (.plain (OpenSpec.upto nextUpSpec)) nextUpUptoCard

/-- THE SECOND FORM's CARD OF 'foretellkeep.NextAfter'. -/
def nextAfterUptoCard : Claim7 := { stood := { row := nextAfterUptoRow, standIns := [], harness := (true, "191d961da928f89a9a816da41cab604c640b60fef2d3f8da3d35c6588d7bae43"), looks := true }, kinds := [], alts := [], laidByText := true, laidKinds := [.data], laidTests := true, laidLooks := .later }
def NextAfterUptoCardSaid : Prop := Claim7.holds Tryd.pinned (.plain (OpenSpec.upto nextAfterSpec)) nextAfterUptoCard

/-- THE SECOND FORM's CARD OF 'foretellkeep.ReachClosed'. -/
def reachClosedUptoCard : Claim7 := { stood := { row := reachClosedUptoRow, standIns := [], harness := (true, "191d961da928f89a9a816da41cab604c640b60fef2d3f8da3d35c6588d7bae43"), looks := true }, kinds := [], alts := [], laidByText := true, laidKinds := [.data], laidTests := true, laidLooks := .later }
def ReachClosedUptoCardSaid : Prop := Claim7.holds Tryd.pinned (.plain (OpenSpec.upto reachClosedSpec)) reachClosedUptoCard

/-- THE SECOND FORM's CARD OF 'foretellkeep.StepTwice'. -/
def stepTwiceUptoCard : Claim7 := { stood := { row := stepTwiceUptoRow, standIns := [], harness := (true, "191d961da928f89a9a816da41cab604c640b60fef2d3f8da3d35c6588d7bae43"), looks := true }, kinds := [], alts := [], laidByText := true, laidKinds := [.data], laidTests := true, laidLooks := .later }
def StepTwiceUptoCardSaid : Prop := Claim7.holds Tryd.pinned (.plain (OpenSpec.upto stepTwiceSpec)) stepTwiceUptoCard

/-- THE SECOND FORM's CARD OF 'foretellkeep.LetterSays'. -/
def letterSaysUptoCard : Claim7 := { stood := { row := letterSaysUptoRow, standIns := [], harness := (true, "191d961da928f89a9a816da41cab604c640b60fef2d3f8da3d35c6588d7bae43"), looks := true }, kinds := [], alts := [], laidByText := true, laidKinds := [.data], laidTests := true, laidLooks := .later }
def LetterSaysUptoCardSaid : Prop := Claim7.holds Tryd.pinned (.plain (OpenSpec.upto letterSaysSpec)) letterSaysUptoCard

/-- THE SECOND FORM's CARD OF 'foretellkeep.StepStay'. -/
def stepStayUptoCard : Claim7 := { stood := { row := stepStayUptoRow, standIns := [], harness := (true, "191d961da928f89a9a816da41cab604c640b60fef2d3f8da3d35c6588d7bae43"), looks := true }, kinds := [], alts := [], laidByText := true, laidKinds := [.data], laidTests := true, laidLooks := .later }
def StepStayUptoCardSaid : Prop := Claim7.holds Tryd.pinned (.plain (OpenSpec.upto stepStaySpec)) stepStayUptoCard
end Rows
end Go.Proofs.YtckkcpdmfgceoaaDoor
