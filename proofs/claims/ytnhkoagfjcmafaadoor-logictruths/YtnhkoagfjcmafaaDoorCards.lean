/-
  DERIVED. GIVEN WITH THE SEED: THE CARDS: each row of YtnhkoagfjcmafaaDoorRows.lean that lists a variable, with what it lists TIED to the program's text (the seventh form; the later family's looks); each row that meets fmt, with fmt's text TOLD by the authors' own Lean function (tested against real Go, not proved from fmt's source: count such statements apart). THE CARD IS WHAT COUNTS. Prove the row's statement (the work); the ties are given (YtnhkoagfjcmafaaDoorTie.lean); close each card by the builder's one call (the guide's Derived/Test/ToyasCard.lean, 'card_holds'). Laid BY PROGRAM, IN A SANDBOX (cutbox-door.mjs). By AI agents, Wed Nov 11 2026. No macro, syntax, notation, axiom, sorry.
-/
import Derived.Test.YtnhkoagfjcmafaaDoorRows
import GoSem.ClaimSeven
namespace Go.Proofs.YtnhkoagfjcmafaaDoor
namespace Rows

/-- THE TIED CARD OF 'foretelllaw.LogicChecks'. -/
def logicChecksCard : Claim7 := { stood := { row := logicChecksRow, standIns := [], harness := (true, "a59121d1d1a35479e0fc10f3de1dc9acccaef81a92971c2155e0c08aceded4ab"), looks := true }, kinds := [], alts := [], laidByText := true, laidKinds := [.data], laidTests := true, laidLooks := .later }
def LogicChecksCardSaid : Prop := Claim7.holds Tryd.pinned (.plain (OpenSpec.ofChange logicChecksSpec)) logicChecksCard

/-- THE TIED CARD OF 'foretelllaw.LogicAheads'. -/
def logicAheadsCard : Claim7 := { stood := { row := logicAheadsRow, standIns := [], harness := (true, "a59121d1d1a35479e0fc10f3de1dc9acccaef81a92971c2155e0c08aceded4ab"), looks := true }, kinds := [], alts := [], laidByText := true, laidKinds := [.data], laidTests := true, laidLooks := .later }
def LogicAheadsCardSaid : Prop := Claim7.holds Tryd.pinned (.plain (OpenSpec.ofChange logicAheadsSpec)) logicAheadsCard

/-- THE TIED CARD OF 'foretelllaw.LogicTruths'. -/
def logicTruthsCard : Claim7 := { stood := { row := logicTruthsRow, standIns := [], harness := (true, "a59121d1d1a35479e0fc10f3de1dc9acccaef81a92971c2155e0c08aceded4ab"), looks := true }, kinds := [], alts := [], laidByText := true, laidKinds := [.data], laidTests := true, laidLooks := .later }
def LogicTruthsCardSaid : Prop := Claim7.holds Tryd.pinned (.plain (OpenSpec.ofChange logicTruthsSpec)) logicTruthsCard

/-- THE TIED CARD OF 'foretelllaw.LogicFollows'. -/
def logicFollowsCard : Claim7 := { stood := { row := logicFollowsRow, standIns := [], harness := (true, "a59121d1d1a35479e0fc10f3de1dc9acccaef81a92971c2155e0c08aceded4ab"), looks := true }, kinds := [], alts := [], laidByText := true, laidKinds := [.data], laidTests := true, laidLooks := .later }
def LogicFollowsCardSaid : Prop := Claim7.holds Tryd.pinned (.plain (OpenSpec.ofChange logicFollowsSpec)) logicFollowsCard

/-- THE TIED CARD OF 'foretelllaw.LogicMeets'. -/
def logicMeetsCard : Claim7 := { stood := { row := logicMeetsRow, standIns := [], harness := (true, "a59121d1d1a35479e0fc10f3de1dc9acccaef81a92971c2155e0c08aceded4ab"), looks := true }, kinds := [], alts := [], laidByText := true, laidKinds := [.data], laidTests := true, laidLooks := .later }
def LogicMeetsCardSaid : Prop := Claim7.holds Tryd.pinned (.plain (OpenSpec.ofChange logicMeetsSpec)) logicMeetsCard

/-- THE SECOND FORM's CARD OF 'foretelllaw.LogicChecks'. -/
def logicChecksUptoCard : Claim7 := { stood := { row := logicChecksUptoRow, standIns := [], harness := (true, "a59121d1d1a35479e0fc10f3de1dc9acccaef81a92971c2155e0c08aceded4ab"), looks := true }, kinds := [], alts := [], laidByText := true, laidKinds := [.data], laidTests := true, laidLooks := .later }
def LogicChecksUptoCardSaid : Prop := Claim7.holds Tryd.pinned (.plain (OpenSpec.upto logicChecksSpec)) logicChecksUptoCard

/-- THE SECOND FORM's CARD OF 'foretelllaw.LogicAheads'. -/
def logicAheadsUptoCard : Claim7 := { stood := { row := logicAheadsUptoRow, standIns := [], harness := (true, "a59121d1d1a35479e0fc10f3de1dc9acccaef81a92971c2155e0c08aceded4ab"), looks := true }, kinds := [], alts := [], laidByText := true, laidKinds := [.data], laidTests := true, laidLooks := .later }
def LogicAheadsUptoCardSaid : Prop := Claim7.holds Tryd.pinned (.plain (OpenSpec.upto logicAheadsSpec)) logicAheadsUptoCard

/-- THE SECOND FORM's CARD OF 'foretelllaw.LogicTruths'. -/
def logicTruthsUptoCard : Claim7 := { stood := { row := logicTruthsUptoRow, standIns := [], harness := (true, "a59121d1d1a35479e0fc10f3de1dc9acccaef81a92971c2155e0c08aceded4ab"), looks := true }, kinds := [], alts := [], laidByText := true, laidKinds := [.data], laidTests := true, laidLooks := .later }
def LogicTruthsUptoCardSaid : Prop := Claim7.holds Tryd.pinned (.plain (OpenSpec.upto logicTruthsSpec)) logicTruthsUptoCard

/-- THE SECOND FORM's CARD OF 'foretelllaw.LogicFollows'. -/
def logicFollowsUptoCard : Claim7 := { stood := { row := logicFollowsUptoRow, standIns := [], harness := (true, "a59121d1d1a35479e0fc10f3de1dc9acccaef81a92971c2155e0c08aceded4ab"), looks := true }, kinds := [], alts := [], laidByText := true, laidKinds := [.data], laidTests := true, laidLooks := .later }
def LogicFollowsUptoCardSaid : Prop := Claim7.holds Tryd.pinned (.plain (OpenSpec.upto logicFollowsSpec)) logicFollowsUptoCard

/-- THE SECOND FORM's CARD OF 'foretelllaw.LogicMeets'. -/
def logicMeetsUptoCard : Claim7 := { stood := { row := logicMeetsUptoRow, standIns := [], harness := (true, "a59121d1d1a35479e0fc10f3de1dc9acccaef81a92971c2155e0c08aceded4ab"), looks := true }, kinds := [], alts := [], laidByText := true, laidKinds := [.data], laidTests := true, laidLooks := .later }
def LogicMeetsUptoCardSaid : Prop := Claim7.holds Tryd.pinned (.plain (OpenSpec.upto logicMeetsSpec)) logicMeetsUptoCard
end Rows
end Go.Proofs.YtnhkoagfjcmafaaDoor
