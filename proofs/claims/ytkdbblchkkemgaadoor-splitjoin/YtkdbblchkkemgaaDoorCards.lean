/-
  DERIVED. GIVEN WITH THE SEED: THE CARDS: each row of YtkdbblchkkemgaaDoorRows.lean that lists a variable, with what it lists TIED to the program's text (the seventh form; the later family's looks); each row that meets fmt, with fmt's text TOLD by the authors' own Lean function (tested against real Go, not proved from fmt's source: count such statements apart). THE CARD IS WHAT COUNTS. Prove the row's statement (the work); the ties are given (YtkdbblchkkemgaaDoorTie.lean); close each card by the builder's one call (the guide's Derived/Test/ToyasCard.lean, 'card_holds'). Laid BY PROGRAM, IN A SANDBOX (cutbox-door.mjs). By AI agents, Wed Nov 11 2026. No macro, syntax, notation, axiom, sorry.
-/
import Derived.Test.YtkdbblchkkemgaaDoorRows
import GoSem.ClaimSeven
namespace Go.Proofs.YtkdbblchkkemgaaDoor
namespace Rows

/-- THE TIED CARD OF 'foretelllaw.PolishParts'. -/
def polishPartsCard : Claim7 := { stood := { row := polishPartsRow, standIns := [], harness := (true, "057375999b907be2d77152742f1fd8199164a09733209e8bfb8458c381629eed"), looks := true }, kinds := [], alts := [], laidByText := true, laidKinds := [.data], laidTests := true, laidLooks := .later }
def PolishPartsCardSaid : Prop := Claim7.holds Tryd.pinned (.plain (OpenSpec.ofChange polishPartsSpec)) polishPartsCard

/-- THE TIED CARD OF 'foretelllaw.PolishEnds'. -/
def polishEndsCard : Claim7 := { stood := { row := polishEndsRow, standIns := [], harness := (true, "057375999b907be2d77152742f1fd8199164a09733209e8bfb8458c381629eed"), looks := true }, kinds := [], alts := [], laidByText := true, laidKinds := [.data], laidTests := true, laidLooks := .later }
def PolishEndsCardSaid : Prop := Claim7.holds Tryd.pinned (.plain (OpenSpec.ofChange polishEndsSpec)) polishEndsCard

/-- THE TIED CARD OF 'foretelllaw.PolishSplits'. -/
def polishSplitsCard : Claim7 := { stood := { row := polishSplitsRow, standIns := [], harness := (true, "057375999b907be2d77152742f1fd8199164a09733209e8bfb8458c381629eed"), looks := true }, kinds := [], alts := [], laidByText := true, laidKinds := [.data], laidTests := true, laidLooks := .later }
def PolishSplitsCardSaid : Prop := Claim7.holds Tryd.pinned (.plain (OpenSpec.ofChange polishSplitsSpec)) polishSplitsCard

/-- THE TIED CARD OF 'foretelllaw.PolishDepths'. -/
def polishDepthsCard : Claim7 := { stood := { row := polishDepthsRow, standIns := [], harness := (true, "057375999b907be2d77152742f1fd8199164a09733209e8bfb8458c381629eed"), looks := true }, kinds := [], alts := [], laidByText := true, laidKinds := [.data], laidTests := true, laidLooks := .later }
def PolishDepthsCardSaid : Prop := Claim7.holds Tryd.pinned (.plain (OpenSpec.ofChange polishDepthsSpec)) polishDepthsCard

/-- THE TIED CARD OF 'foretellkeep.EndsNest'. -/
def endsNestCard : Claim7 := { stood := { row := endsNestRow, standIns := [], harness := (true, "057375999b907be2d77152742f1fd8199164a09733209e8bfb8458c381629eed"), looks := true }, kinds := [], alts := [], laidByText := true, laidKinds := [.data], laidTests := true, laidLooks := .later }
def EndsNestCardSaid : Prop := Claim7.holds Tryd.pinned (.plain (OpenSpec.ofChange endsNestSpec)) endsNestCard

/-- THE TIED CARD OF 'foretellkeep.SplitJoin'. -/
def splitJoinCard : Claim7 := { stood := { row := splitJoinRow, standIns := [], harness := (true, "057375999b907be2d77152742f1fd8199164a09733209e8bfb8458c381629eed"), looks := true }, kinds := [], alts := [], laidByText := true, laidKinds := [.data], laidTests := true, laidLooks := .later }
def SplitJoinCardSaid : Prop := Claim7.holds Tryd.pinned (.plain (OpenSpec.ofChange splitJoinSpec)) splitJoinCard

/-- THE SECOND FORM's CARD OF 'foretelllaw.PolishParts'. -/
def polishPartsUptoCard : Claim7 := { stood := { row := polishPartsUptoRow, standIns := [], harness := (true, "057375999b907be2d77152742f1fd8199164a09733209e8bfb8458c381629eed"), looks := true }, kinds := [], alts := [], laidByText := true, laidKinds := [.data], laidTests := true, laidLooks := .later }
def PolishPartsUptoCardSaid : Prop := Claim7.holds Tryd.pinned (.plain (OpenSpec.upto polishPartsSpec)) polishPartsUptoCard

/-- THE SECOND FORM's CARD OF 'foretelllaw.PolishEnds'. -/
def polishEndsUptoCard : Claim7 := { stood := { row := polishEndsUptoRow, standIns := [], harness := (true, "057375999b907be2d77152742f1fd8199164a09733209e8bfb8458c381629eed"), looks := true }, kinds := [], alts := [], laidByText := true, laidKinds := [.data], laidTests := true, laidLooks := .later }
def PolishEndsUptoCardSaid : Prop := Claim7.holds Tryd.pinned (.plain (OpenSpec.upto polishEndsSpec)) polishEndsUptoCard

/-- THE SECOND FORM's CARD OF 'foretelllaw.PolishSplits'. -/
def polishSplitsUptoCard : Claim7 := { stood := { row := polishSplitsUptoRow, standIns := [], harness := (true, "057375999b907be2d77152742f1fd8199164a09733209e8bfb8458c381629eed"), looks := true }, kinds := [], alts := [], laidByText := true, laidKinds := [.data], laidTests := true, laidLooks := .later }
def PolishSplitsUptoCardSaid : Prop := Claim7.holds Tryd.pinned (.plain (OpenSpec.upto polishSplitsSpec)) polishSplitsUptoCard

/-- THE SECOND FORM's CARD OF 'foretelllaw.PolishDepths'. -/
def polishDepthsUptoCard : Claim7 := { stood := { row := polishDepthsUptoRow, standIns := [], harness := (true, "057375999b907be2d77152742f1fd8199164a09733209e8bfb8458c381629eed"), looks := true }, kinds := [], alts := [], laidByText := true, laidKinds := [.data], laidTests := true, laidLooks := .later }
def PolishDepthsUptoCardSaid : Prop := Claim7.holds Tryd.pinned (.plain (OpenSpec.upto polishDepthsSpec)) polishDepthsUptoCard

/-- THE SECOND FORM's CARD OF 'foretellkeep.EndsNest'. -/
def endsNestUptoCard : Claim7 := { stood := { row := endsNestUptoRow, standIns := [], harness := (true, "057375999b907be2d77152742f1fd8199164a09733209e8bfb8458c381629eed"), looks := true }, kinds := [], alts := [], laidByText := true, laidKinds := [.data], laidTests := true, laidLooks := .later }
def EndsNestUptoCardSaid : Prop := Claim7.holds Tryd.pinned (.plain (OpenSpec.upto endsNestSpec)) endsNestUptoCard

/-- THE SECOND FORM's CARD OF 'foretellkeep.SplitJoin'. -/
def splitJoinUptoCard : Claim7 := { stood := { row := splitJoinUptoRow, standIns := [], harness := (true, "057375999b907be2d77152742f1fd8199164a09733209e8bfb8458c381629eed"), looks := true }, kinds := [], alts := [], laidByText := true, laidKinds := [.data], laidTests := true, laidLooks := .later }
def SplitJoinUptoCardSaid : Prop := Claim7.holds Tryd.pinned (.plain (OpenSpec.upto splitJoinSpec)) splitJoinUptoCard
end Rows
end Go.Proofs.YtkdbblchkkemgaaDoor
