/-
  DERIVED. GIVEN WITH THE SEED: THE CARDS: each row of YtobopjjmhginlabGreatDoorRows.lean that lists a variable, with what it lists TIED to the program's text (the seventh form; the later family's looks); each row that meets fmt, with fmt's text TOLD by the authors' own Lean function (tested against real Go, not proved from fmt's source: count such statements apart). THE CARD IS WHAT COUNTS. Prove the row's statement (the work); the ties are given (YtobopjjmhginlabGreatDoorTie.lean); close each card by the builder's one call (the guide's Derived/Test/ToyasCard.lean, 'card_holds'). Laid BY PROGRAM, IN A SANDBOX (cutbox-door.mjs). By AI agents, Wed Nov 11 2026. No macro, syntax, notation, axiom, sorry.
-/
import Derived.Test.YtobopjjmhginlabGreatDoorRows
import GoSem.ClaimSeven
namespace Go.Proofs.YtobopjjmhginlabGreatDoor
namespace Rows

/-- THE TIED CARD OF 'foretelltop.TopWeak'. -/
def topWeakCard : Claim7 := { stood := { row := topWeakRow, standIns := [], harness := (true, "fe866e640a30041e98117b3452372f66e5fe2f3238480059d5d34cccf1d5125e"), looks := true }, kinds := [], alts := [], laidByText := true, laidKinds := [.data], laidTests := true, laidLooks := .later }
def TopWeakCardSaid : Prop := Claim7.holds Tryz.pinned (.plain (OpenSpec.ofChange topWeakSpec)) topWeakCard

/-- THE TIED CARD OF 'foretelltop.TopNest'. -/
def topNestCard : Claim7 := { stood := { row := topNestRow, standIns := [], harness := (true, "fe866e640a30041e98117b3452372f66e5fe2f3238480059d5d34cccf1d5125e"), looks := true }, kinds := [], alts := [], laidByText := true, laidKinds := [.data], laidTests := true, laidLooks := .later }
def TopNestCardSaid : Prop := Claim7.holds Tryz.pinned (.plain (OpenSpec.ofChange topNestSpec)) topNestCard

/-- THE TIED CARD OF 'foretelltop.TopSplit'. -/
def topSplitCard : Claim7 := { stood := { row := topSplitRow, standIns := [], harness := (true, "fe866e640a30041e98117b3452372f66e5fe2f3238480059d5d34cccf1d5125e"), looks := true }, kinds := [], alts := [], laidByText := true, laidKinds := [.data], laidTests := true, laidLooks := .later }
def TopSplitCardSaid : Prop := Claim7.holds Tryz.pinned (.plain (OpenSpec.ofChange topSplitSpec)) topSplitCard

/-- THE TIED CARD OF 'foretelltop.TopReach'. -/
def topReachCard : Claim7 := { stood := { row := topReachRow, standIns := [], harness := (true, "fe866e640a30041e98117b3452372f66e5fe2f3238480059d5d34cccf1d5125e"), looks := true }, kinds := [], alts := [], laidByText := true, laidKinds := [.data], laidTests := true, laidLooks := .later }
def TopReachCardSaid : Prop := Claim7.holds Tryz.pinned (.plain (OpenSpec.ofChange topReachSpec)) topReachCard

/-- THE SECOND FORM's CARD OF 'foretelltop.TopWeak'. -/
def topWeakUptoCard : Claim7 := { stood := { row := topWeakUptoRow, standIns := [], harness := (true, "fe866e640a30041e98117b3452372f66e5fe2f3238480059d5d34cccf1d5125e"), looks := true }, kinds := [], alts := [], laidByText := true, laidKinds := [.data], laidTests := true, laidLooks := .later }
def TopWeakUptoCardSaid : Prop := Claim7.holds Tryz.pinned (.plain (OpenSpec.upto topWeakSpec)) topWeakUptoCard

/-- THE SECOND FORM's CARD OF 'foretelltop.TopNest'. -/
def topNestUptoCard : Claim7 := { stood := { row := topNestUptoRow, standIns := [], harness := (true, "fe866e640a30041e98117b3452372f66e5fe2f3238480059d5d34cccf1d5125e"), looks := true }, kinds := [], alts := [], laidByText := true, laidKinds := [.data], laidTests := true, laidLooks := .later }
def TopNestUptoCardSaid : Prop := Claim7.holds Tryz.pinned (.plain (OpenSpec.upto topNestSpec)) topNestUptoCard

/-- THE SECOND FORM's CARD OF 'foretelltop.TopSplit'. -/
def topSplitUptoCard : Claim7 := { stood := { row := topSplitUptoRow, standIns := [], harness := (true, "fe866e640a30041e98117b3452372f66e5fe2f3238480059d5d34cccf1d5125e"), looks := true }, kinds := [], alts := [], laidByText := true, laidKinds := [.data], laidTests := true, laidLooks := .later }
def TopSplitUptoCardSaid : Prop := Claim7.holds Tryz.pinned (.plain (OpenSpec.upto topSplitSpec)) topSplitUptoCard

/-- THE SECOND FORM's CARD OF 'foretelltop.TopReach'. -/
def topReachUptoCard : Claim7 := { stood := { row := topReachUptoRow, standIns := [], harness := (true, "fe866e640a30041e98117b3452372f66e5fe2f3238480059d5d34cccf1d5125e"), looks := true }, kinds := [], alts := [], laidByText := true, laidKinds := [.data], laidTests := true, laidLooks := .later }
def TopReachUptoCardSaid : Prop := Claim7.holds Tryz.pinned (.plain (OpenSpec.upto topReachSpec)) topReachUptoCard
end Rows
end Go.Proofs.YtobopjjmhginlabGreatDoor
