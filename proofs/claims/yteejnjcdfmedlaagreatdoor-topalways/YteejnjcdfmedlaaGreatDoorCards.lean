/-
  DERIVED. GIVEN WITH THE SEED: THE CARDS: each row of YteejnjcdfmedlaaGreatDoorRows.lean that lists a variable, with what it lists TIED to the program's text (the seventh form; the later family's looks); each row that meets fmt, with fmt's text TOLD by the authors' own Lean function (tested against real Go, not proved from fmt's source: count such statements apart). THE CARD IS WHAT COUNTS. Prove the row's statement (the work); the ties are given (YteejnjcdfmedlaaGreatDoorTie.lean); close each card by the builder's one call (the guide's Derived/Test/ToyasCard.lean, 'card_holds'). Laid BY PROGRAM, IN A SANDBOX (cutbox-door.mjs). By AI agents, Wed Nov 11 2026. No macro, syntax, notation, axiom, sorry.
-/
import Derived.Test.YteejnjcdfmedlaaGreatDoorRows
import GoSem.ClaimSeven
namespace Go.Proofs.YteejnjcdfmedlaaGreatDoor
namespace Rows

/-- THE TIED CARD OF 'foretelltop.TopFair'. -/
def topFairCard : Claim7 := { stood := { row := topFairRow, standIns := [], harness := (true, "d7da9dde661acd1231cdc37f24343284ea343a29a38274f8a5322148c0d53cfa"), looks := true }, kinds := [], alts := [], laidByText := true, laidKinds := [.data], laidTests := true, laidLooks := .later }
def TopFairCardSaid : Prop := Claim7.holds Tryz.pinned (.plain (OpenSpec.ofChange topFairSpec)) topFairCard

/-- THE TIED CARD OF 'foretelltop.TopMore'. -/
def topMoreCard : Claim7 := { stood := { row := topMoreRow, standIns := [], harness := (true, "d7da9dde661acd1231cdc37f24343284ea343a29a38274f8a5322148c0d53cfa"), looks := true }, kinds := [], alts := [], laidByText := true, laidKinds := [.data], laidTests := true, laidLooks := .later }
def TopMoreCardSaid : Prop := Claim7.holds Tryz.pinned (.plain (OpenSpec.ofChange topMoreSpec)) topMoreCard

/-- THE TIED CARD OF 'foretelltop.TopOrder'. -/
def topOrderCard : Claim7 := { stood := { row := topOrderRow, standIns := [], harness := (true, "d7da9dde661acd1231cdc37f24343284ea343a29a38274f8a5322148c0d53cfa"), looks := true }, kinds := [], alts := [], laidByText := true, laidKinds := [.data], laidTests := true, laidLooks := .later }
def TopOrderCardSaid : Prop := Claim7.holds Tryz.pinned (.plain (OpenSpec.ofChange topOrderSpec)) topOrderCard

/-- THE TIED CARD OF 'foretelltop.TopAlways'. -/
def topAlwaysCard : Claim7 := { stood := { row := topAlwaysRow, standIns := [], harness := (true, "d7da9dde661acd1231cdc37f24343284ea343a29a38274f8a5322148c0d53cfa"), looks := true }, kinds := [], alts := [], laidByText := true, laidKinds := [.data], laidTests := true, laidLooks := .later }
def TopAlwaysCardSaid : Prop := Claim7.holds Tryz.pinned (.plain (OpenSpec.ofChange topAlwaysSpec)) topAlwaysCard

/-- THE SECOND FORM's CARD OF 'foretelltop.TopFair'. -/
def topFairUptoCard : Claim7 := { stood := { row := topFairUptoRow, standIns := [], harness := (true, "d7da9dde661acd1231cdc37f24343284ea343a29a38274f8a5322148c0d53cfa"), looks := true }, kinds := [], alts := [], laidByText := true, laidKinds := [.data], laidTests := true, laidLooks := .later }
def TopFairUptoCardSaid : Prop := Claim7.holds Tryz.pinned (.plain (OpenSpec.upto topFairSpec)) topFairUptoCard

/-- THE SECOND FORM's CARD OF 'foretelltop.TopMore'. -/
def topMoreUptoCard : Claim7 := { stood := { row := topMoreUptoRow, standIns := [], harness := (true, "d7da9dde661acd1231cdc37f24343284ea343a29a38274f8a5322148c0d53cfa"), looks := true }, kinds := [], alts := [], laidByText := true, laidKinds := [.data], laidTests := true, laidLooks := .later }
def TopMoreUptoCardSaid : Prop := Claim7.holds Tryz.pinned (.plain (OpenSpec.upto topMoreSpec)) topMoreUptoCard

/-- THE SECOND FORM's CARD OF 'foretelltop.TopOrder'. -/
def topOrderUptoCard : Claim7 := { stood := { row := topOrderUptoRow, standIns := [], harness := (true, "d7da9dde661acd1231cdc37f24343284ea343a29a38274f8a5322148c0d53cfa"), looks := true }, kinds := [], alts := [], laidByText := true, laidKinds := [.data], laidTests := true, laidLooks := .later }
def TopOrderUptoCardSaid : Prop := Claim7.holds Tryz.pinned (.plain (OpenSpec.upto topOrderSpec)) topOrderUptoCard

/-- THE SECOND FORM's CARD OF 'foretelltop.TopAlways'. -/
def topAlwaysUptoCard : Claim7 := { stood := { row := topAlwaysUptoRow, standIns := [], harness := (true, "d7da9dde661acd1231cdc37f24343284ea343a29a38274f8a5322148c0d53cfa"), looks := true }, kinds := [], alts := [], laidByText := true, laidKinds := [.data], laidTests := true, laidLooks := .later }
def TopAlwaysUptoCardSaid : Prop := Claim7.holds Tryz.pinned (.plain (OpenSpec.upto topAlwaysSpec)) topAlwaysUptoCard
end Rows
end Go.Proofs.YteejnjcdfmedlaaGreatDoor
