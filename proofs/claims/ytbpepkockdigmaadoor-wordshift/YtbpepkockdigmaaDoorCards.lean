/-
  DERIVED. GIVEN WITH THE SEED: THE CARDS: each row of YtbpepkockdigmaaDoorRows.lean that lists a variable, with what it lists TIED to the program's text (the seventh form; the later family's looks); each row that meets fmt, with fmt's text TOLD by the authors' own Lean function (tested against real Go, not proved from fmt's source: count such statements apart). THE CARD IS WHAT COUNTS. Prove the row's statement (the work); the ties are given (YtbpepkockdigmaaDoorTie.lean); close each card by the builder's one call (the guide's Derived/Test/ToyasCard.lean, 'card_holds'). Laid BY PROGRAM, IN A SANDBOX (cutbox-door.mjs). By AI agents, Wed Nov 11 2026. No macro, syntax, notation, axiom, sorry.
-/
import Derived.Test.YtbpepkockdigmaaDoorRows
import GoSem.ClaimSeven
namespace Go.Proofs.YtbpepkockdigmaaDoor
namespace Rows

/-- THE TIED CARD OF 'foretellkeep.WordNot'. -/
def wordNotCard : Claim7 := { stood := { row := wordNotRow, standIns := [], harness := (true, "22c5a0b85ef7ab9de2439f0adf7467647cca85cfb2b0df0911f74c1cbc2976aa"), looks := true }, kinds := [], alts := [], laidByText := true, laidKinds := [.data], laidTests := true, laidLooks := .later }
def WordNotCardSaid : Prop := Claim7.holds Tryd.pinned (.plain (OpenSpec.ofChange wordNotSpec)) wordNotCard

/-- THE TIED CARD OF 'foretellkeep.WordDual'. -/
def wordDualCard : Claim7 := { stood := { row := wordDualRow, standIns := [], harness := (true, "22c5a0b85ef7ab9de2439f0adf7467647cca85cfb2b0df0911f74c1cbc2976aa"), looks := true }, kinds := [], alts := [], laidByText := true, laidKinds := [.data], laidTests := true, laidLooks := .later }
def WordDualCardSaid : Prop := Claim7.holds Tryd.pinned (.plain (OpenSpec.ofChange wordDualSpec)) wordDualCard

/-- THE TIED CARD OF 'foretellkeep.WordNow'. -/
def wordNowCard : Claim7 := { stood := { row := wordNowRow, standIns := [], harness := (true, "22c5a0b85ef7ab9de2439f0adf7467647cca85cfb2b0df0911f74c1cbc2976aa"), looks := true }, kinds := [], alts := [], laidByText := true, laidKinds := [.data], laidTests := true, laidLooks := .later }
def WordNowCardSaid : Prop := Claim7.holds Tryd.pinned (.plain (OpenSpec.ofChange wordNowSpec)) wordNowCard

/-- THE TIED CARD OF 'foretellkeep.WordLoop'. -/
def wordLoopCard : Claim7 := { stood := { row := wordLoopRow, standIns := [], harness := (true, "22c5a0b85ef7ab9de2439f0adf7467647cca85cfb2b0df0911f74c1cbc2976aa"), looks := true }, kinds := [], alts := [], laidByText := true, laidKinds := [.data], laidTests := true, laidLooks := .later }
def WordLoopCardSaid : Prop := Claim7.holds Tryd.pinned (.plain (OpenSpec.ofChange wordLoopSpec)) wordLoopCard

/-- THE TIED CARD OF 'foretellkeep.WordLonger'. -/
def wordLongerCard : Claim7 := { stood := { row := wordLongerRow, standIns := [], harness := (true, "22c5a0b85ef7ab9de2439f0adf7467647cca85cfb2b0df0911f74c1cbc2976aa"), looks := true }, kinds := [], alts := [], laidByText := true, laidKinds := [.data], laidTests := true, laidLooks := .later }
def WordLongerCardSaid : Prop := Claim7.holds Tryd.pinned (.plain (OpenSpec.ofChange wordLongerSpec)) wordLongerCard

/-- THE TIED CARD OF 'foretellkeep.WordShift'. -/
def wordShiftCard : Claim7 := { stood := { row := wordShiftRow, standIns := [], harness := (true, "22c5a0b85ef7ab9de2439f0adf7467647cca85cfb2b0df0911f74c1cbc2976aa"), looks := true }, kinds := [], alts := [], laidByText := true, laidKinds := [.data], laidTests := true, laidLooks := .later }
def WordShiftCardSaid : Prop := Claim7.holds Tryd.pinned (.plain (OpenSpec.ofChange wordShiftSpec)) wordShiftCard

/-- THE SECOND FORM's CARD OF 'foretellkeep.WordNot'. -/
def wordNotUptoCard : Claim7 := { stood := { row := wordNotUptoRow, standIns := [], harness := (true, "22c5a0b85ef7ab9de2439f0adf7467647cca85cfb2b0df0911f74c1cbc2976aa"), looks := true }, kinds := [], alts := [], laidByText := true, laidKinds := [.data], laidTests := true, laidLooks := .later }
def WordNotUptoCardSaid : Prop := Claim7.holds Tryd.pinned (.plain (OpenSpec.upto wordNotSpec)) wordNotUptoCard

/-- THE SECOND FORM's CARD OF 'foretellkeep.WordDual'. -/
def wordDualUptoCard : Claim7 := { stood := { row := wordDualUptoRow, standIns := [], harness := (true, "22c5a0b85ef7ab9de2439f0adf7467647cca85cfb2b0df0911f74c1cbc2976aa"), looks := true }, kinds := [], alts := [], laidByText := true, laidKinds := [.data], laidTests := true, laidLooks := .later }
def WordDualUptoCardSaid : Prop := Claim7.holds Tryd.pinned (.plain (OpenSpec.upto wordDualSpec)) wordDualUptoCard

/-- THE SECOND FORM's CARD OF 'foretellkeep.WordNow'. -/
def wordNowUptoCard : Claim7 := { stood := { row := wordNowUptoRow, standIns := [], harness := (true, "22c5a0b85ef7ab9de2439f0adf7467647cca85cfb2b0df0911f74c1cbc2976aa"), looks := true }, kinds := [], alts := [], laidByText := true, laidKinds := [.data], laidTests := true, laidLooks := .later }
def WordNowUptoCardSaid : Prop := Claim7.holds Tryd.pinned (.plain (OpenSpec.upto wordNowSpec)) wordNowUptoCard

/-- THE SECOND FORM's CARD OF 'foretellkeep.WordLoop'. -/
def wordLoopUptoCard : Claim7 := { stood := { row := wordLoopUptoRow, standIns := [], harness := (true, "22c5a0b85ef7ab9de2439f0adf7467647cca85cfb2b0df0911f74c1cbc2976aa"), looks := true }, kinds := [], alts := [], laidByText := true, laidKinds := [.data], laidTests := true, laidLooks := .later }
def WordLoopUptoCardSaid : Prop := Claim7.holds Tryd.pinned (.plain (OpenSpec.upto wordLoopSpec)) wordLoopUptoCard

/-- THE SECOND FORM's CARD OF 'foretellkeep.WordLonger'. -/
def wordLongerUptoCard : Claim7 := { stood := { row := wordLongerUptoRow, standIns := [], harness := (true, "22c5a0b85ef7ab9de2439f0adf7467647cca85cfb2b0df0911f74c1cbc2976aa"), looks := true }, kinds := [], alts := [], laidByText := true, laidKinds := [.data], laidTests := true, laidLooks := .later }
def WordLongerUptoCardSaid : Prop := Claim7.holds Tryd.pinned (.plain (OpenSpec.upto wordLongerSpec)) wordLongerUptoCard

/-- THE SECOND FORM's CARD OF 'foretellkeep.WordShift'. -/
def wordShiftUptoCard : Claim7 := { stood := { row := wordShiftUptoRow, standIns := [], harness := (true, "22c5a0b85ef7ab9de2439f0adf7467647cca85cfb2b0df0911f74c1cbc2976aa"), looks := true }, kinds := [], alts := [], laidByText := true, laidKinds := [.data], laidTests := true, laidLooks := .later }
def WordShiftUptoCardSaid : Prop := Claim7.holds Tryd.pinned (.plain (OpenSpec.upto wordShiftSpec)) wordShiftUptoCard
end Rows
end Go.Proofs.YtbpepkockdigmaaDoor
