/-
  DERIVED. GIVEN WITH THE SEED: THE CARDS: each row of YtbnhjbjlcnmjbaaDoorRows.lean that lists a variable, with what it lists TIED to the program's text (the seventh form; the later family's looks); each row that meets fmt, with fmt's text TOLD by the authors' own Lean function (tested against real Go, not proved from fmt's source: count such statements apart). THE CARD IS WHAT COUNTS. Prove the row's statement (the work); the ties are given (YtbnhjbjlcnmjbaaDoorTie.lean); close each card by the builder's one call (the guide's Derived/Test/ToyasCard.lean, 'card_holds'). Laid BY PROGRAM, IN A SANDBOX (cutbox-door.mjs). By AI agents, Wed Nov 11 2026. No macro, syntax, notation, axiom, sorry.
-/
import Derived.Test.YtbnhjbjlcnmjbaaDoorRows
import GoSem.ClaimSeven
namespace Go.Proofs.YtbnhjbjlcnmjbaaDoor
namespace Rows

/-- THE TIED CARD OF 'foretellkeep.WordNow'. -/
def wordNowCard : Claim7 := { stood := { row := wordNowRow, standIns := [], harness := (true, "217fbac5af7acc48236223921b498167ce2d84ffbdaed3b68aadecb7488daacc"), looks := true }, kinds := [], alts := [], laidByText := true, laidKinds := [.data], laidTests := true, laidLooks := .later }
def WordNowCardSaid : Prop := Claim7.holds Tryd.pinned (.plain (OpenSpec.ofChange wordNowSpec)) wordNowCard

/-- THE TIED CARD OF 'foretellkeep.WordLonger'. -/
def wordLongerCard : Claim7 := { stood := { row := wordLongerRow, standIns := [], harness := (true, "217fbac5af7acc48236223921b498167ce2d84ffbdaed3b68aadecb7488daacc"), looks := true }, kinds := [], alts := [], laidByText := true, laidKinds := [.data], laidTests := true, laidLooks := .later }
def WordLongerCardSaid : Prop := Claim7.holds Tryd.pinned (.plain (OpenSpec.ofChange wordLongerSpec)) wordLongerCard

/-- THE TIED CARD OF 'foretellkeep.WordSpread'. -/
def wordSpreadCard : Claim7 := { stood := { row := wordSpreadRow, standIns := [], harness := (true, "217fbac5af7acc48236223921b498167ce2d84ffbdaed3b68aadecb7488daacc"), looks := true }, kinds := [], alts := [], laidByText := true, laidKinds := [.data], laidTests := true, laidLooks := .later }
def WordSpreadCardSaid : Prop := Claim7.holds Tryd.pinned (.plain (OpenSpec.ofChange wordSpreadSpec)) wordSpreadCard

/-- THE TIED CARD OF 'foretellkeep.WordNest'. -/
def wordNestCard : Claim7 := { stood := { row := wordNestRow, standIns := [], harness := (true, "217fbac5af7acc48236223921b498167ce2d84ffbdaed3b68aadecb7488daacc"), looks := true }, kinds := [], alts := [], laidByText := true, laidKinds := [.data], laidTests := true, laidLooks := .later }
def WordNestCardSaid : Prop := Claim7.holds Tryd.pinned (.plain (OpenSpec.ofChange wordNestSpec)) wordNestCard

/-- THE SECOND FORM's CARD OF 'foretellkeep.WordNow'. -/
def wordNowUptoCard : Claim7 := { stood := { row := wordNowUptoRow, standIns := [], harness := (true, "217fbac5af7acc48236223921b498167ce2d84ffbdaed3b68aadecb7488daacc"), looks := true }, kinds := [], alts := [], laidByText := true, laidKinds := [.data], laidTests := true, laidLooks := .later }
def WordNowUptoCardSaid : Prop := Claim7.holds Tryd.pinned (.plain (OpenSpec.upto wordNowSpec)) wordNowUptoCard

/-- THE SECOND FORM's CARD OF 'foretellkeep.WordLonger'. -/
def wordLongerUptoCard : Claim7 := { stood := { row := wordLongerUptoRow, standIns := [], harness := (true, "217fbac5af7acc48236223921b498167ce2d84ffbdaed3b68aadecb7488daacc"), looks := true }, kinds := [], alts := [], laidByText := true, laidKinds := [.data], laidTests := true, laidLooks := .later }
def WordLongerUptoCardSaid : Prop := Claim7.holds Tryd.pinned (.plain (OpenSpec.upto wordLongerSpec)) wordLongerUptoCard

/-- THE SECOND FORM's CARD OF 'foretellkeep.WordSpread'. -/
def wordSpreadUptoCard : Claim7 := { stood := { row := wordSpreadUptoRow, standIns := [], harness := (true, "217fbac5af7acc48236223921b498167ce2d84ffbdaed3b68aadecb7488daacc"), looks := true }, kinds := [], alts := [], laidByText := true, laidKinds := [.data], laidTests := true, laidLooks := .later }
def WordSpreadUptoCardSaid : Prop := Claim7.holds Tryd.pinned (.plain (OpenSpec.upto wordSpreadSpec)) wordSpreadUptoCard

/-- THE SECOND FORM's CARD OF 'foretellkeep.WordNest'. -/
def wordNestUptoCard : Claim7 := { stood := { row := wordNestUptoRow, standIns := [], harness := (true, "217fbac5af7acc48236223921b498167ce2d84ffbdaed3b68aadecb7488daacc"), looks := true }, kinds := [], alts := [], laidByText := true, laidKinds := [.data], laidTests := true, laidLooks := .later }
def WordNestUptoCardSaid : Prop := Claim7.holds Tryd.pinned (.plain (OpenSpec.upto wordNestSpec)) wordNestUptoCard
end Rows
end Go.Proofs.YtbnhjbjlcnmjbaaDoor
