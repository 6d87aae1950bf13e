/-
  DERIVED. GIVEN WITH THE SEED: THE CARDS: each row of YtfecdmehghdohaaDoorRows.lean that lists a variable, with what it lists TIED to the program's text (the seventh form; the later family's looks); each row that meets fmt, with fmt's text TOLD by the authors' own Lean function (tested against real Go, not proved from fmt's source: count such statements apart). THE CARD IS WHAT COUNTS. Prove the row's statement (the work); the ties are given (YtfecdmehghdohaaDoorTie.lean); close each card by the builder's one call (the guide's Derived/Test/ToyasCard.lean, 'card_holds'). Laid BY PROGRAM, IN A SANDBOX (cutbox-door.mjs). By AI agents, Wed Nov 11 2026. No macro, syntax, notation, axiom, sorry.
-/
import Derived.Test.YtfecdmehghdohaaDoorRows
import GoSem.ClaimSeven
namespace Go.Proofs.YtfecdmehghdohaaDoor
namespace Rows

/-- THE TIED CARD OF 'foretellkeep.CodeBack'. -/
def codeBackCard : Claim7 := { stood := { row := codeBackRow, standIns := [], harness := (true, "61b9d09cb27797c7c8448db0b3894f204bcafff2b9a2336a5eea8e7a0f6db0e3"), looks := true }, kinds := [], alts := [], laidByText := true, laidKinds := [.data], laidTests := true, laidLooks := .later }
def CodeBackCardSaid : Prop := Claim7.holds Tryd.pinned (.plain (OpenSpec.ofChange codeBackSpec)) codeBackCard

/-- THE TIED CARD OF 'foretellkeep.CodeOrder'. -/
def codeOrderCard : Claim7 := { stood := { row := codeOrderRow, standIns := [], harness := (true, "61b9d09cb27797c7c8448db0b3894f204bcafff2b9a2336a5eea8e7a0f6db0e3"), looks := true }, kinds := [], alts := [], laidByText := true, laidKinds := [.data], laidTests := true, laidLooks := .later }
def CodeOrderCardSaid : Prop := Claim7.holds Tryd.pinned (.plain (OpenSpec.ofChange codeOrderSpec)) codeOrderCard

/-- THE TIED CARD OF 'foretellkeep.CodeOut'. -/
def codeOutCard : Claim7 := { stood := { row := codeOutRow, standIns := [], harness := (true, "61b9d09cb27797c7c8448db0b3894f204bcafff2b9a2336a5eea8e7a0f6db0e3"), looks := true }, kinds := [], alts := [], laidByText := true, laidKinds := [.data], laidTests := true, laidLooks := .later }
def CodeOutCardSaid : Prop := Claim7.holds Tryd.pinned (.plain (OpenSpec.ofChange codeOutSpec)) codeOutCard

/-- THE TIED CARD OF 'foretellkeep.ModelSpan'. -/
def modelSpanCard : Claim7 := { stood := { row := modelSpanRow, standIns := [], harness := (true, "61b9d09cb27797c7c8448db0b3894f204bcafff2b9a2336a5eea8e7a0f6db0e3"), looks := true }, kinds := [], alts := [], laidByText := true, laidKinds := [.data], laidTests := true, laidLooks := .later }
def ModelSpanCardSaid : Prop := Claim7.holds Tryd.pinned (.plain (OpenSpec.ofChange modelSpanSpec)) modelSpanCard

/-- THE TIED CARD OF 'foretellkeep.ModelTwice'. -/
def modelTwiceCard : Claim7 := { stood := { row := modelTwiceRow, standIns := [], harness := (true, "61b9d09cb27797c7c8448db0b3894f204bcafff2b9a2336a5eea8e7a0f6db0e3"), looks := true }, kinds := [], alts := [], laidByText := true, laidKinds := [.data], laidTests := true, laidLooks := .later }
def ModelTwiceCardSaid : Prop := Claim7.holds Tryd.pinned (.plain (OpenSpec.ofChange modelTwiceSpec)) modelTwiceCard

/-- THE SECOND FORM's CARD OF 'foretellkeep.CodeBack'. -/
def codeBackUptoCard : Claim7 := { stood := { row := codeBackUptoRow, standIns := [], harness := (true, "61b9d09cb27797c7c8448db0b3894f204bcafff2b9a2336a5eea8e7a0f6db0e3"), looks := true }, kinds := [], alts := [], laidByText := true, laidKinds := [.data], laidTests := true, laidLooks := .later }
def CodeBackUptoCardSaid : Prop := Claim7.holds Tryd.pinned (.plain (OpenSpec.upto codeBackSpec)) codeBackUptoCard

/-- THE SECOND FORM's CARD OF 'foretellkeep.CodeOrder'. -/
def codeOrderUptoCard : Claim7 := { stood := { row := codeOrderUptoRow, standIns := [], harness := (true, "61b9d09cb27797c7c8448db0b3894f204bcafff2b9a2336a5eea8e7a0f6db0e3"), looks := true }, kinds := [], alts := [], laidByText := true, laidKinds := [.data], laidTests := true, laidLooks := .later }
def CodeOrderUptoCardSaid : Prop := Claim7.holds Tryd.pinned (.plain (OpenSpec.upto codeOrderSpec)) codeOrderUptoCard

/-- THE SECOND FORM's CARD OF 'foretellkeep.CodeOut'. -/
def codeOutUptoCard : Claim7 := { stood := { row := codeOutUptoRow, standIns := [], harness := (true, "61b9d09cb27797c7c8448db0b3894f204bcafff2b9a2336a5eea8e7a0f6db0e3"), looks := true }, kinds := [], alts := [], laidByText := true, laidKinds := [.data], laidTests := true, laidLooks := .later }
def CodeOutUptoCardSaid : Prop := Claim7.holds Tryd.pinned (.plain (OpenSpec.upto codeOutSpec)) codeOutUptoCard

/-- THE SECOND FORM's CARD OF 'foretellkeep.ModelSpan'. -/
def modelSpanUptoCard : Claim7 := { stood := { row := modelSpanUptoRow, standIns := [], harness := (true, "61b9d09cb27797c7c8448db0b3894f204bcafff2b9a2336a5eea8e7a0f6db0e3"), looks := true }, kinds := [], alts := [], laidByText := true, laidKinds := [.data], laidTests := true, laidLooks := .later }
def ModelSpanUptoCardSaid : Prop := Claim7.holds Tryd.pinned (.plain (OpenSpec.upto modelSpanSpec)) modelSpanUptoCard

/-- THE SECOND FORM's CARD OF 'foretellkeep.ModelTwice'. -/
def modelTwiceUptoCard : Claim7 := { stood := { row := modelTwiceUptoRow, standIns := [], harness := (true, "61b9d09cb27797c7c8448db0b3894f204bcafff2b9a2336a5eea8e7a0f6db0e3"), looks := true }, kinds := [], alts := [], laidByText := true, laidKinds := [.data], laidTests := true, laidLooks := .later }
def ModelTwiceUptoCardSaid : Prop := Claim7.holds Tryd.pinned (.plain (OpenSpec.upto modelTwiceSpec)) modelTwiceUptoCard
end Rows
end Go.Proofs.YtfecdmehghdohaaDoor
