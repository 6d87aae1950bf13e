/-
  DERIVED. GIVEN WITH THE SEED: THE CARDS: each row of YtacbeejkpajhjaaDoorRows.lean that lists a variable, with what it lists TIED to the program's text (the seventh form; the later family's looks); each row that meets fmt, with fmt's text TOLD by the authors' own Lean function (tested against real Go, not proved from fmt's source: count such statements apart). THE CARD IS WHAT COUNTS. Prove the row's statement (the work); the ties are given (YtacbeejkpajhjaaDoorTie.lean); close each card by the builder's one call (the guide's Derived/Test/ToyasCard.lean, 'card_holds'). Laid BY PROGRAM, IN A SANDBOX (cutbox-door.mjs). By AI agents, Wed Nov 11 2026. No macro, syntax, notation, axiom, sorry.
-/
import Derived.Test.YtacbeejkpajhjaaDoorRows
import GoSem.ClaimSeven
namespace Go.Proofs.YtacbeejkpajhjaaDoor
namespace Rows

/-- THE TIED CARD OF 'foretelllaw.ModelChecks'. -/
def modelChecksCard : Claim7 := { stood := { row := modelChecksRow, standIns := [], harness := (true, "37d48737e19e9afbd29d3386daa8a20e665f90550c22f3f387679f22565bb444"), looks := true }, kinds := [], alts := [], laidByText := true, laidKinds := [.data], laidTests := true, laidLooks := .later }
def ModelChecksCardSaid : Prop := Claim7.holds Tryd.pinned (.plain (OpenSpec.ofChange modelChecksSpec)) modelChecksCard

/-- THE TIED CARD OF 'foretelllaw.ModelProps'. -/
def modelPropsCard : Claim7 := { stood := { row := modelPropsRow, standIns := [], harness := (true, "37d48737e19e9afbd29d3386daa8a20e665f90550c22f3f387679f22565bb444"), looks := true }, kinds := [], alts := [], laidByText := true, laidKinds := [.data], laidTests := true, laidLooks := .later }
def ModelPropsCardSaid : Prop := Claim7.holds Tryd.pinned (.plain (OpenSpec.ofChange modelPropsSpec)) modelPropsCard

/-- THE TIED CARD OF 'foretelllaw.ModelCounts'. -/
def modelCountsCard : Claim7 := { stood := { row := modelCountsRow, standIns := [], harness := (true, "37d48737e19e9afbd29d3386daa8a20e665f90550c22f3f387679f22565bb444"), looks := true }, kinds := [], alts := [], laidByText := true, laidKinds := [.data], laidTests := true, laidLooks := .later }
def ModelCountsCardSaid : Prop := Claim7.holds Tryd.pinned (.plain (OpenSpec.ofChange modelCountsSpec)) modelCountsCard

/-- THE TIED CARD OF 'foretelllaw.ModelCodes'. -/
def modelCodesCard : Claim7 := { stood := { row := modelCodesRow, standIns := [], harness := (true, "37d48737e19e9afbd29d3386daa8a20e665f90550c22f3f387679f22565bb444"), looks := true }, kinds := [], alts := [], laidByText := true, laidKinds := [.data], laidTests := true, laidLooks := .later }
def ModelCodesCardSaid : Prop := Claim7.holds Tryd.pinned (.plain (OpenSpec.ofChange modelCodesSpec)) modelCodesCard

/-- THE TIED CARD OF 'foretelllaw.ModelValues'. -/
def modelValuesCard : Claim7 := { stood := { row := modelValuesRow, standIns := [], harness := (true, "37d48737e19e9afbd29d3386daa8a20e665f90550c22f3f387679f22565bb444"), looks := true }, kinds := [], alts := [], laidByText := true, laidKinds := [.data], laidTests := true, laidLooks := .later }
def ModelValuesCardSaid : Prop := Claim7.holds Tryd.pinned (.plain (OpenSpec.ofChange modelValuesSpec)) modelValuesCard

/-- THE TIED CARD OF 'foretelllaw.ModelFirsts'. -/
def modelFirstsCard : Claim7 := { stood := { row := modelFirstsRow, standIns := [], harness := (true, "37d48737e19e9afbd29d3386daa8a20e665f90550c22f3f387679f22565bb444"), looks := true }, kinds := [], alts := [], laidByText := true, laidKinds := [.data], laidTests := true, laidLooks := .later }
def ModelFirstsCardSaid : Prop := Claim7.holds Tryd.pinned (.plain (OpenSpec.ofChange modelFirstsSpec)) modelFirstsCard

/-- THE SECOND FORM's CARD OF 'foretelllaw.ModelChecks'. -/
def modelChecksUptoCard : Claim7 := { stood := { row := modelChecksUptoRow, standIns := [], harness := (true, "37d48737e19e9afbd29d3386daa8a20e665f90550c22f3f387679f22565bb444"), looks := true }, kinds := [], alts := [], laidByText := true, laidKinds := [.data], laidTests := true, laidLooks := .later }
def ModelChecksUptoCardSaid : Prop := Claim7.holds Tryd.pinned (.plain (OpenSpec.upto modelChecksSpec)) modelChecksUptoCard

/-- THE SECOND FORM's CARD OF 'foretelllaw.ModelProps'. -/
def modelPropsUptoCard : Claim7 := { stood := { row := modelPropsUptoRow, standIns := [], harness := (true, "37d48737e19e9afbd29d3386daa8a20e665f90550c22f3f387679f22565bb444"), looks := true }, kinds := [], alts := [], laidByText := true, laidKinds := [.data], laidTests := true, laidLooks := .later }
def ModelPropsUptoCardSaid : Prop := Claim7.holds Tryd.pinned (.plain (OpenSpec.upto modelPropsSpec)) modelPropsUptoCard

/-- THE SECOND FORM's CARD OF 'foretelllaw.ModelCounts'. -/
def modelCountsUptoCard : Claim7 := { stood := { row := modelCountsUptoRow, standIns := [], harness := (true, "37d48737e19e9afbd29d3386daa8a20e665f90550c22f3f387679f22565bb444"), looks := true }, kinds := [], alts := [], laidByText := true, laidKinds := [.data], laidTests := true, laidLooks := .later }
def ModelCountsUptoCardSaid : Prop := Claim7.holds Tryd.pinned (.plain (OpenSpec.upto modelCountsSpec)) modelCountsUptoCard

/-- THE SECOND FORM's CARD OF 'foretelllaw.ModelCodes'. -/
def modelCodesUptoCard : Claim7 := { stood := { row := modelCodesUptoRow, standIns := [], harness := (true, "37d48737e19e9afbd29d3386daa8a20e665f90550c22f3f387679f22565bb444"), looks := true }, kinds := [], alts := [], laidByText := true, laidKinds := [.data], laidTests := true, laidLooks := .later }
def ModelCodesUptoCardSaid : Prop := Claim7.holds Tryd.pinned (.plain (OpenSpec.upto modelCodesSpec)) modelCodesUptoCard

/-- THE SECOND FORM's CARD OF 'foretelllaw.ModelValues'. -/
def modelValuesUptoCard : Claim7 := { stood := { row := modelValuesUptoRow, standIns := [], harness := (true, "37d48737e19e9afbd29d3386daa8a20e665f90550c22f3f387679f22565bb444"), looks := true }, kinds := [], alts := [], laidByText := true, laidKinds := [.data], laidTests := true, laidLooks := .later }
def ModelValuesUptoCardSaid : Prop := Claim7.holds Tryd.pinned (.plain (OpenSpec.upto modelValuesSpec)) modelValuesUptoCard

/-- THE SECOND FORM's CARD OF 'foretelllaw.ModelFirsts'. -/
def modelFirstsUptoCard : Claim7 := { stood := { row := modelFirstsUptoRow, standIns := [], harness := (true, "37d48737e19e9afbd29d3386daa8a20e665f90550c22f3f387679f22565bb444"), looks := true }, kinds := [], alts := [], laidByText := true, laidKinds := [.data], laidTests := true, laidLooks := .later }
def ModelFirstsUptoCardSaid : Prop := Claim7.holds Tryd.pinned (.plain (OpenSpec.upto modelFirstsSpec)) modelFirstsUptoCard
end Rows
end Go.Proofs.YtacbeejkpajhjaaDoor
