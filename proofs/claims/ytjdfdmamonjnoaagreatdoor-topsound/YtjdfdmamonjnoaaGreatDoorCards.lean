/-
  DERIVED. GIVEN WITH THE SEED: THE CARDS: each row of YtjdfdmamonjnoaaGreatDoorRows.lean that lists a variable, with what it lists TIED to the program's text (the seventh form; the later family's looks); each row that meets fmt, with fmt's text TOLD by the authors' own Lean function (tested against real Go, not proved from fmt's source: count such statements apart). THE CARD IS WHAT COUNTS. Prove the row's statement (the work); the ties are given (YtjdfdmamonjnoaaGreatDoorTie.lean); close each card by the builder's one call (the guide's Derived/Test/ToyasCard.lean, 'card_holds'). Laid BY PROGRAM, IN A SANDBOX (cutbox-door.mjs). By AI agents, Wed Nov 11 2026. No macro, syntax, notation, axiom, sorry.
-/
import Derived.Test.YtjdfdmamonjnoaaGreatDoorRows
import GoSem.ClaimSeven
namespace Go.Proofs.YtjdfdmamonjnoaaGreatDoor
namespace Rows

/-- THE TIED CARD OF 'foretelltop.TopSound'. -/
def topSoundCard : Claim7 := { stood := { row := topSoundRow, standIns := [], harness := (true, "c48e58796bd5e738a448ba0186a2f741e9f27d2895dbaff9efcc9a3982d90c6f"), looks := true }, kinds := [], alts := [], laidByText := true, laidKinds := [.data], laidTests := true, laidLooks := .later }
def TopSoundCardSaid : Prop := Claim7.holds Tryz.pinned (.plain (OpenSpec.ofChange topSoundSpec)) topSoundCard

/-- THE TIED CARD OF 'foretelltop.TopComplete'. -/
def topCompleteCard : Claim7 := { stood := { row := topCompleteRow, standIns := [], harness := (true, "c48e58796bd5e738a448ba0186a2f741e9f27d2895dbaff9efcc9a3982d90c6f"), looks := true }, kinds := [], alts := [], laidByText := true, laidKinds := [.data], laidTests := true, laidLooks := .later }
def TopCompleteCardSaid : Prop := Claim7.holds Tryz.pinned (.plain (OpenSpec.ofChange topCompleteSpec)) topCompleteCard

/-- THE TIED CARD OF 'foretelltop.TopNow'. -/
def topNowCard : Claim7 := { stood := { row := topNowRow, standIns := [], harness := (true, "c48e58796bd5e738a448ba0186a2f741e9f27d2895dbaff9efcc9a3982d90c6f"), looks := true }, kinds := [], alts := [], laidByText := true, laidKinds := [.data], laidTests := true, laidLooks := .later }
def TopNowCardSaid : Prop := Claim7.holds Tryz.pinned (.plain (OpenSpec.ofChange topNowSpec)) topNowCard

/-- THE TIED CARD OF 'foretelltop.TopLone'. -/
def topLoneCard : Claim7 := { stood := { row := topLoneRow, standIns := [], harness := (true, "c48e58796bd5e738a448ba0186a2f741e9f27d2895dbaff9efcc9a3982d90c6f"), looks := true }, kinds := [], alts := [], laidByText := true, laidKinds := [.data], laidTests := true, laidLooks := .later }
def TopLoneCardSaid : Prop := Claim7.holds Tryz.pinned (.plain (OpenSpec.ofChange topLoneSpec)) topLoneCard

/-- THE TIED CARD OF 'foretelltop.TopOneRun'. -/
def topOneRunCard : Claim7 := { stood := { row := topOneRunRow, standIns := [], harness := (true, "c48e58796bd5e738a448ba0186a2f741e9f27d2895dbaff9efcc9a3982d90c6f"), looks := true }, kinds := [], alts := [], laidByText := true, laidKinds := [.data], laidTests := true, laidLooks := .later }
def TopOneRunCardSaid : Prop := Claim7.holds Tryz.pinned (.plain (OpenSpec.ofChange topOneRunSpec)) topOneRunCard

/-- THE TIED CARD OF 'foretelltop.TopClaims'. -/
def topClaimsCard : Claim7 := { stood := { row := topClaimsRow, standIns := [], harness := (true, "c48e58796bd5e738a448ba0186a2f741e9f27d2895dbaff9efcc9a3982d90c6f"), looks := true }, kinds := [], alts := [], laidByText := true, laidKinds := [.data], laidTests := true, laidLooks := .later }
def TopClaimsCardSaid : Prop := Claim7.holds Tryz.pinned (.plain (OpenSpec.ofChange topClaimsSpec)) topClaimsCard

/-- THE SECOND FORM's CARD OF 'foretelltop.TopSound'. -/
def topSoundUptoCard : Claim7 := { stood := { row := topSoundUptoRow, standIns := [], harness := (true, "c48e58796bd5e738a448ba0186a2f741e9f27d2895dbaff9efcc9a3982d90c6f"), looks := true }, kinds := [], alts := [], laidByText := true, laidKinds := [.data], laidTests := true, laidLooks := .later }
def TopSoundUptoCardSaid : Prop := Claim7.holds Tryz.pinned (.plain (OpenSpec.upto topSoundSpec)) topSoundUptoCard

/-- THE SECOND FORM's CARD OF 'foretelltop.TopComplete'. -/
def topCompleteUptoCard : Claim7 := { stood := { row := topCompleteUptoRow, standIns := [], harness := (true, "c48e58796bd5e738a448ba0186a2f741e9f27d2895dbaff9efcc9a3982d90c6f"), looks := true }, kinds := [], alts := [], laidByText := true, laidKinds := [.data], laidTests := true, laidLooks := .later }
def TopCompleteUptoCardSaid : Prop := Claim7.holds Tryz.pinned (.plain (OpenSpec.upto topCompleteSpec)) topCompleteUptoCard

/-- THE SECOND FORM's CARD OF 'foretelltop.TopNow'. -/
def topNowUptoCard : Claim7 := { stood := { row := topNowUptoRow, standIns := [], harness := (true, "c48e58796bd5e738a448ba0186a2f741e9f27d2895dbaff9efcc9a3982d90c6f"), looks := true }, kinds := [], alts := [], laidByText := true, laidKinds := [.data], laidTests := true, laidLooks := .later }
def TopNowUptoCardSaid : Prop := Claim7.holds Tryz.pinned (.plain (OpenSpec.upto topNowSpec)) topNowUptoCard

/-- THE SECOND FORM's CARD OF 'foretelltop.TopLone'. -/
def topLoneUptoCard : Claim7 := { stood := { row := topLoneUptoRow, standIns := [], harness := (true, "c48e58796bd5e738a448ba0186a2f741e9f27d2895dbaff9efcc9a3982d90c6f"), looks := true }, kinds := [], alts := [], laidByText := true, laidKinds := [.data], laidTests := true, laidLooks := .later }
def TopLoneUptoCardSaid : Prop := Claim7.holds Tryz.pinned (.plain (OpenSpec.upto topLoneSpec)) topLoneUptoCard

/-- THE SECOND FORM's CARD OF 'foretelltop.TopOneRun'. -/
def topOneRunUptoCard : Claim7 := { stood := { row := topOneRunUptoRow, standIns := [], harness := (true, "c48e58796bd5e738a448ba0186a2f741e9f27d2895dbaff9efcc9a3982d90c6f"), looks := true }, kinds := [], alts := [], laidByText := true, laidKinds := [.data], laidTests := true, laidLooks := .later }
def TopOneRunUptoCardSaid : Prop := Claim7.holds Tryz.pinned (.plain (OpenSpec.upto topOneRunSpec)) topOneRunUptoCard

/-- THE SECOND FORM's CARD OF 'foretelltop.TopClaims'. -/
def topClaimsUptoCard : Claim7 := { stood := { row := topClaimsUptoRow, standIns := [], harness := (true, "c48e58796bd5e738a448ba0186a2f741e9f27d2895dbaff9efcc9a3982d90c6f"), looks := true }, kinds := [], alts := [], laidByText := true, laidKinds := [.data], laidTests := true, laidLooks := .later }
def TopClaimsUptoCardSaid : Prop := Claim7.holds Tryz.pinned (.plain (OpenSpec.upto topClaimsSpec)) topClaimsUptoCard
end Rows
end Go.Proofs.YtjdfdmamonjnoaaGreatDoor
