/-
  NARROWER THAN 'FOR EVERY INPUT', by the rows' own cells (each row's printed sentence says how): ModelChecks: laid · ModelProps: laid · ModelCounts: laid · ModelCodes: laid · ModelValues: laid · ModelFirsts: laid.
  DERIVED. THE GIVEN ROWS OF THIS SEAT. 6 by the template 'for every input the law returns true; each argument reads behind the call as it read before'; 0 by the template 'total and deterministic' (their statements: YtacbeejkpajhjaaDoorTotals.lean).
  GIVEN WITH THE SEED: the statements are not yours to turn. If you find one false, say at which input.
  Laid BY PROGRAM, IN A SANDBOX (cutbox-rows.mjs): the forced cells as the released guide's own fill.sh prints them over the translation 758ea5aa16aaa326… (all of the seat's roots in one cut). By AI agents, Wed Nov 11 2026. No macro, syntax, notation, axiom, sorry.
-/
import Derived.Test.YtacbeejkpajhjaaDoorChecked
import GoSem.Claim
import GoSem.ClaimJoined
import GoSem.ClaimMapViews
import Derived.JoinedTies
import Derived.KernelRfl
namespace Go.Proofs.YtacbeejkpajhjaaDoor
/- THE CELL 'sum', in the pinned program and in every row, IS THE sha256 OF THE DUMP (.gsa) THAT YtacbeejkpajhjaaDoorProg.lean LOADS. Nothing in Lean hashes anything: it is a label: what it is worth is what the hold of that sum in a sandbox is worth. -/
noncomputable def Tryd.pinned : Pinned := { name := "ytacbeejkpajhjaadoor", sum := "758ea5aa16aaa3265c2b90ab2f785c04c08e54c98e7ad87e5398b82d713105aa", checked := Tryd.checked }
namespace Rows
def none {H : Type} : Left H := { results := [], args := [] }

/- WHAT THE LISTED PACKAGE-LEVEL VARIABLES READ AS WHEN THE CALL BEGINS. Each datum BY PROGRAM (the guide's laid-datum.mjs) off the statement by which the dump's own 'gosem.cut.vars' lays the variable. In a bare row this is a premise. The card (YtacbeejkpajhjaaDoorCards.lean) ties it to the program's text. -/
def laid_foretell_polish_partCounts {H : Type} : DataW H := .agg [.lit (.int .i64 0), .lit (.int .i64 0), .lit (.int .i64 0), .lit (.int .i64 2), .lit (.int .i64 2), .lit (.int .i64 2), .lit (.int .i64 2), .lit (.int .i64 2), .lit (.int .i64 2), .lit (.int .i64 2), .lit (.int .i64 1), .lit (.int .i64 0), .lit (.int .i64 0), .lit (.int .i64 0), .lit (.int .i64 1), .lit (.int .i64 2), .lit (.int .i64 2), .lit (.int .i64 1), .lit (.int .i64 1)]

/-- 'foretelllaw.ModelChecks': WHATEVER THE INPUT: true; the input reads as it did. -/
def modelChecksSpec : ChangeSpec := { name := "modelChecks", fn := fun _ => fun
  | [d] => { results := [.lit (.bool true)], args := [d] }
  | _ => none }
def modelChecksRow : OpenClaim := { program := "ytacbeejkpajhjaadoor", sum := "758ea5aa16aaa3265c2b90ab2f785c04c08e54c98e7ad87e5398b82d713105aa", func := "foretell/foretelllaw.ModelChecks", spec := "modelChecks", unfollowed := true, recurses := true, named := ["foretell/polish.partCounts"], apart := false, laid := [("foretell/polish.partCounts", laid_foretell_polish_partCounts)] }
def ModelChecksSaid : Prop := modelChecksRow.holds Tryd.pinned (OpenSpec.ofChange modelChecksSpec)

/-- ITS FALSE NEIGHBOUR: 'it returns false'. Refute it at one input. -/
def modelChecksWrong : ChangeSpec := { name := "modelChecks", fn := fun _ => fun
  | [d] => { results := [.lit (.bool false)], args := [d] }
  | _ => none }
def ModelChecksWrongFalsely : Prop := modelChecksRow.holds Tryd.pinned (OpenSpec.ofChange modelChecksWrong)

/-- 'foretelllaw.ModelProps': WHATEVER THE INPUT: true; the input reads as it did. -/
def modelPropsSpec : ChangeSpec := { name := "modelProps", fn := fun _ => fun
  | [d1, d2] => { results := [.lit (.bool true)], args := [d1, d2] }
  | _ => none }
def modelPropsRow : OpenClaim := { program := "ytacbeejkpajhjaadoor", sum := "758ea5aa16aaa3265c2b90ab2f785c04c08e54c98e7ad87e5398b82d713105aa", func := "foretell/foretelllaw.ModelProps", spec := "modelProps", unfollowed := true, recurses := true, named := ["foretell/polish.partCounts"], apart := false, laid := [("foretell/polish.partCounts", laid_foretell_polish_partCounts)] }
def ModelPropsSaid : Prop := modelPropsRow.holds Tryd.pinned (OpenSpec.ofChange modelPropsSpec)

/-- ITS FALSE NEIGHBOUR: 'it returns false'. Refute it at one input. -/
def modelPropsWrong : ChangeSpec := { name := "modelProps", fn := fun _ => fun
  | [d1, d2] => { results := [.lit (.bool false)], args := [d1, d2] }
  | _ => none }
def ModelPropsWrongFalsely : Prop := modelPropsRow.holds Tryd.pinned (OpenSpec.ofChange modelPropsWrong)

/-- 'foretelllaw.ModelCounts': WHATEVER THE INPUT: true; the input reads as it did. -/
def modelCountsSpec : ChangeSpec := { name := "modelCounts", fn := fun _ => fun
  | [d] => { results := [.lit (.bool true)], args := [d] }
  | _ => none }
def modelCountsRow : OpenClaim := { program := "ytacbeejkpajhjaadoor", sum := "758ea5aa16aaa3265c2b90ab2f785c04c08e54c98e7ad87e5398b82d713105aa", func := "foretell/foretelllaw.ModelCounts", spec := "modelCounts", unfollowed := true, recurses := true, named := ["foretell/polish.partCounts"], apart := false, laid := [("foretell/polish.partCounts", laid_foretell_polish_partCounts)] }
def ModelCountsSaid : Prop := modelCountsRow.holds Tryd.pinned (OpenSpec.ofChange modelCountsSpec)

/-- ITS FALSE NEIGHBOUR: 'it returns false'. Refute it at one input. -/
def modelCountsWrong : ChangeSpec := { name := "modelCounts", fn := fun _ => fun
  | [d] => { results := [.lit (.bool false)], args := [d] }
  | _ => none }
def ModelCountsWrongFalsely : Prop := modelCountsRow.holds Tryd.pinned (OpenSpec.ofChange modelCountsWrong)

/-- 'foretelllaw.ModelCodes': WHATEVER THE INPUT: true; the input reads as it did. -/
def modelCodesSpec : ChangeSpec := { name := "modelCodes", fn := fun _ => fun
  | [d1, d2] => { results := [.lit (.bool true)], args := [d1, d2] }
  | _ => none }
def modelCodesRow : OpenClaim := { program := "ytacbeejkpajhjaadoor", sum := "758ea5aa16aaa3265c2b90ab2f785c04c08e54c98e7ad87e5398b82d713105aa", func := "foretell/foretelllaw.ModelCodes", spec := "modelCodes", unfollowed := true, recurses := true, named := ["foretell/polish.partCounts"], apart := false, laid := [("foretell/polish.partCounts", laid_foretell_polish_partCounts)] }
def ModelCodesSaid : Prop := modelCodesRow.holds Tryd.pinned (OpenSpec.ofChange modelCodesSpec)

/-- ITS FALSE NEIGHBOUR: 'it returns false'. Refute it at one input. -/
def modelCodesWrong : ChangeSpec := { name := "modelCodes", fn := fun _ => fun
  | [d1, d2] => { results := [.lit (.bool false)], args := [d1, d2] }
  | _ => none }
def ModelCodesWrongFalsely : Prop := modelCodesRow.holds Tryd.pinned (OpenSpec.ofChange modelCodesWrong)

/-- 'foretelllaw.ModelValues': WHATEVER THE INPUT: true; the input reads as it did. -/
def modelValuesSpec : ChangeSpec := { name := "modelValues", fn := fun _ => fun
  | [d1, d2] => { results := [.lit (.bool true)], args := [d1, d2] }
  | _ => none }
def modelValuesRow : OpenClaim := { program := "ytacbeejkpajhjaadoor", sum := "758ea5aa16aaa3265c2b90ab2f785c04c08e54c98e7ad87e5398b82d713105aa", func := "foretell/foretelllaw.ModelValues", spec := "modelValues", unfollowed := true, recurses := true, named := ["foretell/polish.partCounts"], apart := false, laid := [("foretell/polish.partCounts", laid_foretell_polish_partCounts)] }
def ModelValuesSaid : Prop := modelValuesRow.holds Tryd.pinned (OpenSpec.ofChange modelValuesSpec)

/-- ITS FALSE NEIGHBOUR: 'it returns false'. Refute it at one input. -/
def modelValuesWrong : ChangeSpec := { name := "modelValues", fn := fun _ => fun
  | [d1, d2] => { results := [.lit (.bool false)], args := [d1, d2] }
  | _ => none }
def ModelValuesWrongFalsely : Prop := modelValuesRow.holds Tryd.pinned (OpenSpec.ofChange modelValuesWrong)

/-- 'foretelllaw.ModelFirsts': WHATEVER THE INPUT: true; the input reads as it did. -/
def modelFirstsSpec : ChangeSpec := { name := "modelFirsts", fn := fun _ => fun
  | [d] => { results := [.lit (.bool true)], args := [d] }
  | _ => none }
def modelFirstsRow : OpenClaim := { program := "ytacbeejkpajhjaadoor", sum := "758ea5aa16aaa3265c2b90ab2f785c04c08e54c98e7ad87e5398b82d713105aa", func := "foretell/foretelllaw.ModelFirsts", spec := "modelFirsts", unfollowed := true, recurses := true, named := ["foretell/polish.partCounts"], apart := false, laid := [("foretell/polish.partCounts", laid_foretell_polish_partCounts)] }
def ModelFirstsSaid : Prop := modelFirstsRow.holds Tryd.pinned (OpenSpec.ofChange modelFirstsSpec)

/-- ITS FALSE NEIGHBOUR: 'it returns false'. Refute it at one input. -/
def modelFirstsWrong : ChangeSpec := { name := "modelFirsts", fn := fun _ => fun
  | [d] => { results := [.lit (.bool false)], args := [d] }
  | _ => none }
def ModelFirstsWrongFalsely : Prop := modelFirstsRow.holds Tryd.pinned (OpenSpec.ofChange modelFirstsWrong)

/- THE SECOND FORM. 'bulk': how many values and letters a reading holds, each counted each time it is reached (what is shared counts as often as it is met; a slice's spare places count too). A statement '..UptoSaid' is the law's where the arguments, and the package variables that the reading takes, are together of bulk at most 1048576: NARROWER than '..Said'. Prove '..Said' where nothing that the law and all that it calls make is longer than what came in: it says more and counts as full. Else prove '..UptoSaid'. A law counts once. -/
mutual
def uptoBulk {H : Type} : DataW H → Nat
  | .lit (.string bytes) => bytes.length + 1
  | .lit _ => 1
  | .nil => 1
  | .ptr d => uptoBulk d + 1
  | .slice elems spare => uptoBulkAll elems + uptoBulkAll spare + 1
  | .agg parts => uptoBulkAll parts + 1
  | .iface _ d => uptoBulk d + 1
  | .map entries => uptoBulkEntries entries + 1
  | .held _ => 1
def uptoBulkAll {H : Type} : List (DataW H) → Nat
  | [] => 0
  | d :: r => uptoBulk d + uptoBulkAll r
def uptoBulkEntries {H : Type} : List (Lit × DataW H) → Nat
  | [] => 0
  | x :: r => uptoBulkEntry x + uptoBulkEntries r
def uptoBulkEntry {H : Type} : Lit × DataW H → Nat
  | (.string bytes, d) => bytes.length + uptoBulk d + 1
  | (_, d) => uptoBulk d + 1
 end
def uptoSmall : (H : Type) → List (DataW H) → Bool := fun _ ds => decide (uptoBulkAll ds ≤ 1048576)
def OpenSpec.upto (s : _root_.Go.ChangeSpec) : _root_.Go.OpenSpec := { _root_.Go.OpenSpec.ofChange s with cond := some uptoSmall }

/-- 'foretelllaw.ModelChecks', WHERE WHAT IT READS IS OF BULK AT MOST 1048576: true; the input reads as it did. -/
def modelChecksUptoRow : OpenClaim := { program := "ytacbeejkpajhjaadoor", sum := "758ea5aa16aaa3265c2b90ab2f785c04c08e54c98e7ad87e5398b82d713105aa", func := "foretell/foretelllaw.ModelChecks", spec := "modelChecks", unfollowed := true, recurses := true, named := ["foretell/polish.partCounts"], apart := false, laid := [("foretell/polish.partCounts", laid_foretell_polish_partCounts)], narrowed := true }
def ModelChecksUptoSaid : Prop := modelChecksUptoRow.holds Tryd.pinned (OpenSpec.upto modelChecksSpec)

/-- 'foretelllaw.ModelProps', WHERE WHAT IT READS IS OF BULK AT MOST 1048576: true; the input reads as it did. -/
def modelPropsUptoRow : OpenClaim := { program := "ytacbeejkpajhjaadoor", sum := "758ea5aa16aaa3265c2b90ab2f785c04c08e54c98e7ad87e5398b82d713105aa", func := "foretell/foretelllaw.ModelProps", spec := "modelProps", unfollowed := true, recurses := true, named := ["foretell/polish.partCounts"], apart := false, laid := [("foretell/polish.partCounts", laid_foretell_polish_partCounts)], narrowed := true }
def ModelPropsUptoSaid : Prop := modelPropsUptoRow.holds Tryd.pinned (OpenSpec.upto modelPropsSpec)

/-- 'foretelllaw.ModelCounts', WHERE WHAT IT READS IS OF BULK AT MOST 1048576: true; the input reads as it did. -/
def modelCountsUptoRow : OpenClaim := { program := "ytacbeejkpajhjaadoor", sum := "758ea5aa16aaa3265c2b90ab2f785c04c08e54c98e7ad87e5398b82d713105aa", func := "foretell/foretelllaw.ModelCounts", spec := "modelCounts", unfollowed := true, recurses := true, named := ["foretell/polish.partCounts"], apart := false, laid := [("foretell/polish.partCounts", laid_foretell_polish_partCounts)], narrowed := true }
def ModelCountsUptoSaid : Prop := modelCountsUptoRow.holds Tryd.pinned (OpenSpec.upto modelCountsSpec)

/-- 'foretelllaw.ModelCodes', WHERE WHAT IT READS IS OF BULK AT MOST 1048576: true; the input reads as it did. -/
def modelCodesUptoRow : OpenClaim := { program := "ytacbeejkpajhjaadoor", sum := "758ea5aa16aaa3265c2b90ab2f785c04c08e54c98e7ad87e5398b82d713105aa", func := "foretell/foretelllaw.ModelCodes", spec := "modelCodes", unfollowed := true, recurses := true, named := ["foretell/polish.partCounts"], apart := false, laid := [("foretell/polish.partCounts", laid_foretell_polish_partCounts)], narrowed := true }
def ModelCodesUptoSaid : Prop := modelCodesUptoRow.holds Tryd.pinned (OpenSpec.upto modelCodesSpec)

/-- 'foretelllaw.ModelValues', WHERE WHAT IT READS IS OF BULK AT MOST 1048576: true; the input reads as it did. -/
def modelValuesUptoRow : OpenClaim := { program := "ytacbeejkpajhjaadoor", sum := "758ea5aa16aaa3265c2b90ab2f785c04c08e54c98e7ad87e5398b82d713105aa", func := "foretell/foretelllaw.ModelValues", spec := "modelValues", unfollowed := true, recurses := true, named := ["foretell/polish.partCounts"], apart := false, laid := [("foretell/polish.partCounts", laid_foretell_polish_partCounts)], narrowed := true }
def ModelValuesUptoSaid : Prop := modelValuesUptoRow.holds Tryd.pinned (OpenSpec.upto modelValuesSpec)

/-- 'foretelllaw.ModelFirsts', WHERE WHAT IT READS IS OF BULK AT MOST 1048576: true; the input reads as it did. -/
def modelFirstsUptoRow : OpenClaim := { program := "ytacbeejkpajhjaadoor", sum := "758ea5aa16aaa3265c2b90ab2f785c04c08e54c98e7ad87e5398b82d713105aa", func := "foretell/foretelllaw.ModelFirsts", spec := "modelFirsts", unfollowed := true, recurses := true, named := ["foretell/polish.partCounts"], apart := false, laid := [("foretell/polish.partCounts", laid_foretell_polish_partCounts)], narrowed := true }
def ModelFirstsUptoSaid : Prop := modelFirstsUptoRow.holds Tryd.pinned (OpenSpec.upto modelFirstsSpec)

end Rows
end Go.Proofs.YtacbeejkpajhjaaDoor
