/-
  NARROWER THAN 'FOR EVERY INPUT', by the rows' own cells (each row's printed sentence says how): LogicChecks: laid · LogicAheads: laid · LogicTruths: laid · LogicFollows: laid · LogicMeets: laid.
  DERIVED. THE GIVEN ROWS OF THIS SEAT. 5 by the template 'for every input the law returns true; each argument reads behind the call as it read before'; 0 by the template 'total and deterministic' (their statements: YtnhkoagfjcmafaaDoorTotals.lean).
  GIVEN WITH THE SEED: the statements are not yours to turn. If you find one false, say at which input.
  Laid BY PROGRAM, IN A SANDBOX (cutbox-rows.mjs): the forced cells as the released guide's own fill.sh prints them over the translation f2eb0934b6e03ee8… (all of the seat's roots in one cut). By AI agents, Wed Nov 11 2026. No macro, syntax, notation, axiom, sorry.
-/
import Derived.Test.YtnhkoagfjcmafaaDoorChecked
import GoSem.Claim
import GoSem.ClaimJoined
import GoSem.ClaimMapViews
import Derived.JoinedTies
import Derived.KernelRfl
namespace Go.Proofs.YtnhkoagfjcmafaaDoor
/- THE CELL 'sum', in the pinned program and in every row, IS THE sha256 OF THE DUMP (.gsa) THAT YtnhkoagfjcmafaaDoorProg.lean LOADS. Nothing in Lean hashes anything: it is a label: what it is worth is what the hold of that sum in a sandbox is worth. -/
noncomputable def Tryd.pinned : Pinned := { name := "ytnhkoagfjcmafaadoor", sum := "f2eb0934b6e03ee836f30e1635a2d5a0ce6defb3365ac3e1ca35a69020c27302", checked := Tryd.checked }
namespace Rows
def none {H : Type} : Left H := { results := [], args := [] }

/- WHAT THE LISTED PACKAGE-LEVEL VARIABLES READ AS WHEN THE CALL BEGINS. Each datum BY PROGRAM (the guide's laid-datum.mjs) off the statement by which the dump's own 'gosem.cut.vars' lays the variable. In a bare row this is a premise. The card (YtnhkoagfjcmafaaDoorCards.lean) ties it to the program's text. -/
def laid_foretell_polish_partCounts {H : Type} : DataW H := .agg [.lit (.int .i64 0), .lit (.int .i64 0), .lit (.int .i64 0), .lit (.int .i64 2), .lit (.int .i64 2), .lit (.int .i64 2), .lit (.int .i64 2), .lit (.int .i64 2), .lit (.int .i64 2), .lit (.int .i64 2), .lit (.int .i64 1), .lit (.int .i64 0), .lit (.int .i64 0), .lit (.int .i64 0), .lit (.int .i64 1), .lit (.int .i64 2), .lit (.int .i64 2), .lit (.int .i64 1), .lit (.int .i64 1)]

/-- 'foretelllaw.LogicChecks': WHATEVER THE INPUT: true; the input reads as it did. -/
def logicChecksSpec : ChangeSpec := { name := "logicChecks", fn := fun _ => fun
  | [d1, d2] => { results := [.lit (.bool true)], args := [d1, d2] }
  | _ => none }
def logicChecksRow : OpenClaim := { program := "ytnhkoagfjcmafaadoor", sum := "f2eb0934b6e03ee836f30e1635a2d5a0ce6defb3365ac3e1ca35a69020c27302", func := "foretell/foretelllaw.LogicChecks", spec := "logicChecks", unfollowed := true, recurses := true, named := ["foretell/polish.partCounts"], apart := false, laid := [("foretell/polish.partCounts", laid_foretell_polish_partCounts)] }
def LogicChecksSaid : Prop := logicChecksRow.holds Tryd.pinned (OpenSpec.ofChange logicChecksSpec)

/-- ITS FALSE NEIGHBOUR: 'it returns false'. Refute it at one input. -/
def logicChecksWrong : ChangeSpec := { name := "logicChecks", fn := fun _ => fun
  | [d1, d2] => { results := [.lit (.bool false)], args := [d1, d2] }
  | _ => none }
def LogicChecksWrongFalsely : Prop := logicChecksRow.holds Tryd.pinned (OpenSpec.ofChange logicChecksWrong)

/-- 'foretelllaw.LogicAheads': WHATEVER THE INPUT: true; the input reads as it did. -/
def logicAheadsSpec : ChangeSpec := { name := "logicAheads", fn := fun _ => fun
  | [d1, d2] => { results := [.lit (.bool true)], args := [d1, d2] }
  | _ => none }
def logicAheadsRow : OpenClaim := { program := "ytnhkoagfjcmafaadoor", sum := "f2eb0934b6e03ee836f30e1635a2d5a0ce6defb3365ac3e1ca35a69020c27302", func := "foretell/foretelllaw.LogicAheads", spec := "logicAheads", unfollowed := true, recurses := true, named := ["foretell/polish.partCounts"], apart := false, laid := [("foretell/polish.partCounts", laid_foretell_polish_partCounts)] }
def LogicAheadsSaid : Prop := logicAheadsRow.holds Tryd.pinned (OpenSpec.ofChange logicAheadsSpec)

/-- ITS FALSE NEIGHBOUR: 'it returns false'. Refute it at one input. -/
def logicAheadsWrong : ChangeSpec := { name := "logicAheads", fn := fun _ => fun
  | [d1, d2] => { results := [.lit (.bool false)], args := [d1, d2] }
  | _ => none }
def LogicAheadsWrongFalsely : Prop := logicAheadsRow.holds Tryd.pinned (OpenSpec.ofChange logicAheadsWrong)

/-- 'foretelllaw.LogicTruths': WHATEVER THE INPUT: true; the input reads as it did. -/
def logicTruthsSpec : ChangeSpec := { name := "logicTruths", fn := fun _ => fun
  | [d1, d2, d3] => { results := [.lit (.bool true)], args := [d1, d2, d3] }
  | _ => none }
def logicTruthsRow : OpenClaim := { program := "ytnhkoagfjcmafaadoor", sum := "f2eb0934b6e03ee836f30e1635a2d5a0ce6defb3365ac3e1ca35a69020c27302", func := "foretell/foretelllaw.LogicTruths", spec := "logicTruths", unfollowed := true, recurses := true, named := ["foretell/polish.partCounts"], apart := false, laid := [("foretell/polish.partCounts", laid_foretell_polish_partCounts)] }
def LogicTruthsSaid : Prop := logicTruthsRow.holds Tryd.pinned (OpenSpec.ofChange logicTruthsSpec)

/-- ITS FALSE NEIGHBOUR: 'it returns false'. Refute it at one input. -/
def logicTruthsWrong : ChangeSpec := { name := "logicTruths", fn := fun _ => fun
  | [d1, d2, d3] => { results := [.lit (.bool false)], args := [d1, d2, d3] }
  | _ => none }
def LogicTruthsWrongFalsely : Prop := logicTruthsRow.holds Tryd.pinned (OpenSpec.ofChange logicTruthsWrong)

/-- 'foretelllaw.LogicFollows': WHATEVER THE INPUT: true; the input reads as it did. -/
def logicFollowsSpec : ChangeSpec := { name := "logicFollows", fn := fun _ => fun
  | [d1, d2, d3, d4, d5] => { results := [.lit (.bool true)], args := [d1, d2, d3, d4, d5] }
  | _ => none }
def logicFollowsRow : OpenClaim := { program := "ytnhkoagfjcmafaadoor", sum := "f2eb0934b6e03ee836f30e1635a2d5a0ce6defb3365ac3e1ca35a69020c27302", func := "foretell/foretelllaw.LogicFollows", spec := "logicFollows", unfollowed := true, recurses := true, named := ["foretell/polish.partCounts"], apart := false, laid := [("foretell/polish.partCounts", laid_foretell_polish_partCounts)] }
def LogicFollowsSaid : Prop := logicFollowsRow.holds Tryd.pinned (OpenSpec.ofChange logicFollowsSpec)

/-- ITS FALSE NEIGHBOUR: 'it returns false'. Refute it at one input. -/
def logicFollowsWrong : ChangeSpec := { name := "logicFollows", fn := fun _ => fun
  | [d1, d2, d3, d4, d5] => { results := [.lit (.bool false)], args := [d1, d2, d3, d4, d5] }
  | _ => none }
def LogicFollowsWrongFalsely : Prop := logicFollowsRow.holds Tryd.pinned (OpenSpec.ofChange logicFollowsWrong)

/-- 'foretelllaw.LogicMeets': WHATEVER THE INPUT: true; the input reads as it did. -/
def logicMeetsSpec : ChangeSpec := { name := "logicMeets", fn := fun _ => fun
  | [d1, d2, d3] => { results := [.lit (.bool true)], args := [d1, d2, d3] }
  | _ => none }
def logicMeetsRow : OpenClaim := { program := "ytnhkoagfjcmafaadoor", sum := "f2eb0934b6e03ee836f30e1635a2d5a0ce6defb3365ac3e1ca35a69020c27302", func := "foretell/foretelllaw.LogicMeets", spec := "logicMeets", unfollowed := true, recurses := true, named := ["foretell/polish.partCounts"], apart := false, laid := [("foretell/polish.partCounts", laid_foretell_polish_partCounts)] }
def LogicMeetsSaid : Prop := logicMeetsRow.holds Tryd.pinned (OpenSpec.ofChange logicMeetsSpec)

/-- ITS FALSE NEIGHBOUR: 'it returns false'. Refute it at one input. -/
def logicMeetsWrong : ChangeSpec := { name := "logicMeets", fn := fun _ => fun
  | [d1, d2, d3] => { results := [.lit (.bool false)], args := [d1, d2, d3] }
  | _ => none }
def LogicMeetsWrongFalsely : Prop := logicMeetsRow.holds Tryd.pinned (OpenSpec.ofChange logicMeetsWrong)

/- THE SECOND FORM. 'bulk': how many values and letters a reading holds, each counted each time it is reached (what is shared counts as often as it is met; a slice's spare places count too). A statement '..UptoSaid' is the law's where the arguments, and the package variables that the reading takes, are together of bulk at most 1048576: NARROWER than '..Said'. Prove '..Said' where nothing that the law and all that it calls make is longer than what came in: it says more and counts as full. Else prove '..UptoSaid'. A law counts once. -/
mutual
def uptoBulk {H : Type} : DataW H → Nat
  | .lit (.string bytes) => bytes.length + 1
  | .lit _ => 1
  | .nil => 1
  | .ptr d => uptoBulk d + 1
  | .slice elems spare => uptoBulkAll elems + uptoBulkAll spare + 1
  | .agg parts => uptoBulkAll parts + 1
  | .iface _ d => uptoBulk d + 1
  | .map entries => uptoBulkEntries entries + 1
  | .held _ => 1
def uptoBulkAll {H : Type} : List (DataW H) → Nat
  | [] => 0
  | d :: r => uptoBulk d + uptoBulkAll r
def uptoBulkEntries {H : Type} : List (Lit × DataW H) → Nat
  | [] => 0
  | x :: r => uptoBulkEntry x + uptoBulkEntries r
def uptoBulkEntry {H : Type} : Lit × DataW H → Nat
  | (.string bytes, d) => bytes.length + uptoBulk d + 1
  | (_, d) => uptoBulk d + 1
 end
def uptoSmall : (H : Type) → List (DataW H) → Bool := fun _ ds => decide (uptoBulkAll ds ≤ 1048576)
def OpenSpec.upto (s : _root_.Go.ChangeSpec) : _root_.Go.OpenSpec := { _root_.Go.OpenSpec.ofChange s with cond := some uptoSmall }

/-- 'foretelllaw.LogicChecks', WHERE WHAT IT READS IS OF BULK AT MOST 1048576: true; the input reads as it did. -/
def logicChecksUptoRow : OpenClaim := { program := "ytnhkoagfjcmafaadoor", sum := "f2eb0934b6e03ee836f30e1635a2d5a0ce6defb3365ac3e1ca35a69020c27302", func := "foretell/foretelllaw.LogicChecks", spec := "logicChecks", unfollowed := true, recurses := true, named := ["foretell/polish.partCounts"], apart := false, laid := [("foretell/polish.partCounts", laid_foretell_polish_partCounts)], narrowed := true }
def LogicChecksUptoSaid : Prop := logicChecksUptoRow.holds Tryd.pinned (OpenSpec.upto logicChecksSpec)

/-- 'foretelllaw.LogicAheads', WHERE WHAT IT READS IS OF BULK AT MOST 1048576: true; the input reads as it did. -/
def logicAheadsUptoRow : OpenClaim := { program := "ytnhkoagfjcmafaadoor", sum := "f2eb0934b6e03ee836f30e1635a2d5a0ce6defb3365ac3e1ca35a69020c27302", func := "foretell/foretelllaw.LogicAheads", spec := "logicAheads", unfollowed := true, recurses := true, named := ["foretell/polish.partCounts"], apart := false, laid := [("foretell/polish.partCounts", laid_foretell_polish_partCounts)], narrowed := true }
def LogicAheadsUptoSaid : Prop := logicAheadsUptoRow.holds Tryd.pinned (OpenSpec.upto logicAheadsSpec)

/-- 'foretelllaw.LogicTruths', WHERE WHAT IT READS IS OF BULK AT MOST 1048576: true; the input reads as it did. -/
def logicTruthsUptoRow : OpenClaim := { program := "ytnhkoagfjcmafaadoor", sum := "f2eb0934b6e03ee836f30e1635a2d5a0ce6defb3365ac3e1ca35a69020c27302", func := "foretell/foretelllaw.LogicTruths", spec := "logicTruths", unfollowed := true, recurses := true, named := ["foretell/polish.partCounts"], apart := false, laid := [("foretell/polish.partCounts", laid_foretell_polish_partCounts)], narrowed := true }
def LogicTruthsUptoSaid : Prop := logicTruthsUptoRow.holds Tryd.pinned (OpenSpec.upto logicTruthsSpec)

/-- 'foretelllaw.LogicFollows', WHERE WHAT IT READS IS OF BULK AT MOST 1048576: true; the input reads as it did. -/
def logicFollowsUptoRow : OpenClaim := { program := "ytnhkoagfjcmafaadoor", sum := "f2eb0934b6e03ee836f30e1635a2d5a0ce6defb3365ac3e1ca35a69020c27302", func := "foretell/foretelllaw.LogicFollows", spec := "logicFollows", unfollowed := true, recurses := true, named := ["foretell/polish.partCounts"], apart := false, laid := [("foretell/polish.partCounts", laid_foretell_polish_partCounts)], narrowed := true }
def LogicFollowsUptoSaid : Prop := logicFollowsUptoRow.holds Tryd.pinned (OpenSpec.upto logicFollowsSpec)

/-- 'foretelllaw.LogicMeets', WHERE WHAT IT READS IS OF BULK AT MOST 1048576: true; the input reads as it did. -/
def logicMeetsUptoRow : OpenClaim := { program := "ytnhkoagfjcmafaadoor", sum := "f2eb0934b6e03ee836f30e1635a2d5a0ce6defb3365ac3e1ca35a69020c27302", func := "foretell/foretelllaw.LogicMeets", spec := "logicMeets", unfollowed := true, recurses := true, named := ["foretell/polish.partCounts"], apart := false, laid := [("foretell/polish.partCounts", laid_foretell_polish_partCounts)], narrowed := true }
def LogicMeetsUptoSaid : Prop := logicMeetsUptoRow.holds Tryd.pinned (OpenSpec.upto logicMeetsSpec)

end Rows
end Go.Proofs.YtnhkoagfjcmafaaDoor
