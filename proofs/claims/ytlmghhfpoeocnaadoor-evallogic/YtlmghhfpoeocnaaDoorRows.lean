/-
  NARROWER THAN 'FOR EVERY INPUT', by the rows' own cells (each row's printed sentence says how): ExprChecks: laid · ExprEvals: laid · EvalTruth: laid · EvalTurns: laid · EvalLogic: laid · EvalOver: laid.
  DERIVED. THE GIVEN ROWS OF THIS SEAT. 6 by the template 'for every input the law returns true; each argument reads behind the call as it read before'; 0 by the template 'total and deterministic' (their statements: YtlmghhfpoeocnaaDoorTotals.lean).
  GIVEN WITH THE SEED: the statements are not yours to turn. If you find one false, say at which input.
  Laid BY PROGRAM, IN A SANDBOX (cutbox-rows.mjs): the forced cells as the released guide's own fill.sh prints them over the translation ee13c87cd90f3c41… (all of the seat's roots in one cut). By AI agents, Wed Nov 11 2026. No macro, syntax, notation, axiom, sorry.
-/
import Derived.Test.YtlmghhfpoeocnaaDoorChecked
import GoSem.Claim
import GoSem.ClaimJoined
import GoSem.ClaimMapViews
import Derived.JoinedTies
import Derived.KernelRfl
namespace Go.Proofs.YtlmghhfpoeocnaaDoor
/- THE CELL 'sum', in the pinned program and in every row, IS THE sha256 OF THE DUMP (.gsa) THAT YtlmghhfpoeocnaaDoorProg.lean LOADS. Nothing in Lean hashes anything: it is a label: what it is worth is what the hold of that sum in a sandbox is worth. -/
noncomputable def Tryd.pinned : Pinned := { name := "ytlmghhfpoeocnaadoor", sum := "ee13c87cd90f3c414122d78d4a129a1ebbf773115d7cbc1af24eab8777a86d4b", checked := Tryd.checked }
namespace Rows
def none {H : Type} : Left H := { results := [], args := [] }

/- WHAT THE LISTED PACKAGE-LEVEL VARIABLES READ AS WHEN THE CALL BEGINS. Each datum BY PROGRAM (the guide's laid-datum.mjs) off the statement by which the dump's own 'gosem.cut.vars' lays the variable. In a bare row this is a premise. The card (YtlmghhfpoeocnaaDoorCards.lean) ties it to the program's text. -/
def laid_foretell_polish_partCounts {H : Type} : DataW H := .agg [.lit (.int .i64 0), .lit (.int .i64 0), .lit (.int .i64 0), .lit (.int .i64 2), .lit (.int .i64 2), .lit (.int .i64 2), .lit (.int .i64 2), .lit (.int .i64 2), .lit (.int .i64 2), .lit (.int .i64 2), .lit (.int .i64 1), .lit (.int .i64 0), .lit (.int .i64 0), .lit (.int .i64 0), .lit (.int .i64 1), .lit (.int .i64 2), .lit (.int .i64 2), .lit (.int .i64 1), .lit (.int .i64 1)]

/-- 'foretelllaw.ExprChecks': WHATEVER THE INPUT: true; the input reads as it did. -/
def exprChecksSpec : ChangeSpec := { name := "exprChecks", fn := fun _ => fun
  | [d1, d2] => { results := [.lit (.bool true)], args := [d1, d2] }
  | _ => none }
def exprChecksRow : OpenClaim := { program := "ytlmghhfpoeocnaadoor", sum := "ee13c87cd90f3c414122d78d4a129a1ebbf773115d7cbc1af24eab8777a86d4b", func := "foretell/foretelllaw.ExprChecks", spec := "exprChecks", unfollowed := true, recurses := true, named := ["foretell/polish.partCounts"], apart := false, laid := [("foretell/polish.partCounts", laid_foretell_polish_partCounts)] }
def ExprChecksSaid : Prop := exprChecksRow.holds Tryd.pinned (OpenSpec.ofChange exprChecksSpec)

/-- ITS FALSE NEIGHBOUR: 'it returns false'. Refute it at one input. -/
def exprChecksWrong : ChangeSpec := { name := "exprChecks", fn := fun _ => fun
  | [d1, d2] => { results := [.lit (.bool false)], args := [d1, d2] }
  | _ => none }
def ExprChecksWrongFalsely : Prop := exprChecksRow.holds Tryd.pinned (OpenSpec.ofChange exprChecksWrong)

/-- 'foretelllaw.ExprEvals': WHATEVER THE INPUT: true; the input reads as it did. -/
def exprEvalsSpec : ChangeSpec := { name := "exprEvals", fn := fun _ => fun
  | [d1, d2] => { results := [.lit (.bool true)], args := [d1, d2] }
  | _ => none }
def exprEvalsRow : OpenClaim := { program := "ytlmghhfpoeocnaadoor", sum := "ee13c87cd90f3c414122d78d4a129a1ebbf773115d7cbc1af24eab8777a86d4b", func := "foretell/foretelllaw.ExprEvals", spec := "exprEvals", unfollowed := true, recurses := true, named := ["foretell/polish.partCounts"], apart := false, laid := [("foretell/polish.partCounts", laid_foretell_polish_partCounts)] }
def ExprEvalsSaid : Prop := exprEvalsRow.holds Tryd.pinned (OpenSpec.ofChange exprEvalsSpec)

/-- ITS FALSE NEIGHBOUR: 'it returns false'. Refute it at one input. -/
def exprEvalsWrong : ChangeSpec := { name := "exprEvals", fn := fun _ => fun
  | [d1, d2] => { results := [.lit (.bool false)], args := [d1, d2] }
  | _ => none }
def ExprEvalsWrongFalsely : Prop := exprEvalsRow.holds Tryd.pinned (OpenSpec.ofChange exprEvalsWrong)

/-- 'foretellkeep.EvalTruth': WHATEVER THE INPUT: true; the input reads as it did. -/
def evalTruthSpec : ChangeSpec := { name := "evalTruth", fn := fun _ => fun
  | [d1, d2] => { results := [.lit (.bool true)], args := [d1, d2] }
  | _ => none }
def evalTruthRow : OpenClaim := { program := "ytlmghhfpoeocnaadoor", sum := "ee13c87cd90f3c414122d78d4a129a1ebbf773115d7cbc1af24eab8777a86d4b", func := "foretell/foretellkeep.EvalTruth", spec := "evalTruth", unfollowed := true, recurses := true, named := ["foretell/polish.partCounts"], apart := false, laid := [("foretell/polish.partCounts", laid_foretell_polish_partCounts)] }
def EvalTruthSaid : Prop := evalTruthRow.holds Tryd.pinned (OpenSpec.ofChange evalTruthSpec)

/-- ITS FALSE NEIGHBOUR: 'it returns false'. Refute it at one input. -/
def evalTruthWrong : ChangeSpec := { name := "evalTruth", fn := fun _ => fun
  | [d1, d2] => { results := [.lit (.bool false)], args := [d1, d2] }
  | _ => none }
def EvalTruthWrongFalsely : Prop := evalTruthRow.holds Tryd.pinned (OpenSpec.ofChange evalTruthWrong)

/-- 'foretellkeep.EvalTurns': WHATEVER THE INPUT: true; the input reads as it did. -/
def evalTurnsSpec : ChangeSpec := { name := "evalTurns", fn := fun _ => fun
  | [d1, d2, d3] => { results := [.lit (.bool true)], args := [d1, d2, d3] }
  | _ => none }
def evalTurnsRow : OpenClaim := { program := "ytlmghhfpoeocnaadoor", sum := "ee13c87cd90f3c414122d78d4a129a1ebbf773115d7cbc1af24eab8777a86d4b", func := "foretell/foretellkeep.EvalTurns", spec := "evalTurns", unfollowed := true, recurses := true, named := ["foretell/polish.partCounts"], apart := false, laid := [("foretell/polish.partCounts", laid_foretell_polish_partCounts)] }
def EvalTurnsSaid : Prop := evalTurnsRow.holds Tryd.pinned (OpenSpec.ofChange evalTurnsSpec)

/-- ITS FALSE NEIGHBOUR: 'it returns false'. Refute it at one input. -/
def evalTurnsWrong : ChangeSpec := { name := "evalTurns", fn := fun _ => fun
  | [d1, d2, d3] => { results := [.lit (.bool false)], args := [d1, d2, d3] }
  | _ => none }
def EvalTurnsWrongFalsely : Prop := evalTurnsRow.holds Tryd.pinned (OpenSpec.ofChange evalTurnsWrong)

/-- 'foretellkeep.EvalLogic': WHATEVER THE INPUT: true; the input reads as it did. -/
def evalLogicSpec : ChangeSpec := { name := "evalLogic", fn := fun _ => fun
  | [d1, d2, d3] => { results := [.lit (.bool true)], args := [d1, d2, d3] }
  | _ => none }
def evalLogicRow : OpenClaim := { program := "ytlmghhfpoeocnaadoor", sum := "ee13c87cd90f3c414122d78d4a129a1ebbf773115d7cbc1af24eab8777a86d4b", func := "foretell/foretellkeep.EvalLogic", spec := "evalLogic", unfollowed := true, recurses := true, named := ["foretell/polish.partCounts"], apart := false, laid := [("foretell/polish.partCounts", laid_foretell_polish_partCounts)] }
def EvalLogicSaid : Prop := evalLogicRow.holds Tryd.pinned (OpenSpec.ofChange evalLogicSpec)

/-- ITS FALSE NEIGHBOUR: 'it returns false'. Refute it at one input. -/
def evalLogicWrong : ChangeSpec := { name := "evalLogic", fn := fun _ => fun
  | [d1, d2, d3] => { results := [.lit (.bool false)], args := [d1, d2, d3] }
  | _ => none }
def EvalLogicWrongFalsely : Prop := evalLogicRow.holds Tryd.pinned (OpenSpec.ofChange evalLogicWrong)

/-- 'foretellkeep.EvalOver': WHATEVER THE INPUT: true; the input reads as it did. -/
def evalOverSpec : ChangeSpec := { name := "evalOver", fn := fun _ => fun
  | [d1, d2] => { results := [.lit (.bool true)], args := [d1, d2] }
  | _ => none }
def evalOverRow : OpenClaim := { program := "ytlmghhfpoeocnaadoor", sum := "ee13c87cd90f3c414122d78d4a129a1ebbf773115d7cbc1af24eab8777a86d4b", func := "foretell/foretellkeep.EvalOver", spec := "evalOver", unfollowed := true, recurses := true, named := ["foretell/polish.partCounts"], apart := false, laid := [("foretell/polish.partCounts", laid_foretell_polish_partCounts)] }
def EvalOverSaid : Prop := evalOverRow.holds Tryd.pinned (OpenSpec.ofChange evalOverSpec)

/-- ITS FALSE NEIGHBOUR: 'it returns false'. Refute it at one input. -/
def evalOverWrong : ChangeSpec := { name := "evalOver", fn := fun _ => fun
  | [d1, d2] => { results := [.lit (.bool false)], args := [d1, d2] }
  | _ => none }
def EvalOverWrongFalsely : Prop := evalOverRow.holds Tryd.pinned (OpenSpec.ofChange evalOverWrong)

/- THE SECOND FORM. 'bulk': how many values and letters a reading holds, each counted each time it is reached (what is shared counts as often as it is met; a slice's spare places count too). A statement '..UptoSaid' is the law's where the arguments, and the package variables that the reading takes, are together of bulk at most 1048576: NARROWER than '..Said'. Prove '..Said' where nothing that the law and all that it calls make is longer than what came in: it says more and counts as full. Else prove '..UptoSaid'. A law counts once. -/
mutual
def uptoBulk {H : Type} : DataW H → Nat
  | .lit (.string bytes) => bytes.length + 1
  | .lit _ => 1
  | .nil => 1
  | .ptr d => uptoBulk d + 1
  | .slice elems spare => uptoBulkAll elems + uptoBulkAll spare + 1
  | .agg parts => uptoBulkAll parts + 1
  | .iface _ d => uptoBulk d + 1
  | .map entries => uptoBulkEntries entries + 1
  | .held _ => 1
def uptoBulkAll {H : Type} : List (DataW H) → Nat
  | [] => 0
  | d :: r => uptoBulk d + uptoBulkAll r
def uptoBulkEntries {H : Type} : List (Lit × DataW H) → Nat
  | [] => 0
  | x :: r => uptoBulkEntry x + uptoBulkEntries r
def uptoBulkEntry {H : Type} : Lit × DataW H → Nat
  | (.string bytes, d) => bytes.length + uptoBulk d + 1
  | (_, d) => uptoBulk d + 1
 end
def uptoSmall : (H : Type) → List (DataW H) → Bool := fun _ ds => decide (uptoBulkAll ds ≤ 1048576)
def OpenSpec.upto (s : _root_.Go.ChangeSpec) : _root_.Go.OpenSpec := { _root_.Go.OpenSpec.ofChange s with cond := some uptoSmall }

/-- 'foretelllaw.ExprChecks', WHERE WHAT IT READS IS OF BULK AT MOST 1048576: true; the input reads as it did. -/
def exprChecksUptoRow : OpenClaim := { program := "ytlmghhfpoeocnaadoor", sum := "ee13c87cd90f3c414122d78d4a129a1ebbf773115d7cbc1af24eab8777a86d4b", func := "foretell/foretelllaw.ExprChecks", spec := "exprChecks", unfollowed := true, recurses := true, named := ["foretell/polish.partCounts"], apart := false, laid := [("foretell/polish.partCounts", laid_foretell_polish_partCounts)], narrowed := true }
def ExprChecksUptoSaid : Prop := exprChecksUptoRow.holds Tryd.pinned (OpenSpec.upto exprChecksSpec)

/-- 'foretelllaw.ExprEvals', WHERE WHAT IT READS IS OF BULK AT MOST 1048576: true; the input reads as it did. -/
def exprEvalsUptoRow : OpenClaim := { program := "ytlmghhfpoeocnaadoor", sum := "ee13c87cd90f3c414122d78d4a129a1ebbf773115d7cbc1af24eab8777a86d4b", func := "foretell/foretelllaw.ExprEvals", spec := "exprEvals", unfollowed := true, recurses := true, named := ["foretell/polish.partCounts"], apart := false, laid := [("foretell/polish.partCounts", laid_foretell_polish_partCounts)], narrowed := true }
def ExprEvalsUptoSaid : Prop := exprEvalsUptoRow.holds Tryd.pinned (OpenSpec.upto exprEvalsSpec)

/-- 'foretellkeep.EvalTruth', WHERE WHAT IT READS IS OF BULK AT MOST 1048576: true; the input reads as it did. -/
def evalTruthUptoRow : OpenClaim := { program := "ytlmghhfpoeocnaadoor", sum := "ee13c87cd90f3c414122d78d4a129a1ebbf773115d7cbc1af24eab8777a86d4b", func := "foretell/foretellkeep.EvalTruth", spec := "evalTruth", unfollowed := true, recurses := true, named := ["foretell/polish.partCounts"], apart := false, laid := [("foretell/polish.partCounts", laid_foretell_polish_partCounts)], narrowed := true }
def EvalTruthUptoSaid : Prop := evalTruthUptoRow.holds Tryd.pinned (OpenSpec.upto evalTruthSpec)

/-- 'foretellkeep.EvalTurns', WHERE WHAT IT READS IS OF BULK AT MOST 1048576: true; the input reads as it did. -/
def evalTurnsUptoRow : OpenClaim := { program := "ytlmghhfpoeocnaadoor", sum := "ee13c87cd90f3c414122d78d4a129a1ebbf773115d7cbc1af24eab8777a86d4b", func := "foretell/foretellkeep.EvalTurns", spec := "evalTurns", unfollowed := true, recurses := true, named := ["foretell/polish.partCounts"], apart := false, laid := [("foretell/polish.partCounts", laid_foretell_polish_partCounts)], narrowed := true }
def EvalTurnsUptoSaid : Prop := evalTurnsUptoRow.holds Tryd.pinned (OpenSpec.upto evalTurnsSpec)

/-- 'foretellkeep.EvalLogic', WHERE WHAT IT READS IS OF BULK AT MOST 1048576: true; the input reads as it did. -/
def evalLogicUptoRow : OpenClaim := { program := "ytlmghhfpoeocnaadoor", sum := "ee13c87cd90f3c414122d78d4a129a1ebbf773115d7cbc1af24eab8777a86d4b", func := "foretell/foretellkeep.EvalLogic", spec := "evalLogic", unfollowed := true, recurses := true, named := ["foretell/polish.partCounts"], apart := false, laid := [("foretell/polish.partCounts", laid_foretell_polish_partCounts)], narrowed := true }
def EvalLogicUptoSaid : Prop := evalLogicUptoRow.holds Tryd.pinned (OpenSpec.upto evalLogicSpec)

/-- 'foretellkeep.EvalOver', WHERE WHAT IT READS IS OF BULK AT MOST 1048576: true; the input reads as it did. -/
def evalOverUptoRow : OpenClaim := { program := "ytlmghhfpoeocnaadoor", sum := "ee13c87cd90f3c414122d78d4a129a1ebbf773115d7cbc1af24eab8777a86d4b", func := "foretell/foretellkeep.EvalOver", spec := "evalOver", unfollowed := true, recurses := true, named := ["foretell/polish.partCounts"], apart := false, laid := [("foretell/polish.partCounts", laid_foretell_polish_partCounts)], narrowed := true }
def EvalOverUptoSaid : Prop := evalOverUptoRow.holds Tryd.pinned (OpenSpec.upto evalOverSpec)

end Rows
end Go.Proofs.YtlmghhfpoeocnaaDoor
