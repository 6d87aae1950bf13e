/-
  NARROWER THAN 'FOR EVERY INPUT', by the rows' own cells (each row's printed sentence says how): TopYes: laid · TopNot: laid · TopAnd: laid · TopOr: laid · TopDuals: laid · TopChain: laid.
  DERIVED. THE GIVEN ROWS OF THIS SEAT. 6 by the template 'for every input the law returns true; each argument reads behind the call as it read before'; 0 by the template 'total and deterministic' (their statements: YtobopjjmhginlaaGreatDoorTotals.lean).
  GIVEN WITH THE SEED: the statements are not yours to turn. If you find one false, say at which input.
  Laid BY PROGRAM, IN A SANDBOX (cutbox-rows.mjs): the forced cells as the released guide's own fill.sh prints them over the translation 67aeecfa0237e122… (all of the seat's roots in one cut). By AI agents, Wed Nov 11 2026. No macro, syntax, notation, axiom, sorry.
-/
import Derived.Test.YtobopjjmhginlaaGreatDoorChecked
import GoSem.Claim
import GoSem.ClaimJoined
import GoSem.ClaimMapViews
import Derived.JoinedTies
import Derived.KernelRfl
namespace Go.Proofs.YtobopjjmhginlaaGreatDoor
/- THE CELL 'sum', in the pinned program and in every row, IS THE sha256 OF THE DUMP (.gsa) THAT YtobopjjmhginlaaGreatDoorProg.lean LOADS. Nothing in Lean hashes anything: it is a label: what it is worth is what the hold of that sum in a sandbox is worth. -/
noncomputable def Tryz.pinned : Pinned := { name := "ytobopjjmhginlaagreatdoor", sum := "67aeecfa0237e122a82dc851276d6456e24f7747771b961ac9b33b3674f6c7a8", checked := Tryz.checked }
namespace Rows
def none {H : Type} : Left H := { results := [], args := [] }

/- WHAT THE LISTED PACKAGE-LEVEL VARIABLES READ AS WHEN THE CALL BEGINS. Each datum BY PROGRAM (the guide's laid-datum.mjs) off the statement by which the dump's own 'gosem.cut.vars' lays the variable. In a bare row this is a premise. The card (YtobopjjmhginlaaGreatDoorCards.lean) ties it to the program's text. -/
def laid_foretell_polish_partCounts {H : Type} : DataW H := .agg [.lit (.int .i64 0), .lit (.int .i64 0), .lit (.int .i64 0), .lit (.int .i64 2), .lit (.int .i64 2), .lit (.int .i64 2), .lit (.int .i64 2), .lit (.int .i64 2), .lit (.int .i64 2), .lit (.int .i64 2), .lit (.int .i64 1), .lit (.int .i64 0), .lit (.int .i64 0), .lit (.int .i64 0), .lit (.int .i64 1), .lit (.int .i64 2), .lit (.int .i64 2), .lit (.int .i64 1), .lit (.int .i64 1)]

/-- 'foretelltop.TopYes': WHATEVER THE INPUT: true; the input reads as it did. -/
def topYesSpec : ChangeSpec := { name := "topYes", fn := fun _ => fun
  | [d] => { results := [.lit (.bool true)], args := [d] }
  | _ => none }
def topYesRow : OpenClaim := { program := "ytobopjjmhginlaagreatdoor", sum := "67aeecfa0237e122a82dc851276d6456e24f7747771b961ac9b33b3674f6c7a8", func := "foretell/foretelltop.TopYes", spec := "topYes", unfollowed := true, recurses := true, named := ["foretell/polish.partCounts"], plainKeys := false, apart := false, laid := [("foretell/polish.partCounts", laid_foretell_polish_partCounts)] }
def TopYesSaid : Prop := topYesRow.holds Tryz.pinned (OpenSpec.ofChange topYesSpec)

/-- ITS FALSE NEIGHBOUR: 'it returns false'. Refute it at one input. -/
def topYesWrong : ChangeSpec := { name := "topYes", fn := fun _ => fun
  | [d] => { results := [.lit (.bool false)], args := [d] }
  | _ => none }
def TopYesWrongFalsely : Prop := topYesRow.holds Tryz.pinned (OpenSpec.ofChange topYesWrong)

/-- 'foretelltop.TopNot': WHATEVER THE INPUT: true; the input reads as it did. -/
def topNotSpec : ChangeSpec := { name := "topNot", fn := fun _ => fun
  | [d1, d2] => { results := [.lit (.bool true)], args := [d1, d2] }
  | _ => none }
def topNotRow : OpenClaim := { program := "ytobopjjmhginlaagreatdoor", sum := "67aeecfa0237e122a82dc851276d6456e24f7747771b961ac9b33b3674f6c7a8", func := "foretell/foretelltop.TopNot", spec := "topNot", unfollowed := true, recurses := true, named := ["foretell/polish.partCounts"], plainKeys := false, apart := false, laid := [("foretell/polish.partCounts", laid_foretell_polish_partCounts)] }
def TopNotSaid : Prop := topNotRow.holds Tryz.pinned (OpenSpec.ofChange topNotSpec)

/-- ITS FALSE NEIGHBOUR: 'it returns false'. Refute it at one input. -/
def topNotWrong : ChangeSpec := { name := "topNot", fn := fun _ => fun
  | [d1, d2] => { results := [.lit (.bool false)], args := [d1, d2] }
  | _ => none }
def TopNotWrongFalsely : Prop := topNotRow.holds Tryz.pinned (OpenSpec.ofChange topNotWrong)

/-- 'foretelltop.TopAnd': WHATEVER THE INPUT: true; the input reads as it did. -/
def topAndSpec : ChangeSpec := { name := "topAnd", fn := fun _ => fun
  | [d1, d2, d3] => { results := [.lit (.bool true)], args := [d1, d2, d3] }
  | _ => none }
def topAndRow : OpenClaim := { program := "ytobopjjmhginlaagreatdoor", sum := "67aeecfa0237e122a82dc851276d6456e24f7747771b961ac9b33b3674f6c7a8", func := "foretell/foretelltop.TopAnd", spec := "topAnd", unfollowed := true, recurses := true, named := ["foretell/polish.partCounts"], plainKeys := false, apart := false, laid := [("foretell/polish.partCounts", laid_foretell_polish_partCounts)] }
def TopAndSaid : Prop := topAndRow.holds Tryz.pinned (OpenSpec.ofChange topAndSpec)

/-- ITS FALSE NEIGHBOUR: 'it returns false'. Refute it at one input. -/
def topAndWrong : ChangeSpec := { name := "topAnd", fn := fun _ => fun
  | [d1, d2, d3] => { results := [.lit (.bool false)], args := [d1, d2, d3] }
  | _ => none }
def TopAndWrongFalsely : Prop := topAndRow.holds Tryz.pinned (OpenSpec.ofChange topAndWrong)

/-- 'foretelltop.TopOr': WHATEVER THE INPUT: true; the input reads as it did. -/
def topOrSpec : ChangeSpec := { name := "topOr", fn := fun _ => fun
  | [d1, d2, d3] => { results := [.lit (.bool true)], args := [d1, d2, d3] }
  | _ => none }
def topOrRow : OpenClaim := { program := "ytobopjjmhginlaagreatdoor", sum := "67aeecfa0237e122a82dc851276d6456e24f7747771b961ac9b33b3674f6c7a8", func := "foretell/foretelltop.TopOr", spec := "topOr", unfollowed := true, recurses := true, named := ["foretell/polish.partCounts"], plainKeys := false, apart := false, laid := [("foretell/polish.partCounts", laid_foretell_polish_partCounts)] }
def TopOrSaid : Prop := topOrRow.holds Tryz.pinned (OpenSpec.ofChange topOrSpec)

/-- ITS FALSE NEIGHBOUR: 'it returns false'. Refute it at one input. -/
def topOrWrong : ChangeSpec := { name := "topOr", fn := fun _ => fun
  | [d1, d2, d3] => { results := [.lit (.bool false)], args := [d1, d2, d3] }
  | _ => none }
def TopOrWrongFalsely : Prop := topOrRow.holds Tryz.pinned (OpenSpec.ofChange topOrWrong)

/-- 'foretelltop.TopDuals': WHATEVER THE INPUT: true; the input reads as it did. -/
def topDualsSpec : ChangeSpec := { name := "topDuals", fn := fun _ => fun
  | [d1, d2, d3] => { results := [.lit (.bool true)], args := [d1, d2, d3] }
  | _ => none }
def topDualsRow : OpenClaim := { program := "ytobopjjmhginlaagreatdoor", sum := "67aeecfa0237e122a82dc851276d6456e24f7747771b961ac9b33b3674f6c7a8", func := "foretell/foretelltop.TopDuals", spec := "topDuals", unfollowed := true, recurses := true, named := ["foretell/polish.partCounts"], plainKeys := false, apart := false, laid := [("foretell/polish.partCounts", laid_foretell_polish_partCounts)] }
def TopDualsSaid : Prop := topDualsRow.holds Tryz.pinned (OpenSpec.ofChange topDualsSpec)

/-- ITS FALSE NEIGHBOUR: 'it returns false'. Refute it at one input. -/
def topDualsWrong : ChangeSpec := { name := "topDuals", fn := fun _ => fun
  | [d1, d2, d3] => { results := [.lit (.bool false)], args := [d1, d2, d3] }
  | _ => none }
def TopDualsWrongFalsely : Prop := topDualsRow.holds Tryz.pinned (OpenSpec.ofChange topDualsWrong)

/-- 'foretelltop.TopChain': WHATEVER THE INPUT: true; the input reads as it did. -/
def topChainSpec : ChangeSpec := { name := "topChain", fn := fun _ => fun
  | [d1, d2] => { results := [.lit (.bool true)], args := [d1, d2] }
  | _ => none }
def topChainRow : OpenClaim := { program := "ytobopjjmhginlaagreatdoor", sum := "67aeecfa0237e122a82dc851276d6456e24f7747771b961ac9b33b3674f6c7a8", func := "foretell/foretelltop.TopChain", spec := "topChain", unfollowed := true, recurses := true, named := ["foretell/polish.partCounts"], plainKeys := false, apart := false, laid := [("foretell/polish.partCounts", laid_foretell_polish_partCounts)] }
def TopChainSaid : Prop := topChainRow.holds Tryz.pinned (OpenSpec.ofChange topChainSpec)

/-- ITS FALSE NEIGHBOUR: 'it returns false'. Refute it at one input. -/
def topChainWrong : ChangeSpec := { name := "topChain", fn := fun _ => fun
  | [d1, d2] => { results := [.lit (.bool false)], args := [d1, d2] }
  | _ => none }
def TopChainWrongFalsely : Prop := topChainRow.holds Tryz.pinned (OpenSpec.ofChange topChainWrong)

/- THE SECOND FORM. 'bulk': how many values and letters a reading holds, each counted each time it is reached (what is shared counts as often as it is met; a slice's spare places count too). A statement '..UptoSaid' is the law's where the arguments, and the package variables that the reading takes, are together of bulk at most 1048576: NARROWER than '..Said'. Prove '..Said' where nothing that the law and all that it calls make is longer than what came in: it says more and counts as full. Else prove '..UptoSaid'. A law counts once. -/
mutual
def uptoBulk {H : Type} : DataW H → Nat
  | .lit (.string bytes) => bytes.length + 1
  | .lit _ => 1
  | .nil => 1
  | .ptr d => uptoBulk d + 1
  | .slice elems spare => uptoBulkAll elems + uptoBulkAll spare + 1
  | .agg parts => uptoBulkAll parts + 1
  | .iface _ d => uptoBulk d + 1
  | .map entries => uptoBulkEntries entries + 1
  | .held _ => 1
def uptoBulkAll {H : Type} : List (DataW H) → Nat
  | [] => 0
  | d :: r => uptoBulk d + uptoBulkAll r
def uptoBulkEntries {H : Type} : List (Lit × DataW H) → Nat
  | [] => 0
  | x :: r => uptoBulkEntry x + uptoBulkEntries r
def uptoBulkEntry {H : Type} : Lit × DataW H → Nat
  | (.string bytes, d) => bytes.length + uptoBulk d + 1
  | (_, d) => uptoBulk d + 1
 end
def uptoSmall : (H : Type) → List (DataW H) → Bool := fun _ ds => decide (uptoBulkAll ds ≤ 1048576)
def OpenSpec.upto (s : _root_.Go.ChangeSpec) : _root_.Go.OpenSpec := { _root_.Go.OpenSpec.ofChange s with cond := some uptoSmall }

/-- 'foretelltop.TopYes', WHERE WHAT IT READS IS OF BULK AT MOST 1048576: true; the input reads as it did. -/
def topYesUptoRow : OpenClaim := { program := "ytobopjjmhginlaagreatdoor", sum := "67aeecfa0237e122a82dc851276d6456e24f7747771b961ac9b33b3674f6c7a8", func := "foretell/foretelltop.TopYes", spec := "topYes", unfollowed := true, recurses := true, named := ["foretell/polish.partCounts"], plainKeys := false, apart := false, laid := [("foretell/polish.partCounts", laid_foretell_polish_partCounts)], narrowed := true }
def TopYesUptoSaid : Prop := topYesUptoRow.holds Tryz.pinned (OpenSpec.upto topYesSpec)

/-- 'foretelltop.TopNot', WHERE WHAT IT READS IS OF BULK AT MOST 1048576: true; the input reads as it did. -/
def topNotUptoRow : OpenClaim := { program := "ytobopjjmhginlaagreatdoor", sum := "67aeecfa0237e122a82dc851276d6456e24f7747771b961ac9b33b3674f6c7a8", func := "foretell/foretelltop.TopNot", spec := "topNot", unfollowed := true, recurses := true, named := ["foretell/polish.partCounts"], plainKeys := false, apart := false, laid := [("foretell/polish.partCounts", laid_foretell_polish_partCounts)], narrowed := true }
def TopNotUptoSaid : Prop := topNotUptoRow.holds Tryz.pinned (OpenSpec.upto topNotSpec)

/-- 'foretelltop.TopAnd', WHERE WHAT IT READS IS OF BULK AT MOST 1048576: true; the input reads as it did. -/
def topAndUptoRow : OpenClaim := { program := "ytobopjjmhginlaagreatdoor", sum := "67aeecfa0237e122a82dc851276d6456e24f7747771b961ac9b33b3674f6c7a8", func := "foretell/foretelltop.TopAnd", spec := "topAnd", unfollowed := true, recurses := true, named := ["foretell/polish.partCounts"], plainKeys := false, apart := false, laid := [("foretell/polish.partCounts", laid_foretell_polish_partCounts)], narrowed := true }
def TopAndUptoSaid : Prop := topAndUptoRow.holds Tryz.pinned (OpenSpec.upto topAndSpec)

/-- 'foretelltop.TopOr', WHERE WHAT IT READS IS OF BULK AT MOST 1048576: true; the input reads as it did. -/
def topOrUptoRow : OpenClaim := { program := "ytobopjjmhginlaagreatdoor", sum := "67aeecfa0237e122a82dc851276d6456e24f7747771b961ac9b33b3674f6c7a8", func := "foretell/foretelltop.TopOr", spec := "topOr", unfollowed := true, recurses := true, named := ["foretell/polish.partCounts"], plainKeys := false, apart := false, laid := [("foretell/polish.partCounts", laid_foretell_polish_partCounts)], narrowed := true }
def TopOrUptoSaid : Prop := topOrUptoRow.holds Tryz.pinned (OpenSpec.upto topOrSpec)

/-- 'foretelltop.TopDuals', WHERE WHAT IT READS IS OF BULK AT MOST 1048576: true; the input reads as it did. -/
def topDualsUptoRow : OpenClaim := { program := "ytobopjjmhginlaagreatdoor", sum := "67aeecfa0237e122a82dc851276d6456e24f7747771b961ac9b33b3674f6c7a8", func := "foretell/foretelltop.TopDuals", spec := "topDuals", unfollowed := true, recurses := true, named := ["foretell/polish.partCounts"], plainKeys := false, apart := false, laid := [("foretell/polish.partCounts", laid_foretell_polish_partCounts)], narrowed := true }
def TopDualsUptoSaid : Prop := topDualsUptoRow.holds Tryz.pinned (OpenSpec.upto topDualsSpec)

/-- 'foretelltop.TopChain', WHERE WHAT IT READS IS OF BULK AT MOST 1048576: true; the input reads as it did. -/
def topChainUptoRow : OpenClaim := { program := "ytobopjjmhginlaagreatdoor", sum := "67aeecfa0237e122a82dc851276d6456e24f7747771b961ac9b33b3674f6c7a8", func := "foretell/foretelltop.TopChain", spec := "topChain", unfollowed := true, recurses := true, named := ["foretell/polish.partCounts"], plainKeys := false, apart := false, laid := [("foretell/polish.partCounts", laid_foretell_polish_partCounts)], narrowed := true }
def TopChainUptoSaid : Prop := topChainUptoRow.holds Tryz.pinned (OpenSpec.upto topChainSpec)

end Rows
end Go.Proofs.YtobopjjmhginlaaGreatDoor
