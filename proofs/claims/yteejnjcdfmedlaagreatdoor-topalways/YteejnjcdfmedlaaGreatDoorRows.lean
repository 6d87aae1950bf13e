/-
  NARROWER THAN 'FOR EVERY INPUT', by the rows' own cells (each row's printed sentence says how): TopFair: laid · TopMore: laid · TopOrder: laid · TopAlways: laid.
  DERIVED. THE GIVEN ROWS OF THIS SEAT. 4 by the template 'for every input the law returns true; each argument reads behind the call as it read before'; 0 by the template 'total and deterministic' (their statements: YteejnjcdfmedlaaGreatDoorTotals.lean).
  GIVEN WITH THE SEED: the statements are not yours to turn. If you find one false, say at which input.
  Laid BY PROGRAM, IN A SANDBOX (cutbox-rows.mjs): the forced cells as the released guide's own fill.sh prints them over the translation 60b4c21af42526dd… (all of the seat's roots in one cut). By AI agents, Wed Nov 11 2026. No macro, syntax, notation, axiom, sorry.
-/
import Derived.Test.YteejnjcdfmedlaaGreatDoorChecked
import GoSem.Claim
import GoSem.ClaimJoined
import GoSem.ClaimMapViews
import Derived.JoinedTies
import Derived.KernelRfl
namespace Go.Proofs.YteejnjcdfmedlaaGreatDoor
/- THE CELL 'sum', in the pinned program and in every row, IS THE sha256 OF THE DUMP (.gsa) THAT YteejnjcdfmedlaaGreatDoorProg.lean LOADS. Nothing in Lean hashes anything: it is a label: what it is worth is what the hold of that sum in a sandbox is worth. -/
noncomputable def Tryz.pinned : Pinned := { name := "yteejnjcdfmedlaagreatdoor", sum := "60b4c21af42526dd5d21853f7d0d4731a961f0f8200ab7b5ebe1f822f9cfad22", checked := Tryz.checked }
namespace Rows
def none {H : Type} : Left H := { results := [], args := [] }

/- WHAT THE LISTED PACKAGE-LEVEL VARIABLES READ AS WHEN THE CALL BEGINS. Each datum BY PROGRAM (the guide's laid-datum.mjs) off the statement by which the dump's own 'gosem.cut.vars' lays the variable. In a bare row this is a premise. The card (YteejnjcdfmedlaaGreatDoorCards.lean) ties it to the program's text. -/
def laid_foretell_polish_partCounts {H : Type} : DataW H := .agg [.lit (.int .i64 0), .lit (.int .i64 0), .lit (.int .i64 0), .lit (.int .i64 2), .lit (.int .i64 2), .lit (.int .i64 2), .lit (.int .i64 2), .lit (.int .i64 2), .lit (.int .i64 2), .lit (.int .i64 2), .lit (.int .i64 1), .lit (.int .i64 0), .lit (.int .i64 0), .lit (.int .i64 0), .lit (.int .i64 1), .lit (.int .i64 2), .lit (.int .i64 2), .lit (.int .i64 1), .lit (.int .i64 1)]

/-- 'foretelltop.TopFair': WHATEVER THE INPUT: true; the input reads as it did. -/
def topFairSpec : ChangeSpec := { name := "topFair", fn := fun _ => fun
  | [d1, d2] => { results := [.lit (.bool true)], args := [d1, d2] }
  | _ => none }
def topFairRow : OpenClaim := { program := "yteejnjcdfmedlaagreatdoor", sum := "60b4c21af42526dd5d21853f7d0d4731a961f0f8200ab7b5ebe1f822f9cfad22", func := "foretell/foretelltop.TopFair", spec := "topFair", unfollowed := true, recurses := true, named := ["foretell/polish.partCounts"], plainKeys := false, apart := false, laid := [("foretell/polish.partCounts", laid_foretell_polish_partCounts)] }
def TopFairSaid : Prop := topFairRow.holds Tryz.pinned (OpenSpec.ofChange topFairSpec)

/-- ITS FALSE NEIGHBOUR: 'it returns false'. Refute it at one input. -/
def topFairWrong : ChangeSpec := { name := "topFair", fn := fun _ => fun
  | [d1, d2] => { results := [.lit (.bool false)], args := [d1, d2] }
  | _ => none }
def TopFairWrongFalsely : Prop := topFairRow.holds Tryz.pinned (OpenSpec.ofChange topFairWrong)

/-- 'foretelltop.TopMore': WHATEVER THE INPUT: true; the input reads as it did. -/
def topMoreSpec : ChangeSpec := { name := "topMore", fn := fun _ => fun
  | [d1, d2] => { results := [.lit (.bool true)], args := [d1, d2] }
  | _ => none }
def topMoreRow : OpenClaim := { program := "yteejnjcdfmedlaagreatdoor", sum := "60b4c21af42526dd5d21853f7d0d4731a961f0f8200ab7b5ebe1f822f9cfad22", func := "foretell/foretelltop.TopMore", spec := "topMore", unfollowed := true, recurses := true, named := ["foretell/polish.partCounts"], plainKeys := false, apart := false, laid := [("foretell/polish.partCounts", laid_foretell_polish_partCounts)] }
def TopMoreSaid : Prop := topMoreRow.holds Tryz.pinned (OpenSpec.ofChange topMoreSpec)

/-- ITS FALSE NEIGHBOUR: 'it returns false'. Refute it at one input. -/
def topMoreWrong : ChangeSpec := { name := "topMore", fn := fun _ => fun
  | [d1, d2] => { results := [.lit (.bool false)], args := [d1, d2] }
  | _ => none }
def TopMoreWrongFalsely : Prop := topMoreRow.holds Tryz.pinned (OpenSpec.ofChange topMoreWrong)

/-- 'foretelltop.TopOrder': WHATEVER THE INPUT: true; the input reads as it did. -/
def topOrderSpec : ChangeSpec := { name := "topOrder", fn := fun _ => fun
  | [d1, d2, d3] => { results := [.lit (.bool true)], args := [d1, d2, d3] }
  | _ => none }
def topOrderRow : OpenClaim := { program := "yteejnjcdfmedlaagreatdoor", sum := "60b4c21af42526dd5d21853f7d0d4731a961f0f8200ab7b5ebe1f822f9cfad22", func := "foretell/foretelltop.TopOrder", spec := "topOrder", unfollowed := true, recurses := true, named := ["foretell/polish.partCounts"], plainKeys := false, apart := false, laid := [("foretell/polish.partCounts", laid_foretell_polish_partCounts)] }
def TopOrderSaid : Prop := topOrderRow.holds Tryz.pinned (OpenSpec.ofChange topOrderSpec)

/-- ITS FALSE NEIGHBOUR: 'it returns false'. Refute it at one input. -/
def topOrderWrong : ChangeSpec := { name := "topOrder", fn := fun _ => fun
  | [d1, d2, d3] => { results := [.lit (.bool false)], args := [d1, d2, d3] }
  | _ => none }
def TopOrderWrongFalsely : Prop := topOrderRow.holds Tryz.pinned (OpenSpec.ofChange topOrderWrong)

/-- 'foretelltop.TopAlways': WHATEVER THE INPUT: true; the input reads as it did. -/
def topAlwaysSpec : ChangeSpec := { name := "topAlways", fn := fun _ => fun
  | [d1, d2] => { results := [.lit (.bool true)], args := [d1, d2] }
  | _ => none }
def topAlwaysRow : OpenClaim := { program := "yteejnjcdfmedlaagreatdoor", sum := "60b4c21af42526dd5d21853f7d0d4731a961f0f8200ab7b5ebe1f822f9cfad22", func := "foretell/foretelltop.TopAlways", spec := "topAlways", unfollowed := true, recurses := true, named := ["foretell/polish.partCounts"], plainKeys := false, apart := false, laid := [("foretell/polish.partCounts", laid_foretell_polish_partCounts)] }
def TopAlwaysSaid : Prop := topAlwaysRow.holds Tryz.pinned (OpenSpec.ofChange topAlwaysSpec)

/-- ITS FALSE NEIGHBOUR: 'it returns false'. Refute it at one input. -/
def topAlwaysWrong : ChangeSpec := { name := "topAlways", fn := fun _ => fun
  | [d1, d2] => { results := [.lit (.bool false)], args := [d1, d2] }
  | _ => none }
def TopAlwaysWrongFalsely : Prop := topAlwaysRow.holds Tryz.pinned (OpenSpec.ofChange topAlwaysWrong)

/- THE SECOND FORM. 'bulk': how many values and letters a reading holds, each counted each time it is reached (what is shared counts as often as it is met; a slice's spare places count too). A statement '..UptoSaid' is the law's where the arguments, and the package variables that the reading takes, are together of bulk at most 1048576: NARROWER than '..Said'. Prove '..Said' where nothing that the law and all that it calls make is longer than what came in: it says more and counts as full. Else prove '..UptoSaid'. A law counts once. -/
mutual
def uptoBulk {H : Type} : DataW H → Nat
  | .lit (.string bytes) => bytes.length + 1
  | .lit _ => 1
  | .nil => 1
  | .ptr d => uptoBulk d + 1
  | .slice elems spare => uptoBulkAll elems + uptoBulkAll spare + 1
  | .agg parts => uptoBulkAll parts + 1
  | .iface _ d => uptoBulk d + 1
  | .map entries => uptoBulkEntries entries + 1
  | .held _ => 1
def uptoBulkAll {H : Type} : List (DataW H) → Nat
  | [] => 0
  | d :: r => uptoBulk d + uptoBulkAll r
def uptoBulkEntries {H : Type} : List (Lit × DataW H) → Nat
  | [] => 0
  | x :: r => uptoBulkEntry x + uptoBulkEntries r
def uptoBulkEntry {H : Type} : Lit × DataW H → Nat
  | (.string bytes, d) => bytes.length + uptoBulk d + 1
  | (_, d) => uptoBulk d + 1
 end
def uptoSmall : (H : Type) → List (DataW H) → Bool := fun _ ds => decide (uptoBulkAll ds ≤ 1048576)
def OpenSpec.upto (s : _root_.Go.ChangeSpec) : _root_.Go.OpenSpec := { _root_.Go.OpenSpec.ofChange s with cond := some uptoSmall }

/-- 'foretelltop.TopFair', WHERE WHAT IT READS IS OF BULK AT MOST 1048576: true; the input reads as it did. -/
def topFairUptoRow : OpenClaim := { program := "yteejnjcdfmedlaagreatdoor", sum := "60b4c21af42526dd5d21853f7d0d4731a961f0f8200ab7b5ebe1f822f9cfad22", func := "foretell/foretelltop.TopFair", spec := "topFair", unfollowed := true, recurses := true, named := ["foretell/polish.partCounts"], plainKeys := false, apart := false, laid := [("foretell/polish.partCounts", laid_foretell_polish_partCounts)], narrowed := true }
def TopFairUptoSaid : Prop := topFairUptoRow.holds Tryz.pinned (OpenSpec.upto topFairSpec)

/-- 'foretelltop.TopMore', WHERE WHAT IT READS IS OF BULK AT MOST 1048576: true; the input reads as it did. -/
def topMoreUptoRow : OpenClaim := { program := "yteejnjcdfmedlaagreatdoor", sum := "60b4c21af42526dd5d21853f7d0d4731a961f0f8200ab7b5ebe1f822f9cfad22", func := "foretell/foretelltop.TopMore", spec := "topMore", unfollowed := true, recurses := true, named := ["foretell/polish.partCounts"], plainKeys := false, apart := false, laid := [("foretell/polish.partCounts", laid_foretell_polish_partCounts)], narrowed := true }
def TopMoreUptoSaid : Prop := topMoreUptoRow.holds Tryz.pinned (OpenSpec.upto topMoreSpec)

/-- 'foretelltop.TopOrder', WHERE WHAT IT READS IS OF BULK AT MOST 1048576: true; the input reads as it did. -/
def topOrderUptoRow : OpenClaim := { program := "yteejnjcdfmedlaagreatdoor", sum := "60b4c21af42526dd5d21853f7d0d4731a961f0f8200ab7b5ebe1f822f9cfad22", func := "foretell/foretelltop.TopOrder", spec := "topOrder", unfollowed := true, recurses := true, named := ["foretell/polish.partCounts"], plainKeys := false, apart := false, laid := [("foretell/polish.partCounts", laid_foretell_polish_partCounts)], narrowed := true }
def TopOrderUptoSaid : Prop := topOrderUptoRow.holds Tryz.pinned (OpenSpec.upto topOrderSpec)

/-- 'foretelltop.TopAlways', WHERE WHAT IT READS IS OF BULK AT MOST 1048576: true; the input reads as it did. -/
def topAlwaysUptoRow : OpenClaim := { program := "yteejnjcdfmedlaagreatdoor", sum := "60b4c21af42526dd5d21853f7d0d4731a961f0f8200ab7b5ebe1f822f9cfad22", func := "foretell/foretelltop.TopAlways", spec := "topAlways", unfollowed := true, recurses := true, named := ["foretell/polish.partCounts"], plainKeys := false, apart := false, laid := [("foretell/polish.partCounts", laid_foretell_polish_partCounts)], narrowed := true }
def TopAlwaysUptoSaid : Prop := topAlwaysUptoRow.holds Tryz.pinned (OpenSpec.upto topAlwaysSpec)

end Rows
end Go.Proofs.YteejnjcdfmedlaaGreatDoor
