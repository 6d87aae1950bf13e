/-
  NARROWER THAN 'FOR EVERY INPUT', by the rows' own cells (each row's printed sentence says how): TopWeak: laid · TopNest: laid · TopSplit: laid · TopReach: laid.
  DERIVED. THE GIVEN ROWS OF THIS SEAT. 4 by the template 'for every input the law returns true; each argument reads behind the call as it read before'; 0 by the template 'total and deterministic' (their statements: YtobopjjmhginlabGreatDoorTotals.lean).
  GIVEN WITH THE SEED: the statements are not yours to turn. If you find one false, say at which input.
  Laid BY PROGRAM, IN A SANDBOX (cutbox-rows.mjs): the forced cells as the released guide's own fill.sh prints them over the translation 3a8c5925d245dd84… (all of the seat's roots in one cut). By AI agents, Wed Nov 11 2026. No macro, syntax, notation, axiom, sorry.
-/
import Derived.Test.YtobopjjmhginlabGreatDoorChecked
import GoSem.Claim
import GoSem.ClaimJoined
import GoSem.ClaimMapViews
import Derived.JoinedTies
import Derived.KernelRfl
namespace Go.Proofs.YtobopjjmhginlabGreatDoor
/- THE CELL 'sum', in the pinned program and in every row, IS THE sha256 OF THE DUMP (.gsa) THAT YtobopjjmhginlabGreatDoorProg.lean LOADS. Nothing in Lean hashes anything: it is a label: what it is worth is what the hold of that sum in a sandbox is worth. -/
noncomputable def Tryz.pinned : Pinned := { name := "ytobopjjmhginlabgreatdoor", sum := "3a8c5925d245dd844d96d2aa4847d4a8c1819ce1f2670db3934578470c90fd2d", checked := Tryz.checked }
namespace Rows
def none {H : Type} : Left H := { results := [], args := [] }

/- WHAT THE LISTED PACKAGE-LEVEL VARIABLES READ AS WHEN THE CALL BEGINS. Each datum BY PROGRAM (the guide's laid-datum.mjs) off the statement by which the dump's own 'gosem.cut.vars' lays the variable. In a bare row this is a premise. The card (YtobopjjmhginlabGreatDoorCards.lean) ties it to the program's text. -/
def laid_foretell_polish_partCounts {H : Type} : DataW H := .agg [.lit (.int .i64 0), .lit (.int .i64 0), .lit (.int .i64 0), .lit (.int .i64 2), .lit (.int .i64 2), .lit (.int .i64 2), .lit (.int .i64 2), .lit (.int .i64 2), .lit (.int .i64 2), .lit (.int .i64 2), .lit (.int .i64 1), .lit (.int .i64 0), .lit (.int .i64 0), .lit (.int .i64 0), .lit (.int .i64 1), .lit (.int .i64 2), .lit (.int .i64 2), .lit (.int .i64 1), .lit (.int .i64 1)]

/-- 'foretelltop.TopWeak': WHATEVER THE INPUT: true; the input reads as it did. -/
def topWeakSpec : ChangeSpec := { name := "topWeak", fn := fun _ => fun
  | [d1, d2, d3] => { results := [.lit (.bool true)], args := [d1, d2, d3] }
  | _ => none }
def topWeakRow : OpenClaim := { program := "ytobopjjmhginlabgreatdoor", sum := "3a8c5925d245dd844d96d2aa4847d4a8c1819ce1f2670db3934578470c90fd2d", func := "foretell/foretelltop.TopWeak", spec := "topWeak", unfollowed := true, recurses := true, named := ["foretell/polish.partCounts"], plainKeys := false, apart := false, laid := [("foretell/polish.partCounts", laid_foretell_polish_partCounts)] }
def TopWeakSaid : Prop := topWeakRow.holds Tryz.pinned (OpenSpec.ofChange topWeakSpec)

/-- ITS FALSE NEIGHBOUR: 'it returns false'. Refute it at one input. -/
def topWeakWrong : ChangeSpec := { name := "topWeak", fn := fun _ => fun
  | [d1, d2, d3] => { results := [.lit (.bool false)], args := [d1, d2, d3] }
  | _ => none }
def TopWeakWrongFalsely : Prop := topWeakRow.holds Tryz.pinned (OpenSpec.ofChange topWeakWrong)

/-- 'foretelltop.TopNest': WHATEVER THE INPUT: true; the input reads as it did. -/
def topNestSpec : ChangeSpec := { name := "topNest", fn := fun _ => fun
  | [d1, d2] => { results := [.lit (.bool true)], args := [d1, d2] }
  | _ => none }
def topNestRow : OpenClaim := { program := "ytobopjjmhginlabgreatdoor", sum := "3a8c5925d245dd844d96d2aa4847d4a8c1819ce1f2670db3934578470c90fd2d", func := "foretell/foretelltop.TopNest", spec := "topNest", unfollowed := true, recurses := true, named := ["foretell/polish.partCounts"], plainKeys := false, apart := false, laid := [("foretell/polish.partCounts", laid_foretell_polish_partCounts)] }
def TopNestSaid : Prop := topNestRow.holds Tryz.pinned (OpenSpec.ofChange topNestSpec)

/-- ITS FALSE NEIGHBOUR: 'it returns false'. Refute it at one input. -/
def topNestWrong : ChangeSpec := { name := "topNest", fn := fun _ => fun
  | [d1, d2] => { results := [.lit (.bool false)], args := [d1, d2] }
  | _ => none }
def TopNestWrongFalsely : Prop := topNestRow.holds Tryz.pinned (OpenSpec.ofChange topNestWrong)

/-- 'foretelltop.TopSplit': WHATEVER THE INPUT: true; the input reads as it did. -/
def topSplitSpec : ChangeSpec := { name := "topSplit", fn := fun _ => fun
  | [d1, d2, d3] => { results := [.lit (.bool true)], args := [d1, d2, d3] }
  | _ => none }
def topSplitRow : OpenClaim := { program := "ytobopjjmhginlabgreatdoor", sum := "3a8c5925d245dd844d96d2aa4847d4a8c1819ce1f2670db3934578470c90fd2d", func := "foretell/foretelltop.TopSplit", spec := "topSplit", unfollowed := true, recurses := true, named := ["foretell/polish.partCounts"], plainKeys := false, apart := false, laid := [("foretell/polish.partCounts", laid_foretell_polish_partCounts)] }
def TopSplitSaid : Prop := topSplitRow.holds Tryz.pinned (OpenSpec.ofChange topSplitSpec)

/-- ITS FALSE NEIGHBOUR: 'it returns false'. Refute it at one input. -/
def topSplitWrong : ChangeSpec := { name := "topSplit", fn := fun _ => fun
  | [d1, d2, d3] => { results := [.lit (.bool false)], args := [d1, d2, d3] }
  | _ => none }
def TopSplitWrongFalsely : Prop := topSplitRow.holds Tryz.pinned (OpenSpec.ofChange topSplitWrong)

/-- 'foretelltop.TopReach': WHATEVER THE INPUT: true; the input reads as it did. -/
def topReachSpec : ChangeSpec := { name := "topReach", fn := fun _ => fun
  | [d1, d2] => { results := [.lit (.bool true)], args := [d1, d2] }
  | _ => none }
def topReachRow : OpenClaim := { program := "ytobopjjmhginlabgreatdoor", sum := "3a8c5925d245dd844d96d2aa4847d4a8c1819ce1f2670db3934578470c90fd2d", func := "foretell/foretelltop.TopReach", spec := "topReach", unfollowed := true, recurses := true, named := ["foretell/polish.partCounts"], plainKeys := false, apart := false, laid := [("foretell/polish.partCounts", laid_foretell_polish_partCounts)] }
def TopReachSaid : Prop := topReachRow.holds Tryz.pinned (OpenSpec.ofChange topReachSpec)

/-- ITS FALSE NEIGHBOUR: 'it returns false'. Refute it at one input. -/
def topReachWrong : ChangeSpec := { name := "topReach", fn := fun _ => fun
  | [d1, d2] => { results := [.lit (.bool false)], args := [d1, d2] }
  | _ => none }
def TopReachWrongFalsely : Prop := topReachRow.holds Tryz.pinned (OpenSpec.ofChange topReachWrong)

/- THE SECOND FORM. 'bulk': how many values and letters a reading holds, each counted each time it is reached (what is shared counts as often as it is met; a slice's spare places count too). A statement '..UptoSaid' is the law's where the arguments, and the package variables that the reading takes, are together of bulk at most 1048576: NARROWER than '..Said'. Prove '..Said' where nothing that the law and all that it calls make is longer than what came in: it says more and counts as full. Else prove '..UptoSaid'. A law counts once. -/
mutual
def uptoBulk {H : Type} : DataW H → Nat
  | .lit (.string bytes) => bytes.length + 1
  | .lit _ => 1
  | .nil => 1
  | .ptr d => uptoBulk d + 1
  | .slice elems spare => uptoBulkAll elems + uptoBulkAll spare + 1
  | .agg parts => uptoBulkAll parts + 1
  | .iface _ d => uptoBulk d + 1
  | .map entries => uptoBulkEntries entries + 1
  | .held _ => 1
def uptoBulkAll {H : Type} : List (DataW H) → Nat
  | [] => 0
  | d :: r => uptoBulk d + uptoBulkAll r
def uptoBulkEntries {H : Type} : List (Lit × DataW H) → Nat
  | [] => 0
  | x :: r => uptoBulkEntry x + uptoBulkEntries r
def uptoBulkEntry {H : Type} : Lit × DataW H → Nat
  | (.string bytes, d) => bytes.length + uptoBulk d + 1
  | (_, d) => uptoBulk d + 1
 end
def uptoSmall : (H : Type) → List (DataW H) → Bool := fun _ ds => decide (uptoBulkAll ds ≤ 1048576)
def OpenSpec.upto (s : _root_.Go.ChangeSpec) : _root_.Go.OpenSpec := { _root_.Go.OpenSpec.ofChange s with cond := some uptoSmall }

/-- 'foretelltop.TopWeak', WHERE WHAT IT READS IS OF BULK AT MOST 1048576: true; the input reads as it did. -/
def topWeakUptoRow : OpenClaim := { program := "ytobopjjmhginlabgreatdoor", sum := "3a8c5925d245dd844d96d2aa4847d4a8c1819ce1f2670db3934578470c90fd2d", func := "foretell/foretelltop.TopWeak", spec := "topWeak", unfollowed := true, recurses := true, named := ["foretell/polish.partCounts"], plainKeys := false, apart := false, laid := [("foretell/polish.partCounts", laid_foretell_polish_partCounts)], narrowed := true }
def TopWeakUptoSaid : Prop := topWeakUptoRow.holds Tryz.pinned (OpenSpec.upto topWeakSpec)

/-- 'foretelltop.TopNest', WHERE WHAT IT READS IS OF BULK AT MOST 1048576: true; the input reads as it did. -/
def topNestUptoRow : OpenClaim := { program := "ytobopjjmhginlabgreatdoor", sum := "3a8c5925d245dd844d96d2aa4847d4a8c1819ce1f2670db3934578470c90fd2d", func := "foretell/foretelltop.TopNest", spec := "topNest", unfollowed := true, recurses := true, named := ["foretell/polish.partCounts"], plainKeys := false, apart := false, laid := [("foretell/polish.partCounts", laid_foretell_polish_partCounts)], narrowed := true }
def TopNestUptoSaid : Prop := topNestUptoRow.holds Tryz.pinned (OpenSpec.upto topNestSpec)

/-- 'foretelltop.TopSplit', WHERE WHAT IT READS IS OF BULK AT MOST 1048576: true; the input reads as it did. -/
def topSplitUptoRow : OpenClaim := { program := "ytobopjjmhginlabgreatdoor", sum := "3a8c5925d245dd844d96d2aa4847d4a8c1819ce1f2670db3934578470c90fd2d", func := "foretell/foretelltop.TopSplit", spec := "topSplit", unfollowed := true, recurses := true, named := ["foretell/polish.partCounts"], plainKeys := false, apart := false, laid := [("foretell/polish.partCounts", laid_foretell_polish_partCounts)], narrowed := true }
def TopSplitUptoSaid : Prop := topSplitUptoRow.holds Tryz.pinned (OpenSpec.upto topSplitSpec)

/-- 'foretelltop.TopReach', WHERE WHAT IT READS IS OF BULK AT MOST 1048576: true; the input reads as it did. -/
def topReachUptoRow : OpenClaim := { program := "ytobopjjmhginlabgreatdoor", sum := "3a8c5925d245dd844d96d2aa4847d4a8c1819ce1f2670db3934578470c90fd2d", func := "foretell/foretelltop.TopReach", spec := "topReach", unfollowed := true, recurses := true, named := ["foretell/polish.partCounts"], plainKeys := false, apart := false, laid := [("foretell/polish.partCounts", laid_foretell_polish_partCounts)], narrowed := true }
def TopReachUptoSaid : Prop := topReachUptoRow.holds Tryz.pinned (OpenSpec.upto topReachSpec)

end Rows
end Go.Proofs.YtobopjjmhginlabGreatDoor
