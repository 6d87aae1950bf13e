/-
  NARROWER THAN 'FOR EVERY INPUT', by the rows' own cells (each row's printed sentence says how): SearchCalm: laid · SearchSame: laid · SearchEnough: laid · SearchTruth: laid.
  DERIVED. THE GIVEN ROWS OF THIS SEAT. 4 by the template 'for every input the law returns true; each argument reads behind the call as it read before'; 0 by the template 'total and deterministic' (their statements: YtehfhemidmfffaaGreatDoorTotals.lean).
  GIVEN WITH THE SEED: the statements are not yours to turn. If you find one false, say at which input.
  Laid BY PROGRAM, IN A SANDBOX (cutbox-rows.mjs): the forced cells as the released guide's own fill.sh prints them over the translation 54df7e41c387b0bf… (all of the seat's roots in one cut). By AI agents, Wed Nov 11 2026. No macro, syntax, notation, axiom, sorry.
-/
import Derived.Test.YtehfhemidmfffaaGreatDoorChecked
import GoSem.Claim
import GoSem.ClaimJoined
import GoSem.ClaimMapViews
import Derived.JoinedTies
import Derived.KernelRfl
namespace Go.Proofs.YtehfhemidmfffaaGreatDoor
/- THE CELL 'sum', in the pinned program and in every row, IS THE sha256 OF THE DUMP (.gsa) THAT YtehfhemidmfffaaGreatDoorProg.lean LOADS. Nothing in Lean hashes anything: it is a label: what it is worth is what the hold of that sum in a sandbox is worth. -/
noncomputable def Tryz.pinned : Pinned := { name := "ytehfhemidmfffaagreatdoor", sum := "54df7e41c387b0bfd5515c617c6ec0c9ed295bf330a9eebed4f17fffd36af4ef", checked := Tryz.checked }
namespace Rows
def none {H : Type} : Left H := { results := [], args := [] }

/- WHAT THE LISTED PACKAGE-LEVEL VARIABLES READ AS WHEN THE CALL BEGINS. Each datum BY PROGRAM (the guide's laid-datum.mjs) off the statement by which the dump's own 'gosem.cut.vars' lays the variable. In a bare row this is a premise. The card (YtehfhemidmfffaaGreatDoorCards.lean) ties it to the program's text. -/
def laid_foretell_polish_partCounts {H : Type} : DataW H := .agg [.lit (.int .i64 0), .lit (.int .i64 0), .lit (.int .i64 0), .lit (.int .i64 2), .lit (.int .i64 2), .lit (.int .i64 2), .lit (.int .i64 2), .lit (.int .i64 2), .lit (.int .i64 2), .lit (.int .i64 2), .lit (.int .i64 1), .lit (.int .i64 0), .lit (.int .i64 0), .lit (.int .i64 0), .lit (.int .i64 1), .lit (.int .i64 2), .lit (.int .i64 2), .lit (.int .i64 1), .lit (.int .i64 1)]

/-- 'foretelltop.SearchCalm': WHATEVER THE INPUT: true; the input reads as it did. -/
def searchCalmSpec : ChangeSpec := { name := "searchCalm", fn := fun _ => fun
  | [d1, d2, d3] => { results := [.lit (.bool true)], args := [d1, d2, d3] }
  | _ => none }
def searchCalmRow : OpenClaim := { program := "ytehfhemidmfffaagreatdoor", sum := "54df7e41c387b0bfd5515c617c6ec0c9ed295bf330a9eebed4f17fffd36af4ef", func := "foretell/foretelltop.SearchCalm", spec := "searchCalm", unfollowed := true, recurses := true, named := ["foretell/polish.partCounts"], plainKeys := false, apart := false, laid := [("foretell/polish.partCounts", laid_foretell_polish_partCounts)] }
def SearchCalmSaid : Prop := searchCalmRow.holds Tryz.pinned (OpenSpec.ofChange searchCalmSpec)

/-- ITS FALSE NEIGHBOUR: 'it returns false'. Refute it at one input. -/
def searchCalmWrong : ChangeSpec := { name := "searchCalm", fn := fun _ => fun
  | [d1, d2, d3] => { results := [.lit (.bool false)], args := [d1, d2, d3] }
  | _ => none }
def SearchCalmWrongFalsely : Prop := searchCalmRow.holds Tryz.pinned (OpenSpec.ofChange searchCalmWrong)

/-- 'foretelltop.SearchSame': WHATEVER THE INPUT: true; the input reads as it did. -/
def searchSameSpec : ChangeSpec := { name := "searchSame", fn := fun _ => fun
  | [d1, d2, d3, d4] => { results := [.lit (.bool true)], args := [d1, d2, d3, d4] }
  | _ => none }
def searchSameRow : OpenClaim := { program := "ytehfhemidmfffaagreatdoor", sum := "54df7e41c387b0bfd5515c617c6ec0c9ed295bf330a9eebed4f17fffd36af4ef", func := "foretell/foretelltop.SearchSame", spec := "searchSame", unfollowed := true, recurses := true, named := ["foretell/polish.partCounts"], plainKeys := false, apart := false, laid := [("foretell/polish.partCounts", laid_foretell_polish_partCounts)] }
def SearchSameSaid : Prop := searchSameRow.holds Tryz.pinned (OpenSpec.ofChange searchSameSpec)

/-- ITS FALSE NEIGHBOUR: 'it returns false'. Refute it at one input. -/
def searchSameWrong : ChangeSpec := { name := "searchSame", fn := fun _ => fun
  | [d1, d2, d3, d4] => { results := [.lit (.bool false)], args := [d1, d2, d3, d4] }
  | _ => none }
def SearchSameWrongFalsely : Prop := searchSameRow.holds Tryz.pinned (OpenSpec.ofChange searchSameWrong)

/-- 'foretelltop.SearchEnough': WHATEVER THE INPUT: true; the input reads as it did. -/
def searchEnoughSpec : ChangeSpec := { name := "searchEnough", fn := fun _ => fun
  | [d1, d2, d3] => { results := [.lit (.bool true)], args := [d1, d2, d3] }
  | _ => none }
def searchEnoughRow : OpenClaim := { program := "ytehfhemidmfffaagreatdoor", sum := "54df7e41c387b0bfd5515c617c6ec0c9ed295bf330a9eebed4f17fffd36af4ef", func := "foretell/foretelltop.SearchEnough", spec := "searchEnough", unfollowed := true, recurses := true, named := ["foretell/polish.partCounts"], plainKeys := false, apart := false, laid := [("foretell/polish.partCounts", laid_foretell_polish_partCounts)] }
def SearchEnoughSaid : Prop := searchEnoughRow.holds Tryz.pinned (OpenSpec.ofChange searchEnoughSpec)

/-- ITS FALSE NEIGHBOUR: 'it returns false'. Refute it at one input. -/
def searchEnoughWrong : ChangeSpec := { name := "searchEnough", fn := fun _ => fun
  | [d1, d2, d3] => { results := [.lit (.bool false)], args := [d1, d2, d3] }
  | _ => none }
def SearchEnoughWrongFalsely : Prop := searchEnoughRow.holds Tryz.pinned (OpenSpec.ofChange searchEnoughWrong)

/-- 'foretelltop.SearchTruth': WHATEVER THE INPUT: true; the input reads as it did. -/
def searchTruthSpec : ChangeSpec := { name := "searchTruth", fn := fun _ => fun
  | [d1, d2, d3] => { results := [.lit (.bool true)], args := [d1, d2, d3] }
  | _ => none }
def searchTruthRow : OpenClaim := { program := "ytehfhemidmfffaagreatdoor", sum := "54df7e41c387b0bfd5515c617c6ec0c9ed295bf330a9eebed4f17fffd36af4ef", func := "foretell/foretelltop.SearchTruth", spec := "searchTruth", unfollowed := true, recurses := true, named := ["foretell/polish.partCounts"], plainKeys := false, apart := false, laid := [("foretell/polish.partCounts", laid_foretell_polish_partCounts)] }
def SearchTruthSaid : Prop := searchTruthRow.holds Tryz.pinned (OpenSpec.ofChange searchTruthSpec)

/-- ITS FALSE NEIGHBOUR: 'it returns false'. Refute it at one input. -/
def searchTruthWrong : ChangeSpec := { name := "searchTruth", fn := fun _ => fun
  | [d1, d2, d3] => { results := [.lit (.bool false)], args := [d1, d2, d3] }
  | _ => none }
def SearchTruthWrongFalsely : Prop := searchTruthRow.holds Tryz.pinned (OpenSpec.ofChange searchTruthWrong)

/- THE SECOND FORM. 'bulk': how many values and letters a reading holds, each counted each time it is reached (what is shared counts as often as it is met; a slice's spare places count too). A statement '..UptoSaid' is the law's where the arguments, and the package variables that the reading takes, are together of bulk at most 1048576: NARROWER than '..Said'. Prove '..Said' where nothing that the law and all that it calls make is longer than what came in: it says more and counts as full. Else prove '..UptoSaid'. A law counts once. -/
mutual
def uptoBulk {H : Type} : DataW H → Nat
  | .lit (.string bytes) => bytes.length + 1
  | .lit _ => 1
  | .nil => 1
  | .ptr d => uptoBulk d + 1
  | .slice elems spare => uptoBulkAll elems + uptoBulkAll spare + 1
  | .agg parts => uptoBulkAll parts + 1
  | .iface _ d => uptoBulk d + 1
  | .map entries => uptoBulkEntries entries + 1
  | .held _ => 1
def uptoBulkAll {H : Type} : List (DataW H) → Nat
  | [] => 0
  | d :: r => uptoBulk d + uptoBulkAll r
def uptoBulkEntries {H : Type} : List (Lit × DataW H) → Nat
  | [] => 0
  | x :: r => uptoBulkEntry x + uptoBulkEntries r
def uptoBulkEntry {H : Type} : Lit × DataW H → Nat
  | (.string bytes, d) => bytes.length + uptoBulk d + 1
  | (_, d) => uptoBulk d + 1
 end
def uptoSmall : (H : Type) → List (DataW H) → Bool := fun _ ds => decide (uptoBulkAll ds ≤ 1048576)
def OpenSpec.upto (s : _root_.Go.ChangeSpec) : _root_.Go.OpenSpec := { _root_.Go.OpenSpec.ofChange s with cond := some uptoSmall }

/-- 'foretelltop.SearchCalm', WHERE WHAT IT READS IS OF BULK AT MOST 1048576: true; the input reads as it did. -/
def searchCalmUptoRow : OpenClaim := { program := "ytehfhemidmfffaagreatdoor", sum := "54df7e41c387b0bfd5515c617c6ec0c9ed295bf330a9eebed4f17fffd36af4ef", func := "foretell/foretelltop.SearchCalm", spec := "searchCalm", unfollowed := true, recurses := true, named := ["foretell/polish.partCounts"], plainKeys := false, apart := false, laid := [("foretell/polish.partCounts", laid_foretell_polish_partCounts)], narrowed := true }
def SearchCalmUptoSaid : Prop := searchCalmUptoRow.holds Tryz.pinned (OpenSpec.upto searchCalmSpec)

/-- 'foretelltop.SearchSame', WHERE WHAT IT READS IS OF BULK AT MOST 1048576: true; the input reads as it did. -/
def searchSameUptoRow : OpenClaim := { program := "ytehfhemidmfffaagreatdoor", sum := "54df7e41c387b0bfd5515c617c6ec0c9ed295bf330a9eebed4f17fffd36af4ef", func := "foretell/foretelltop.SearchSame", spec := "searchSame", unfollowed := true, recurses := true, named := ["foretell/polish.partCounts"], plainKeys := false, apart := false, laid := [("foretell/polish.partCounts", laid_foretell_polish_partCounts)], narrowed := true }
def SearchSameUptoSaid : Prop := searchSameUptoRow.holds Tryz.pinned (OpenSpec.upto searchSameSpec)

/-- 'foretelltop.SearchEnough', WHERE WHAT IT READS IS OF BULK AT MOST 1048576: true; the input reads as it did. -/
def searchEnoughUptoRow : OpenClaim := { program := "ytehfhemidmfffaagreatdoor", sum := "54df7e41c387b0bfd5515c617c6ec0c9ed295bf330a9eebed4f17fffd36af4ef", func := "foretell/foretelltop.SearchEnough", spec := "searchEnough", unfollowed := true, recurses := true, named := ["foretell/polish.partCounts"], plainKeys := false, apart := false, laid := [("foretell/polish.partCounts", laid_foretell_polish_partCounts)], narrowed := true }
def SearchEnoughUptoSaid : Prop := searchEnoughUptoRow.holds Tryz.pinned (OpenSpec.upto searchEnoughSpec)

/-- 'foretelltop.SearchTruth', WHERE WHAT IT READS IS OF BULK AT MOST 1048576: true; the input reads as it did. -/
def searchTruthUptoRow : OpenClaim := { program := "ytehfhemidmfffaagreatdoor", sum := "54df7e41c387b0bfd5515c617c6ec0c9ed295bf330a9eebed4f17fffd36af4ef", func := "foretell/foretelltop.SearchTruth", spec := "searchTruth", unfollowed := true, recurses := true, named := ["foretell/polish.partCounts"], plainKeys := false, apart := false, laid := [("foretell/polish.partCounts", laid_foretell_polish_partCounts)], narrowed := true }
def SearchTruthUptoSaid : Prop := searchTruthUptoRow.holds Tryz.pinned (OpenSpec.upto searchTruthSpec)

end Rows
end Go.Proofs.YtehfhemidmfffaaGreatDoor
