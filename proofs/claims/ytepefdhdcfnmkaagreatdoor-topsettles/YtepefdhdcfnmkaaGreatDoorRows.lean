/-
  NARROWER THAN 'FOR EVERY INPUT', by the rows' own cells (each row's printed sentence says how): TopEver: laid · TopUntil: laid · TopRelease: laid · TopAgain: laid · TopSettles: laid.
  DERIVED. THE GIVEN ROWS OF THIS SEAT. 5 by the template 'for every input the law returns true; each argument reads behind the call as it read before'; 0 by the template 'total and deterministic' (their statements: YtepefdhdcfnmkaaGreatDoorTotals.lean).
  GIVEN WITH THE SEED: the statements are not yours to turn. If you find one false, say at which input.
  Laid BY PROGRAM, IN A SANDBOX (cutbox-rows.mjs): the forced cells as the released guide's own fill.sh prints them over the translation 579b6d04e5a67dbe… (all of the seat's roots in one cut). By AI agents, Wed Nov 11 2026. No macro, syntax, notation, axiom, sorry.
-/
import Derived.Test.YtepefdhdcfnmkaaGreatDoorChecked
import GoSem.Claim
import GoSem.ClaimJoined
import GoSem.ClaimMapViews
import Derived.JoinedTies
import Derived.KernelRfl
namespace Go.Proofs.YtepefdhdcfnmkaaGreatDoor
/- THE CELL 'sum', in the pinned program and in every row, IS THE sha256 OF THE DUMP (.gsa) THAT YtepefdhdcfnmkaaGreatDoorProg.lean LOADS. Nothing in Lean hashes anything: it is a label: what it is worth is what the hold of that sum in a sandbox is worth. -/
noncomputable def Tryz.pinned : Pinned := { name := "ytepefdhdcfnmkaagreatdoor", sum := "579b6d04e5a67dbe6b2d9dc1d4381c5e15fd5d27062f638ed0a770c822507b93", checked := Tryz.checked }
namespace Rows
def none {H : Type} : Left H := { results := [], args := [] }

/- WHAT THE LISTED PACKAGE-LEVEL VARIABLES READ AS WHEN THE CALL BEGINS. Each datum BY PROGRAM (the guide's laid-datum.mjs) off the statement by which the dump's own 'gosem.cut.vars' lays the variable. In a bare row this is a premise. The card (YtepefdhdcfnmkaaGreatDoorCards.lean) ties it to the program's text. -/
def laid_foretell_polish_partCounts {H : Type} : DataW H := .agg [.lit (.int .i64 0), .lit (.int .i64 0), .lit (.int .i64 0), .lit (.int .i64 2), .lit (.int .i64 2), .lit (.int .i64 2), .lit (.int .i64 2), .lit (.int .i64 2), .lit (.int .i64 2), .lit (.int .i64 2), .lit (.int .i64 1), .lit (.int .i64 0), .lit (.int .i64 0), .lit (.int .i64 0), .lit (.int .i64 1), .lit (.int .i64 2), .lit (.int .i64 2), .lit (.int .i64 1), .lit (.int .i64 1)]

/-- 'foretelltop.TopEver': WHATEVER THE INPUT: true; the input reads as it did. -/
def topEverSpec : ChangeSpec := { name := "topEver", fn := fun _ => fun
  | [d1, d2] => { results := [.lit (.bool true)], args := [d1, d2] }
  | _ => none }
def topEverRow : OpenClaim := { program := "ytepefdhdcfnmkaagreatdoor", sum := "579b6d04e5a67dbe6b2d9dc1d4381c5e15fd5d27062f638ed0a770c822507b93", func := "foretell/foretelltop.TopEver", spec := "topEver", unfollowed := true, recurses := true, named := ["foretell/polish.partCounts"], plainKeys := false, apart := false, laid := [("foretell/polish.partCounts", laid_foretell_polish_partCounts)] }
def TopEverSaid : Prop := topEverRow.holds Tryz.pinned (OpenSpec.ofChange topEverSpec)

/-- ITS FALSE NEIGHBOUR: 'it returns false'. Refute it at one input. -/
def topEverWrong : ChangeSpec := { name := "topEver", fn := fun _ => fun
  | [d1, d2] => { results := [.lit (.bool false)], args := [d1, d2] }
  | _ => none }
def TopEverWrongFalsely : Prop := topEverRow.holds Tryz.pinned (OpenSpec.ofChange topEverWrong)

/-- 'foretelltop.TopUntil': WHATEVER THE INPUT: true; the input reads as it did. -/
def topUntilSpec : ChangeSpec := { name := "topUntil", fn := fun _ => fun
  | [d1, d2, d3] => { results := [.lit (.bool true)], args := [d1, d2, d3] }
  | _ => none }
def topUntilRow : OpenClaim := { program := "ytepefdhdcfnmkaagreatdoor", sum := "579b6d04e5a67dbe6b2d9dc1d4381c5e15fd5d27062f638ed0a770c822507b93", func := "foretell/foretelltop.TopUntil", spec := "topUntil", unfollowed := true, recurses := true, named := ["foretell/polish.partCounts"], plainKeys := false, apart := false, laid := [("foretell/polish.partCounts", laid_foretell_polish_partCounts)] }
def TopUntilSaid : Prop := topUntilRow.holds Tryz.pinned (OpenSpec.ofChange topUntilSpec)

/-- ITS FALSE NEIGHBOUR: 'it returns false'. Refute it at one input. -/
def topUntilWrong : ChangeSpec := { name := "topUntil", fn := fun _ => fun
  | [d1, d2, d3] => { results := [.lit (.bool false)], args := [d1, d2, d3] }
  | _ => none }
def TopUntilWrongFalsely : Prop := topUntilRow.holds Tryz.pinned (OpenSpec.ofChange topUntilWrong)

/-- 'foretelltop.TopRelease': WHATEVER THE INPUT: true; the input reads as it did. -/
def topReleaseSpec : ChangeSpec := { name := "topRelease", fn := fun _ => fun
  | [d1, d2, d3] => { results := [.lit (.bool true)], args := [d1, d2, d3] }
  | _ => none }
def topReleaseRow : OpenClaim := { program := "ytepefdhdcfnmkaagreatdoor", sum := "579b6d04e5a67dbe6b2d9dc1d4381c5e15fd5d27062f638ed0a770c822507b93", func := "foretell/foretelltop.TopRelease", spec := "topRelease", unfollowed := true, recurses := true, named := ["foretell/polish.partCounts"], plainKeys := false, apart := false, laid := [("foretell/polish.partCounts", laid_foretell_polish_partCounts)] }
def TopReleaseSaid : Prop := topReleaseRow.holds Tryz.pinned (OpenSpec.ofChange topReleaseSpec)

/-- ITS FALSE NEIGHBOUR: 'it returns false'. Refute it at one input. -/
def topReleaseWrong : ChangeSpec := { name := "topRelease", fn := fun _ => fun
  | [d1, d2, d3] => { results := [.lit (.bool false)], args := [d1, d2, d3] }
  | _ => none }
def TopReleaseWrongFalsely : Prop := topReleaseRow.holds Tryz.pinned (OpenSpec.ofChange topReleaseWrong)

/-- 'foretelltop.TopAgain': WHATEVER THE INPUT: true; the input reads as it did. -/
def topAgainSpec : ChangeSpec := { name := "topAgain", fn := fun _ => fun
  | [d1, d2] => { results := [.lit (.bool true)], args := [d1, d2] }
  | _ => none }
def topAgainRow : OpenClaim := { program := "ytepefdhdcfnmkaagreatdoor", sum := "579b6d04e5a67dbe6b2d9dc1d4381c5e15fd5d27062f638ed0a770c822507b93", func := "foretell/foretelltop.TopAgain", spec := "topAgain", unfollowed := true, recurses := true, named := ["foretell/polish.partCounts"], plainKeys := false, apart := false, laid := [("foretell/polish.partCounts", laid_foretell_polish_partCounts)] }
def TopAgainSaid : Prop := topAgainRow.holds Tryz.pinned (OpenSpec.ofChange topAgainSpec)

/-- ITS FALSE NEIGHBOUR: 'it returns false'. Refute it at one input. -/
def topAgainWrong : ChangeSpec := { name := "topAgain", fn := fun _ => fun
  | [d1, d2] => { results := [.lit (.bool false)], args := [d1, d2] }
  | _ => none }
def TopAgainWrongFalsely : Prop := topAgainRow.holds Tryz.pinned (OpenSpec.ofChange topAgainWrong)

/-- 'foretelltop.TopSettles': WHATEVER THE INPUT: true; the input reads as it did. -/
def topSettlesSpec : ChangeSpec := { name := "topSettles", fn := fun _ => fun
  | [d1, d2] => { results := [.lit (.bool true)], args := [d1, d2] }
  | _ => none }
def topSettlesRow : OpenClaim := { program := "ytepefdhdcfnmkaagreatdoor", sum := "579b6d04e5a67dbe6b2d9dc1d4381c5e15fd5d27062f638ed0a770c822507b93", func := "foretell/foretelltop.TopSettles", spec := "topSettles", unfollowed := true, recurses := true, named := ["foretell/polish.partCounts"], plainKeys := false, apart := false, laid := [("foretell/polish.partCounts", laid_foretell_polish_partCounts)] }
def TopSettlesSaid : Prop := topSettlesRow.holds Tryz.pinned (OpenSpec.ofChange topSettlesSpec)

/-- ITS FALSE NEIGHBOUR: 'it returns false'. Refute it at one input. -/
def topSettlesWrong : ChangeSpec := { name := "topSettles", fn := fun _ => fun
  | [d1, d2] => { results := [.lit (.bool false)], args := [d1, d2] }
  | _ => none }
def TopSettlesWrongFalsely : Prop := topSettlesRow.holds Tryz.pinned (OpenSpec.ofChange topSettlesWrong)

/- THE SECOND FORM. 'bulk': how many values and letters a reading holds, each counted each time it is reached (what is shared counts as often as it is met; a slice's spare places count too). A statement '..UptoSaid' is the law's where the arguments, and the package variables that the reading takes, are together of bulk at most 1048576: NARROWER than '..Said'. Prove '..Said' where nothing that the law and all that it calls make is longer than what came in: it says more and counts as full. Else prove '..UptoSaid'. A law counts once. -/
mutual
def uptoBulk {H : Type} : DataW H → Nat
  | .lit (.string bytes) => bytes.length + 1
  | .lit _ => 1
  | .nil => 1
  | .ptr d => uptoBulk d + 1
  | .slice elems spare => uptoBulkAll elems + uptoBulkAll spare + 1
  | .agg parts => uptoBulkAll parts + 1
  | .iface _ d => uptoBulk d + 1
  | .map entries => uptoBulkEntries entries + 1
  | .held _ => 1
def uptoBulkAll {H : Type} : List (DataW H) → Nat
  | [] => 0
  | d :: r => uptoBulk d + uptoBulkAll r
def uptoBulkEntries {H : Type} : List (Lit × DataW H) → Nat
  | [] => 0
  | x :: r => uptoBulkEntry x + uptoBulkEntries r
def uptoBulkEntry {H : Type} : Lit × DataW H → Nat
  | (.string bytes, d) => bytes.length + uptoBulk d + 1
  | (_, d) => uptoBulk d + 1
 end
def uptoSmall : (H : Type) → List (DataW H) → Bool := fun _ ds => decide (uptoBulkAll ds ≤ 1048576)
def OpenSpec.upto (s : _root_.Go.ChangeSpec) : _root_.Go.OpenSpec := { _root_.Go.OpenSpec.ofChange s with cond := some uptoSmall }

/-- 'foretelltop.TopEver', WHERE WHAT IT READS IS OF BULK AT MOST 1048576: true; the input reads as it did. -/
def topEverUptoRow : OpenClaim := { program := "ytepefdhdcfnmkaagreatdoor", sum := "579b6d04e5a67dbe6b2d9dc1d4381c5e15fd5d27062f638ed0a770c822507b93", func := "foretell/foretelltop.TopEver", spec := "topEver", unfollowed := true, recurses := true, named := ["foretell/polish.partCounts"], plainKeys := false, apart := false, laid := [("foretell/polish.partCounts", laid_foretell_polish_partCounts)], narrowed := true }
def TopEverUptoSaid : Prop := topEverUptoRow.holds Tryz.pinned (OpenSpec.upto topEverSpec)

/-- 'foretelltop.TopUntil', WHERE WHAT IT READS IS OF BULK AT MOST 1048576: true; the input reads as it did. -/
def topUntilUptoRow : OpenClaim := { program := "ytepefdhdcfnmkaagreatdoor", sum := "579b6d04e5a67dbe6b2d9dc1d4381c5e15fd5d27062f638ed0a770c822507b93", func := "foretell/foretelltop.TopUntil", spec := "topUntil", unfollowed := true, recurses := true, named := ["foretell/polish.partCounts"], plainKeys := false, apart := false, laid := [("foretell/polish.partCounts", laid_foretell_polish_partCounts)], narrowed := true }
def TopUntilUptoSaid : Prop := topUntilUptoRow.holds Tryz.pinned (OpenSpec.upto topUntilSpec)

/-- 'foretelltop.TopRelease', WHERE WHAT IT READS IS OF BULK AT MOST 1048576: true; the input reads as it did. -/
def topReleaseUptoRow : OpenClaim := { program := "ytepefdhdcfnmkaagreatdoor", sum := "579b6d04e5a67dbe6b2d9dc1d4381c5e15fd5d27062f638ed0a770c822507b93", func := "foretell/foretelltop.TopRelease", spec := "topRelease", unfollowed := true, recurses := true, named := ["foretell/polish.partCounts"], plainKeys := false, apart := false, laid := [("foretell/polish.partCounts", laid_foretell_polish_partCounts)], narrowed := true }
def TopReleaseUptoSaid : Prop := topReleaseUptoRow.holds Tryz.pinned (OpenSpec.upto topReleaseSpec)

/-- 'foretelltop.TopAgain', WHERE WHAT IT READS IS OF BULK AT MOST 1048576: true; the input reads as it did. -/
def topAgainUptoRow : OpenClaim := { program := "ytepefdhdcfnmkaagreatdoor", sum := "579b6d04e5a67dbe6b2d9dc1d4381c5e15fd5d27062f638ed0a770c822507b93", func := "foretell/foretelltop.TopAgain", spec := "topAgain", unfollowed := true, recurses := true, named := ["foretell/polish.partCounts"], plainKeys := false, apart := false, laid := [("foretell/polish.partCounts", laid_foretell_polish_partCounts)], narrowed := true }
def TopAgainUptoSaid : Prop := topAgainUptoRow.holds Tryz.pinned (OpenSpec.upto topAgainSpec)

/-- 'foretelltop.TopSettles', WHERE WHAT IT READS IS OF BULK AT MOST 1048576: true; the input reads as it did. -/
def topSettlesUptoRow : OpenClaim := { program := "ytepefdhdcfnmkaagreatdoor", sum := "579b6d04e5a67dbe6b2d9dc1d4381c5e15fd5d27062f638ed0a770c822507b93", func := "foretell/foretelltop.TopSettles", spec := "topSettles", unfollowed := true, recurses := true, named := ["foretell/polish.partCounts"], plainKeys := false, apart := false, laid := [("foretell/polish.partCounts", laid_foretell_polish_partCounts)], narrowed := true }
def TopSettlesUptoSaid : Prop := topSettlesUptoRow.holds Tryz.pinned (OpenSpec.upto topSettlesSpec)

end Rows
end Go.Proofs.YtepefdhdcfnmkaaGreatDoor
