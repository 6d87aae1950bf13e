/-
  NARROWER THAN 'FOR EVERY INPUT', by the rows' own cells (each row's printed sentence says how): ClaimLine: laid · ClaimOnly: laid · ClaimStuck: laid.
  DERIVED. THE GIVEN ROWS OF THIS SEAT. 3 by the template 'for every input the law returns true; each argument reads behind the call as it read before'; 0 by the template 'total and deterministic' (their statements: YtogkpocflfahoaaDoorTotals.lean).
  GIVEN WITH THE SEED: the statements are not yours to turn. If you find one false, say at which input.
  Laid BY PROGRAM, IN A SANDBOX (cutbox-rows.mjs): the forced cells as the released guide's own fill.sh prints them over the translation ca0bf40a244831f5… (all of the seat's roots in one cut). By AI agents, Wed Nov 11 2026. No macro, syntax, notation, axiom, sorry.
-/
import Derived.Test.YtogkpocflfahoaaDoorChecked
import GoSem.Claim
import GoSem.ClaimJoined
import GoSem.ClaimMapViews
import Derived.JoinedTies
import Derived.KernelRfl
namespace Go.Proofs.YtogkpocflfahoaaDoor
/- THE CELL 'sum', in the pinned program and in every row, IS THE sha256 OF THE DUMP (.gsa) THAT YtogkpocflfahoaaDoorProg.lean LOADS. Nothing in Lean hashes anything: it is a label: what it is worth is what the hold of that sum in a sandbox is worth. -/
noncomputable def Tryd.pinned : Pinned := { name := "ytogkpocflfahoaadoor", sum := "ca0bf40a244831f50a9d0f1cbe9000db13aee9cb260fc618c8a99aebe4dd2788", checked := Tryd.checked }
namespace Rows
def none {H : Type} : Left H := { results := [], args := [] }

/- WHAT THE LISTED PACKAGE-LEVEL VARIABLES READ AS WHEN THE CALL BEGINS. Each datum BY PROGRAM (the guide's laid-datum.mjs) off the statement by which the dump's own 'gosem.cut.vars' lays the variable. In a bare row this is a premise. The card (YtogkpocflfahoaaDoorCards.lean) ties it to the program's text. -/
def laid_foretell_polish_partCounts {H : Type} : DataW H := .agg [.lit (.int .i64 0), .lit (.int .i64 0), .lit (.int .i64 0), .lit (.int .i64 2), .lit (.int .i64 2), .lit (.int .i64 2), .lit (.int .i64 2), .lit (.int .i64 2), .lit (.int .i64 2), .lit (.int .i64 2), .lit (.int .i64 1), .lit (.int .i64 0), .lit (.int .i64 0), .lit (.int .i64 0), .lit (.int .i64 1), .lit (.int .i64 2), .lit (.int .i64 2), .lit (.int .i64 1), .lit (.int .i64 1)]

/-- 'foretellkeep.ClaimLine': WHATEVER THE INPUT: true; the input reads as it did. -/
def claimLineSpec : ChangeSpec := { name := "claimLine", fn := fun _ => fun
  | [d1, d2] => { results := [.lit (.bool true)], args := [d1, d2] }
  | _ => none }
def claimLineRow : OpenClaim := { program := "ytogkpocflfahoaadoor", sum := "ca0bf40a244831f50a9d0f1cbe9000db13aee9cb260fc618c8a99aebe4dd2788", func := "foretell/foretellkeep.ClaimLine", spec := "claimLine", unfollowed := true, recurses := true, named := ["foretell/polish.partCounts"], apart := false, laid := [("foretell/polish.partCounts", laid_foretell_polish_partCounts)] }
def ClaimLineSaid : Prop := claimLineRow.holds Tryd.pinned (OpenSpec.ofChange claimLineSpec)

/-- ITS FALSE NEIGHBOUR: 'it returns false'. Refute it at one input. -/
def claimLineWrong : ChangeSpec := { name := "claimLine", fn := fun _ => fun
  | [d1, d2] => { results := [.lit (.bool false)], args := [d1, d2] }
  | _ => none }
def ClaimLineWrongFalsely : Prop := claimLineRow.holds Tryd.pinned (OpenSpec.ofChange claimLineWrong)

/-- 'foretellkeep.ClaimOnly': WHATEVER THE INPUT: true; the input reads as it did. -/
def claimOnlySpec : ChangeSpec := { name := "claimOnly", fn := fun _ => fun
  | [d1, d2, d3] => { results := [.lit (.bool true)], args := [d1, d2, d3] }
  | _ => none }
def claimOnlyRow : OpenClaim := { program := "ytogkpocflfahoaadoor", sum := "ca0bf40a244831f50a9d0f1cbe9000db13aee9cb260fc618c8a99aebe4dd2788", func := "foretell/foretellkeep.ClaimOnly", spec := "claimOnly", unfollowed := true, recurses := true, named := ["foretell/polish.partCounts"], apart := false, laid := [("foretell/polish.partCounts", laid_foretell_polish_partCounts)] }
def ClaimOnlySaid : Prop := claimOnlyRow.holds Tryd.pinned (OpenSpec.ofChange claimOnlySpec)

/-- ITS FALSE NEIGHBOUR: 'it returns false'. Refute it at one input. -/
def claimOnlyWrong : ChangeSpec := { name := "claimOnly", fn := fun _ => fun
  | [d1, d2, d3] => { results := [.lit (.bool false)], args := [d1, d2, d3] }
  | _ => none }
def ClaimOnlyWrongFalsely : Prop := claimOnlyRow.holds Tryd.pinned (OpenSpec.ofChange claimOnlyWrong)

/-- 'foretellkeep.ClaimStuck': WHATEVER THE INPUT: true; the input reads as it did. -/
def claimStuckSpec : ChangeSpec := { name := "claimStuck", fn := fun _ => fun
  | [d1, d2, d3] => { results := [.lit (.bool true)], args := [d1, d2, d3] }
  | _ => none }
def claimStuckRow : OpenClaim := { program := "ytogkpocflfahoaadoor", sum := "ca0bf40a244831f50a9d0f1cbe9000db13aee9cb260fc618c8a99aebe4dd2788", func := "foretell/foretellkeep.ClaimStuck", spec := "claimStuck", unfollowed := true, recurses := true, named := ["foretell/polish.partCounts"], apart := false, laid := [("foretell/polish.partCounts", laid_foretell_polish_partCounts)] }
def ClaimStuckSaid : Prop := claimStuckRow.holds Tryd.pinned (OpenSpec.ofChange claimStuckSpec)

/-- ITS FALSE NEIGHBOUR: 'it returns false'. Refute it at one input. -/
def claimStuckWrong : ChangeSpec := { name := "claimStuck", fn := fun _ => fun
  | [d1, d2, d3] => { results := [.lit (.bool false)], args := [d1, d2, d3] }
  | _ => none }
def ClaimStuckWrongFalsely : Prop := claimStuckRow.holds Tryd.pinned (OpenSpec.ofChange claimStuckWrong)

/- THE SECOND FORM. 'bulk': how many values and letters a reading holds, each counted each time it is reached (what is shared counts as often as it is met; a slice's spare places count too). A statement '..UptoSaid' is the law's where the arguments, and the package variables that the reading takes, are together of bulk at most 1048576: NARROWER than '..Said'. Prove '..Said' where nothing that the law and all that it calls make is longer than what came in: it says more and counts as full. Else prove '..UptoSaid'. A law counts once. -/
mutual
def uptoBulk {H : Type} : DataW H → Nat
  | .lit (.string bytes) => bytes.length + 1
  | .lit _ => 1
  | .nil => 1
  | .ptr d => uptoBulk d + 1
  | .slice elems spare => uptoBulkAll elems + uptoBulkAll spare + 1
  | .agg parts => uptoBulkAll parts + 1
  | .iface _ d => uptoBulk d + 1
  | .map entries => uptoBulkEntries entries + 1
  | .held _ => 1
def uptoBulkAll {H : Type} : List (DataW H) → Nat
  | [] => 0
  | d :: r => uptoBulk d + uptoBulkAll r
def uptoBulkEntries {H : Type} : List (Lit × DataW H) → Nat
  | [] => 0
  | x :: r => uptoBulkEntry x + uptoBulkEntries r
def uptoBulkEntry {H : Type} : Lit × DataW H → Nat
  | (.string bytes, d) => bytes.length + uptoBulk d + 1
  | (_, d) => uptoBulk d + 1
 end
def uptoSmall : (H : Type) → List (DataW H) → Bool := fun _ ds => decide (uptoBulkAll ds ≤ 1048576)
def OpenSpec.upto (s : _root_.Go.ChangeSpec) : _root_.Go.OpenSpec := { _root_.Go.OpenSpec.ofChange s with cond := some uptoSmall }

/-- 'foretellkeep.ClaimLine', WHERE WHAT IT READS IS OF BULK AT MOST 1048576: true; the input reads as it did. -/
def claimLineUptoRow : OpenClaim := { program := "ytogkpocflfahoaadoor", sum := "ca0bf40a244831f50a9d0f1cbe9000db13aee9cb260fc618c8a99aebe4dd2788", func := "foretell/foretellkeep.ClaimLine", spec := "claimLine", unfollowed := true, recurses := true, named := ["foretell/polish.partCounts"], apart := false, laid := [("foretell/polish.partCounts", laid_foretell_polish_partCounts)], narrowed := true }
def ClaimLineUptoSaid : Prop := claimLineUptoRow.holds Tryd.pinned (OpenSpec.upto claimLineSpec)

/-- 'foretellkeep.ClaimOnly', WHERE WHAT IT READS IS OF BULK AT MOST 1048576: true; the input reads as it did. -/
def claimOnlyUptoRow : OpenClaim := { program := "ytogkpocflfahoaadoor", sum := "ca0bf40a244831f50a9d0f1cbe9000db13aee9cb260fc618c8a99aebe4dd2788", func := "foretell/foretellkeep.ClaimOnly", spec := "claimOnly", unfollowed := true, recurses := true, named := ["foretell/polish.partCounts"], apart := false, laid := [("foretell/polish.partCounts", laid_foretell_polish_partCounts)], narrowed := true }
def ClaimOnlyUptoSaid : Prop := claimOnlyUptoRow.holds Tryd.pinned (OpenSpec.upto claimOnlySpec)

/-- 'foretellkeep.ClaimStuck', WHERE WHAT IT READS IS OF BULK AT MOST 1048576: true; the input reads as it did. -/
def claimStuckUptoRow : OpenClaim := { program := "ytogkpocflfahoaadoor", sum := "ca0bf40a244831f50a9d0f1cbe9000db13aee9cb260fc618c8a99aebe4dd2788", func := "foretell/foretellkeep.ClaimStuck", spec := "claimStuck", unfollowed := true, recurses := true, named := ["foretell/polish.partCounts"], apart := false, laid := [("foretell/polish.partCounts", laid_foretell_polish_partCounts)], narrowed := true }
def ClaimStuckUptoSaid : Prop := claimStuckUptoRow.holds Tryd.pinned (OpenSpec.upto claimStuckSpec)

end Rows
end Go.Proofs.YtogkpocflfahoaaDoor
