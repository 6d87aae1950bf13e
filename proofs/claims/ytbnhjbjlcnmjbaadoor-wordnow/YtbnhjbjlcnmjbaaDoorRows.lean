/-
  NARROWER THAN 'FOR EVERY INPUT', by the rows' own cells (each row's printed sentence says how): WordNow: laid · WordLonger: laid · WordSpread: laid · WordNest: laid.
  DERIVED. THE GIVEN ROWS OF THIS SEAT. 4 by the template 'for every input the law returns true; each argument reads behind the call as it read before'; 0 by the template 'total and deterministic' (their statements: YtbnhjbjlcnmjbaaDoorTotals.lean).
  GIVEN WITH THE SEED: the statements are not yours to turn. If you find one false, say at which input.
  Laid BY PROGRAM, IN A SANDBOX (cutbox-rows.mjs): the forced cells as the released guide's own fill.sh prints them over the translation a73dfe7ac97ac44d… (all of the seat's roots in one cut). By AI agents, Wed Nov 11 2026. No macro, syntax, notation, axiom, sorry.
-/
import Derived.Test.YtbnhjbjlcnmjbaaDoorChecked
import GoSem.Claim
import GoSem.ClaimJoined
import GoSem.ClaimMapViews
import Derived.JoinedTies
import Derived.KernelRfl
namespace Go.Proofs.YtbnhjbjlcnmjbaaDoor
/- THE CELL 'sum', in the pinned program and in every row, IS THE sha256 OF THE DUMP (.gsa) THAT YtbnhjbjlcnmjbaaDoorProg.lean LOADS. Nothing in Lean hashes anything: it is a label: what it is worth is what the hold of that sum in a sandbox is worth. -/
noncomputable def Tryd.pinned : Pinned := { name := "ytbnhjbjlcnmjbaadoor", sum := "a73dfe7ac97ac44d9c9a1d03494f5c5e11309a3d42cad720418fa2d0b5ffc12f", checked := Tryd.checked }
namespace Rows
def none {H : Type} : Left H := { results := [], args := [] }

/- WHAT THE LISTED PACKAGE-LEVEL VARIABLES READ AS WHEN THE CALL BEGINS. Each datum BY PROGRAM (the guide's laid-datum.mjs) off the statement by which the dump's own 'gosem.cut.vars' lays the variable. In a bare row this is a premise. The card (YtbnhjbjlcnmjbaaDoorCards.lean) ties it to the program's text. -/
def laid_foretell_polish_partCounts {H : Type} : DataW H := .agg [.lit (.int .i64 0), .lit (.int .i64 0), .lit (.int .i64 0), .lit (.int .i64 2), .lit (.int .i64 2), .lit (.int .i64 2), .lit (.int .i64 2), .lit (.int .i64 2), .lit (.int .i64 2), .lit (.int .i64 2), .lit (.int .i64 1), .lit (.int .i64 0), .lit (.int .i64 0), .lit (.int .i64 0), .lit (.int .i64 1), .lit (.int .i64 2), .lit (.int .i64 2), .lit (.int .i64 1), .lit (.int .i64 1)]

/-- 'foretellkeep.WordNow': WHATEVER THE INPUT: true; the input reads as it did. -/
def wordNowSpec : ChangeSpec := { name := "wordNow", fn := fun _ => fun
  | [d1, d2, d3] => { results := [.lit (.bool true)], args := [d1, d2, d3] }
  | _ => none }
def wordNowRow : OpenClaim := { program := "ytbnhjbjlcnmjbaadoor", sum := "a73dfe7ac97ac44d9c9a1d03494f5c5e11309a3d42cad720418fa2d0b5ffc12f", func := "foretell/foretellkeep.WordNow", spec := "wordNow", unfollowed := true, recurses := true, named := ["foretell/polish.partCounts"], apart := false, laid := [("foretell/polish.partCounts", laid_foretell_polish_partCounts)] }
def WordNowSaid : Prop := wordNowRow.holds Tryd.pinned (OpenSpec.ofChange wordNowSpec)

/-- ITS FALSE NEIGHBOUR: 'it returns false'. Refute it at one input. -/
def wordNowWrong : ChangeSpec := { name := "wordNow", fn := fun _ => fun
  | [d1, d2, d3] => { results := [.lit (.bool false)], args := [d1, d2, d3] }
  | _ => none }
def WordNowWrongFalsely : Prop := wordNowRow.holds Tryd.pinned (OpenSpec.ofChange wordNowWrong)

/-- 'foretellkeep.WordLonger': WHATEVER THE INPUT: true; the input reads as it did. -/
def wordLongerSpec : ChangeSpec := { name := "wordLonger", fn := fun _ => fun
  | [d1, d2] => { results := [.lit (.bool true)], args := [d1, d2] }
  | _ => none }
def wordLongerRow : OpenClaim := { program := "ytbnhjbjlcnmjbaadoor", sum := "a73dfe7ac97ac44d9c9a1d03494f5c5e11309a3d42cad720418fa2d0b5ffc12f", func := "foretell/foretellkeep.WordLonger", spec := "wordLonger", unfollowed := true, recurses := true, named := ["foretell/polish.partCounts"], apart := false, laid := [("foretell/polish.partCounts", laid_foretell_polish_partCounts)] }
def WordLongerSaid : Prop := wordLongerRow.holds Tryd.pinned (OpenSpec.ofChange wordLongerSpec)

/-- ITS FALSE NEIGHBOUR: 'it returns false'. Refute it at one input. -/
def wordLongerWrong : ChangeSpec := { name := "wordLonger", fn := fun _ => fun
  | [d1, d2] => { results := [.lit (.bool false)], args := [d1, d2] }
  | _ => none }
def WordLongerWrongFalsely : Prop := wordLongerRow.holds Tryd.pinned (OpenSpec.ofChange wordLongerWrong)

/-- 'foretellkeep.WordSpread': WHATEVER THE INPUT: true; the input reads as it did. -/
def wordSpreadSpec : ChangeSpec := { name := "wordSpread", fn := fun _ => fun
  | [d1, d2, d3, d4] => { results := [.lit (.bool true)], args := [d1, d2, d3, d4] }
  | _ => none }
def wordSpreadRow : OpenClaim := { program := "ytbnhjbjlcnmjbaadoor", sum := "a73dfe7ac97ac44d9c9a1d03494f5c5e11309a3d42cad720418fa2d0b5ffc12f", func := "foretell/foretellkeep.WordSpread", spec := "wordSpread", unfollowed := true, recurses := true, named := ["foretell/polish.partCounts"], apart := false, laid := [("foretell/polish.partCounts", laid_foretell_polish_partCounts)] }
def WordSpreadSaid : Prop := wordSpreadRow.holds Tryd.pinned (OpenSpec.ofChange wordSpreadSpec)

/-- ITS FALSE NEIGHBOUR: 'it returns false'. Refute it at one input. -/
def wordSpreadWrong : ChangeSpec := { name := "wordSpread", fn := fun _ => fun
  | [d1, d2, d3, d4] => { results := [.lit (.bool false)], args := [d1, d2, d3, d4] }
  | _ => none }
def WordSpreadWrongFalsely : Prop := wordSpreadRow.holds Tryd.pinned (OpenSpec.ofChange wordSpreadWrong)

/-- 'foretellkeep.WordNest': WHATEVER THE INPUT: true; the input reads as it did. -/
def wordNestSpec : ChangeSpec := { name := "wordNest", fn := fun _ => fun
  | [d1, d2, d3] => { results := [.lit (.bool true)], args := [d1, d2, d3] }
  | _ => none }
def wordNestRow : OpenClaim := { program := "ytbnhjbjlcnmjbaadoor", sum := "a73dfe7ac97ac44d9c9a1d03494f5c5e11309a3d42cad720418fa2d0b5ffc12f", func := "foretell/foretellkeep.WordNest", spec := "wordNest", unfollowed := true, recurses := true, named := ["foretell/polish.partCounts"], apart := false, laid := [("foretell/polish.partCounts", laid_foretell_polish_partCounts)] }
def WordNestSaid : Prop := wordNestRow.holds Tryd.pinned (OpenSpec.ofChange wordNestSpec)

/-- ITS FALSE NEIGHBOUR: 'it returns false'. Refute it at one input. -/
def wordNestWrong : ChangeSpec := { name := "wordNest", fn := fun _ => fun
  | [d1, d2, d3] => { results := [.lit (.bool false)], args := [d1, d2, d3] }
  | _ => none }
def WordNestWrongFalsely : Prop := wordNestRow.holds Tryd.pinned (OpenSpec.ofChange wordNestWrong)

/- THE SECOND FORM. 'bulk': how many values and letters a reading holds, each counted each time it is reached (what is shared counts as often as it is met; a slice's spare places count too). A statement '..UptoSaid' is the law's where the arguments, and the package variables that the reading takes, are together of bulk at most 1048576: NARROWER than '..Said'. Prove '..Said' where nothing that the law and all that it calls make is longer than what came in: it says more and counts as full. Else prove '..UptoSaid'. A law counts once. -/
mutual
def uptoBulk {H : Type} : DataW H → Nat
  | .lit (.string bytes) => bytes.length + 1
  | .lit _ => 1
  | .nil => 1
  | .ptr d => uptoBulk d + 1
  | .slice elems spare => uptoBulkAll elems + uptoBulkAll spare + 1
  | .agg parts => uptoBulkAll parts + 1
  | .iface _ d => uptoBulk d + 1
  | .map entries => uptoBulkEntries entries + 1
  | .held _ => 1
def uptoBulkAll {H : Type} : List (DataW H) → Nat
  | [] => 0
  | d :: r => uptoBulk d + uptoBulkAll r
def uptoBulkEntries {H : Type} : List (Lit × DataW H) → Nat
  | [] => 0
  | x :: r => uptoBulkEntry x + uptoBulkEntries r
def uptoBulkEntry {H : Type} : Lit × DataW H → Nat
  | (.string bytes, d) => bytes.length + uptoBulk d + 1
  | (_, d) => uptoBulk d + 1
 end
def uptoSmall : (H : Type) → List (DataW H) → Bool := fun _ ds => decide (uptoBulkAll ds ≤ 1048576)
def OpenSpec.upto (s : _root_.Go.ChangeSpec) : _root_.Go.OpenSpec := { _root_.Go.OpenSpec.ofChange s with cond := some uptoSmall }

/-- 'foretellkeep.WordNow', WHERE WHAT IT READS IS OF BULK AT MOST 1048576: true; the input reads as it did. -/
def wordNowUptoRow : OpenClaim := { program := "ytbnhjbjlcnmjbaadoor", sum := "a73dfe7ac97ac44d9c9a1d03494f5c5e11309a3d42cad720418fa2d0b5ffc12f", func := "foretell/foretellkeep.WordNow", spec := "wordNow", unfollowed := true, recurses := true, named := ["foretell/polish.partCounts"], apart := false, laid := [("foretell/polish.partCounts", laid_foretell_polish_partCounts)], narrowed := true }
def WordNowUptoSaid : Prop := wordNowUptoRow.holds Tryd.pinned (OpenSpec.upto wordNowSpec)

/-- 'foretellkeep.WordLonger', WHERE WHAT IT READS IS OF BULK AT MOST 1048576: true; the input reads as it did. -/
def wordLongerUptoRow : OpenClaim := { program := "ytbnhjbjlcnmjbaadoor", sum := "a73dfe7ac97ac44d9c9a1d03494f5c5e11309a3d42cad720418fa2d0b5ffc12f", func := "foretell/foretellkeep.WordLonger", spec := "wordLonger", unfollowed := true, recurses := true, named := ["foretell/polish.partCounts"], apart := false, laid := [("foretell/polish.partCounts", laid_foretell_polish_partCounts)], narrowed := true }
def WordLongerUptoSaid : Prop := wordLongerUptoRow.holds Tryd.pinned (OpenSpec.upto wordLongerSpec)

/-- 'foretellkeep.WordSpread', WHERE WHAT IT READS IS OF BULK AT MOST 1048576: true; the input reads as it did. -/
def wordSpreadUptoRow : OpenClaim := { program := "ytbnhjbjlcnmjbaadoor", sum := "a73dfe7ac97ac44d9c9a1d03494f5c5e11309a3d42cad720418fa2d0b5ffc12f", func := "foretell/foretellkeep.WordSpread", spec := "wordSpread", unfollowed := true, recurses := true, named := ["foretell/polish.partCounts"], apart := false, laid := [("foretell/polish.partCounts", laid_foretell_polish_partCounts)], narrowed := true }
def WordSpreadUptoSaid : Prop := wordSpreadUptoRow.holds Tryd.pinned (OpenSpec.upto wordSpreadSpec)

/-- 'foretellkeep.WordNest', WHERE WHAT IT READS IS OF BULK AT MOST 1048576: true; the input reads as it did. -/
def wordNestUptoRow : OpenClaim := { program := "ytbnhjbjlcnmjbaadoor", sum := "a73dfe7ac97ac44d9c9a1d03494f5c5e11309a3d42cad720418fa2d0b5ffc12f", func := "foretell/foretellkeep.WordNest", spec := "wordNest", unfollowed := true, recurses := true, named := ["foretell/polish.partCounts"], apart := false, laid := [("foretell/polish.partCounts", laid_foretell_polish_partCounts)], narrowed := true }
def WordNestUptoSaid : Prop := wordNestUptoRow.holds Tryd.pinned (OpenSpec.upto wordNestSpec)

end Rows
end Go.Proofs.YtbnhjbjlcnmjbaaDoor
