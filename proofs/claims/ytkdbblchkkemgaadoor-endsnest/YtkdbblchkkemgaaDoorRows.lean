/-
  NARROWER THAN 'FOR EVERY INPUT', by the rows' own cells (each row's printed sentence says how): PolishParts: laid · PolishEnds: laid · PolishSplits: laid · PolishDepths: laid · EndsNest: laid · SplitJoin: laid.
  DERIVED. THE GIVEN ROWS OF THIS SEAT. 6 by the template 'for every input the law returns true; each argument reads behind the call as it read before'; 0 by the template 'total and deterministic' (their statements: YtkdbblchkkemgaaDoorTotals.lean).
  GIVEN WITH THE SEED: the statements are not yours to turn. If you find one false, say at which input.
  Laid BY PROGRAM, IN A SANDBOX (cutbox-rows.mjs): the forced cells as the released guide's own fill.sh prints them over the translation 995fd3e74826f459… (all of the seat's roots in one cut). By AI agents, Wed Nov 11 2026. No macro, syntax, notation, axiom, sorry.
-/
import Derived.Test.YtkdbblchkkemgaaDoorChecked
import GoSem.Claim
import GoSem.ClaimJoined
import GoSem.ClaimMapViews
import Derived.JoinedTies
import Derived.KernelRfl
namespace Go.Proofs.YtkdbblchkkemgaaDoor
/- THE CELL 'sum', in the pinned program and in every row, IS THE sha256 OF THE DUMP (.gsa) THAT YtkdbblchkkemgaaDoorProg.lean LOADS. Nothing in Lean hashes anything: it is a label: what it is worth is what the hold of that sum in a sandbox is worth. -/
noncomputable def Tryd.pinned : Pinned := { name := "ytkdbblchkkemgaadoor", sum := "995fd3e74826f459cac05022f47ecadf1c64f7862aee1393055ed429142dfa84", checked := Tryd.checked }
namespace Rows
def none {H : Type} : Left H := { results := [], args := [] }

/- WHAT THE LISTED PACKAGE-LEVEL VARIABLES READ AS WHEN THE CALL BEGINS. Each datum BY PROGRAM (the guide's laid-datum.mjs) off the statement by which the dump's own 'gosem.cut.vars' lays the variable. In a bare row this is a premise. The card (YtkdbblchkkemgaaDoorCards.lean) ties it to the program's text. -/
def laid_foretell_polish_partCounts {H : Type} : DataW H := .agg [.lit (.int .i64 0), .lit (.int .i64 0), .lit (.int .i64 0), .lit (.int .i64 2), .lit (.int .i64 2), .lit (.int .i64 2), .lit (.int .i64 2), .lit (.int .i64 2), .lit (.int .i64 2), .lit (.int .i64 2), .lit (.int .i64 1), .lit (.int .i64 0), .lit (.int .i64 0), .lit (.int .i64 0), .lit (.int .i64 1), .lit (.int .i64 2), .lit (.int .i64 2), .lit (.int .i64 1), .lit (.int .i64 1)]

/-- 'foretelllaw.PolishParts': WHATEVER THE INPUT: true; the input reads as it did. -/
def polishPartsSpec : ChangeSpec := { name := "polishParts", fn := fun _ => fun
  | [d] => { results := [.lit (.bool true)], args := [d] }
  | _ => none }
def polishPartsRow : OpenClaim := { program := "ytkdbblchkkemgaadoor", sum := "995fd3e74826f459cac05022f47ecadf1c64f7862aee1393055ed429142dfa84", func := "foretell/foretelllaw.PolishParts", spec := "polishParts", named := ["foretell/polish.partCounts"], apart := false, laid := [("foretell/polish.partCounts", laid_foretell_polish_partCounts)] }
def PolishPartsSaid : Prop := polishPartsRow.holds Tryd.pinned (OpenSpec.ofChange polishPartsSpec)

/-- ITS FALSE NEIGHBOUR: 'it returns false'. Refute it at one input. -/
def polishPartsWrong : ChangeSpec := { name := "polishParts", fn := fun _ => fun
  | [d] => { results := [.lit (.bool false)], args := [d] }
  | _ => none }
def PolishPartsWrongFalsely : Prop := polishPartsRow.holds Tryd.pinned (OpenSpec.ofChange polishPartsWrong)

/-- 'foretelllaw.PolishEnds': WHATEVER THE INPUT: true; the input reads as it did. -/
def polishEndsSpec : ChangeSpec := { name := "polishEnds", fn := fun _ => fun
  | [d] => { results := [.lit (.bool true)], args := [d] }
  | _ => none }
def polishEndsRow : OpenClaim := { program := "ytkdbblchkkemgaadoor", sum := "995fd3e74826f459cac05022f47ecadf1c64f7862aee1393055ed429142dfa84", func := "foretell/foretelllaw.PolishEnds", spec := "polishEnds", unfollowed := true, recurses := true, named := ["foretell/polish.partCounts"], apart := false, laid := [("foretell/polish.partCounts", laid_foretell_polish_partCounts)] }
def PolishEndsSaid : Prop := polishEndsRow.holds Tryd.pinned (OpenSpec.ofChange polishEndsSpec)

/-- ITS FALSE NEIGHBOUR: 'it returns false'. Refute it at one input. -/
def polishEndsWrong : ChangeSpec := { name := "polishEnds", fn := fun _ => fun
  | [d] => { results := [.lit (.bool false)], args := [d] }
  | _ => none }
def PolishEndsWrongFalsely : Prop := polishEndsRow.holds Tryd.pinned (OpenSpec.ofChange polishEndsWrong)

/-- 'foretelllaw.PolishSplits': WHATEVER THE INPUT: true; the input reads as it did. -/
def polishSplitsSpec : ChangeSpec := { name := "polishSplits", fn := fun _ => fun
  | [d] => { results := [.lit (.bool true)], args := [d] }
  | _ => none }
def polishSplitsRow : OpenClaim := { program := "ytkdbblchkkemgaadoor", sum := "995fd3e74826f459cac05022f47ecadf1c64f7862aee1393055ed429142dfa84", func := "foretell/foretelllaw.PolishSplits", spec := "polishSplits", unfollowed := true, recurses := true, named := ["foretell/polish.partCounts"], apart := false, laid := [("foretell/polish.partCounts", laid_foretell_polish_partCounts)] }
def PolishSplitsSaid : Prop := polishSplitsRow.holds Tryd.pinned (OpenSpec.ofChange polishSplitsSpec)

/-- ITS FALSE NEIGHBOUR: 'it returns false'. Refute it at one input. -/
def polishSplitsWrong : ChangeSpec := { name := "polishSplits", fn := fun _ => fun
  | [d] => { results := [.lit (.bool false)], args := [d] }
  | _ => none }
def PolishSplitsWrongFalsely : Prop := polishSplitsRow.holds Tryd.pinned (OpenSpec.ofChange polishSplitsWrong)

/-- 'foretelllaw.PolishDepths': WHATEVER THE INPUT: true; the input reads as it did. -/
def polishDepthsSpec : ChangeSpec := { name := "polishDepths", fn := fun _ => fun
  | [d] => { results := [.lit (.bool true)], args := [d] }
  | _ => none }
def polishDepthsRow : OpenClaim := { program := "ytkdbblchkkemgaadoor", sum := "995fd3e74826f459cac05022f47ecadf1c64f7862aee1393055ed429142dfa84", func := "foretell/foretelllaw.PolishDepths", spec := "polishDepths", unfollowed := true, recurses := true, named := ["foretell/polish.partCounts"], apart := false, laid := [("foretell/polish.partCounts", laid_foretell_polish_partCounts)] }
def PolishDepthsSaid : Prop := polishDepthsRow.holds Tryd.pinned (OpenSpec.ofChange polishDepthsSpec)

/-- ITS FALSE NEIGHBOUR: 'it returns false'. Refute it at one input. -/
def polishDepthsWrong : ChangeSpec := { name := "polishDepths", fn := fun _ => fun
  | [d] => { results := [.lit (.bool false)], args := [d] }
  | _ => none }
def PolishDepthsWrongFalsely : Prop := polishDepthsRow.holds Tryd.pinned (OpenSpec.ofChange polishDepthsWrong)

/-- 'foretellkeep.EndsNest': WHATEVER THE INPUT: true; the input reads as it did. -/
def endsNestSpec : ChangeSpec := { name := "endsNest", fn := fun _ => fun
  | [d] => { results := [.lit (.bool true)], args := [d] }
  | _ => none }
def endsNestRow : OpenClaim := { program := "ytkdbblchkkemgaadoor", sum := "995fd3e74826f459cac05022f47ecadf1c64f7862aee1393055ed429142dfa84", func := "foretell/foretellkeep.EndsNest", spec := "endsNest", unfollowed := true, recurses := true, named := ["foretell/polish.partCounts"], apart := false, laid := [("foretell/polish.partCounts", laid_foretell_polish_partCounts)] }
def EndsNestSaid : Prop := endsNestRow.holds Tryd.pinned (OpenSpec.ofChange endsNestSpec)

/-- ITS FALSE NEIGHBOUR: 'it returns false'. Refute it at one input. -/
def endsNestWrong : ChangeSpec := { name := "endsNest", fn := fun _ => fun
  | [d] => { results := [.lit (.bool false)], args := [d] }
  | _ => none }
def EndsNestWrongFalsely : Prop := endsNestRow.holds Tryd.pinned (OpenSpec.ofChange endsNestWrong)

/-- 'foretellkeep.SplitJoin': WHATEVER THE INPUT: true; the input reads as it did. -/
def splitJoinSpec : ChangeSpec := { name := "splitJoin", fn := fun _ => fun
  | [d] => { results := [.lit (.bool true)], args := [d] }
  | _ => none }
def splitJoinRow : OpenClaim := { program := "ytkdbblchkkemgaadoor", sum := "995fd3e74826f459cac05022f47ecadf1c64f7862aee1393055ed429142dfa84", func := "foretell/foretellkeep.SplitJoin", spec := "splitJoin", unfollowed := true, recurses := true, named := ["foretell/polish.partCounts"], apart := false, laid := [("foretell/polish.partCounts", laid_foretell_polish_partCounts)] }
def SplitJoinSaid : Prop := splitJoinRow.holds Tryd.pinned (OpenSpec.ofChange splitJoinSpec)

/-- ITS FALSE NEIGHBOUR: 'it returns false'. Refute it at one input. -/
def splitJoinWrong : ChangeSpec := { name := "splitJoin", fn := fun _ => fun
  | [d] => { results := [.lit (.bool false)], args := [d] }
  | _ => none }
def SplitJoinWrongFalsely : Prop := splitJoinRow.holds Tryd.pinned (OpenSpec.ofChange splitJoinWrong)

/- THE SECOND FORM. 'bulk': how many values and letters a reading holds, each counted each time it is reached (what is shared counts as often as it is met; a slice's spare places count too). A statement '..UptoSaid' is the law's where the arguments, and the package variables that the reading takes, are together of bulk at most 1048576: NARROWER than '..Said'. Prove '..Said' where nothing that the law and all that it calls make is longer than what came in: it says more and counts as full. Else prove '..UptoSaid'. A law counts once. -/
mutual
def uptoBulk {H : Type} : DataW H → Nat
  | .lit (.string bytes) => bytes.length + 1
  | .lit _ => 1
  | .nil => 1
  | .ptr d => uptoBulk d + 1
  | .slice elems spare => uptoBulkAll elems + uptoBulkAll spare + 1
  | .agg parts => uptoBulkAll parts + 1
  | .iface _ d => uptoBulk d + 1
  | .map entries => uptoBulkEntries entries + 1
  | .held _ => 1
def uptoBulkAll {H : Type} : List (DataW H) → Nat
  | [] => 0
  | d :: r => uptoBulk d + uptoBulkAll r
def uptoBulkEntries {H : Type} : List (Lit × DataW H) → Nat
  | [] => 0
  | x :: r => uptoBulkEntry x + uptoBulkEntries r
def uptoBulkEntry {H : Type} : Lit × DataW H → Nat
  | (.string bytes, d) => bytes.length + uptoBulk d + 1
  | (_, d) => uptoBulk d + 1
 end
def uptoSmall : (H : Type) → List (DataW H) → Bool := fun _ ds => decide (uptoBulkAll ds ≤ 1048576)
def OpenSpec.upto (s : _root_.Go.ChangeSpec) : _root_.Go.OpenSpec := { _root_.Go.OpenSpec.ofChange s with cond := some uptoSmall }

/-- 'foretelllaw.PolishParts', WHERE WHAT IT READS IS OF BULK AT MOST 1048576: true; the input reads as it did. -/
def polishPartsUptoRow : OpenClaim := { program := "ytkdbblchkkemgaadoor", sum := "995fd3e74826f459cac05022f47ecadf1c64f7862aee1393055ed429142dfa84", func := "foretell/foretelllaw.PolishParts", spec := "polishParts", named := ["foretell/polish.partCounts"], apart := false, laid := [("foretell/polish.partCounts", laid_foretell_polish_partCounts)], narrowed := true }
def PolishPartsUptoSaid : Prop := polishPartsUptoRow.holds Tryd.pinned (OpenSpec.upto polishPartsSpec)

/-- 'foretelllaw.PolishEnds', WHERE WHAT IT READS IS OF BULK AT MOST 1048576: true; the input reads as it did. -/
def polishEndsUptoRow : OpenClaim := { program := "ytkdbblchkkemgaadoor", sum := "995fd3e74826f459cac05022f47ecadf1c64f7862aee1393055ed429142dfa84", func := "foretell/foretelllaw.PolishEnds", spec := "polishEnds", unfollowed := true, recurses := true, named := ["foretell/polish.partCounts"], apart := false, laid := [("foretell/polish.partCounts", laid_foretell_polish_partCounts)], narrowed := true }
def PolishEndsUptoSaid : Prop := polishEndsUptoRow.holds Tryd.pinned (OpenSpec.upto polishEndsSpec)

/-- 'foretelllaw.PolishSplits', WHERE WHAT IT READS IS OF BULK AT MOST 1048576: true; the input reads as it did. -/
def polishSplitsUptoRow : OpenClaim := { program := "ytkdbblchkkemgaadoor", sum := "995fd3e74826f459cac05022f47ecadf1c64f7862aee1393055ed429142dfa84", func := "foretell/foretelllaw.PolishSplits", spec := "polishSplits", unfollowed := true, recurses := true, named := ["foretell/polish.partCounts"], apart := false, laid := [("foretell/polish.partCounts", laid_foretell_polish_partCounts)], narrowed := true }
def PolishSplitsUptoSaid : Prop := polishSplitsUptoRow.holds Tryd.pinned (OpenSpec.upto polishSplitsSpec)

/-- 'foretelllaw.PolishDepths', WHERE WHAT IT READS IS OF BULK AT MOST 1048576: true; the input reads as it did. -/
def polishDepthsUptoRow : OpenClaim := { program := "ytkdbblchkkemgaadoor", sum := "995fd3e74826f459cac05022f47ecadf1c64f7862aee1393055ed429142dfa84", func := "foretell/foretelllaw.PolishDepths", spec := "polishDepths", unfollowed := true, recurses := true, named := ["foretell/polish.partCounts"], apart := false, laid := [("foretell/polish.partCounts", laid_foretell_polish_partCounts)], narrowed := true }
def PolishDepthsUptoSaid : Prop := polishDepthsUptoRow.holds Tryd.pinned (OpenSpec.upto polishDepthsSpec)

/-- 'foretellkeep.EndsNest', WHERE WHAT IT READS IS OF BULK AT MOST 1048576: true; the input reads as it did. -/
def endsNestUptoRow : OpenClaim := { program := "ytkdbblchkkemgaadoor", sum := "995fd3e74826f459cac05022f47ecadf1c64f7862aee1393055ed429142dfa84", func := "foretell/foretellkeep.EndsNest", spec := "endsNest", unfollowed := true, recurses := true, named := ["foretell/polish.partCounts"], apart := false, laid := [("foretell/polish.partCounts", laid_foretell_polish_partCounts)], narrowed := true }
def EndsNestUptoSaid : Prop := endsNestUptoRow.holds Tryd.pinned (OpenSpec.upto endsNestSpec)

/-- 'foretellkeep.SplitJoin', WHERE WHAT IT READS IS OF BULK AT MOST 1048576: true; the input reads as it did. -/
def splitJoinUptoRow : OpenClaim := { program := "ytkdbblchkkemgaadoor", sum := "995fd3e74826f459cac05022f47ecadf1c64f7862aee1393055ed429142dfa84", func := "foretell/foretellkeep.SplitJoin", spec := "splitJoin", unfollowed := true, recurses := true, named := ["foretell/polish.partCounts"], apart := false, laid := [("foretell/polish.partCounts", laid_foretell_polish_partCounts)], narrowed := true }
def SplitJoinUptoSaid : Prop := splitJoinUptoRow.holds Tryd.pinned (OpenSpec.upto splitJoinSpec)

end Rows
end Go.Proofs.YtkdbblchkkemgaaDoor
