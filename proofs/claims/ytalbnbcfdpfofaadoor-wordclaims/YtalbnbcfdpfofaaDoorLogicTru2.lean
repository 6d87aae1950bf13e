/-
  The contract of logic's method truths.
-/
import Derived.Test.YtalbnbcfdpfofaaDoorLogicTru
import Derived.Test.YtalbnbcfdpfofaaDoorLogicRound
namespace Go.Proofs.YtalbnbcfdpfofaaDoor
open Go.ChangeShapes Go.WideShapes Go.ChangeAt Go.RowKit Go.Deep Go.Shelf
open Terms

attribute [local go_sem] Oper.semAt_some
/-- the temporaries of a round. -/
def trAct (p3 p4 p8 p11 p12 r0 r1 r2 r5 r6 r7 r9 r10 r13 r14 r15 r16 r17 r18 r19 r20 r21 r22 r23 r24 r25 r26 r27 r28 r29 r30 r31 r32 r33 r34 r35 r36 r37 r38 r39 r40 r41 r42 r43 r44 r45 r46 r47 r48 r49 r50 r51 r52 r53 r54 r55 r56 r57 r58 r59 r60 r61 r62 r63 r64 r65 r66 r67 r68 r69 r70 : Value) : Act := { tmps := #[r0, r1, r2, p3, p4, r5, r6, r7, p8, r9, r10, p11, p12, r13, r14, r15, r16, r17, r18, r19, r20, r21, r22, r23, r24, r25, r26, r27, r28, r29, r30, r31, r32, r33, r34, r35, r36, r37, r38, r39, r40, r41, r42, r43, r44, r45, r46, r47, r48, r49, r50, r51, r52, r53, r54, r55, r56, r57, r58, r59, r60, r61, r62, r63, r64, r65, r66, r67, r68, r69, r70], defers := [] }
/-- what a round begins with. -/
def TrAx (w : World) (s : Nat) (o : Int × Int) (p : Nat) (a' : Act) (W : World) : Prop := ∃ Bx, s ≤ Bx ∧ W.cell? ⟨Bx, 0, none⟩ = some (.int .i64 o.1) ∧ W.cell? ⟨Bx, 1, none⟩ = some (.int .i64 o.2) ∧ ∃ r0 r1 r2 r5 r6 r7 r9 r10 r13 r14 r15 r16 r17 r18 r19 r20 r21 r22 r23 r24 r25 r26 r27 r28 r29 r30 r31 r32 r33 r34 r35 r36 r37 r38 r39 r40 r41 r42 r43 r44 r45 r46 r47 r48 r49 r50 r51 r52 r53 r54 r55 r56 r57 r58 r59 r60 r61 r62 r63 r64 r65 r66 r67 r68 r69 r70 : Value, a' = trAct (.pointer (some ⟨w.heap.size, 0, none⟩)) (.pointer (some ⟨w.heap.size + 1, 0, none⟩)) (.pointer (some ⟨w.heap.size + 1 + 1 + 1, 0, none⟩)) (.int .i64 (p : Int)) (.pointer (some ⟨Bx, 0, none⟩)) r0 r1 r2 r5 r6 r7 r9 r10 r13 r14 r15 r16 r17 r18 r19 r20 r21 r22 r23 r24 r25 r26 r27 r28 r29 r30 r31 r32 r33 r34 r35 r36 r37 r38 r39 r40 r41 r42 r43 r44 r45 r46 r47 r48 r49 r50 r51 r52 r53 r54 r55 r56 r57 r58 r59 r60 r61 r62 r63 r64 r65 r66 r67 r68 r69 r70
theorem keeps_of_below {B : Nat} {W W' : World} (h : Below W.heap.size W W') : KeepsFrom B W W' := ⟨h.size, fun k _ _ hk _ => (h.block k (Array.getElem?_eq_some_iff.1 hk).1).trans hk⟩
end Go.Proofs.YtalbnbcfdpfofaaDoor
