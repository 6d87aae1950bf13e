/-
  The contract of the document's own reachedFrom.
-/
import Derived.Test.YtdmclgbmdhhdiaaReachM
import Derived.Test.YtdmclgbmdhhdiaaLook0
namespace Go.Proofs.Ytdmclgbmdhhdiaa
open Go.ChangeShapes Go.WideShapes Go.ChangeAt Go.RowKit Go.Deep
open Terms

open Classical in
/-- so many of a row are not gone through yet. -/
noncomputable def cntW (B n : Nat) (w : World) : Nat := ((List.range n).filter fun j => decide (w.cell? ⟨B, j, none⟩ ≠ some (.int .i64 2))).length
theorem cntW_row {w : World} {B n : Nat} {st : Nat → Nat} (h : w.rowIs B 3 n (fun j => .int .i64 (st j : Int))) : cntW B n w = cntN st n := by
  unfold cntW cntN
  congr 1
  refine List.filter_congr fun j hj => ?_
  rw [h.cell (List.mem_range.1 hj)]
  by_cases h2 : st j = 2
  · simp [h2]
  · have : ¬ ((st j : Int) = 2) := by omega
    simp [h2, this]
open Classical in
/-- what is reached from some places. -/
noncomputable def reachB (nx : Nat → List Nat) (fr : List Nat) (n : Nat) : List Bool := (List.range n).map fun j => decide (∃ f ∈ fr, Way nx f j)
theorem row_upd {w : World} {B n : Nat} {st : Nat → Nat} {v : Nat} (h : w.rowIs B 3 n (fun j => .int .i64 (st j : Int))) (i : Nat) : (w.setCell ⟨B, i, none⟩ (.int .i64 (v : Int))).rowIs B 3 n (fun j => .int .i64 (upd st i v j : Int)) :=
  (h.set i (.int .i64 (v : Int))).congr fun j _ => by
    unfold upd
    by_cases hj : j = i
    · subst hj; simp
    · simp [hj]

/-- behind a pass: the marks, and whether there is something new. -/
def OutInv (n : Nat) (nx : Nat → List Nat) (fr : List Nat) (B : Nat) (wr : World) (ag : Bool) : Prop := ∃ st, RInv n nx fr st ∧ wr.rowIs B 3 n (fun j => .int .i64 (st j : Int)) ∧ (ag = false → ∀ j, j < n → st j ≠ 1)
/-- in a pass. -/
def PassInv (n : Nat) (nx : Nat → List Nat) (fr : List Nat) (C0 B : Nat) (wr : World) (c : Nat) (ag : Bool) : Prop := ∃ st, RInv n nx fr st ∧ wr.rowIs B 3 n (fun j => .int .i64 (st j : Int)) ∧ (ag = false → ∀ j, j < c → st j ≠ 1) ∧ cntN st n ≤ C0 ∧ (ag = true → cntN st n < C0)
/-- at a place. -/
def AtInv (n : Nat) (nx : Nat → List Nat) (fr : List Nat) (C0 B : Nat) (wr : World) (c q : Nat) : Prop := ∃ st, RAt n nx fr st c q ∧ wr.rowIs B 3 n (fun j => .int .i64 (st j : Int)) ∧ cntN st n < C0

end Go.Proofs.Ytdmclgbmdhhdiaa
