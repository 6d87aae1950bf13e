/-
  Operations on truths in rows, one by one.
-/
import Derived.Test.YtbnhjbjlcnmjbaaDoorAnyGuard
namespace Go.Proofs.YtbnhjbjlcnmjbaaDoor
open Go.ChangeShapes Go.WideShapes Go.ChangeAt Go.RowKit Go.Deep

section
variable {o : Oper} {a : Act} {w : World}
theorem run_moveB {s : Nat} {v : Value} (hop : o.op = .move (.tmp s)) (he : a.eval (.tmp s) = v) : (execOp a.eval o).run Tryd.prog w = .ok (.value v) w := by
  generalize a.eval = ev at he ⊢
  simp [execOp, hop, he, go_sem]
theorem run_idxB {s t b n i : Nat} (hop : o.op = .indexAddr 32 (.tmp s) (.tmp t)) (hs : a.eval (.tmp s) = .slice (some ⟨b, 0, none⟩) n n) (ht : a.eval (.tmp t) = .int .i64 (i : Int)) (hi : i < n) : (execOp a.eval o).run Tryd.prog w = .ok (.value (.pointer (some ⟨b, i, none⟩))) w := by
  generalize a.eval = ev at hs ht ⊢
  simp [execOp, hop, hs, ht, go_sem]
  intro h
  omega
theorem run_loadB {s b i : Nat} {x : Bool} (hop : o.op = .load 4 (.tmp s)) (hs : a.eval (.tmp s) = .pointer (some ⟨b, i, none⟩)) (hc : w.cell? ⟨b, i, none⟩ = some (.bool x)) : (execOp a.eval o).run Tryd.prog w = .ok (.value (.bool x)) w := by
  generalize a.eval = ev at hs ⊢
  simp [execOp, hop, hs, hc, go_sem]
theorem run_pickB {s : Nat} {x y : Operand} {c : Bool} {v : Value} (hop : o.op = .pick (.tmp s) x y) (hs : a.eval (.tmp s) = .bool c) (hv : cond c (a.eval x) (a.eval y) = v) : (execOp a.eval o).run Tryd.prog w = .ok (.value v) w := by
  subst hv
  generalize a.eval = ev at hs ⊢
  cases c <;> simp [execOp, hop, hs, go_sem]
theorem run_neqB {s t : Nat} {x y z : Bool} (hop : o.op = .binOp .neq 4 (.tmp s) (.tmp t) 4) (hs : a.eval (.tmp s) = .bool x) (ht : a.eval (.tmp t) = .bool y) (hz : (x != y) = z) : (execOp a.eval o).run Tryd.prog w = .ok (.value (.bool z)) w := by
  subst hz
  generalize a.eval = ev at hs ht ⊢
  cases x <;> cases y <;> simp [execOp, hop, hs, ht, go_sem]
theorem run_notB {s : Nat} {x : Bool} (hop : o.op = .unOp .not 4 (.tmp s)) (hs : a.eval (.tmp s) = .bool x) : (execOp a.eval o).run Tryd.prog w = .ok (.value (.bool (!x))) w := by
  generalize a.eval = ev at hs ⊢
  cases x <;> simp [execOp, hop, hs, go_sem]
end
theorem cond_yes {α : Type} {g : Bool} {x y : α} (h : g = true) : cond g x y = x := by rw [h]; rfl
theorem cond_no {α : Type} {g : Bool} {x y : α} (h : g = false) : y = cond g x y := by rw [h]; rfl
end Go.Proofs.YtbnhjbjlcnmjbaaDoor
