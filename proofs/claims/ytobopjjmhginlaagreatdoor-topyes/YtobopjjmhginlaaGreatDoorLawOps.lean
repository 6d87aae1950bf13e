import Derived.Test.YtobopjjmhginlaaGreatDoorAnyOps
import Derived.Test.YtobopjjmhginlaaGreatDoorJoined2
namespace Go.Proofs.YtobopjjmhginlaaGreatDoor
open Go.ChangeShapes Go.WideShapes Go.ChangeAt Go.RowKit Go.Deep
open Terms
set_option maxHeartbeats 6400000
set_option maxRecDepth 20000
def One (w : World) (v : Value) (l : List (Int × Int)) : Prop := ∃ g lv, v = .slice (some ⟨g, 0, none⟩) 1 1 /\ w.cell? ⟨g, 0, none⟩ = some lv /\ OpsV w lv l
def Two (w : World) (v : Value) (l m : List (Int × Int)) : Prop := ∃ g lv mv, v = .slice (some ⟨g, 0, none⟩) 2 2 /\ w.cell? ⟨g, 0, none⟩ = some lv /\ w.cell? ⟨g, 1, none⟩ = some mv /\ OpsV w lv l /\ OpsV w mv m
theorem cell_later {w w' : World} (hb : Below w.heap.size w w') {p : Addr} {x : Value} (h : w.cell? p = some x) : w'.cell? p = some x := (hb.cell (World.block_lt_of_cell? w p h)).trans h
theorem One.below {w w' : World} {v : Value} {l : List (Int × Int)} (h : One w v l) (hb : Below w.heap.size w w') : One w' v l := by
  obtain ⟨g, lv, h1, h2, h3⟩ := h; exact ⟨g, lv, h1, cell_later hb h2, h3.below hb⟩
theorem Two.below {w w' : World} {v : Value} {l m : List (Int × Int)} (h : Two w v l m) (hb : Below w.heap.size w w') : Two w' v l m := by
  obtain ⟨g, lv, mv, h1, h2, h3, h4, h5⟩ := h; exact ⟨g, lv, mv, h1, cell_later hb h2, cell_later hb h3, h4.below hb, h5.below hb⟩
section
variable {o : Oper} {a : Act} {w : World} {Q : Exit -> Act -> World -> Prop}
theorem st_move {s : Nat} {v : Value} (hop : o.op = .move (.tmp s)) (he : a.eval (.tmp s) = v) : Oper.wp Tryz.prog o a w (fun a' w' => ∃ v', a' = a.put o.dst v' /\ Below w.heap.size w w' /\ v' = v) Q := by
  refine op_val (w' := w) (v := v) (post := fun v' _ => v' = v) ?_ (Below.refl _ _) rfl
  generalize a.eval = ev at he ⊢; simp [execOp, hop, he, go_sem]
theorem st_one {s : Nat} {lv : Value} {l : List (Int × Int)} (hop : o.op = .buildSlice 49 1 #[(0, .tmp s)]) (he : a.eval (.tmp s) = lv) (hV : OpsV w lv l) : Oper.wp Tryz.prog o a w (fun a' w' => ∃ v', a' = a.put o.dst v' /\ Below w.heap.size w w' /\ One w' v' l) Q := by
  obtain ⟨ao, c, rfl, _⟩ := id hV; have hA : Below w.heap.size w (w.alloc (.cells #[.slice ao l.length c] 30)) := (Below.refl _ _).alloc (Nat.le_refl _) _; refine op_val (w' := w.alloc (.cells #[.slice ao l.length c] 30)) (v := .slice (some ⟨w.heap.size, 0, none⟩) 1 1) (post := fun v' w' => One w' v' l) ?_ hA ⟨_, _, rfl, by simp [go_sem], hV.below hA⟩
  generalize a.eval = ev at he ⊢; simp [execOp, hop, he, go_sem]
theorem st_two {s t : Nat} {lv mv : Value} {l m : List (Int × Int)} (hop : o.op = .buildSlice 49 2 #[(0, .tmp s), (1, .tmp t)]) (he : a.eval (.tmp s) = lv) (hf : a.eval (.tmp t) = mv) (hV : OpsV w lv l) (hM : OpsV w mv m) : Oper.wp Tryz.prog o a w (fun a' w' => ∃ v', a' = a.put o.dst v' /\ Below w.heap.size w w' /\ Two w' v' l m) Q := by
  obtain ⟨ao, c, rfl, _⟩ := id hV; obtain ⟨bo, d, rfl, _⟩ := id hM; have hA : Below w.heap.size w (w.alloc (.cells #[.slice ao l.length c, .slice bo m.length d] 30)) := (Below.refl _ _).alloc (Nat.le_refl _) _
  refine op_val (w' := w.alloc (.cells #[.slice ao l.length c, .slice bo m.length d] 30)) (v := .slice (some ⟨w.heap.size, 0, none⟩) 2 2) (post := fun v' w' => Two w' v' l m) ?_ hA ⟨_, _, _, rfl, by simp [go_sem], by simp [go_sem], hV.below hA, hM.below hA⟩
  generalize a.eval = ev at he hf ⊢; simp [execOp, hop, he, hf, go_sem]
end
end Go.Proofs.YtobopjjmhginlaaGreatDoor
