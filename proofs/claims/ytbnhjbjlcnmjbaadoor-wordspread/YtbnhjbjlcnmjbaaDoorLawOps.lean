/-
  The operations by which a list of laws is put together: joined formulas, pairs of them, and the list.
-/
import Derived.Test.YtbnhjbjlcnmjbaaDoorAnyOps
import Derived.Test.YtbnhjbjlcnmjbaaDoorJoined2
namespace Go.Proofs.YtbnhjbjlcnmjbaaDoor
open Go.ChangeShapes Go.WideShapes Go.ChangeAt Go.RowKit Go.Deep
open Terms

def One (w : World) (v : Value) (l : List (Int × Int)) : Prop := ∃ g lv, v = .slice (some ⟨g, 0, none⟩) 1 1 ∧ w.cell? ⟨g, 0, none⟩ = some lv ∧ OpsV w lv l
def Two (w : World) (v : Value) (l m : List (Int × Int)) : Prop := ∃ g lv mv, v = .slice (some ⟨g, 0, none⟩) 2 2 ∧ w.cell? ⟨g, 0, none⟩ = some lv ∧ w.cell? ⟨g, 1, none⟩ = some mv ∧ OpsV w lv l ∧ OpsV w mv m
def Pair (w : World) (v : Value) (l m : List (Int × Int)) : Prop := ∃ lv mv, v = .agg #[lv, mv] ∧ OpsV w lv l ∧ OpsV w mv m
def LawsV (w : World) (v : Value) (ls : List (List (Int × Int) × List (Int × Int))) : Prop := ∃ g, v = .slice (some ⟨g, 0, none⟩) ls.length ls.length ∧ g < w.heap.size ∧ ∀ i, i < ls.length → ∃ x y, w.cell? ⟨g, i * 2, none⟩ = some x ∧ w.cell? ⟨g, i * 2 + 1, none⟩ = some y ∧ OpsV w x (ls.getD i ([], [])).1 ∧ OpsV w y (ls.getD i ([], [])).2
theorem cell_later {w w' : World} (hb : Below w.heap.size w w') {p : Addr} {x : Value} (h : w.cell? p = some x) : w'.cell? p = some x := (hb.cell (World.block_lt_of_cell? w p h)).trans h
theorem One.below {w w' : World} {v : Value} {l : List (Int × Int)} (h : One w v l) (hb : Below w.heap.size w w') : One w' v l := by
  obtain ⟨g, lv, h1, h2, h3⟩ := h
  exact ⟨g, lv, h1, cell_later hb h2, h3.below hb⟩
theorem Two.below {w w' : World} {v : Value} {l m : List (Int × Int)} (h : Two w v l m) (hb : Below w.heap.size w w') : Two w' v l m := by
  obtain ⟨g, lv, mv, h1, h2, h3, h4, h5⟩ := h
  exact ⟨g, lv, mv, h1, cell_later hb h2, cell_later hb h3, h4.below hb, h5.below hb⟩
theorem Pair.below {w w' : World} {v : Value} {l m : List (Int × Int)} (h : Pair w v l m) (hb : Below w.heap.size w w') : Pair w' v l m := by
  obtain ⟨lv, mv, h1, h2, h3⟩ := h
  exact ⟨lv, mv, h1, h2.below hb, h3.below hb⟩
theorem LawsV.below {w w' : World} {v : Value} {ls : List (List (Int × Int) × List (Int × Int))} (h : LawsV w v ls) (hb : Below w.heap.size w w') : LawsV w' v ls := by
  obtain ⟨g, h1, h2, h3⟩ := h
  refine ⟨g, h1, Nat.lt_of_lt_of_le h2 hb.size, fun i hi => ?_⟩
  obtain ⟨x, y, c1, c2, o1, o2⟩ := h3 i hi
  exact ⟨x, y, cell_later hb c1, cell_later hb c2, o1.below hb, o2.below hb⟩
section
variable {o : Oper} {a : Act} {w : World} {Q : Exit → Act → World → Prop}
theorem st_move {s : Nat} {v : Value} (hop : o.op = .move (.tmp s)) (he : a.eval (.tmp s) = v) : Oper.wp Tryd.prog o a w (fun a' w' => ∃ v', a' = a.put o.dst v' ∧ Below w.heap.size w w' ∧ v' = v) Q := by
  refine op_val (w' := w) (v := v) (post := fun v' _ => v' = v) ?_ (Below.refl _ _) rfl
  generalize a.eval = ev at he ⊢
  simp [execOp, hop, he, go_sem]
theorem st_one {s : Nat} {lv : Value} {l : List (Int × Int)} (hop : o.op = .buildSlice 56 1 #[(0, .tmp s)]) (he : a.eval (.tmp s) = lv) (hV : OpsV w lv l) : Oper.wp Tryd.prog o a w (fun a' w' => ∃ v', a' = a.put o.dst v' ∧ Below w.heap.size w w' ∧ One w' v' l) Q := by
  obtain ⟨ao, c, rfl, _⟩ := id hV
  have hA : Below w.heap.size w (w.alloc (.cells #[.slice ao l.length c] 30)) := (Below.refl _ _).alloc (Nat.le_refl _) _
  refine op_val (w' := w.alloc (.cells #[.slice ao l.length c] 30)) (v := .slice (some ⟨w.heap.size, 0, none⟩) 1 1) (post := fun v' w' => One w' v' l) ?_ hA ⟨_, _, rfl, by simp [go_sem], hV.below hA⟩
  generalize a.eval = ev at he ⊢
  simp [execOp, hop, he, go_sem]
theorem st_two {s t : Nat} {lv mv : Value} {l m : List (Int × Int)} (hop : o.op = .buildSlice 56 2 #[(0, .tmp s), (1, .tmp t)]) (he : a.eval (.tmp s) = lv) (hf : a.eval (.tmp t) = mv) (hV : OpsV w lv l) (hM : OpsV w mv m) : Oper.wp Tryd.prog o a w (fun a' w' => ∃ v', a' = a.put o.dst v' ∧ Below w.heap.size w w' ∧ Two w' v' l m) Q := by
  obtain ⟨ao, c, rfl, _⟩ := id hV
  obtain ⟨bo, d, rfl, _⟩ := id hM
  have hA : Below w.heap.size w (w.alloc (.cells #[.slice ao l.length c, .slice bo m.length d] 30)) := (Below.refl _ _).alloc (Nat.le_refl _) _
  refine op_val (w' := w.alloc (.cells #[.slice ao l.length c, .slice bo m.length d] 30)) (v := .slice (some ⟨w.heap.size, 0, none⟩) 2 2) (post := fun v' w' => Two w' v' l m) ?_ hA ⟨_, _, _, rfl, by simp [go_sem], by simp [go_sem], hV.below hA, hM.below hA⟩
  generalize a.eval = ev at he hf ⊢
  simp [execOp, hop, he, hf, go_sem]
theorem st_join1 {s : Nat} {k : Int} {l : List (Int × Int)} (hop : o.op = .call { callee := .value (.func 10), args := #[.const (.int .i64 k), .tmp s], argTypes := #[3, 56] }) (he : One w (a.eval (.tmp s)) l) (hl : l.length ≤ 60) (hne : l ≠ []) : Oper.wp Tryd.prog o a w (fun a' w' => ∃ v', a' = a.put o.dst v' ∧ Below w.heap.size w w' ∧ OpsV w' v' ((k, 0) :: l)) Q := by
  obtain ⟨g, lv, hv, hc, hV⟩ := he
  refine op_call (f := 10) (args := #[.int .i64 k, .slice (some ⟨g, 0, none⟩) 1 1]) (post := fun v' w' => OpsV w' v' ((k, 0) :: l)) ?_ ((joined1 k g lv l w hc hl hne hV).mono ?_)
  · have evc : ∀ v, a.eval (.const v) = v := fun v => rfl
    have evf : ∀ n, a.eval (.func n) = .func (.func n) #[] #[] := fun n => rfl
    generalize a.eval = ev at hv evc evf ⊢
    simp [execOp, hop, hv, evc, evf, go_sem]
  · rintro e w' ⟨a', c, rfl, hb, hO⟩
    exact ⟨_, rfl, hb, hO⟩
theorem st_join2 {s : Nat} {k : Int} {l m : List (Int × Int)} (hop : o.op = .call { callee := .value (.func 10), args := #[.const (.int .i64 k), .tmp s], argTypes := #[3, 56] }) (he : Two w (a.eval (.tmp s)) l m) (hl : l.length ≤ 60) (hm : m.length ≤ 60) (hne : l ≠ []) (hme : m ≠ []) : Oper.wp Tryd.prog o a w (fun a' w' => ∃ v', a' = a.put o.dst v' ∧ Below w.heap.size w w' ∧ OpsV w' v' ((k, 0) :: (l ++ m))) Q := by
  obtain ⟨g, lv, mv, hv, hc, hd, hV, hM⟩ := he
  refine op_call (f := 10) (args := #[.int .i64 k, .slice (some ⟨g, 0, none⟩) 2 2]) (post := fun v' w' => OpsV w' v' ((k, 0) :: (l ++ m))) ?_ ((joined2 k g lv mv l m w hc hd hl hm hne hme hV hM).mono ?_)
  · have evc : ∀ v, a.eval (.const v) = v := fun v => rfl
    have evf : ∀ n, a.eval (.func n) = .func (.func n) #[] #[] := fun n => rfl
    generalize a.eval = ev at hv evc evf ⊢
    simp [execOp, hop, hv, evc, evf, go_sem]
  · rintro e w' ⟨a', c, rfl, hb, hO⟩
    exact ⟨_, rfl, hb, hO⟩
theorem st_pair {s t : Nat} {l m : List (Int × Int)} (hop : o.op = .build 44 #[(0, .tmp s), (1, .tmp t)]) (hV : OpsV w (a.eval (.tmp s)) l) (hM : OpsV w (a.eval (.tmp t)) m) : Oper.wp Tryd.prog o a w (fun a' w' => ∃ v', a' = a.put o.dst v' ∧ Below w.heap.size w w' ∧ Pair w' v' l m) Q := by
  obtain ⟨ao, c, he, _⟩ := id hV
  obtain ⟨bo, d, hf, _⟩ := id hM
  refine op_val (w' := w) (v := .agg #[.slice ao l.length c, .slice bo m.length d]) (post := fun v' w' => Pair w' v' l m) ?_ (Below.refl _ _) ⟨_, _, rfl, by rw [← he]; exact hV, by rw [← hf]; exact hM⟩
  generalize a.eval = ev at he hf ⊢
  simp [execOp, hop, he, hf, go_sem]
end
theorem pair_slices {w : World} {v : Value} {l m : List (Int × Int)} (h : Pair w v l m) : ∃ ao c bo d, v = .agg #[.slice ao l.length c, .slice bo m.length d] ∧ OpsV w (.slice ao l.length c) l ∧ OpsV w (.slice bo m.length d) m := by
  obtain ⟨lv, mv, rfl, hV, hM⟩ := h
  obtain ⟨ao, c, rfl, _⟩ := id hV
  obtain ⟨bo, d, rfl, _⟩ := id hM
  exact ⟨ao, c, bo, d, rfl, hV, hM⟩
end Go.Proofs.YtbnhjbjlcnmjbaaDoor
