/-
  The contract of polish.Ends in one form.
-/
import Derived.Test.YtnicbkkkecfdpaaGreatDoorMem
namespace Go.Proofs.YtnicbkkkecfdpaaGreatDoor
open Go.ChangeShapes Go.WideShapes Go.ChangeAt Go.RowKit Go.Deep
open Terms

set_option maxRecDepth 20000 in
theorem ends_v (v : Value) (ks : List Int) (w : World) (hB : 0 < w.heap.size) (hT : TabAt w) (hK : Kinds w v ks) :
    Calls Tryz.prog 60 #[v] w fun e w' => ∃ v', e = .returned (.tuple #[v', .int .i64 (endsCode ks)]) ∧ Below w.heap.size w w' ∧ IntsV w' v' (endsL ks) := by
  refine (ends_any v ks w hB hT hK).mono fun e w' ⟨hb, h1, h2⟩ => ?_
  by_cases hc : endsCode ks = 0
  · obtain ⟨B, hB', rfl, hrow⟩ := h2 hc
    refine ⟨_, by rw [hc], hb, ?_⟩
    unfold endsL
    rw [if_pos hc]
    refine ⟨_, _, by rw [List.length_map, List.length_range], fun _ => ⟨B, 0, rfl, hrow.lt, fun i hi => ?_⟩⟩
    rw [List.length_map, List.length_range] at hi
    rw [Nat.zero_add, hrow.cell hi]
    simp [List.getD_eq_getElem?_getD, hi]
  · refine ⟨_, h1 hc, hb, ?_⟩
    unfold endsL
    rw [if_neg hc]
    exact ⟨none, 0, rfl, fun h => absurd rfl h⟩

end Go.Proofs.YtnicbkkkecfdpaaGreatDoor
