import Derived.Test.YtobopjjmhginlaaGreatDoorClaimL
namespace Go.Proofs.YtobopjjmhginlaaGreatDoor
open Go.ChangeShapes Go.WideShapes Go.ChangeAt Go.RowKit Go.Deep
open Terms
set_option maxHeartbeats 6400000
set_option maxRecDepth 20000
theorem ahead_mono (l : List (Int × Int)) : ∀ (d n : Nat), ∃ r, aheadTo l (n + d) = aheadTo l n ++ r := by
  intro d
  induction d with
  | zero => intro n; exact ⟨[], by simp⟩
  | succ d ih =>
    intro n; obtain ⟨r, h⟩ := ih n; rw [show n + (d + 1) = (n + d) + 1 by omega]
    simp only [aheadTo]
    split
    · exact ⟨r ++ [((n + d : Nat) : Int)], by rw [h, List.append_assoc]⟩
    · exact ⟨r, by rw [List.append_nil]; exact h⟩
theorem ahead_at {l : List (Int × Int)} {p : Nat} (hp : p < l.length) (hb : lookB (l.getD p (0, 0)).1 = true) : (aheadTo l p).length < (aheadL l).length /\ (aheadL l).getD (aheadTo l p).length 0 = (p : Int) := by
  obtain ⟨r, h⟩ := ahead_mono l (l.length - (p + 1)) (p + 1); rw [show p + 1 + (l.length - (p + 1)) = l.length by omega] at h
  have h1 : aheadTo l (p + 1) = aheadTo l p ++ [(p : Int)] := by simp only [aheadTo]; rw [if_pos hb]; unfold aheadL; rw [h, h1]; refine ⟨by simp, ?_⟩
  simp [List.getD_eq_getElem?_getD]
end Go.Proofs.YtobopjjmhginlaaGreatDoor
