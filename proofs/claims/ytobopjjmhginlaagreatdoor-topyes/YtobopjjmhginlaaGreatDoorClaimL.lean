import Derived.Test.YtobopjjmhginlaaGreatDoorClaimN
import Derived.Test.YtobopjjmhginlaaGreatDoorLogicFollow
import Derived.Test.YtobopjjmhginlaaGreatDoorKeepForm
namespace Go.Proofs.YtobopjjmhginlaaGreatDoor
open Go.ChangeShapes Go.WideShapes Go.ChangeAt Go.RowKit Go.Deep
open Terms
set_option maxHeartbeats 6400000
set_option maxRecDepth 20000
theorem good_at {m : Nat} {x : List (Int × Int)} {T : Tm} (hF : FOk m x T) {q : Nat} (hq : q < x.length) : lopErr 3 (x.getD q (0, 0)) = 0 := hF.good _ (by rw [List.getD_eq_getElem?_getD, List.getElem?_eq_getElem hq, Option.getD_some]; exact List.getElem_mem hq)
theorem good_vals {m : Nat} {x : List (Int × Int)} {T : Tm} (hF : FOk m x T) : (∀ q, q < x.length -> (x.getD q (0, 0)).1 = 13 -> 0 <= (x.getD q (0, 0)).2) /\ ∀ q, q < x.length -> 8 <= (x.getD q (0, 0)).1 := by
  refine ⟨fun q hq h13 => ?_, fun q hq => ?_⟩
  · have := good_at hF hq
    generalize x.getD q (0, 0) = o at *; unfold lopErr at this; obtain ⟨k, v⟩ := o; simp only at h13
    subst h13; simp at this ⊢
    omega
  · have := good_at hF hq
    generalize x.getD q (0, 0) = o at *; unfold lopErr at this; obtain ⟨k, v⟩ := o; simp only at this ⊢
    by_cases h : k < 8
    · exfalso
      revert this
      simp
      omega
    · omega
end Go.Proofs.YtobopjjmhginlaaGreatDoor
