import Derived.Test.YtobopjjmhginlaaGreatDoorLogicMeet
import Derived.Test.YtobopjjmhginlaaGreatDoorClaimM4
namespace Go.Proofs.YtobopjjmhginlaaGreatDoor
open Go.ChangeShapes Go.WideShapes Go.ChangeAt Go.RowKit Go.Deep
open Terms
set_option maxHeartbeats 6400000
set_option maxRecDepth 20000
theorem met_clm (l : List (Int × Int)) (h : Nat -> Bool) : ∀ k, metTo l h k = clmTo (aheadL l) (fun q _ => !waitAt l h q) 0 k := by
  intro k
  induction k with
  | zero => simp [metTo, clmTo]
  | succ k ih =>
    simp only [metTo, clmTo, ih]
    by_cases hw : waitAt l h ((aheadL l).getD k 0).toNat = true
    · rw [if_pos hw, if_neg (by rw [hw]; decide)]
    · rw [if_neg hw, if_pos (by rw [Bool.not_eq_true'] ; exact Bool.eq_false_iff.2 hw)]
theorem met_bit (l : List (Int × Int)) (h : Nat -> Bool) {n j : Nat} (hj : j < n) : bitB (metTo l h n) j = !waitAt l h ((aheadL l).getD j 0).toNat := by
  rw [met_clm, bit_clm _ _ _ _ _ hj]
end Go.Proofs.YtobopjjmhginlaaGreatDoor
