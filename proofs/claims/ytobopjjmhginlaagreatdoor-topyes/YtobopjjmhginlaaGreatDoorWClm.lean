import Derived.Test.YtobopjjmhginlaaGreatDoorLogicMeet
import Derived.Test.YtobopjjmhginlaaGreatDoorCodes0
namespace Go.Proofs.YtobopjjmhginlaaGreatDoor
open Go.ChangeShapes Go.WideShapes Go.ChangeAt Go.RowKit Go.Deep
open Terms
set_option maxHeartbeats 6400000
set_option maxRecDepth 20000
def clmTo (a : List Int) (h : Nat -> Nat -> Bool) (j : Nat) : Nat -> Int
  | 0 => 0
  | k + 1 => clmTo a h j k + if h (a.getD k 0).toNat j = true then 2 ^ k else 0
theorem clmTo_bounds (a : List Int) (h : Nat -> Nat -> Bool) (j : Nat) : ∀ k, 0 <= clmTo a h j k /\ clmTo a h j k < 2 ^ k := by
  intro k
  induction k with
  | zero => simp [clmTo]
  | succ k ih =>
    have h2 : (0 : Int) < 2 ^ k := Int.pow_pos (by decide)
    simp only [clmTo]; rw [Int.pow_succ]
    split <;> omega
end Go.Proofs.YtobopjjmhginlaaGreatDoor
