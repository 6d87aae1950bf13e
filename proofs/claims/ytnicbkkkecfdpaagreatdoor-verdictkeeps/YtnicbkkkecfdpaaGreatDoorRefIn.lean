/-
  The contract of the document's own In.
-/
import Derived.Test.YtnicbkkkecfdpaaGreatDoorMem
namespace Go.Proofs.YtnicbkkkecfdpaaGreatDoor
open Go.ChangeShapes Go.WideShapes Go.ChangeAt Go.RowKit Go.Deep
open Terms

set_option maxRecDepth 20000 in
theorem in_any (n low high : Int) (w : World) :
    Calls Tryz.prog 30 #[.int .i64 n, .int .i64 low, .int .i64 high] w fun e w' => e = .returned (.bool (decide (low ≤ n ∧ n ≤ high))) ∧ w' = w := by
  by_cases h1 : low ≤ n
  · by_cases h2 : n ≤ high
    · rw [show decide (low ≤ n ∧ n ≤ high) = true by simp [h1, h2]]
      go_enter Tryz.func30, Tryz.ntmps30
      go_wp2
      all_goals go_ret
      all_goals exact ⟨rfl, rfl⟩
    · rw [show decide (low ≤ n ∧ n ≤ high) = false by simp [h2]]
      go_enter Tryz.func30, Tryz.ntmps30
      go_wp2
      all_goals go_ret
      all_goals exact ⟨rfl, rfl⟩
  · rw [show decide (low ≤ n ∧ n ≤ high) = false by simp [h1]]
    go_enter Tryz.func30, Tryz.ntmps30
    go_wp2
    all_goals go_ret
    all_goals exact ⟨rfl, rfl⟩

end Go.Proofs.YtnicbkkkecfdpaaGreatDoor
