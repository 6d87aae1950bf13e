/-
  Check at a tree that is typed, and at one that is not.
-/
import Derived.Test.YtlmghhfpoeocnabDoorKeepEval
namespace Go.Proofs.YtlmghhfpoeocnabDoor
open Go.ChangeShapes Go.WideShapes Go.ChangeAt Go.RowKit Go.Deep
open Terms Tm

theorem check_bad (v : Value) (T : Tm) (w : World) (hty : T.typed = false) (hB : 0 < w.heap.size) (hT : TabAt w) (hg : T.Good 3) (h60 : T.size ≤ 60) (hV : OpsV w v T.ops) :
    Calls Tryd.prog 8 #[v, .int .i64 3] w fun e w' => e = .returned (.tuple #[.bool false, .int .i64 5]) ∧ Below w.heap.size w w' := by
  have h := check_at v T w hB hT hg h60 hV
  rw [hty] at h
  exact h
theorem check_good (v : Value) (T : Tm) (bb : Bool) (w : World) (hty : T.typed = true) (hk : mkT T.kind = bb) (hB : 0 < w.heap.size) (hT : TabAt w) (hg : T.Good 3) (h60 : T.size ≤ 60) (hV : OpsV w v T.ops) :
    Calls Tryd.prog 8 #[v, .int .i64 3] w fun e w' => e = .returned (.tuple #[.bool bb, .int .i64 0]) ∧ Below w.heap.size w w' := by
  have h := check_at v T w hB hT hg h60 hV
  rw [hty, hk] at h
  exact h
end Go.Proofs.YtlmghhfpoeocnabDoor
