/-
  What the keeping laws on moments share.
-/
import Derived.Test.YtoeagklgfaoejaaDoorKeepHolds
namespace Go.Proofs.YtoeagklgfaoejaaDoor
open Go.ChangeShapes Go.WideShapes Go.ChangeAt Go.RowKit Go.Deep Go.Joins
open Terms

theorem RowT.later {W W' : World} {rb m : Nat} {h : Nat → Bool} (r : RowT W rb m h) (hb : Below W.heap.size W W') : RowT W' rb m h := ⟨Nat.lt_of_lt_of_le r.1 hb.size, fun j hj => (hb.cell (p := ⟨rb, j, none⟩) r.1).trans (r.2 j hj)⟩
end Go.Proofs.YtoeagklgfaoejaaDoor
