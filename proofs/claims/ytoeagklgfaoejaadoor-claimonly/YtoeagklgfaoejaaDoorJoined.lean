/-
  The contract of the keeping laws' own joined: an op ahead of terms.
-/
import Derived.Test.YtoeagklgfaoejaaDoorMem
namespace Go.Proofs.YtoeagklgfaoejaaDoor
open Go.ChangeShapes Go.WideShapes Go.ChangeAt Go.RowKit Go.Deep
open Terms

theorem take_flat {ts : List (List (Int × Int))} {i : Nat} (hi : i < ts.length) : (ts.take (i + 1)).flatten = (ts.take i).flatten ++ ts.getD i [] := by
  rw [List.take_succ_eq_append_getElem hi, List.flatten_append]
  simp [List.getD_eq_getElem?_getD, hi]

end Go.Proofs.YtoeagklgfaoejaaDoor
