/-
  The contract of the laws' own sameModel, at two models that hold the same.
-/
import Derived.Test.YtnicbkkkecfdpaaGreatDoorModelMem
import Derived.Test.YtnicbkkkecfdpaaGreatDoorSameOps
namespace Go.Proofs.YtnicbkkkecfdpaaGreatDoor
open Go.ChangeShapes Go.WideShapes Go.ChangeAt Go.RowKit Go.Deep
open Terms Tm

end Go.Proofs.YtnicbkkkecfdpaaGreatDoor
