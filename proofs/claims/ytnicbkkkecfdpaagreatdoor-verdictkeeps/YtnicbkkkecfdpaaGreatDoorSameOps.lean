/-
  The contract of the laws' own sameOps.
-/
import Derived.Test.YtnicbkkkecfdpaaGreatDoorMem
namespace Go.Proofs.YtnicbkkkecfdpaaGreatDoor
open Go.ChangeShapes Go.WideShapes Go.ChangeAt Go.RowKit Go.Deep
open Terms

end Go.Proofs.YtnicbkkkecfdpaaGreatDoor
