/-
  The contract of the laws' own sameTerms, over lists of any length.
-/
import Derived.Test.YtnicbkkkecfdpaaGreatDoorSameOps
namespace Go.Proofs.YtnicbkkkecfdpaaGreatDoor
open Go.ChangeShapes Go.WideShapes Go.ChangeAt Go.RowKit Go.Deep
open Terms

end Go.Proofs.YtnicbkkkecfdpaaGreatDoor
