import Derived.Test.YtobopjjmhginlaaGreatDoorKTask
import Derived.Test.YtobopjjmhginlaaGreatDoorTtNot
namespace Go.Proofs.YtobopjjmhginlaaGreatDoor
open Go.ChangeShapes Go.WideShapes Go.ChangeAt Go.RowKit Go.Deep
open Terms Tm
set_option maxHeartbeats 6400000
set_option maxRecDepth 20000
section
variable {m : Mo} {l : List (Int × Int)} {mm : Nat}
end
end Go.Proofs.YtobopjjmhginlaaGreatDoor
