import Derived.Test.YtobopjjmhginlaaGreatDoorLetters
import Derived.Test.YtobopjjmhginlaaGreatDoorBoolsOf
import Derived.Test.YtobopjjmhginlaaGreatDoorWordM
import Derived.Deep.RegionHeld3
namespace Go.Proofs.YtobopjjmhginlaaGreatDoor
open Go.ChangeShapes Go.WideShapes Go.ChangeAt Go.RowKit Go.Deep Go.Joins
open Terms
set_option maxHeartbeats 6400000
set_option maxRecDepth 20000
section
variable {H : Type} {enc : TypeId × Value -> H} {W : World}
end
end Go.Proofs.YtobopjjmhginlaaGreatDoor
