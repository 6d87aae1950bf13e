import Derived.Test.YtobopjjmhginlaaGreatDoorWFill1
import Derived.Test.YtobopjjmhginlaaGreatDoorLogicAh
namespace Go.Proofs.YtobopjjmhginlaaGreatDoor
open Go.ChangeShapes Go.WideShapes Go.ChangeAt Go.RowKit Go.Deep Go.Shelf
open Terms
set_option maxHeartbeats 6400000
set_option maxRecDepth 20000
attribute [local go_sem] Oper.semAt_some
end Go.Proofs.YtobopjjmhginlaaGreatDoor
