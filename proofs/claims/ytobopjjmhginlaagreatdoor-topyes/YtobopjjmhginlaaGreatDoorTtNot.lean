import Derived.Test.YtobopjjmhginlaaGreatDoorKeepForm
import Derived.Test.YtobopjjmhginlaaGreatDoorLogicT
namespace Go.Proofs.YtobopjjmhginlaaGreatDoor
open Go.ChangeShapes Go.WideShapes Go.ChangeAt Go.RowKit Go.Deep
open Terms Tm
set_option maxHeartbeats 6400000
set_option maxRecDepth 20000
end Go.Proofs.YtobopjjmhginlaaGreatDoor
