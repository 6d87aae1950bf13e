import Derived.Test.YtobopjjmhginlaaGreatDoorBools
import Derived.Test.YtobopjjmhginlaaGreatDoorRow
import Derived.Lib.SmallJoins
namespace Go.Proofs.YtobopjjmhginlaaGreatDoor
open Go.ChangeShapes Go.WideShapes Go.ChangeAt Go.RowKit Go.Deep
open Terms
set_option maxHeartbeats 6400000
set_option maxRecDepth 20000
theorem cellsBool : Tryz.prog.cellsOf 4 = 1 := by kernel_rfl
end Go.Proofs.YtobopjjmhginlaaGreatDoor
