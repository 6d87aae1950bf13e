import Derived.Test.YtepefdhdcfnmkaaGreatDoorGrown2
namespace Go.Proofs.YtepefdhdcfnmkaaGreatDoor
open Go.ChangeShapes Go.WideShapes Go.ChangeAt Go.RowKit Go.Deep
open Terms
set_option maxHeartbeats 6400000
set_option maxRecDepth 20000
theorem cellsRaw : Tryz.prog.cellsOf 128 = 2 := by kernel_rfl
theorem bytesRaw : Tryz.prog.bytesOf 128 = 16 := by kernel_rfl
end Go.Proofs.YtepefdhdcfnmkaaGreatDoor
