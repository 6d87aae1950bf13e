import Derived.Test.YteejnjcdfmedlaaGreatDoorGrown2
namespace Go.Proofs.YteejnjcdfmedlaaGreatDoor
open Go.ChangeShapes Go.WideShapes Go.ChangeAt Go.RowKit Go.Deep
open Terms
set_option maxHeartbeats 6400000
set_option maxRecDepth 20000
theorem cellsRaw : Tryz.prog.cellsOf 145 = 2 := by kernel_rfl
theorem bytesRaw : Tryz.prog.bytesOf 145 = 16 := by kernel_rfl
end Go.Proofs.YteejnjcdfmedlaaGreatDoor
