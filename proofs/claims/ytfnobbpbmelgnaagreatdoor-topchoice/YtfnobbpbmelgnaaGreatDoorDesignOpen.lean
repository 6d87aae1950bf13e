import Derived.Test.YtfnobbpbmelgnaaGreatDoorKeepModel
import Derived.Lib.SmallJoins
namespace Go.Proofs.YtfnobbpbmelgnaaGreatDoor
open Go.ChangeShapes Go.WideShapes Go.ChangeAt Go.RowKit Go.Deep Go.Joins
open Terms Tm
set_option maxHeartbeats 6400000
set_option maxRecDepth 20000
instance:Inhabited Pl:=⟨pl0⟩
section
variable {H : Type} {enc : TypeId × Value -> H} {W : World}
end
