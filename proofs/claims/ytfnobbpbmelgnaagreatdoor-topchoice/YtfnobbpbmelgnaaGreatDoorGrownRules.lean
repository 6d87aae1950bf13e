import Derived.Test.YtfnobbpbmelgnaaGreatDoorGrownModel
namespace Go.Proofs.YtfnobbpbmelgnaaGreatDoor
open Go.ChangeShapes Go.WideShapes Go.ChangeAt Go.RowKit Go.Deep
open Terms Tm
set_option maxHeartbeats 6400000
set_option maxRecDepth 20000
structure Pl where
 gr:List (Int × Int)
 var:Int
 vr:List (Int × Int)
 both:Bool
def pl0:Pl:=⟨[],0,[],false⟩
