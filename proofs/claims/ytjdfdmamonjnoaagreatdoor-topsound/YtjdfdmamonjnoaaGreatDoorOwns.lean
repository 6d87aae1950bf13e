import Derived.Test.YtjdfdmamonjnoaaGreatDoorMem
namespace Go.Proofs.YtjdfdmamonjnoaaGreatDoor
open Go.ChangeShapes Go.WideShapes Go.ChangeAt Go.RowKit Go.Deep
open Terms
set_option maxHeartbeats 6400000
set_option maxRecDepth 20000
end Go.Proofs.YtjdfdmamonjnoaaGreatDoor
