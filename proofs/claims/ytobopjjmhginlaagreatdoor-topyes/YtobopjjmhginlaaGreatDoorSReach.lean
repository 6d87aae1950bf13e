import Derived.Test.YtobopjjmhginlaaGreatDoorLook
import Derived.Test.YtobopjjmhginlaaGreatDoorFirsts
import Derived.Test.YtobopjjmhginlaaGreatDoorRefReach
namespace Go.Proofs.YtobopjjmhginlaaGreatDoor
open Go.ChangeShapes Go.WideShapes Go.ChangeAt Go.RowKit Go.Deep Go.Maps
open Terms
set_option maxHeartbeats 6400000
set_option maxRecDepth 20000
structure GrLe (g : Gr) : Prop where
  spots : g.spots.length <= 140737488355328
  next : g.next.length <= 140737488355328
  sets : g.sets.length <= 140737488355328
  rows : ∀ i, i < g.next.length -> (g.next.getD i []).length <= 140737488355328
end Go.Proofs.YtobopjjmhginlaaGreatDoor
