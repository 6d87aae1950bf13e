import Derived.Test.YtobopjjmhginlaaGreatDoorLists
namespace Go.Proofs.YtobopjjmhginlaaGreatDoor
open Go.ChangeShapes Go.WideShapes Go.ChangeAt Go.RowKit Go.Deep
open Terms
set_option maxHeartbeats 6400000
set_option maxRecDepth 20000
structure Gr where
  spots : List (Int × Int)
  init : Int
  next : List (List Int)
  sets : List Int
  many : Int
structure GraphV (w : World) (sv nv bv : Value) (g : Gr) : Prop where
  spots : OpsV w sv g.spots
  next : ListsV w nv g.next
  sets : IntsV w bv g.sets
theorem GraphV.below {w w' : World} {sv nv bv : Value} {g : Gr} (h : GraphV w sv nv bv g) (hb : Below w.heap.size w w') : GraphV w' sv nv bv g := ⟨h.spots.below hb, h.next.below hb, h.sets.below hb⟩
end Go.Proofs.YtobopjjmhginlaaGreatDoor
