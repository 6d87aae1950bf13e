/-
  Joined out of Lists, GraphM, GraphC, FairD, in their order: a claim bears at most so many files.
-/
import Derived.Test.YtobopjjmhginlabGreatDoorBools
import Derived.Test.YtobopjjmhginlabGreatDoorIntsOf
import Derived.Deep.RegionHeld3
namespace Go.Proofs.YtobopjjmhginlabGreatDoor
open Go.ChangeShapes Go.WideShapes Go.ChangeAt Go.RowKit Go.Deep
open Terms
set_option maxHeartbeats 6400000
set_option maxRecDepth 20000
structure Gr where
  spots : List (Int × Int)
  init : Int
  next : List (List Int)
  sets : List Int
  many : Int
end Go.Proofs.YtobopjjmhginlabGreatDoor
namespace Go.Proofs.YtobopjjmhginlabGreatDoor
open Terms
set_option maxHeartbeats 6400000
set_option maxRecDepth 20000
def nxt (g : Gr) (i : Nat) : List Nat := (g.next.getD i []).map Int.toNat
end Go.Proofs.YtobopjjmhginlabGreatDoor
namespace Go.Proofs.YtobopjjmhginlabGreatDoor
open Go.ChangeShapes Go.WideShapes Go.ChangeAt Go.RowKit Go.Deep
open Terms
set_option maxHeartbeats 6400000
set_option maxRecDepth 20000
end Go.Proofs.YtobopjjmhginlabGreatDoor
