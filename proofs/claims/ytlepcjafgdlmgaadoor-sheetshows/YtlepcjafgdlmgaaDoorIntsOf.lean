import Derived.Test.YtlepcjafgdlmgaaDoorMem
namespace Go.Proofs.YtlepcjafgdlmgaaDoor
open Go.ChangeShapes Go.WideShapes Go.ChangeAt Go.RowKit Go.Deep
open Terms
set_option maxHeartbeats 6400000
set_option maxRecDepth 20000
def ivals (l:List Int):List Value:=l.map fun x=>.int .i64 x
