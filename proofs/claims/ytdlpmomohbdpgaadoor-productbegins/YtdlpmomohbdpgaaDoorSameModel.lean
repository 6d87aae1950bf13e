/-
  The contract of the laws' own sameModel, at two models that hold the same.
-/
import Derived.Test.YtdlpmomohbdpgaaDoorModelMem
import Derived.Test.YtdlpmomohbdpgaaDoorSameOps
namespace Go.Proofs.YtdlpmomohbdpgaaDoor
open Go.ChangeShapes Go.WideShapes Go.ChangeAt Go.RowKit Go.Deep
open Terms Tm

end Go.Proofs.YtdlpmomohbdpgaaDoor
