/-
  The contract of the laws' own sameOps.
-/
import Derived.Test.YtdlpmomohbdpgaaDoorMem
namespace Go.Proofs.YtdlpmomohbdpgaaDoor
open Go.ChangeShapes Go.WideShapes Go.ChangeAt Go.RowKit Go.Deep
open Terms

end Go.Proofs.YtdlpmomohbdpgaaDoor
