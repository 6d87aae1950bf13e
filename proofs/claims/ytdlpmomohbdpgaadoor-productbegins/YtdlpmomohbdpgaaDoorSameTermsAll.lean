/-
  The contract of the laws' own sameTerms, over lists of any length.
-/
import Derived.Test.YtdlpmomohbdpgaaDoorSameOps
namespace Go.Proofs.YtdlpmomohbdpgaaDoor
open Go.ChangeShapes Go.WideShapes Go.ChangeAt Go.RowKit Go.Deep
open Terms

end Go.Proofs.YtdlpmomohbdpgaaDoor
