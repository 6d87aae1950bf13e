/-
  The contract of the document's own AheadOf.
-/
import Derived.Test.YtalbnbcfdpfofaaDoorRefLook
import Derived.Test.YtalbnbcfdpfofaaDoorLogicRead
namespace Go.Proofs.YtalbnbcfdpfofaaDoor
open Go.ChangeShapes Go.WideShapes Go.ChangeAt Go.RowKit Go.Deep
open Terms

theorem refl_post {α : Prop} (h : α) : α := h

end Go.Proofs.YtalbnbcfdpfofaaDoor
