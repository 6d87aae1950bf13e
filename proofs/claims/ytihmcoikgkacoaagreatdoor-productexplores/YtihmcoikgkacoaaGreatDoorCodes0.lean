/-
  A row that stays.
-/
import Derived.Test.YtihmcoikgkacoaaGreatDoorMem
namespace Go.Proofs.YtihmcoikgkacoaaGreatDoor
open Go.ChangeShapes Go.WideShapes Go.ChangeAt Go.RowKit Go.Deep
theorem row_later {w w' : World} {b t n : Nat} {f : Nat → Value} (h : w.rowIs b t n f) (hb : Below w.heap.size w w') : w'.rowIs b t n f := h.of_block (hb.block b h.lt)
end Go.Proofs.YtihmcoikgkacoaaGreatDoor
