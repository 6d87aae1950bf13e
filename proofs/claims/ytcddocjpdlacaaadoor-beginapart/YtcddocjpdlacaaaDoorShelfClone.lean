/-
  The library's slices.Clone at lists of numbers: its contract at this program.
-/
import Derived.Ground.Names2Prog
import Derived.Shelf.Slices.Clone
import Derived.Lib.OwnBridge
import Derived.Laws.OwnMore
import Derived.Test.YtcddocjpdlacaaaDoorValRes
namespace Go.Proofs.YtcddocjpdlacaaaDoor
open Go.Shelf Go.RowKit Go.Lib
end Go.Proofs.YtcddocjpdlacaaaDoor
