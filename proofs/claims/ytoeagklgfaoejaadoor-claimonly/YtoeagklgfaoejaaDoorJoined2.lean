/-
  The keeping laws' own joined, over one and over two terms.
-/
import Derived.Test.YtoeagklgfaoejaaDoorJoined
namespace Go.Proofs.YtoeagklgfaoejaaDoor
open Go.ChangeShapes Go.WideShapes Go.ChangeAt Go.RowKit Go.Deep
open Terms

theorem OpsV.shape {w : World} {v : Value} {l : List (Int × Int)} (h : OpsV w v l) : ∃ a c, v = .slice a l.length c := by obtain ⟨a, c, rfl, _⟩ := h; exact ⟨_, _, rfl⟩
end Go.Proofs.YtoeagklgfaoejaaDoor
