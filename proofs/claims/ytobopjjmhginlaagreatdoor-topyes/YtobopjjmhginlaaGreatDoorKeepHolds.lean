import Derived.Test.YtobopjjmhginlaaGreatDoorWMom
import Derived.Test.YtobopjjmhginlaaGreatDoorKeepWord
import Derived.Test.YtobopjjmhginlaaGreatDoorJoined2
import Derived.Test.YtobopjjmhginlaaGreatDoorGrown3
namespace Go.Proofs.YtobopjjmhginlaaGreatDoor
open Go.ChangeShapes Go.WideShapes Go.ChangeAt Go.RowKit Go.Deep Go.Joins
open Terms
set_option maxHeartbeats 6400000
set_option maxRecDepth 20000
theorem Raws.up {w w' : World} {v : Value} {rs : List (Int × Int)} (h : Raws w w.heap.size v rs) (hb : Below w.heap.size w w') : Raws w' w'.heap.size v rs := by
  obtain ⟨⟨ao, cap, hv, h1⟩, h2, h3⟩ := h; refine ⟨⟨ao, cap, hv, fun hne => ?_⟩, h2, h3⟩
  obtain ⟨b, off, ha, hlt, hat⟩ := h1 hne; exact ⟨b, off, ha, Nat.lt_of_lt_of_le hlt hb.size, hat.below hb hlt⟩
section
variable {H : Type} {enc : TypeId × Value -> H} {W : World}
end
end Go.Proofs.YtobopjjmhginlaaGreatDoor
