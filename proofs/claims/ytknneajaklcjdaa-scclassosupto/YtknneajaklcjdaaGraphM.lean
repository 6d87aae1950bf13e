/-
  Graphs as they lie in memory.
-/
import Derived.Test.YtknneajaklcjdaaLists
namespace Go.Proofs.Ytknneajaklcjdaa
open Go.ChangeShapes Go.WideShapes Go.ChangeAt Go.RowKit Go.Deep
open Terms

/-- a graph. -/
structure Gr where
  spots : List (Int × Int)
  init : Int
  next : List (List Int)
  sets : List Int
  many : Int
/-- the values of a graph's lists. -/
structure GraphV (w : World) (sv nv bv : Value) (g : Gr) : Prop where
  spots : OpsV w sv g.spots
  next : ListsV w nv g.next
  sets : IntsV w bv g.sets
theorem GraphV.below {w w' : World} {sv nv bv : Value} {g : Gr} (h : GraphV w sv nv bv g) (hb : Below w.heap.size w w') : GraphV w' sv nv bv g := ⟨h.spots.below hb, h.next.below hb, h.sets.below hb⟩
/-- the same, as it came in. -/
structure GraphW (w : World) (sv nv bv : Value) (g : Gr) : Prop where
  spots : OpsV w sv g.spots
  next : ListsW w nv g.next
  sets : IntsW w bv g.sets
theorem GraphW.v {w : World} {sv nv bv : Value} {g : Gr} (h : GraphW w sv nv bv g) : GraphV w sv nv bv g := ⟨h.spots, h.next.v, h.sets.v⟩
theorem GraphW.below {w w' : World} {sv nv bv : Value} {g : Gr} (h : GraphW w sv nv bv g) (hb : Below w.heap.size w w') : GraphW w' sv nv bv g := ⟨h.spots.below hb, h.next.below hb, h.sets.below hb⟩
/-- no list in it is too long. -/
def LisSz (ls : List (List Int)) : Prop := ls.length * 24 ≤ 140737488355328 ∧ ∀ i, i < ls.length → (ls.getD i []).length * 8 ≤ 140737488355328
theorem LisSz.le {ls : List (List Int)} (h : LisSz ls) : ls.length ≤ 140737488355328 := by have := h.1; omega
end Go.Proofs.Ytknneajaklcjdaa
