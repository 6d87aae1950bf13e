/-
  The contracts of logic's parts (and its two functions) and makes.
-/
import Derived.Test.YtbnhjbjlcnmjbaaDoorLogicT
import Derived.Test.YtbnhjbjlcnmjbaaDoorLogicRead
import Derived.Test.YtbnhjbjlcnmjbaaDoorBools
namespace Go.Proofs.YtbnhjbjlcnmjbaaDoor
open Go.ChangeShapes Go.WideShapes Go.ChangeAt Go.RowKit Go.Deep
open Terms

/-- what the functions that tell of the parts stand on: the box of holds, the row behind it, the boxes of the formula and of the place. -/
structure PartsAt (w : World) (bh bf bp bH n B pl : Nat) (h : Nat → Bool) (l : List (Int × Int)) : Prop where
  holds : w.cell? ⟨bh, 0, none⟩ = some (.slice (some ⟨bH, 0, none⟩) n n)
  row : ∀ j, j < n → w.cell? ⟨bH, j, none⟩ = some (.bool (h j))
  ends : w.cell? ⟨bf, 1, none⟩ = some (.slice (some ⟨B, 0, none⟩) n n)
  erow : ∀ j, j < n → w.cell? ⟨B, j, none⟩ = some (.int .i64 (endAt (l.map Prod.fst) j))
  place : w.cell? ⟨bp, 0, none⟩ = some (.int .i64 pl)

theorem PartsAt.below {w w' : World} {bh bf bp bH n B pl : Nat} {h : Nat → Bool} {l : List (Int × Int)} (p : PartsAt w bh bf bp bH n B pl h l) (hb : Below w.heap.size w w') (h1 : bh < w.heap.size) (h2 : bf < w.heap.size) (h3 : bp < w.heap.size) (h4 : bH < w.heap.size) (h5 : B < w.heap.size) : PartsAt w' bh bf bp bH n B pl h l :=
  ⟨(hb.cell (p := ⟨bh, 0, none⟩) h1).trans p.holds, fun j hj => (hb.cell (p := ⟨bH, j, none⟩) h4).trans (p.row j hj), (hb.cell (p := ⟨bf, 1, none⟩) h2).trans p.ends, fun j hj => (hb.cell (p := ⟨B, j, none⟩) h5).trans (p.erow j hj), (hb.cell (p := ⟨bp, 0, none⟩) h3).trans p.place⟩
end Go.Proofs.YtbnhjbjlcnmjbaaDoor
