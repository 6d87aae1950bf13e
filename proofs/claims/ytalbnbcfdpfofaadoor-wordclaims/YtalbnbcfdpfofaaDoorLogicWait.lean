/-
  The contracts of logic's waits and comes.
-/
import Derived.Test.YtalbnbcfdpfofaaDoorLogicTr3
namespace Go.Proofs.YtalbnbcfdpfofaaDoor
open Go.ChangeShapes Go.WideShapes Go.ChangeAt Go.RowKit Go.Deep
open Terms

/-- does an op that looks ahead put off what must come? -/
def waitB (k : Int) (a x y : Bool) : Bool := if k = 17 then a && !x else if k = 18 then !a && x else if k = 15 then a && !y else if k = 16 then !a && y else false
/-- does it hold by what holds now and at the next moment? -/
def comeB (k : Int) (x y z nx : Bool) : Bool := if k = 17 then x || z else if k = 18 then x && z else if k = 15 then y || (x && z) else if k = 16 then y && (x || z) else nx

/-- what waits and comes stand on. -/
structure PlaceIn (w : World) (b off n cap B bH : Nat) (l : List (Int × Int)) (h : Nat → Bool) (p : Nat) (kx : Int) : Prop where
  n60 : n ≤ 60
  pl : p < n
  one : p + 1 < n
  two : kx = 15 ∨ kx = 16 → sec l p < n
  kind : w.cell? ⟨b, off + p * 2, none⟩ = some (.int .i64 kx)
  bl : b < w.heap.size
  row : ∀ j, j < n → w.cell? ⟨bH, j, none⟩ = some (.bool (h j))
  hl : bH < w.heap.size
  ends : ∀ j, j < n → w.cell? ⟨B, j, none⟩ = some (.int .i64 (endAt (l.map Prod.fst) j))
  el : B < w.heap.size

end Go.Proofs.YtalbnbcfdpfofaaDoor
