/-
  The contracts of word.Moments and word.Holds.
-/
import Derived.Test.YtoeagklgfaoejaaDoorWFill
namespace Go.Proofs.YtoeagklgfaoejaaDoor
open Go.ChangeShapes Go.WideShapes Go.ChangeAt Go.RowKit Go.Deep
open Terms

/-- what Moments refuses. -/
def mocode (props : Int) (l : List (Int × Int)) (ss ll : List (List Bool)) : Int := if lcode props l ≠ 0 then lcode props l else wcode props ss ll
theorem mocode_zero {props : Int} {l : List (Int × Int)} {ss ll : List (List Bool)} (h : mocode props l ss ll = 0) : lcode props l = 0 ∧ wcode props ss ll = 0 := by
  unfold mocode at h
  split at h
  · rename_i h1; exact absurd h h1
  · rename_i h1; exact ⟨by simpa using h1, h⟩

set_option maxRecDepth 20000 in
theorem fill_bad (v : Value) (so lo : Option Addr) (sn sc ln lc : Nat) (l : List (Int × Int)) (ss ll : List (List Bool)) (props : Int) (w : World) (hB : 0 < w.heap.size) (hT : TabAt w) (hV : OpsV w v l) (hzs : ss.length ≤ 140737488355328) (hzl : ll.length ≤ 140737488355328) (hS : LettersV w (.slice so sn sc) ss) (hL : LettersV w (.slice lo ln lc) ll) (hc : mocode props l ss ll ≠ 0) :
    Calls Tryd.prog 13 #[v, .agg #[.slice so sn sc, .slice lo ln lc], .int .i64 props] w fun e w' => e = .returned (.tuple #[.agg #[.slice none 0 0, .slice none 0 0, .slice none 0 0, .slice none 0 0, .int .i64 0, .slice none 0 0], .int .i64 (mocode props l ss ll)]) ∧ Below w.heap.size w w' := by
  unfold mocode at hc ⊢
  by_cases h : lcode props l ≠ 0
  · rw [if_pos h]; exact fill_bad1 v so lo sn sc ln lc l props w hB hT hV h
  · rw [if_neg h] at hc ⊢; exact fill_bad2 v so lo sn sc ln lc l ss ll props w hB hT hV hzs hzl hS hL (by simpa using h) hc

/-- a row of truths. -/
def RowT (W : World) (rb m : Nat) (h : Nat → Bool) : Prop := rb < W.heap.size ∧ ∀ j, j < m → W.cell? ⟨rb, j, none⟩ = some (.bool (h j))
theorem RowT.boolsV {W : World} {rb m : Nat} {h : Nat → Bool} (r : RowT W rb m h) : BoolsV W (.slice (some ⟨rb, 0, none⟩) m m) ((List.range m).map h) :=
  ⟨some ⟨rb, 0, none⟩, m, by simp, fun _ => ⟨rb, 0, rfl, r.1, fun i hi => by
    simp only [List.length_map, List.length_range] at hi
    rw [Nat.zero_add, r.2 i hi]
    simp [List.getD_eq_getElem?_getD, hi]⟩⟩

end Go.Proofs.YtoeagklgfaoejaaDoor
