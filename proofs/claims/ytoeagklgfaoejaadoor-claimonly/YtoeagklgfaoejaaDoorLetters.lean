/-
  Lists of letters as they lie in memory.
-/
import Derived.Test.YtoeagklgfaoejaaDoorBools
namespace Go.Proofs.YtoeagklgfaoejaaDoor
open Go.ChangeShapes Go.WideShapes Go.ChangeAt Go.RowKit Go.Deep
open Terms

def nilV : Value := .slice none 0 0
/-- values that hold letters. -/
def LetsU (w : World) (us : List Value) (ls : List (List Bool)) : Prop := us.length = ls.length ∧ ∀ i, i < ls.length → BoolsV w (us.getD i nilV) (ls.getD i [])
theorem LetsU.below {w w' : World} {us : List Value} {ls : List (List Bool)} (h : LetsU w us ls) (hb : Below w.heap.size w w') : LetsU w' us ls := ⟨h.1, fun i hi => (h.2 i hi).below hb⟩
theorem LetsU.nil (w : World) : LetsU w [] [] := ⟨rfl, fun i hi => by simp at hi⟩
theorem getD_app {α : Type} (a b : List α) (d : α) (i : Nat) : (a ++ b).getD i d = if i < a.length then a.getD i d else b.getD (i - a.length) d := by
  by_cases h : i < a.length
  · rw [if_pos h]; simp [List.getD_eq_getElem?_getD, List.getElem?_append_left h]
  · rw [if_neg h]; simp [List.getD_eq_getElem?_getD, List.getElem?_append_right (Nat.le_of_not_lt h)]
theorem LetsU.append {w : World} {us us' : List Value} {ls ls' : List (List Bool)} (h : LetsU w us ls) (h' : LetsU w us' ls') : LetsU w (us ++ us') (ls ++ ls') := by
  refine ⟨by simp [h.1, h'.1], fun i hi => ?_⟩
  rw [getD_app, getD_app, h.1]
  split
  · rename_i hl; exact h.2 i hl
  · rename_i hl; exact h'.2 _ (by simp at hi; omega)
theorem LetsU.one {w : World} {us : List Value} {ls : List (List Bool)} (h : LetsU w us ls) : ∀ u ∈ us, u.oneCell' = true := by
  intro u hu
  obtain ⟨i, hi, rfl⟩ := List.getElem_of_mem hu
  have := h.2 i (by rw [← h.1]; exact hi)
  obtain ⟨ao, cap, hv, _⟩ := this
  rw [List.getD_eq_getElem?_getD, List.getElem?_eq_getElem hi] at hv
  simp only [Option.getD_some] at hv
  rw [hv]; rfl
/-- A VALUE THAT HOLDS LETTERS. -/
def LettersV (w : World) (v : Value) (ls : List (List Bool)) : Prop := ∃ us ao cap, v = .slice ao ls.length cap ∧ (ao = none → cap = 0 ∧ ls = []) ∧ LetsU w us ls ∧ (ls ≠ [] → ∃ b off, ao = some ⟨b, off, none⟩ ∧ b < w.heap.size ∧ ∀ i, i < ls.length → w.cell? ⟨b, off + i, none⟩ = some (us.getD i nilV))
theorem LettersV.below {w w' : World} {v : Value} {ls : List (List Bool)} (h : LettersV w v ls) (hb : Below w.heap.size w w') : LettersV w' v ls := by
  obtain ⟨us, ao, cap, rfl, h0, hu, h⟩ := h
  refine ⟨us, ao, cap, rfl, h0, hu.below hb, fun hne => ?_⟩
  obtain ⟨b, off, rfl, hlt, hat⟩ := h hne
  exact ⟨b, off, rfl, Nat.lt_of_lt_of_le hlt hb.size, fun i hi => (hb.cell (p := ⟨b, _, none⟩) hlt).trans (hat i hi)⟩
theorem LettersV.shape {w : World} {v : Value} {ls : List (List Bool)} (h : LettersV w v ls) : ∃ ao cap, v = .slice ao ls.length cap := by
  obtain ⟨_, ao, cap, rfl, _⟩ := h; exact ⟨_, _, rfl⟩
theorem LettersV.at {w : World} {ao : Option Addr} {cap n : Nat} {ls : List (List Bool)} (h : LettersV w (.slice ao n cap) ls) {i : Nat} (hi : i < ls.length) : ∃ b off, ao = some ⟨b, off, none⟩ ∧ b < w.heap.size ∧ ∃ u, w.cell? ⟨b, off + i, none⟩ = some u ∧ BoolsV w u (ls.getD i []) := by
  obtain ⟨us, ao', cap', hv, _, hu, h⟩ := h
  injection hv with e1 e2 e3
  subst e1
  obtain ⟨b, off, e, hlt, hat⟩ := h (by rintro rfl; simp at hi)
  exact ⟨b, off, e, hlt, _, hat i hi, hu.2 i hi⟩
/-- a row that the call owns holds letters. -/
theorem lettersV_of_owns {w : World} {base : Nat} {v : Value} {us : List Value} {ls : List (List Bool)} (h : w.ownsRow base 39 1 v us.length us) (hu : LetsU w us ls) : LettersV w v ls := by
  have hlen := hu.1
  rcases h.2 with ⟨rfl, h0⟩ | ⟨g, cap, cur, rfl, hb, hg, hnc, hcm, hcs, htake⟩
  · have : ls = [] := List.length_eq_zero_iff.1 (by omega)
    subst this
    exact ⟨us, none, 0, rfl, fun _ => ⟨rfl, rfl⟩, hu, fun h => absurd rfl h⟩
  · refine ⟨us, _, cap, by rw [hlen], fun h => by simp at h, hu, fun _ => ⟨g, 0, rfl, (Array.getElem?_eq_some_iff.1 hg).1, fun i hi => ?_⟩⟩
    rw [Nat.zero_add, h.cellAt i (by omega)]
    simp [List.getD_eq_getElem?_getD, show i < us.length by omega]
theorem infoBools : (Tryd.prog.info? 39).map (fun i => (i.zero, i.size, i.bytes)) = some (some (.slice none 0 0), 1, 24) := by kernel_rfl
end Go.Proofs.YtoeagklgfaoejaaDoor
