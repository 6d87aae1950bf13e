/-
  Plain mathematics: a word without its first letter.
-/
import Derived.Test.YtbnhjbjlcnmjbaaDoorWordsNow
namespace Go.Proofs.YtbnhjbjlcnmjbaaDoor
open Terms
theorem sig_tail {ls : List (List Bool)} {s : Nat} (hs : 0 < s) (hn : s < ls.length) : sig ls.tail (s - 1) = fun j => sig ls s (j + 1) := by
  funext j v
  unfold sig
  have hl : ls.tail.length = ls.length - 1 := by simp
  have e : moAt (s - 1) ls.tail.length j + 1 = moAt s ls.length (j + 1) := by
    unfold moAt
    rw [hl]
    by_cases h : j < ls.length - 1
    · rw [if_pos h, if_pos (by omega)]
    · rw [if_neg h, if_neg (by omega), show j + 1 - s = j - (s - 1) by omega, show ls.length - 1 - (s - 1) = ls.length - s by omega]
      omega
  rw [← e]
  congr 1
  cases ls with
  | nil => simp at hn
  | cons x r => simp [List.getD_eq_getElem?_getD]
theorem sig_turn {x : List Bool} {r : List (List Bool)} : sig (r ++ [x]) 0 = fun j => sig (x :: r) 0 (j + 1) := by
  funext j v
  unfold sig
  have hl : (r ++ [x]).length = (x :: r).length := by simp
  rw [hl]
  congr 1
  have hn : 0 < (x :: r).length := by simp
  have m0 : ∀ i, moAt 0 (x :: r).length i = i % (x :: r).length := fun i => by
    unfold moAt
    split
    · rename_i h; rw [Nat.mod_eq_of_lt h]
    · simp
  rw [m0, m0]
  have hj : j % (x :: r).length < (x :: r).length := Nat.mod_lt _ hn
  have e : (j + 1) % (x :: r).length = (j % (x :: r).length + 1) % (x :: r).length := (Nat.mod_add_mod _ _ _).symm
  rw [e]
  generalize j % (x :: r).length = k at *
  by_cases hk : k < r.length
  · rw [Nat.mod_eq_of_lt (by simp; omega)]
    simp [List.getD_eq_getElem?_getD, List.getElem?_append_left hk]
  · have hk' : k = r.length := by simp at hj; omega
    subst hk'
    rw [show r.length + 1 = (x :: r).length by simp, Nat.mod_self]
    simp [List.getD_eq_getElem?_getD]
/-- WHAT HOLDS AT THE NEXT MOMENT. -/
theorem hb_shift1 {σ τ : Nat → Nat → Bool} (h : τ = fun j => σ (j + 1)) (v : Int) (t : Tm) : Tm.hb τ t 0 = Tm.hb σ (.un 14 v t) 0 := by
  rw [Tm.hb_next]
  refine Tm.bool_eq ?_
  rw [Tm.hb_iff, Tm.hb_iff, h]
  exact Tm.ho_shift σ 1 t 0
end Go.Proofs.YtbnhjbjlcnmjbaaDoor
