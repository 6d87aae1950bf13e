/-
  Plain mathematics: what Finally and Globally are in a word of a stem and a loop.
-/
import Derived.Test.YtbnhjbjlcnmjbaaDoorWordsDual
import Derived.Test.YtbnhjbjlcnmjbaaDoorWordM
namespace Go.Proofs.YtbnhjbjlcnmjbaaDoor
open Terms
/-- a later moment is one of stem and loop, from the beginning of the loop on or from itself. -/
theorem mo_back {s n i j : Nat} (hs : s < n) (hi : i ≤ j) : min i s ≤ moAt s n j ∧ moAt s n j < n := by
  refine ⟨?_, moAt_lt hs⟩
  unfold moAt
  split
  · omega
  · omega
theorem fin_loop {ls : List (List Bool)} {s : Nat} (hs : s < ls.length) (v : Int) (t : Tm) {i : Nat} (hi : i < ls.length) : Tm.hb (sig ls s) (.un 17 v t) i = smN (Tm.hb (sig ls s) t) (min i s) (ls.length - min i s) := Tm.bool_eq (by
  rw [Tm.hb_iff, Tm.ho_un17, smN_iff]
  constructor
  · rintro ⟨j, hj, h⟩
    obtain ⟨h1, h2⟩ := mo_back hs hj
    exact ⟨moAt s ls.length j, h1, by omega, by rw [hb_mo hs, Tm.hb_iff]; exact h⟩
  · rintro ⟨k, h1, h2, h3⟩
    by_cases hki : i ≤ k
    · exact ⟨k, hki, Tm.hb_iff.1 h3⟩
    · refine ⟨k + (ls.length - s), by omega, Tm.hb_iff.1 ?_⟩
      rw [Tm.hb_per (sig_per hs) t (by omega)]
      exact h3)
theorem glob_loop {ls : List (List Bool)} {s : Nat} (hs : s < ls.length) (v : Int) (t : Tm) {i : Nat} (hi : i < ls.length) : Tm.hb (sig ls s) (.un 18 v t) i = alN (Tm.hb (sig ls s) t) (min i s) (ls.length - min i s) := Tm.bool_eq (by
  rw [Tm.hb_iff, Tm.ho_un18, alN_iff]
  constructor
  · intro h k h1 h2
    by_cases hki : i ≤ k
    · exact Tm.hb_iff.2 (h k hki)
    · rw [← Tm.hb_per (sig_per hs) t (show s ≤ k by omega)]
      exact Tm.hb_iff.2 (h _ (by omega))
  · intro h j hj
    obtain ⟨h1, h2⟩ := mo_back hs hj
    have := h (moAt s ls.length j) h1 (by omega)
    rw [hb_mo hs, Tm.hb_iff] at this
    exact this)
end Go.Proofs.YtbnhjbjlcnmjbaaDoor
