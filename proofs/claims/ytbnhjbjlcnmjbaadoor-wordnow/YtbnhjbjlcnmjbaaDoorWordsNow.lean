/-
  Plain mathematics: what is to come is now, or from the next moment on.
-/
import Derived.Test.YtbnhjbjlcnmjbaaDoorWordsLoop
namespace Go.Proofs.YtbnhjbjlcnmjbaaDoor
open Terms
/-- the next moment of stem and loop. -/
def nxt (s n i : Nat) : Nat := if i + 1 = n then s else i + 1
theorem nxt_lt {s n i : Nat} (hs : s < n) (hi : i < n) : nxt s n i < n := by unfold nxt; split <;> omega
theorem hb_nxt {ls : List (List Bool)} {s : Nat} (hs : s < ls.length) (t : Tm) {i : Nat} (hi : i < ls.length) : Tm.hb (sig ls s) t (i + 1) = Tm.hb (sig ls s) t (nxt s ls.length i) := by
  rw [← hb_mo hs t (i + 1)]
  congr 1
  unfold moAt nxt
  by_cases h : i + 1 = ls.length
  · rw [if_neg (by omega), if_pos h, h, Nat.mod_self, Nat.add_zero]
  · rw [if_pos (by omega), if_neg h]
theorem now_until {ls : List (List Bool)} {s : Nat} (hs : s < ls.length) (v : Int) (a b : Tm) {i : Nat} (hi : i < ls.length) : Tm.hb (sig ls s) (.bi 15 v a b) i = (Tm.hb (sig ls s) b i || (Tm.hb (sig ls s) a i && Tm.hb (sig ls s) (.bi 15 v a b) (nxt s ls.length i))) := by
  rw [← hb_nxt hs _ hi, Tm.hb_until, untB_step, ← Tm.hb_until _ v]
theorem now_release {ls : List (List Bool)} {s : Nat} (hs : s < ls.length) (v : Int) (a b : Tm) {i : Nat} (hi : i < ls.length) : Tm.hb (sig ls s) (.bi 16 v a b) i = (Tm.hb (sig ls s) b i && (Tm.hb (sig ls s) a i || Tm.hb (sig ls s) (.bi 16 v a b) (nxt s ls.length i))) := by
  rw [← hb_nxt hs _ hi, Tm.hb_rel, untB_step, ← Tm.hb_rel _ v]
  cases Tm.hb (sig ls s) a i <;> cases Tm.hb (sig ls s) b i <;> simp
theorem now_finally {ls : List (List Bool)} {s : Nat} (hs : s < ls.length) (v : Int) (a : Tm) {i : Nat} (hi : i < ls.length) : Tm.hb (sig ls s) (.un 17 v a) i = (Tm.hb (sig ls s) a i || Tm.hb (sig ls s) (.un 17 v a) (nxt s ls.length i)) := by
  rw [← hb_nxt hs _ hi, Tm.hb_fin, untB_step, ← Tm.hb_fin _ v]
  simp
theorem now_globally {ls : List (List Bool)} {s : Nat} (hs : s < ls.length) (v : Int) (a : Tm) {i : Nat} (hi : i < ls.length) : Tm.hb (sig ls s) (.un 18 v a) i = (Tm.hb (sig ls s) a i && Tm.hb (sig ls s) (.un 18 v a) (nxt s ls.length i)) := by
  rw [← hb_nxt hs _ hi, Tm.hb_glob, untB_step, ← Tm.hb_glob _ v]
  simp
theorem now_next {ls : List (List Bool)} {s : Nat} (hs : s < ls.length) (v : Int) (a : Tm) {i : Nat} (hi : i < ls.length) : Tm.hb (sig ls s) (.un 14 v a) i = Tm.hb (sig ls s) a (nxt s ls.length i) := by
  rw [Tm.hb_next, hb_nxt hs _ hi]
end Go.Proofs.YtbnhjbjlcnmjbaaDoor
