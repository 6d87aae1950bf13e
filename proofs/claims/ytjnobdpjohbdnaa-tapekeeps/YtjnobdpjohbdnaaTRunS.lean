/-
  Records that are read are small.
-/
import Derived.Test.YtjnobdpjohbdnaaTRead
namespace Go.Proofs.Ytjnobdpjohbdnaa
open Go.ChangeShapes Go.WideShapes Go.ChangeAt Go.RowKit Go.Deep

theorem run_small (d : List UInt8) : ∀ (k i : Nat), i < (run k d).1.length → ((run k d).1.getD i []).length ≤ 4000
  | 0, i, hi => by simp [run] at hi
  | k + 1, i, hi => by
    cases h : recAt (d.drop (run k d).2) with
    | none =>
      have e : run (k + 1) d = run k d := run_stay h 1
      rw [e] at hi ⊢
      exact run_small d k i hi
    | some l =>
      have e := run_go h
      rw [e] at hi ⊢
      have hl : l.length ≤ 4000 := by have := (recAt_some h).1; unfold wrC at this; split at this <;> omega
      rw [getD_app]
      split
      · rename_i hlt; exact run_small d k i hlt
      · have : i - (run k d).1.length = 0 := by simp at hi; omega
        rw [this]
        exact hl
end Go.Proofs.Ytjnobdpjohbdnaa
