/-
  Tapes: what may be one; the copies that the code and the document make.
-/
import Derived.Test.YtjnobdpjohbdnaaTMem
import Derived.Deep.AppendLies
import Derived.Deep.RegionHeld3
namespace Go.Proofs.Ytjnobdpjohbdnaa
open Go.ChangeShapes Go.WideShapes Go.ChangeAt Go.RowKit Go.Deep

theorem take_succ {l : List UInt8} {k : Nat} (hk : k < l.length) : l.take (k + 1) = l.take k ++ [l.getD k 0] := by
  rw [List.take_add_one]
  simp [List.getD_eq_getElem?_getD, hk]
/-- P11.1. -/
def mayB (n : Nat) (s : Int) : Bool := decide (n ≤ 1048576 ∧ 0 ≤ s ∧ s ≤ n)

set_option maxRecDepth 20000 in
theorem mayBe_any (ao : Option Addr) (n cap : Nat) (s : Int) (w : World) :
    Calls Try.prog 21 #[.agg #[.slice ao n cap, .int .i64 s]] w fun e w' => e = .returned (.bool (mayB n s)) ∧ Below w.heap.size w w' := by
  have hb : ∀ o, Below w.heap.size w (w.alloc o) := fun o => (Below.refl _ _).alloc (Nat.le_refl _) _
  by_cases h1 : n ≤ 1048576
  · by_cases h2 : 0 ≤ s
    · by_cases h3 : s ≤ n
      · rw [show mayB n s = true by simp [mayB, h1, h2, h3]]
        go_enter Try.func21, Try.ntmps21
        go_wp2
        all_goals go_ret
        all_goals exact ⟨rfl, hb _⟩
      · rw [show mayB n s = false by simp [mayB, h3]]
        go_enter Try.func21, Try.ntmps21
        go_wp2
        all_goals go_ret
        all_goals exact ⟨rfl, hb _⟩
    · rw [show mayB n s = false by simp [mayB, h2]]
      go_enter Try.func21, Try.ntmps21
      go_wp2
      all_goals go_ret
      all_goals exact ⟨rfl, hb _⟩
  · rw [show mayB n s = false by simp [mayB, h1]]
    go_enter Try.func21, Try.ntmps21
    go_wp2
    all_goals go_ret
    all_goals exact ⟨rfl, hb _⟩

end Go.Proofs.Ytjnobdpjohbdnaa
