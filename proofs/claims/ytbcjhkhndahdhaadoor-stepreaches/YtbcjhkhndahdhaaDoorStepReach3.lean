/-
  The contract of step.Reach, for every model.
-/
import Derived.Test.YtbcjhkhndahdhaaDoorStepReach2
namespace Go.Proofs.YtbcjhkhndahdhaaDoor
open Go.ChangeShapes Go.WideShapes Go.ChangeAt Go.RowKit Go.Deep Go.Maps
open Terms Tm

set_option maxHeartbeats 1600000 in
set_option maxRecDepth 20000 in
/-- THE CONTRACT OF Reach. -/
theorem reach_any (va vr : Value) (m : Mo) (w : World) (hB : 0 < w.heap.size) (hT : TabAt w) (hV : ModelV w va vr m) :
    Calls Tryd.prog 4 #[.agg #[va, vr]] w fun e w' => ∃ v, e = .returned (.tuple #[v, .int .i64 (mcode m)]) ∧ Below w.heap.size w w' ∧ IntsV w' v (reachL m) := by
  by_cases hm : mcode m = 0
  · have h := reach_loop va vr m w hB hT hV hm
    unfold reachL
    rw [if_pos hm, hm]
    exact h
  · have hA : ∀ o, Below w.heap.size w (w.alloc o) := fun o => (Below.refl _ _).alloc (Nat.le_refl _) o
    have hfi := fun o => mfirst_any va vr m (w.alloc o) (Nat.lt_of_lt_of_le hB (hA o).size) (hT.below (hA o) hB) (hV.below (hA o))
    have hRL : reachL m = [] := by unfold reachL; rw [if_neg hm]
    rw [if_neg hm] at hfi
    rw [hRL]
    obtain ⟨ao, cap, rfl⟩ := hV.1.shape
    obtain ⟨ro, rc, rfl⟩ := hV.2.shape
    generalize mcode m = c at *
    generalize m.vars.length = n at *
    generalize m.rules.length = rn at *
    clear hV hRL hT
    go_enter Tryd.func4, Tryd.ntmps4
    go_wp2_with (go_at_call 8; refine (hfi _).mono ?_; rintro e w1 ⟨rfl, hb1⟩)
    go_ret2
    exact ⟨_, rfl, (hA _).trans (hb1.mono (hA _).size), none, 0, rfl, fun h => absurd rfl h⟩
theorem reachL_length (m : Mo) : (reachL m).length ≤ 5000 := by
  unfold reachL
  split
  · rename_i hm
    have hN := (mcode_vars hm).prod (j := m.vars.length) (Nat.le_refl _)
    unfold reachN
    rw [List.length_map]
    refine Nat.le_trans (List.length_filter_le _ _) ?_
    rw [List.length_range]
    omega
  · simp
end Go.Proofs.YtbcjhkhndahdhaaDoor
