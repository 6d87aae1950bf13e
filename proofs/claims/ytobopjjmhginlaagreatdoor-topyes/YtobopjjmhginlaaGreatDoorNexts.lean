import Derived.Test.YtobopjjmhginlaaGreatDoorSteps
import Derived.Test.YtobopjjmhginlaaGreatDoorSortOwn
namespace Go.Proofs.YtobopjjmhginlaaGreatDoor
open Terms Tm
set_option maxHeartbeats 6400000
set_option maxRecDepth 20000
noncomputable def rawTo (vars : List Vr) (env : List Int) (rules : List Ru) (k : Nat) : List Int := (rules.take k).filterMap (ruleDo vars env)
theorem rawTo_some {vars : List Vr} {env : List Int} {rules : List Ru} {k : Nat} (hk : k < rules.length) {x : Int} (h : ruleDo vars env (rules.getD k ru0) = some x) : rawTo vars env rules (k + 1) = rawTo vars env rules k ++ [x] := by
  unfold rawTo; rw [List.take_succ_eq_append_getElem hk, List.filterMap_append, show rules[k] = rules.getD k ru0 by simp [List.getD_eq_getElem?_getD, hk]]
  generalize rules.getD k ru0 = r at h; simp [h]
theorem rawTo_none {vars : List Vr} {env : List Int} {rules : List Ru} {k : Nat} (hk : k < rules.length) (h : ruleDo vars env (rules.getD k ru0) = none) : rawTo vars env rules (k + 1) = rawTo vars env rules k := by
  unfold rawTo; rw [List.take_succ_eq_append_getElem hk, List.filterMap_append, show rules[k] = rules.getD k ru0 by simp [List.getD_eq_getElem?_getD, hk]]
  generalize rules.getD k ru0 = r at h; simp [h]
theorem rawTo_length (vars : List Vr) (env : List Int) (rules : List Ru) (k : Nat) : (rawTo vars env rules k).length <= k := by
  unfold rawTo; exact Nat.le_trans (List.length_filterMap_le _ _) (by simp; omega)
noncomputable def rawL (m : Mo) (code : Int) : List Int := if rawTo m.vars (valsL m.vars code) m.rules m.rules.length = [] then [code] else rawTo m.vars (valsL m.vars code) m.rules m.rules.length
noncomputable def nextL (m : Mo) (code : Int) : List Int := upL (rawL m code)
noncomputable def nxtL (m : Mo) (code : Int) : List Int := if wcode m code = 0 then nextL m code else []
theorem rawTo_mem {vars : List Vr} {env : List Int} {rules : List Ru} {k : Nat} (hk : k <= rules.length) (x : Int) : x ∈ rawTo vars env rules k ↔ ∃ j, j < k /\ ruleDo vars env (rules.getD j ru0) = some x := by
  unfold rawTo; rw [List.mem_filterMap]
  constructor
  · rintro ⟨r, hr, e⟩
    obtain ⟨j, hj, rfl⟩ := List.mem_iff_getElem.1 hr; rw [List.length_take] at hj; refine ⟨j, by omega, ?_⟩
    rw [List.getElem_take] at e; rw [show rules.getD j ru0 = rules[j]'(by omega) by simp [List.getD_eq_getElem?_getD, show j < rules.length by omega]]
    exact e
  · rintro ⟨j, hj, e⟩
    refine ⟨rules.getD j ru0, ?_, e⟩
    rw [List.mem_iff_getElem]; exact ⟨j, by rw [List.length_take]; omega, by rw [List.getElem_take]; simp [List.getD_eq_getElem?_getD, show j < rules.length by omega]⟩
theorem ruleDo_state {vars : List Vr} {env : List Int} {r : Ru} {x : Int} (hv : VarsOk vars) (h : ruleDo vars env r = some x) : 0 <= x /\ x < prodTo vars vars.length := by
  unfold ruleDo at h
  split at h
  · rename_i hc
    injection h with h
    subst h; exact code_bounds hv (Nat.le_refl _) hc.2.2
  · cases h
end Go.Proofs.YtobopjjmhginlaaGreatDoor
