/-
  Plain mathematics of what comes next.
-/
import Derived.Test.YtnicbkkkecfdpaaDoorSteps
import Derived.Test.YtnicbkkkecfdpaaDoorSortOwn
namespace Go.Proofs.YtnicbkkkecfdpaaDoor
open Terms Tm

/-- what comes behind the first so many rules. -/
noncomputable def rawTo (vars : List Vr) (env : List Int) (rules : List Ru) (k : Nat) : List Int := (rules.take k).filterMap (ruleDo vars env)
theorem rawTo_some {vars : List Vr} {env : List Int} {rules : List Ru} {k : Nat} (hk : k < rules.length) {x : Int} (h : ruleDo vars env (rules.getD k ru0) = some x) : rawTo vars env rules (k + 1) = rawTo vars env rules k ++ [x] := by
  unfold rawTo
  rw [List.take_succ_eq_append_getElem hk, List.filterMap_append, show rules[k] = rules.getD k ru0 by simp [List.getD_eq_getElem?_getD, hk]]
  generalize rules.getD k ru0 = r at h
  simp [h]
theorem rawTo_none {vars : List Vr} {env : List Int} {rules : List Ru} {k : Nat} (hk : k < rules.length) (h : ruleDo vars env (rules.getD k ru0) = none) : rawTo vars env rules (k + 1) = rawTo vars env rules k := by
  unfold rawTo
  rw [List.take_succ_eq_append_getElem hk, List.filterMap_append, show rules[k] = rules.getD k ru0 by simp [List.getD_eq_getElem?_getD, hk]]
  generalize rules.getD k ru0 = r at h
  simp [h]
theorem rawTo_length (vars : List Vr) (env : List Int) (rules : List Ru) (k : Nat) : (rawTo vars env rules k).length ≤ k := by
  unfold rawTo
  exact Nat.le_trans (List.length_filterMap_le _ _) (by simp; omega)
/-- what comes behind all rules, or the state itself. -/
noncomputable def rawL (m : Mo) (code : Int) : List Int := if rawTo m.vars (valsL m.vars code) m.rules m.rules.length = [] then [code] else rawTo m.vars (valsL m.vars code) m.rules m.rules.length
/-- the next states. -/
noncomputable def nextL (m : Mo) (code : Int) : List Int := upL (rawL m code)
/-- what Next answers. -/
noncomputable def nxtL (m : Mo) (code : Int) : List Int := if wcode m code = 0 then nextL m code else []
theorem rawTo_mem {vars : List Vr} {env : List Int} {rules : List Ru} {k : Nat} (hk : k ≤ rules.length) (x : Int) : x ∈ rawTo vars env rules k ↔ ∃ j, j < k ∧ ruleDo vars env (rules.getD j ru0) = some x := by
  unfold rawTo
  rw [List.mem_filterMap]
  constructor
  · rintro ⟨r, hr, e⟩
    obtain ⟨j, hj, rfl⟩ := List.mem_iff_getElem.1 hr
    rw [List.length_take] at hj
    refine ⟨j, by omega, ?_⟩
    rw [List.getElem_take] at e
    rw [show rules.getD j ru0 = rules[j]'(by omega) by simp [List.getD_eq_getElem?_getD, show j < rules.length by omega]]
    exact e
  · rintro ⟨j, hj, e⟩
    refine ⟨rules.getD j ru0, ?_, e⟩
    rw [List.mem_iff_getElem]
    exact ⟨j, by rw [List.length_take]; omega, by rw [List.getElem_take]; simp [List.getD_eq_getElem?_getD, show j < rules.length by omega]⟩
/-- a state behind a rule is a state. -/
theorem ruleDo_state {vars : List Vr} {env : List Int} {r : Ru} {x : Int} (hv : VarsOk vars) (h : ruleDo vars env r = some x) : 0 ≤ x ∧ x < prodTo vars vars.length := by
  unfold ruleDo at h
  split at h
  · rename_i hc
    injection h with h
    subst h
    exact code_bounds hv (Nat.le_refl _) hc.2.2
  · cases h
theorem upL_length (l : List Int) : (upL l).length ≤ l.length := Nat.le_trans (Lib.compact_length_le _) (by simp)
theorem nxtL_length (m : Mo) (code : Int) : (nxtL m code).length ≤ 1 + m.rules.length := by
  unfold nxtL nextL
  split
  · refine Nat.le_trans (upL_length _) ?_
    unfold rawL
    split
    · simp
    · exact Nat.le_trans (rawTo_length _ _ _ _) (by omega)
  · simp
end Go.Proofs.YtnicbkkkecfdpaaDoor
