/-
  Plain mathematics of what comes behind a state. Nothing of the program is named here.
-/
import Derived.Test.YtnicbkkkecfdpaaDoorValRes
import Derived.Test.YtnicbkkkecfdpaaDoorEval
namespace Go.Proofs.YtnicbkkkecfdpaaDoor
open Terms Tm

/-- what an expression makes, and with what it is refused. -/
noncomputable def exN (l : List (Int × Int)) (env : List Int) : Int := evalN l (treeOf l) env
noncomputable def exC (l : List (Int × Int)) (env : List Int) : Int := evalC l (treeOf l) env
/-- does a truth hold? -/
noncomputable def holdsB (l : List (Int × Int)) (env : List Int) : Bool := decide (exC l env = 0) && decide (exN l env = 1)
/-- the values, so many sets done. -/
noncomputable def setTo (env : List Int) (sets : List St) : Nat → List Int
  | 0 => env
  | k + 1 => (setTo env sets k).set (sets.getD k st0).var.toNat (exN (sets.getD k st0).val env)
/-- one value, so many sets done. -/
noncomputable def setAt (env : List Int) (sets : List St) (i : Nat) : Nat → Int
  | 0 => env.getD i 0
  | k + 1 => if (sets.getD k st0).var = i then exN (sets.getD k st0).val env else setAt env sets i k
theorem setTo_length (env : List Int) (sets : List St) (k : Nat) : (setTo env sets k).length = env.length := by
  induction k with
  | zero => rfl
  | succ k ih => simp [setTo, ih]
theorem getD_set (l : List Int) (i j : Nat) (x : Int) (hi : i < l.length) : (l.set i x).getD j 0 = if i = j then x else l.getD j 0 := by
  simp only [List.getD_eq_getElem?_getD, List.getElem?_set]
  by_cases h : i = j
  · subst h; simp [hi]
  · simp [h]
theorem setTo_at {env : List Int} {sets : List St} {k : Nat} (h : ∀ j, j < k → 0 ≤ (sets.getD j st0).var ∧ (sets.getD j st0).var < env.length) (i : Nat) : (setTo env sets k).getD i 0 = setAt env sets i k := by
  induction k with
  | zero => rfl
  | succ k ih =>
    obtain ⟨h0, h1⟩ := h k (by omega)
    simp only [setTo, setAt]
    rw [getD_set _ _ _ _ (by rw [setTo_length]; omega), ih fun j hj => h j (by omega)]
    by_cases hk : (sets.getD k st0).var = i
    · rw [if_pos hk, if_pos (by omega)]
    · rw [if_neg hk, if_neg (by omega)]
/-- the values behind a rule. -/
noncomputable def behindL (env : List Int) (r : Ru) : List Int := setTo env r.sets r.sets.length
def setsOk (env : List Int) (r : Ru) : Prop := ∀ j, j < r.sets.length → exC (r.sets.getD j st0).val env = 0
open Classical in
/-- the state behind a rule, if it can be done. -/
noncomputable def ruleDo (vars : List Vr) (env : List Int) (r : Ru) : Option Int :=
  if holdsB r.guard env = true ∧ setsOk env r ∧ ∀ i, i < vars.length → inB vars (behindL env r) i then some (codeTo vars (behindL env r) vars.length) else none
def optN : Option Int → Int
  | some x => x
  | none => 0
def optC : Option Int → Int
  | some _ => 0
  | none => 11
theorem ruleDo_guard {vars : List Vr} {env : List Int} {r : Ru} (h : holdsB r.guard env = false) : ruleDo vars env r = none := by
  unfold ruleDo
  rw [if_neg (fun h2 => by rw [h] at h2; cases h2.1)]
theorem ruleDo_set {vars : List Vr} {env : List Int} {r : Ru} {j : Nat} (hj : j < r.sets.length) (h : exC (r.sets.getD j st0).val env ≠ 0) : ruleDo vars env r = none := by
  unfold ruleDo
  rw [if_neg (fun h2 => h (h2.2.1 j hj))]
theorem ruleDo_code {vars : List Vr} {env : List Int} {r : Ru} (h1 : holdsB r.guard env = true) (h2 : setsOk env r) (hl : env.length = vars.length) {m : Mo} (hm : mcode m = 0) (hv : m.vars = vars) :
    (ccode m (behindL env r) = 0 → ruleDo vars env r = some (cval m (behindL env r))) ∧ (ccode m (behindL env r) ≠ 0 → ruleDo vars env r = none) := by
  have hb : (behindL env r).length = m.vars.length := by unfold behindL; rw [setTo_length, hl, hv]
  subst hv
  by_cases hin : ∀ i, i < m.vars.length → inB m.vars (behindL env r) i
  · have hc := ccode_yes hm ⟨hb, hin⟩
    refine ⟨fun _ => ?_, fun h => absurd hc h⟩
    unfold ruleDo
    rw [if_pos ⟨h1, h2, hin⟩]
    unfold cval
    rw [if_pos hc]
  · have hc := ccode_no hm (vals := behindL env r) (fun h => hin h.2)
    refine ⟨fun h => (by rw [hc] at h; cases h), fun _ => ?_⟩
    unfold ruleDo
    rw [if_neg (fun h => hin h.2.2)]
/-- what is known of a rule that passes. -/
theorem rule_sets {vars : Int} {r : Ru} (h : rcode vars r = 0) : r.sets.length ≤ 6 ∧ ∀ j, j < r.sets.length → 0 ≤ (r.sets.getD j st0).var ∧ (r.sets.getD j st0).var < vars := by
  unfold rcode at h
  split at h
  · simp at h
  · rename_i h6
    refine ⟨by omega, fun j hj => ?_⟩
    split at h
    · have h1 := firstOf_zero h j hj
      unfold sAt at h1
      split at h1
      · simp at h1
      · rename_i h2; omega
    · rename_i h2; exact absurd h h2
theorem mcode_rules {m : Mo} (h : mcode m = 0) : m.rules.length ≤ 12 ∧ ∀ j, j < m.rules.length → rcode m.vars.length (m.rules.getD j ru0) = 0 := by
  unfold mcode at h
  split at h
  · split at h
    · simp at h
    · rename_i h1; exact ⟨by omega, firstOf_zero h⟩
  · rename_i h0; exact absurd h h0
theorem mcode_bare {m : Mo} (h : mcode m = 0) : mcode ⟨m.vars, []⟩ = 0 := by
  have hv : vcode m.vars = 0 := by
    unfold mcode at h
    split at h
    · assumption
    · rename_i h0; exact absurd h h0
  unfold mcode
  rw [if_pos hv]
  rfl
theorem valsL_length (l : List Vr) (c : Int) : (valsL l c).length = l.length := by simp [valsL]
end Go.Proofs.YtnicbkkkecfdpaaDoor
