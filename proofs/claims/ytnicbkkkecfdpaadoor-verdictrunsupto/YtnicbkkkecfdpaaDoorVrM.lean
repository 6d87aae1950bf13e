/-
  Plain mathematics of a run that is handed in.
-/
import Derived.Test.YtnicbkkkecfdpaaDoorNexts
import Derived.Test.YtnicbkkkecfdpaaDoorMFirst
namespace Go.Proofs.YtnicbkkkecfdpaaDoor
open Terms Tm

/-- each of the first so many codes leads to the one behind it. -/
def LeadsTo (m : Mo) (all : List Int) (k : Nat) : Prop := ∀ i, i < k → all.getD (i + 1) 0 ∈ nxtL m (all.getD i 0)
theorem LeadsTo.zero (m : Mo) (all : List Int) : LeadsTo m all 0 := fun i h => by omega
theorem LeadsTo.succ {m : Mo} {all : List Int} {k : Nat} (h : LeadsTo m all k) (h2 : all.getD (k + 1) 0 ∈ nxtL m (all.getD k 0)) : LeadsTo m all (k + 1) := fun i hi => by
  by_cases e : i = k
  · rw [e]; exact h2
  · exact h i (by omega)
theorem nxtL_yes {m : Mo} (hm : mcode m = 0) {x : Int} (hx : 0 ≤ x ∧ x < prodTo m.vars m.vars.length) : nxtL m x = nextL m x := by unfold nxtL; rw [if_pos (wcode_yes hm hx)]
theorem nxtL_no {m : Mo} (hm : mcode m = 0) {x : Int} (hx : ¬ (0 ≤ x ∧ x < prodTo m.vars m.vars.length)) : nxtL m x = [] := by unfold nxtL; rw [if_neg (by rw [wcode_no hm hx]; decide)]
theorem nextL_range {m : Mo} (hm : mcode m = 0) {x : Int} (hx : 0 ≤ x ∧ x < prodTo m.vars m.vars.length) {y : Int} (hy : y ∈ nextL m x) : 0 ≤ y ∧ y < prodTo m.vars m.vars.length := by
  have hv := mcode_vars hm
  have h2 := ((upL_spec _).2 y).1 hy
  unfold rawL at h2
  split at h2
  · simp at h2; rw [h2]; exact hx
  · obtain ⟨j, _, e⟩ := (rawTo_mem (Nat.le_refl _) y).1 h2
    exact ruleDo_state hv e
theorem LeadsTo.range {m : Mo} (hm : mcode m = 0) {all : List Int} (h0 : 0 ≤ all.getD 0 0 ∧ all.getD 0 0 < prodTo m.vars m.vars.length) : ∀ {k : Nat}, LeadsTo m all k → 0 ≤ all.getD k 0 ∧ all.getD k 0 < prodTo m.vars m.vars.length
  | 0, _ => h0
  | k + 1, h => by
    have h1 := LeadsTo.range hm h0 (k := k) (fun i hi => h i (by omega))
    have h2 := h k (by omega)
    rw [nxtL_yes hm h1] at h2
    exact nextL_range hm h1 h2
/-- where a model begins. -/
noncomputable def firstC (m : Mo) : Int := codeTo m.vars (initsL m.vars) m.vars.length
theorem firstC_range {m : Mo} (hm : mcode m = 0) : 0 ≤ firstC m ∧ firstC m < prodTo m.vars m.vars.length := code_bounds (mcode_vars hm) (Nat.le_refl _) (inits_in (mcode_vars hm))
/-- the states of a run, and the first one of its loop again. -/
def rvd (ss ll : List Int) : List Int := ss ++ ll ++ [ll.getD 0 0]
theorem rvd_len (ss ll : List Int) : (rvd ss ll).length = ss.length + ll.length + 1 := by simp [rvd]; omega
theorem rvd_flat (ss ll : List Int) : [ss, ll, [ll.getD 0 0]].flatten = rvd ss ll := by simp [rvd]
theorem rvd_zero {ss ll : List Int} (h : ll ≠ []) : (rvd ss ll).getD 0 0 = (ss ++ ll).getD 0 0 := by
  unfold rvd
  have : 0 < (ss ++ ll).length := by rw [List.length_append]; have := List.length_pos_iff.2 h; omega
  simp only [List.getD_eq_getElem?_getD]
  rw [List.getElem?_append_left this]
open Classical in
/-- IS IT A RUN? -/
noncomputable def runB (m : Mo) (ss ll : List Int) : Bool := decide (mcode m = 0 ∧ ll ≠ [] ∧ (rvd ss ll).getD 0 0 = firstC m ∧ LeadsTo m (rvd ss ll) ((rvd ss ll).length - 1))
open Classical in
theorem runB_bad {m : Mo} (h : mcode m ≠ 0) (ss ll : List Int) : runB m ss ll = false := decide_eq_false fun h2 => h h2.1
open Classical in
theorem runB_none (m : Mo) (ss : List Int) : runB m ss [] = false := decide_eq_false fun h2 => h2.2.1 rfl
open Classical in
theorem runB_first {m : Mo} {ss ll : List Int} (h : (rvd ss ll).getD 0 0 ≠ firstC m) : runB m ss ll = false := decide_eq_false fun h2 => h h2.2.2.1
open Classical in
theorem runB_lead {m : Mo} {ss ll : List Int} (h : mcode m = 0) (h1 : ll ≠ []) (h2 : (rvd ss ll).getD 0 0 = firstC m) : runB m ss ll = decide (LeadsTo m (rvd ss ll) ((rvd ss ll).length - 1)) := by
  unfold runB
  by_cases h3 : LeadsTo m (rvd ss ll) ((rvd ss ll).length - 1)
  · rw [decide_eq_true h3]; exact decide_eq_true ⟨h, h1, h2, h3⟩
  · rw [decide_eq_false h3]; exact decide_eq_false fun h4 => h3 h4.2.2.2
end Go.Proofs.YtnicbkkkecfdpaaDoor
