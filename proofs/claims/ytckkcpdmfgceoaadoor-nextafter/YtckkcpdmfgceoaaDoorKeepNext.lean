/-
  What the program answers of the next states of a model that the keeping laws make.
-/
import Derived.Test.YtckkcpdmfgceoaaDoorKeepStates
import Derived.Test.YtckkcpdmfgceoaaDoorStepNext
namespace Go.Proofs.YtckkcpdmfgceoaaDoor
open Go.ChangeShapes Go.WideShapes Go.ChangeAt Go.RowKit Go.Deep
open Terms Tm

/-- a list of next states. -/
structure UpTo (l : List Int) (N : Int) (rn : Nat) : Prop where
  rise : Rise l
  inN : ∀ x ∈ l, 0 ≤ x ∧ x < N
  some : 0 < l.length
  few : l.length ≤ max rn 1
set_option maxRecDepth 20000 in
theorem UpTo.at {l : List Int} {N : Int} {rn : Nat} (h : UpTo l N rn) {i : Nat} (hi : i < l.length) : 0 ≤ l.getD i 0 ∧ l.getD i 0 < N := by
  rw [show l.getD i 0 = l[i] by simp [List.getD_eq_getElem?_getD, hi]]
  exact h.inN _ (List.getElem_mem hi)
set_option maxRecDepth 20000 in
theorem UpTo.up {l : List Int} {N : Int} {rn : Nat} (h : UpTo l N rn) {i : Nat} (hi : i + 1 < l.length) : l.getD i 0 < l.getD (i + 1) 0 := by
  rw [show l.getD i 0 = l[i] by simp [List.getD_eq_getElem?_getD, show i < l.length by omega], show l.getD (i + 1) 0 = l[i + 1] by simp [List.getD_eq_getElem?_getD, hi]]
  exact List.pairwise_iff_getElem.1 h.rise i (i + 1) (by omega) hi (by omega)
set_option maxRecDepth 20000 in
theorem rawL_facts {a b : Vr} (hG : GV a b) {rules : List Ru} {c : Int} (hc : 0 ≤ c ∧ c < vspan a * vspan b) : (∀ x ∈ rawL ⟨[a, b], rules⟩ c, 0 ≤ x ∧ x < vspan a * vspan b) ∧ 0 < (rawL ⟨[a, b], rules⟩ c).length ∧ (rawL ⟨[a, b], rules⟩ c).length ≤ max rules.length 1 := by
  have hv := varsOk_of hG.vcode
  have hp := prod_two a b
  unfold rawL
  split
  · exact ⟨fun x hx => by simp at hx; subst hx; exact hc, by simp, by simp; omega⟩
  · rename_i h
    refine ⟨fun x hx => ?_, List.length_pos_iff.2 h, ?_⟩
    · obtain ⟨j, _, e⟩ := (rawTo_mem (Nat.le_refl _) x).1 hx
      have := ruleDo_state hv e
      rw [← hp]; exact this
    · have := rawTo_length [a, b] (valsL [a, b] c) rules rules.length
      show (rawTo [a, b] (valsL [a, b] c) rules rules.length).length ≤ _
      omega
set_option maxRecDepth 20000 in
theorem upL_pos {l : List Int} (h : 0 < l.length) : 0 < (upL l).length := by
  obtain ⟨x, hx⟩ := List.exists_mem_of_length_pos h
  exact List.length_pos_of_mem (((upL_spec l).2 x).2 hx)
set_option maxRecDepth 20000 in
theorem nextL_up {a b : Vr} (hG : GV a b) {rules : List Ru} {c : Int} (hc : 0 ≤ c ∧ c < vspan a * vspan b) : UpTo (nextL ⟨[a, b], rules⟩ c) (vspan a * vspan b) rules.length := by
  obtain ⟨h1, h2, h3⟩ := rawL_facts hG (rules := rules) hc
  refine ⟨(upL_spec _).1, fun x hx => h1 x (((upL_spec _).2 x).1 hx), upL_pos h2, Nat.le_trans (upL_length _) h3⟩
set_option maxRecDepth 20000 in
theorem gwcode {a b : Vr} (hG : GV a b) {rules : List Ru} (h5 : rules.length ≤ 12) (hr : ∀ j, j < rules.length → rcode 2 (rules.getD j ru0) = 0) {c : Int} (hc : 0 ≤ c ∧ c < vspan a * vspan b) : wcode ⟨[a, b], rules⟩ c = 0 :=
  wcode_yes (hG.mcode h5 hr) ⟨hc.1, by show c < prodTo [a, b] 2; rw [prod_two]; exact hc.2⟩
set_option maxRecDepth 20000 in
/-- step.Next of such a model. -/
theorem knext {a b : Vr} {va : Value} {ro : Option Addr} {rn rc : Nat} {w : World} (hG : GV a b) {c : Int} (hc : 0 ≤ c ∧ c < vspan a * vspan b) (hB : 0 < w.heap.size) (hT : TabAt w) (hM : GModel w va (.slice ro rn rc) [a, b]) :
    Calls Tryd.prog 11 #[.agg #[va, .slice ro rn rc], .int .i64 c] w fun e w' => ∃ v l, e = .returned (.tuple #[v, .int .i64 0]) ∧ Below w.heap.size w w' ∧ IntsV w' v l ∧ UpTo l (vspan a * vspan b) rn := by
  obtain ⟨rules, h1, h2, h3⟩ := hM
  have hrn : rn = rules.length := by
    obtain ⟨ao, cap, e, _⟩ := h1.2
    injection e
  have hw := gwcode hG (by omega) h3 hc
  have h := next_any va _ ⟨[a, b], rules⟩ c w hB hT h1
  rw [hw, show nxtL ⟨[a, b], rules⟩ c = nextL ⟨[a, b], rules⟩ c by unfold nxtL; rw [if_pos hw]] at h
  exact h.mono fun e w' ⟨v, he, hb, hi⟩ => ⟨v, _, he, hb, hi, by rw [hrn]; exact nextL_up hG hc⟩
end Go.Proofs.YtckkcpdmfgceoaaDoor
