/-
  Words as a stem and a loop: plain mathematics.
-/
import Derived.Test.YtoeagklgfaoejaaDoorWords
namespace Go.Proofs.YtoeagklgfaoejaaDoor.Terms

/-- which moment of stem and loop one that is further is. -/
def moAt (s n i : Nat) : Nat := if i < n then i else s + (i - s) % (n - s)
theorem moAt_low {s n i : Nat} (h : i < n) : moAt s n i = i := by unfold moAt; rw [if_pos h]
theorem moAt_lt {s n i : Nat} (h : s < n) : moAt s n i < n := by
  unfold moAt
  split
  · assumption
  · have := Nat.mod_lt (i - s) (show 0 < n - s by omega)
    omega
theorem moAt_back {s n i : Nat} (hs : s < n) (h : n ≤ i) : moAt s n i = moAt s n (i - (n - s)) := by
  have hm : (i - s) % (n - s) = (i - (n - s) - s) % (n - s) := by
    rw [show i - s = (i - (n - s) - s) + (n - s) by omega, Nat.add_mod_right]
  unfold moAt
  rw [if_neg (by omega), hm]
  split
  · rw [Nat.mod_eq_of_lt (by omega)]; omega
  · rfl
theorem moAt_per {s n i : Nat} (hs : s < n) (h : s ≤ i) : moAt s n (i + (n - s)) = moAt s n i := by
  rw [moAt_back hs (by omega), show i + (n - s) - (n - s) = i by omega]
/-- the word without an end. -/
def sig (ls : List (List Bool)) (s : Nat) (i v : Nat) : Bool := (ls.getD (moAt s ls.length i) []).getD v false
theorem sig_per {ls : List (List Bool)} {s : Nat} (hs : s < ls.length) : Tm.Per (sig ls s) s (ls.length - s) := fun i hi => by funext v; unfold sig; rw [moAt_per hs hi]
theorem hb_mo {ls : List (List Bool)} {s : Nat} (hs : s < ls.length) (t : Tm) : ∀ i, t.hb (sig ls s) (moAt s ls.length i) = t.hb (sig ls s) i := by
  intro i
  induction i using Nat.strongRecOn with
  | ind i ih =>
    by_cases h : i < ls.length
    · rw [moAt_low h]
    · rw [moAt_back hs (by omega), ih _ (by omega)]
      have := Tm.hb_per (sig_per hs) t (i := i - (ls.length - s)) (by omega)
      rw [← this, show i - (ls.length - s) + (ls.length - s) = i by omega]

namespace Tm
/-- what makes a term hold at once. -/
noncomputable def uT (σ : Nat → Nat → Bool) : Tm → Nat → Bool
  | leaf k v => fun i => hb σ (leaf k v) i
  | un k v a => fun i => if k = 17 then hb σ a i else if k = 18 then false else hb σ (un k v a) i
  | bi k v a b => fun i => if k = 15 then hb σ b i else if k = 16 then hb σ a i && hb σ b i else hb σ (bi k v a b) i
/-- what lets it wait for the next moment. -/
noncomputable def vT (σ : Nat → Nat → Bool) : Tm → Nat → Bool
  | leaf _ _ => fun _ => false
  | un k _ a => fun i => if k = 17 then true else if k = 18 then hb σ a i else false
  | bi k _ a b => fun i => if k = 15 then hb σ a i else if k = 16 then hb σ b i else false
def dT (k : Int) : Bool := decide (k = 18 ∨ k = 16)
theorem untB_plain (u : Nat → Bool) (i : Nat) : untB u (fun _ => false) false i = u i := by rw [untB_step]; simp
theorem uT_per {σ : Nat → Nat → Bool} {s L : Nat} (h : Per σ s L) (t : Tm) {i : Nat} (hi : s ≤ i) : uT σ t (i + L) = uT σ t i := by
  cases t with
  | leaf k v => exact hb_per h _ hi
  | un k v a => simp only [uT]; rw [hb_per h _ hi, hb_per h _ hi]
  | bi k v a b => simp only [uT]; rw [hb_per h _ hi, hb_per h _ hi, hb_per h _ hi]
theorem vT_per {σ : Nat → Nat → Bool} {s L : Nat} (h : Per σ s L) (t : Tm) {i : Nat} (hi : s ≤ i) : vT σ t (i + L) = vT σ t i := by
  cases t with
  | leaf k v => rfl
  | un k v a => simp only [vT]; rw [hb_per h _ hi]
  | bi k v a b => simp only [vT]; rw [hb_per h _ hi, hb_per h _ hi]
/-- EACH TERM HOLDS BY ITS LAW. -/
theorem hb_unt (σ : Nat → Nat → Bool) {t : Tm} (hw : t.Wf) (i : Nat) : hb σ t i = untB (uT σ t) (vT σ t) (dT t.kind) i := by
  cases t with
  | leaf k v =>
    have hk : dT k = false := by
      obtain ⟨_, h2⟩ := hw
      simp only [dT, decide_eq_false_iff_not]
      rintro (rfl | rfl) <;> exact absurd h2 (by decide)
    show _ = untB _ (fun _ => false) (dT k) i
    rw [hk, untB_plain]
    rfl
  | un k v a =>
    by_cases h17 : k = 17
    · subst h17; rw [hb_fin]; rfl
    · by_cases h18 : k = 18
      · subst h18; rw [hb_glob]; rfl
      · have hk : dT k = false := by
          obtain ⟨_, h2, _⟩ := hw
          simp only [dT, decide_eq_false_iff_not]
          rintro (rfl | rfl)
          · exact h18 rfl
          · exact absurd h2 (by decide)
        have e1 : uT σ (un k v a) = hb σ (un k v a) := by funext j; simp only [uT]; rw [if_neg h17, if_neg h18]
        have e2 : vT σ (un k v a) = fun _ => false := by funext j; simp only [vT]; rw [if_neg h17, if_neg h18]
        rw [e1, e2]
        show _ = untB _ _ (dT k) i
        rw [hk, untB_plain]
  | bi k v a b =>
    by_cases h15 : k = 15
    · subst h15; rw [hb_until]; rfl
    · by_cases h16 : k = 16
      · subst h16; rw [hb_rel]; rfl
      · have hk : dT k = false := by
          obtain ⟨_, h2, _⟩ := hw
          simp only [dT, decide_eq_false_iff_not]
          rintro (rfl | rfl)
          · exact absurd h2 (by decide)
          · exact h16 rfl
        have e1 : uT σ (bi k v a b) = hb σ (bi k v a b) := by funext j; simp only [uT]; rw [if_neg h15, if_neg h16]
        have e2 : vT σ (bi k v a b) = fun _ => false := by funext j; simp only [vT]; rw [if_neg h15, if_neg h16]
        rw [e1, e2]
        show _ = untB _ _ (dT k) i
        rw [hk, untB_plain]
end Tm

/-! ### what Check answers -/
def letBad (props : Int) (ls : List (List Bool)) : Bool := ls.any fun l => decide ((l.length : Int) ≠ props)
def wcode (props : Int) (ss ll : List (List Bool)) : Int :=
  if props < 0 ∨ 6 < props then 2 else if 12 < ss.length ∨ ll.length < 1 ∨ 12 < ll.length then 1 else if letBad props (ss ++ ll) = true then 3 else 0
theorem wcode_range {props : Int} {ss ll : List (List Bool)} (h : props < 0 ∨ 6 < props) : wcode props ss ll = 2 := by unfold wcode; rw [if_pos h]
theorem wcode_size {props : Int} {ss ll : List (List Bool)} (h : ¬ (props < 0 ∨ 6 < props)) (h2 : 12 < ss.length ∨ ll.length < 1 ∨ 12 < ll.length) : wcode props ss ll = 1 := by unfold wcode; rw [if_neg h, if_pos h2]
theorem wcode_form {props : Int} {ss ll : List (List Bool)} (h : ¬ (props < 0 ∨ 6 < props)) (h2 : ¬ (12 < ss.length ∨ ll.length < 1 ∨ 12 < ll.length)) (h3 : letBad props (ss ++ ll) = true) : wcode props ss ll = 3 := by unfold wcode; rw [if_neg h, if_neg h2, if_pos h3]
theorem wcode_ok {props : Int} {ss ll : List (List Bool)} (h : ¬ (props < 0 ∨ 6 < props)) (h2 : ¬ (12 < ss.length ∨ ll.length < 1 ∨ 12 < ll.length)) (h3 : letBad props (ss ++ ll) = false) : wcode props ss ll = 0 := by unfold wcode; rw [if_neg h, if_neg h2, if_neg (by rw [h3]; decide)]
theorem letBad_at {props : Int} {ls : List (List Bool)} {i : Nat} (hi : i < ls.length) (h : ((ls.getD i []).length : Int) ≠ props) : letBad props ls = true := by
  unfold letBad
  rw [List.any_eq_true]
  refine ⟨ls.getD i [], ?_, by simpa using h⟩
  rw [List.getD_eq_getElem?_getD, List.getElem?_eq_getElem hi]
  exact List.getElem_mem hi
theorem letBad_none {props : Int} {ls : List (List Bool)} (h : ∀ i, i < ls.length → ((ls.getD i []).length : Int) = props) : letBad props ls = false := by
  unfold letBad
  rw [List.any_eq_false]
  intro l hl
  obtain ⟨i, hi, rfl⟩ := List.getElem_of_mem hl
  have := h i hi
  rw [List.getD_eq_getElem?_getD, List.getElem?_eq_getElem hi] at this
  simpa using this
theorem wcode_zero {props : Int} {ss ll : List (List Bool)} (h : wcode props ss ll = 0) : (0 ≤ props ∧ props ≤ 6) ∧ ss.length ≤ 12 ∧ 1 ≤ ll.length ∧ ll.length ≤ 12 ∧ ∀ i, i < (ss ++ ll).length → (((ss ++ ll).getD i []).length : Int) = props := by
  by_cases hr : props < 0 ∨ 6 < props
  · rw [wcode_range hr] at h; omega
  · by_cases hs : 12 < ss.length ∨ ll.length < 1 ∨ 12 < ll.length
    · rw [wcode_size hr hs] at h; omega
    · cases hb : letBad props (ss ++ ll) with
      | true => rw [wcode_form hr hs hb] at h; omega
      | false =>
        refine ⟨by omega, by omega, by omega, by omega, fun i hi => ?_⟩
        exact Classical.byContradiction fun hn => by rw [letBad_at hi hn] at hb; cases hb
end Go.Proofs.YtoeagklgfaoejaaDoor.Terms
