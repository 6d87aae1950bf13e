import Derived.Test.YtobopjjmhginlaaGreatDoorWords
namespace Go.Proofs.YtobopjjmhginlaaGreatDoor.Terms
set_option maxHeartbeats 6400000
set_option maxRecDepth 20000
def moAt (s n i : Nat) : Nat := if i < n then i else s + (i - s) % (n - s)
theorem moAt_low {s n i : Nat} (h : i < n) : moAt s n i = i := by unfold moAt; rw [if_pos h]
theorem moAt_lt {s n i : Nat} (h : s < n) : moAt s n i < n := by
  unfold moAt
  split
  · assumption
  · have := Nat.mod_lt (i - s) (show 0 < n - s by omega)
    omega
theorem moAt_back {s n i : Nat} (hs : s < n) (h : n <= i) : moAt s n i = moAt s n (i - (n - s)) := by
  have hm : (i - s) % (n - s) = (i - (n - s) - s) % (n - s) := by
    rw [show i - s = (i - (n - s) - s) + (n - s) by omega, Nat.add_mod_right]
  unfold moAt; rw [if_neg (by omega), hm]
  split
  · rw [Nat.mod_eq_of_lt (by omega)]; omega
  · rfl
theorem moAt_per {s n i : Nat} (hs : s < n) (h : s <= i) : moAt s n (i + (n - s)) = moAt s n i := by
  rw [moAt_back hs (by omega), show i + (n - s) - (n - s) = i by omega]
def sig (ls : List (List Bool)) (s : Nat) (i v : Nat) : Bool := (ls.getD (moAt s ls.length i) []).getD v false
theorem sig_per {ls : List (List Bool)} {s : Nat} (hs : s < ls.length) : Tm.Per (sig ls s) s (ls.length - s) := fun i hi => by funext v; unfold sig; rw [moAt_per hs hi]
theorem hb_mo {ls : List (List Bool)} {s : Nat} (hs : s < ls.length) (t : Tm) : ∀ i, t.hb (sig ls s) (moAt s ls.length i) = t.hb (sig ls s) i := by
  intro i
  induction i using Nat.strongRecOn with
  | ind i ih =>
    by_cases h : i < ls.length
    · rw [moAt_low h]
    · rw [moAt_back hs (by omega), ih _ (by omega)]
      have := Tm.hb_per (sig_per hs) t (i := i - (ls.length - s)) (by omega)
      rw [<- this, show i - (ls.length - s) + (ls.length - s) = i by omega]
namespace Tm
end Tm
def letBad (props : Int) (ls : List (List Bool)) : Bool := ls.any fun l => decide ((l.length : Int) ≠ props)
def wdcode (props : Int) (ss ll : List (List Bool)) : Int :=
  if props < 0 \/ 6 < props then 2 else if 12 < ss.length \/ ll.length < 1 \/ 12 < ll.length then 1 else if letBad props (ss ++ ll) = true then 3 else 0
theorem wcode_range {props : Int} {ss ll : List (List Bool)} (h : props < 0 \/ 6 < props) : wdcode props ss ll = 2 := by unfold wdcode; rw [if_pos h]
theorem wcode_size {props : Int} {ss ll : List (List Bool)} (h : ¬ (props < 0 \/ 6 < props)) (h2 : 12 < ss.length \/ ll.length < 1 \/ 12 < ll.length) : wdcode props ss ll = 1 := by unfold wdcode; rw [if_neg h, if_pos h2]
theorem wcode_form {props : Int} {ss ll : List (List Bool)} (h : ¬ (props < 0 \/ 6 < props)) (h2 : ¬ (12 < ss.length \/ ll.length < 1 \/ 12 < ll.length)) (h3 : letBad props (ss ++ ll) = true) : wdcode props ss ll = 3 := by unfold wdcode; rw [if_neg h, if_neg h2, if_pos h3]
theorem letBad_at {props : Int} {ls : List (List Bool)} {i : Nat} (hi : i < ls.length) (h : ((ls.getD i []).length : Int) ≠ props) : letBad props ls = true := by
  unfold letBad; rw [List.any_eq_true]; refine ⟨ls.getD i [], ?_, by simpa using h⟩
  rw [List.getD_eq_getElem?_getD, List.getElem?_eq_getElem hi]
  exact List.getElem_mem hi
theorem wcode_zero {props : Int} {ss ll : List (List Bool)} (h : wdcode props ss ll = 0) : (0 <= props /\ props <= 6) /\ ss.length <= 12 /\ 1 <= ll.length /\ ll.length <= 12 /\ ∀ i, i < (ss ++ ll).length -> (((ss ++ ll).getD i []).length : Int) = props := by
  by_cases hr : props < 0 \/ 6 < props
  · rw [wcode_range hr] at h; omega
  · by_cases hs : 12 < ss.length \/ ll.length < 1 \/ 12 < ll.length
    · rw [wcode_size hr hs] at h; omega
    · cases hb : letBad props (ss ++ ll) with
      | true => rw [wcode_form hr hs hb] at h; omega
      | false =>
        refine ⟨by omega, by omega, by omega, by omega, fun i hi => ?_⟩
        exact Classical.byContradiction fun hn => by rw [letBad_at hi hn] at hb; cases hb
end Go.Proofs.YtobopjjmhginlaaGreatDoor.Terms
