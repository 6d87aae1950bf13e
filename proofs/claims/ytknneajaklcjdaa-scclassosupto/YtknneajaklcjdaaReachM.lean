/-
  Plain mathematics of the document's own way to what is reached: round by round.
-/
import Derived.Test.YtknneajaklcjdaaGraphC
namespace Go.Proofs.Ytknneajaklcjdaa
open Terms

def upd (st : Nat → Nat) (i v : Nat) : Nat → Nat := fun j => if j = i then v else st j
theorem upd_same (st : Nat → Nat) (i v : Nat) : upd st i v i = v := if_pos rfl
theorem upd_other {st : Nat → Nat} {i v j : Nat} (h : j ≠ i) : upd st i v j = st j := if_neg h
/-- those that are not gone through yet. -/
def cntN (st : Nat → Nat) (n : Nat) : Nat := ((List.range n).filter fun j => decide (st j ≠ 2)).length
theorem cntN_zero (st : Nat → Nat) : cntN st 0 = 0 := rfl
theorem cntN_succ (st : Nat → Nat) (n : Nat) : cntN st (n + 1) = cntN st n + if st n = 2 then 0 else 1 := by
  unfold cntN
  rw [List.range_succ, List.filter_append, List.length_append]
  by_cases h : st n = 2 <;> simp [h]
theorem cntN_congr {st st' : Nat → Nat} : ∀ {n : Nat}, (∀ j, j < n → (st j = 2 ↔ st' j = 2)) → cntN st n = cntN st' n
  | 0, _ => rfl
  | n + 1, h => by
    rw [cntN_succ, cntN_succ, cntN_congr (n := n) (fun j hj => h j (by omega))]
    have := h n (by omega)
    by_cases h2 : st n = 2
    · rw [if_pos h2, if_pos (this.1 h2)]
    · rw [if_neg h2, if_neg (fun x => h2 (this.2 x))]
theorem cntN_two {st : Nat → Nat} {i : Nat} (hi : st i ≠ 2) : ∀ {n : Nat}, i < n → cntN (upd st i 2) n < cntN st n
  | 0, h => by omega
  | n + 1, h => by
    rw [cntN_succ, cntN_succ]
    by_cases hin : i = n
    · subst hin
      rw [upd_same, if_pos rfl, if_neg hi, cntN_congr (st := upd st i 2) (st' := st) (fun j hj => by rw [upd_other (by omega)])]
      omega
    · have := cntN_two hi (n := n) (by omega)
      rw [upd_other (show n ≠ i by omega)]
      omega
theorem cntN_one {st : Nat → Nat} {i n : Nat} (hi : st i ≠ 2) : cntN (upd st i 1) n = cntN st n := cntN_congr fun j _ => by
  by_cases hj : j = i
  · subst hj; rw [upd_same]; omega
  · rw [upd_other hj]

/-- what is marked is reached, and where one went through leads to marked ones. -/
structure RInv (n : Nat) (nx : Nat → List Nat) (fr : List Nat) (st : Nat → Nat) : Prop where
  vals : ∀ i, st i ≤ 2
  fst : ∀ f ∈ fr, 0 < st f
  src : ∀ i, 0 < st i → ∃ f ∈ fr, Way nx f i
  next : ∀ i, i < n → st i = 2 → ∀ k ∈ nx i, 0 < st k
/-- the same, while one goes through the next ones of a place. -/
structure RAt (n : Nat) (nx : Nat → List Nat) (fr : List Nat) (st : Nat → Nat) (c q : Nat) : Prop where
  vals : ∀ i, st i ≤ 2
  fst : ∀ f ∈ fr, 0 < st f
  src : ∀ i, 0 < st i → ∃ f ∈ fr, Way nx f i
  next : ∀ i, i < n → i ≠ c → st i = 2 → ∀ k ∈ nx i, 0 < st k
  two : st c = 2
  here : ∀ j, j < q → 0 < st ((nx c).getD j 0)
theorem RInv.mark {n : Nat} {nx : Nat → List Nat} {fr : List Nat} {st : Nat → Nat} {c : Nat} (h : RInv n nx fr st) (hc : st c = 1) : RAt n nx fr (upd st c 2) c 0 := by
  have hp : ∀ i, 0 < st i → 0 < upd st c 2 i := fun i hi => by
    by_cases h1 : i = c
    · subst h1; rw [upd_same]; omega
    · rw [upd_other h1]; exact hi
  refine ⟨fun i => ?_, fun f hf => hp f (h.fst f hf), fun i hi => ?_, fun i hi hne h2 k hk => ?_, upd_same _ _ _, fun j hj => by omega⟩
  · by_cases h1 : i = c
    · subst h1; rw [upd_same]; omega
    · rw [upd_other h1]; exact h.vals i
  · by_cases h1 : i = c
    · subst h1; exact h.src i (by omega)
    · rw [upd_other h1] at hi; exact h.src i hi
  · rw [upd_other hne] at h2
    exact hp k (h.next i hi h2 k hk)
theorem RAt.pass {n : Nat} {nx : Nat → List Nat} {fr : List Nat} {st : Nat → Nat} {c q : Nat} (h : RAt n nx fr st c q) (hq : 0 < st ((nx c).getD q 0)) : RAt n nx fr st c (q + 1) :=
  ⟨h.vals, h.fst, h.src, h.next, h.two, fun j hj => by
    by_cases h1 : j < q
    · exact h.here j h1
    · obtain rfl : j = q := by omega
      exact hq⟩
theorem RAt.new {n : Nat} {nx : Nat → List Nat} {fr : List Nat} {st : Nat → Nat} {c q : Nat} (h : RAt n nx fr st c q) (hql : q < (nx c).length) (hq : st ((nx c).getD q 0) = 0) : RAt n nx fr (upd st ((nx c).getD q 0) 1) c (q + 1) := by
  have hmem : (nx c).getD q 0 ∈ nx c := by rw [List.getD_eq_getElem?_getD, List.getElem?_eq_getElem hql]; exact List.getElem_mem _
  obtain ⟨y, hy⟩ : ∃ y, (nx c).getD q 0 = y := ⟨_, rfl⟩
  rw [hy] at hq hmem ⊢
  have hp : ∀ i, 0 < st i → 0 < upd st y 1 i := fun i hi => by
    by_cases h1 : i = y
    · subst h1; omega
    · rw [upd_other h1]; exact hi
  have hyc : y ≠ c := by rintro rfl; have := h.two; omega
  refine ⟨fun i => ?_, fun f hf => hp f (h.fst f hf), fun i hi => ?_, fun i hi hne h2 k hk => ?_, ?_, fun j hj => ?_⟩
  · by_cases h1 : i = y
    · subst h1; rw [upd_same]; omega
    · rw [upd_other h1]; exact h.vals i
  · by_cases h1 : i = y
    · subst h1
      obtain ⟨f, hf, hw⟩ := h.src c (by rw [h.two]; omega)
      exact ⟨f, hf, hw.step hmem⟩
    · rw [upd_other h1] at hi; exact h.src i hi
  · by_cases h1 : i = y
    · subst h1; rw [upd_same] at h2; omega
    · rw [upd_other h1] at h2; exact hp k (h.next i hi hne h2 k hk)
  · rw [upd_other hyc.symm]; exact h.two
  · by_cases h1 : j < q
    · exact hp _ (h.here j h1)
    · obtain rfl : j = q := by omega
      rw [hy, upd_same]; omega
theorem RAt.done {n : Nat} {nx : Nat → List Nat} {fr : List Nat} {st : Nat → Nat} {c : Nat} (h : RAt n nx fr st c (nx c).length) : RInv n nx fr st := by
  refine ⟨h.vals, h.fst, h.src, fun i hi h2 k hk => ?_⟩
  by_cases h1 : i = c
  · subst h1
    obtain ⟨j, hj, rfl⟩ := List.getElem_of_mem hk
    have := h.here j hj
    rwa [List.getD_eq_getElem?_getD, List.getElem?_eq_getElem hj] at this
  · exact h.next i hi h1 h2 k hk
/-- nothing new: all that is reached is marked. -/
theorem RInv.all {n : Nat} {nx : Nat → List Nat} {fr : List Nat} {st : Nat → Nat} (h : RInv n nx fr st) (hn : ∀ i, i < n → ∀ k ∈ nx i, k < n) (hf : ∀ f ∈ fr, f < n) (h1 : ∀ j, j < n → st j ≠ 1) (i : Nat) : 0 < st i ↔ ∃ f ∈ fr, Way nx f i := by
  refine ⟨h.src i, fun ⟨f, hf', hw⟩ => ?_⟩
  have : i < n ∧ 0 < st i := by
    refine Way.closed (S := fun i => i < n ∧ 0 < st i) (fun j ⟨hj, hs⟩ k hk => ⟨hn j hj k hk, ?_⟩) ⟨hf f hf', h.fst f hf'⟩ hw
    have h3 := h.vals j
    have h4 := h1 j hj
    exact h.next j hj (by omega) k hk
  exact this.2
theorem RInv.start {n : Nat} {nx : Nat → List Nat} {fr : List Nat} : RInv n nx fr (fun j => if j ∈ fr then 1 else 0) := by
  refine ⟨fun i => by split <;> omega, fun f hf => by simp [hf], fun i hi => ?_, fun i _ h2 => by split at h2 <;> omega⟩
  by_cases h : i ∈ fr
  · exact ⟨i, h, .stay⟩
  · simp [h] at hi
end Go.Proofs.Ytknneajaklcjdaa
