/-
  Plain mathematics: states marked round by round.
-/
import Derived.Test.YtbcjhkhndahdhaaDoorReaches
namespace Go.Proofs.YtbcjhkhndahdhaaDoor
open Terms Tm

def upd (st : Nat → Nat) (i v : Nat) : Nat → Nat := fun j => if j = i then v else st j
theorem upd_same (st : Nat → Nat) (i v : Nat) : upd st i v i = v := if_pos rfl
theorem upd_other {st : Nat → Nat} {i v j : Nat} (h : j ≠ i) : upd st i v j = st j := if_neg h
/-- those that are not gone through yet. -/
def cntN (st : Nat → Nat) (n : Nat) : Nat := ((List.range n).filter fun j => decide (st j ≠ 2)).length
theorem cntN_zero (st : Nat → Nat) : cntN st 0 = 0 := rfl
theorem cntN_succ (st : Nat → Nat) (n : Nat) : cntN st (n + 1) = cntN st n + if st n = 2 then 0 else 1 := by
  unfold cntN
  rw [List.range_succ, List.filter_append, List.length_append]
  by_cases h : st n = 2 <;> simp [h]
theorem cntN_congr {st st' : Nat → Nat} : ∀ {n : Nat}, (∀ j, j < n → (st j = 2 ↔ st' j = 2)) → cntN st n = cntN st' n
  | 0, _ => rfl
  | n + 1, h => by
    rw [cntN_succ, cntN_succ, cntN_congr (n := n) (fun j hj => h j (by omega))]
    have := h n (by omega)
    by_cases h2 : st n = 2
    · rw [if_pos h2, if_pos (this.1 h2)]
    · rw [if_neg h2, if_neg (fun x => h2 (this.2 x))]
theorem cntN_two {st : Nat → Nat} {i : Nat} (hi : st i ≠ 2) : ∀ {n : Nat}, i < n → cntN (upd st i 2) n < cntN st n
  | 0, h => by omega
  | n + 1, h => by
    rw [cntN_succ, cntN_succ]
    by_cases hin : i = n
    · subst hin
      rw [upd_same, if_pos rfl, if_neg hi, cntN_congr (st := upd st i 2) (st' := st) (fun j hj => by rw [upd_other (by omega)])]
      omega
    · have := cntN_two hi (n := n) (by omega)
      rw [upd_other (show n ≠ i by omega)]
      omega
theorem cntN_one {st : Nat → Nat} {i n : Nat} (hi : st i ≠ 2) : cntN (upd st i 1) n = cntN st n := cntN_congr fun j _ => by
  by_cases hj : j = i
  · subst hj; rw [upd_same]; omega
  · rw [upd_other hj]

/-- what is marked is reached, and where one went through leads to marked ones. -/
structure SInv (N : Nat) (nx : Int → List Int) (first : Int) (st : Nat → Nat) : Prop where
  vals : ∀ i, st i ≤ 2
  fst : 0 < st first.toNat
  src : ∀ i : Nat, 0 < st i → RSt nx first (i : Int)
  next : ∀ i : Nat, i < N → st i = 2 → ∀ y ∈ nx (i : Int), 0 < st y.toNat
structure SAt (N : Nat) (nx : Int → List Int) (first : Int) (st : Nat → Nat) (c q : Nat) : Prop where
  vals : ∀ i, st i ≤ 2
  fst : 0 < st first.toNat
  src : ∀ i : Nat, 0 < st i → RSt nx first (i : Int)
  next : ∀ i : Nat, i < N → i ≠ c → st i = 2 → ∀ y ∈ nx (i : Int), 0 < st y.toNat
  two : st c = 2
  here : ∀ j, j < q → 0 < st ((nx (c : Int)).getD j 0).toNat
theorem SInv.mark {N : Nat} {nx : Int → List Int} {first : Int} {st : Nat → Nat} {c : Nat} (h : SInv N nx first st) (hc : st c = 1) : SAt N nx first (upd st c 2) c 0 := by
  have hp : ∀ i, 0 < st i → 0 < upd st c 2 i := fun i hi => by
    by_cases h1 : i = c
    · subst h1; rw [upd_same]; omega
    · rw [upd_other h1]; exact hi
  refine ⟨fun i => ?_, hp _ h.fst, fun i hi => ?_, fun i hi hne h2 k hk => ?_, upd_same _ _ _, fun j hj => by omega⟩
  · by_cases h1 : i = c
    · subst h1; rw [upd_same]; omega
    · rw [upd_other h1]; exact h.vals i
  · by_cases h1 : i = c
    · subst h1; exact h.src i (by omega)
    · rw [upd_other h1] at hi; exact h.src i hi
  · rw [upd_other hne] at h2
    exact hp _ (h.next i hi h2 k hk)
theorem SAt.pass {N : Nat} {nx : Int → List Int} {first : Int} {st : Nat → Nat} {c q : Nat} (h : SAt N nx first st c q) (hq : 0 < st ((nx (c : Int)).getD q 0).toNat) : SAt N nx first st c (q + 1) :=
  ⟨h.vals, h.fst, h.src, h.next, h.two, fun j hj => by
    by_cases h1 : j < q
    · exact h.here j h1
    · obtain rfl : j = q := by omega
      exact hq⟩
theorem SAt.new {N : Nat} {nx : Int → List Int} {first : Int} {st : Nat → Nat} {c q : Nat} (h : SAt N nx first st c q) (hql : q < (nx (c : Int)).length) (h0 : 0 ≤ (nx (c : Int)).getD q 0) (hq : st ((nx (c : Int)).getD q 0).toNat = 0) : SAt N nx first (upd st ((nx (c : Int)).getD q 0).toNat 1) c (q + 1) := by
  have hmem : (nx (c : Int)).getD q 0 ∈ nx (c : Int) := by rw [List.getD_eq_getElem?_getD, List.getElem?_eq_getElem hql]; exact List.getElem_mem _
  obtain ⟨z, hz⟩ : ∃ z, (nx (c : Int)).getD q 0 = z := ⟨_, rfl⟩
  obtain ⟨y, hy⟩ : ∃ y : Nat, ((nx (c : Int)).getD q 0).toNat = y := ⟨_, rfl⟩
  rw [hy] at hq ⊢
  have hyz : ((y : Nat) : Int) = z := by rw [← hy, hz]; rw [hz] at h0; omega
  have hp : ∀ i, 0 < st i → 0 < upd st y 1 i := fun i hi => by
    by_cases h1 : i = y
    · subst h1; omega
    · rw [upd_other h1]; exact hi
  have hyc : y ≠ c := by rintro rfl; have := h.two; omega
  refine ⟨fun i => ?_, hp _ h.fst, fun i hi => ?_, fun i hi hne h2 k hk => ?_, ?_, fun j hj => ?_⟩
  · by_cases h1 : i = y
    · subst h1; rw [upd_same]; omega
    · rw [upd_other h1]; exact h.vals i
  · by_cases h1 : i = y
    · subst h1
      rw [hyz, ← hz]
      exact (h.src c (by rw [h.two]; omega)).next hmem
    · rw [upd_other h1] at hi; exact h.src i hi
  · by_cases h1 : i = y
    · subst h1; rw [upd_same] at h2; omega
    · rw [upd_other h1] at h2; exact hp _ (h.next i hi hne h2 k hk)
  · rw [upd_other hyc.symm]; exact h.two
  · by_cases h1 : j < q
    · exact hp _ (h.here j h1)
    · obtain rfl : j = q := by omega
      rw [hy, upd_same]; omega
theorem SAt.done {N : Nat} {nx : Int → List Int} {first : Int} {st : Nat → Nat} {c : Nat} (h : SAt N nx first st c (nx (c : Int)).length) : SInv N nx first st := by
  refine ⟨h.vals, h.fst, h.src, fun i hi h2 k hk => ?_⟩
  by_cases h1 : i = c
  · subst h1
    obtain ⟨j, hj, rfl⟩ := List.getElem_of_mem hk
    have := h.here j hj
    rwa [List.getD_eq_getElem?_getD, List.getElem?_eq_getElem hj] at this
  · exact h.next i hi h1 h2 k hk
theorem SInv.all {N : Nat} {nx : Int → List Int} {first : Int} {st : Nat → Nat} (h : SInv N nx first st) (hf : 0 ≤ first ∧ first < N) (hn : ∀ x y : Int, 0 ≤ x ∧ x < N → y ∈ nx x → 0 ≤ y ∧ y < N) (h1 : ∀ j, j < N → st j ≠ 1) (i : Nat) : 0 < st i ↔ RSt nx first (i : Int) := by
  refine ⟨h.src i, fun hr => ?_⟩
  have : ∀ x : Int, RSt nx first x → (0 ≤ x ∧ x < N) ∧ 0 < st x.toNat := by
    intro x hx
    induction hx with
    | first => exact ⟨hf, h.fst⟩
    | next _ hy ih =>
      refine ⟨hn _ _ ih.1 hy, ?_⟩
      rename_i x y _
      have h4 := h1 x.toNat (by omega)
      have h5 := h.vals x.toNat
      have h6 := h.next x.toNat (by omega) (by omega)
      rw [show ((x.toNat : Nat) : Int) = x by omega] at h6
      exact h6 y hy
  have := (this (i : Int) hr).2
  simpa using this
theorem SInv.start {N : Nat} {nx : Int → List Int} {first : Int} (hf : 0 ≤ first) : SInv N nx first (upd (fun _ => 0) first.toNat 1) := by
  refine ⟨fun i => ?_, by rw [upd_same]; omega, fun i hi => ?_, fun i _ h2 => ?_⟩
  · by_cases h : i = first.toNat
    · subst h; rw [upd_same]; omega
    · rw [upd_other h]; omega
  · by_cases h : i = first.toNat
    · subst h; rw [show ((first.toNat : Nat) : Int) = first by omega]; exact .first
    · rw [upd_other h] at hi; omega
  · by_cases h : i = first.toNat
    · subst h; rw [upd_same] at h2; omega
    · rw [upd_other h] at h2; omega
/-- the states that are marked, up to one. -/
def markTo (st : Nat → Nat) (c : Nat) : List Int := ((List.range c).filter (fun j => decide (0 < st j))).map (fun j : Nat => (j : Int))
theorem markTo_yes {st : Nat → Nat} {c : Nat} (h : 0 < st c) : markTo st (c + 1) = markTo st c ++ [(c : Int)] := by simp [markTo, List.range_succ, List.filter_append, h]
theorem markTo_no {st : Nat → Nat} {c : Nat} (h : ¬ 0 < st c) : markTo st (c + 1) = markTo st c := by simp [markTo, List.range_succ, List.filter_append, show st c = 0 by omega]
theorem markTo_length (st : Nat → Nat) (c : Nat) : (markTo st c).length ≤ c := by
  unfold markTo
  rw [List.length_map]
  exact Nat.le_trans (List.length_filter_le _ _) (by simp)
theorem markTo_reach {st : Nat → Nat} {nx : Int → List Int} {first : Int} {N : Nat} (h : ∀ i : Nat, (0 < st i ↔ RSt nx first (i : Int))) : markTo st N = reachN nx first N := by
  classical
  unfold markTo reachN
  congr 1
  refine List.filter_congr fun j _ => ?_
  by_cases hj : 0 < st j
  · rw [decide_eq_true hj, decide_eq_true ((h j).1 hj)]
  · rw [decide_eq_false hj, decide_eq_false (fun x => hj ((h j).2 x))]
end Go.Proofs.YtbcjhkhndahdhaaDoor
