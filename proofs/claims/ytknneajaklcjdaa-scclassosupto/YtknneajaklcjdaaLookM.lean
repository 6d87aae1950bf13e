/-
  Plain mathematics of a look through a graph, the nearest places first.
-/
import Derived.Test.YtknneajaklcjdaaGraphC
namespace Go.Proofs.Ytknneajaklcjdaa
open Terms

/-- what was met: places, and where each came from. -/
abbrev Met := List (Nat × Int)
def keys (L : Met) : List Nat := L.map Prod.fst
def fromOf (L : Met) (x : Nat) : Int := ((L.find? fun p => decide (p.1 = x)).map Prod.snd).getD 0
open Classical in
noncomputable def meetStep (ins : Nat → Bool) (f : Int) (L : Met) (p : Nat) : Met := if p ∈ keys L ∨ ins p = false then L else L ++ [(p, f)]
noncomputable def meetTo (ins : Nat → Bool) (f : Int) (L : Met) (ps : List Nat) (k : Nat) : Met := (ps.take k).foldl (meetStep ins f) L
theorem meetTo_zero (ins : Nat → Bool) (f : Int) (L : Met) (ps : List Nat) : meetTo ins f L ps 0 = L := rfl
theorem meetTo_succ {ins : Nat → Bool} {f : Int} {L : Met} {ps : List Nat} {k : Nat} (hk : k < ps.length) : meetTo ins f L ps (k + 1) = meetStep ins f (meetTo ins f L ps k) (ps.getD k 0) := by
  unfold meetTo
  rw [List.take_succ_eq_append_getElem hk, List.foldl_append, List.getD_eq_getElem?_getD, List.getElem?_eq_getElem hk]
  rfl
theorem meetStep_no {ins : Nat → Bool} {f : Int} {L : Met} {p : Nat} (h : p ∈ keys L ∨ ins p = false) : meetStep ins f L p = L := if_pos h
theorem meetStep_yes {ins : Nat → Bool} {f : Int} {L : Met} {p : Nat} (h1 : ¬ p ∈ keys L) (h2 : ins p = true) : meetStep ins f L p = L ++ [(p, f)] := if_neg (by simp [h1, h2])
theorem keys_length (L : Met) : (keys L).length = L.length := by simp [keys]
theorem keys_snoc (L : Met) (p : Nat) (f : Int) : keys (L ++ [(p, f)]) = keys L ++ [p] := by simp [keys]
theorem fromOf_old {L : Met} {p x : Nat} {f : Int} (h : x ∈ keys L) : fromOf (L ++ [(p, f)]) x = fromOf L x := by
  unfold fromOf
  rw [List.find?_append]
  obtain ⟨q, hq, rfl⟩ := List.mem_map.1 h
  cases hf : L.find? (fun p => decide (p.1 = q.1)) with
  | none =>
    have := List.find?_eq_none.1 hf q hq
    simp at this
  | some z => rfl
theorem fromOf_new {L : Met} {p : Nat} {f : Int} (h : ¬ p ∈ keys L) : fromOf (L ++ [(p, f)]) p = f := by
  unfold fromOf
  rw [List.find?_append]
  cases hf : L.find? (fun q => decide (q.1 = p)) with
  | none => simp
  | some z =>
    have h1 := List.find?_some hf
    have h2 := List.mem_of_find?_eq_some hf
    simp at h1
    exact absurd (List.mem_map.2 ⟨z, h2, h1⟩) h
/-- WHAT WAS MET IS MET RIGHTLY. -/
structure LOk (n : Nat) (ins : Nat → Bool) (nx : Nat → List Nat) (begin : List Nat) (L : Met) : Prop where
  nodup : (keys L).Nodup
  lt : ∀ x ∈ keys L, x < n
  ins : ∀ x ∈ keys L, ins x = true
  src : ∀ i, i < L.length → ((L.getD i (0, 0)).2 = -1 ∧ (L.getD i (0, 0)).1 ∈ begin) ∨ ∃ j, j < i ∧ (L.getD i (0, 0)).2 = ((L.getD j (0, 0)).1 : Int) ∧ (L.getD i (0, 0)).1 ∈ nx (L.getD j (0, 0)).1
theorem LOk.nil (n : Nat) (ins : Nat → Bool) (nx : Nat → List Nat) (begin : List Nat) : LOk n ins nx begin [] := ⟨by simp [keys], by simp [keys], by simp [keys], fun i hi => by simp at hi⟩
theorem getD_snoc_old {α : Type} (L : List α) (x d : α) {i : Nat} (hi : i < L.length) : (L ++ [x]).getD i d = L.getD i d := by simp [List.getD_eq_getElem?_getD, List.getElem?_append_left hi]
theorem getD_snoc_new {α : Type} (L : List α) (x d : α) : (L ++ [x]).getD L.length d = x := by simp [List.getD_eq_getElem?_getD]
theorem LOk.snoc {n : Nat} {ins : Nat → Bool} {nx : Nat → List Nat} {begin : List Nat} {L : Met} {p : Nat} {f : Int} (h : LOk n ins nx begin L) (hp : p < n) (h1 : ¬ p ∈ keys L) (h2 : ins p = true) (hs : (f = -1 ∧ p ∈ begin) ∨ ∃ j, j < L.length ∧ f = ((L.getD j (0, 0)).1 : Int) ∧ p ∈ nx (L.getD j (0, 0)).1) : LOk n ins nx begin (L ++ [(p, f)]) := by
  refine ⟨?_, ?_, ?_, fun i hi => ?_⟩
  · rw [keys_snoc, List.nodup_append]
    refine ⟨h.nodup, by simp, fun a ha b hb => ?_⟩
    simp at hb
    subst hb
    exact fun e => h1 (e ▸ ha)
  · intro x hx
    rw [keys_snoc] at hx
    rcases List.mem_append.1 hx with hx | hx
    · exact h.lt x hx
    · simp at hx; subst hx; exact hp
  · intro x hx
    rw [keys_snoc] at hx
    rcases List.mem_append.1 hx with hx | hx
    · exact h.ins x hx
    · simp at hx; subst hx; exact h2
  · by_cases hl : i < L.length
    · rw [getD_snoc_old L _ _ hl]
      rcases h.src i hl with h3 | ⟨j, hj, h4⟩
      · exact .inl h3
      · exact .inr ⟨j, hj, by rw [getD_snoc_old L _ _ (by omega)]; exact h4⟩
    · obtain rfl : i = L.length := by simp at hi; omega
      rw [getD_snoc_new]
      rcases hs with h3 | ⟨j, hj, h4⟩
      · exact .inl h3
      · exact .inr ⟨j, hj, by rw [getD_snoc_old L _ _ hj]; exact h4⟩
/-- what is met grows. -/
def Grown (L L' : Met) : Prop := ∃ m, L' = L ++ m
theorem Grown.refl (L : Met) : Grown L L := ⟨[], by simp⟩
theorem Grown.trans {A B C : Met} (h : Grown A B) (h' : Grown B C) : Grown A C := by
  obtain ⟨m, rfl⟩ := h; obtain ⟨k, rfl⟩ := h'; exact ⟨m ++ k, by simp⟩
theorem Grown.keys {L L' : Met} (h : Grown L L') {x : Nat} (hx : x ∈ keys L) : x ∈ keys L' := by
  obtain ⟨m, rfl⟩ := h; simp only [Go.Proofs.Ytknneajaklcjdaa.keys, List.map_append, List.mem_append]; exact .inl hx
theorem Grown.getD {L L' : Met} (h : Grown L L') {i : Nat} (hi : i < L.length) : L'.getD i (0, 0) = L.getD i (0, 0) := by
  obtain ⟨m, rfl⟩ := h; simp [List.getD_eq_getElem?_getD, List.getElem?_append_left hi]
theorem Grown.length {L L' : Met} (h : Grown L L') : L.length ≤ L'.length := by
  obtain ⟨m, rfl⟩ := h; simp
theorem meetTo_grown (ins : Nat → Bool) (f : Int) (L : Met) (ps : List Nat) (k : Nat) : Grown L (meetTo ins f L ps k) := by
  induction k with
  | zero => exact Grown.refl _
  | succ k ih =>
    by_cases hk : k < ps.length
    · rw [meetTo_succ hk]
      refine ih.trans ?_
      by_cases h : ps.getD k 0 ∈ keys (meetTo ins f L ps k) ∨ ins (ps.getD k 0) = false
      · rw [meetStep_no h]; exact Grown.refl _
      · unfold meetStep; rw [if_neg h]; exact ⟨_, rfl⟩
    · unfold meetTo at *
      rw [List.take_of_length_le (by omega)] at *
      exact ih
theorem meetTo_has {ins : Nat → Bool} {f : Int} {L : Met} {ps : List Nat} {k : Nat} (hk : k ≤ ps.length) : ∀ j, j < k → ins (ps.getD j 0) = true → ps.getD j 0 ∈ keys (meetTo ins f L ps k) := by
  induction k with
  | zero => intro j hj; omega
  | succ k ih =>
    intro j hj hi
    rw [meetTo_succ (by omega)]
    by_cases hjk : j < k
    · have := ih (by omega) j hjk hi
      by_cases h : ps.getD k 0 ∈ keys (meetTo ins f L ps k) ∨ ins (ps.getD k 0) = false
      · rw [meetStep_no h]; exact this
      · unfold meetStep; rw [if_neg h, keys_snoc]; exact List.mem_append.2 (.inl this)
    · obtain rfl : j = k := by omega
      by_cases h : ps.getD j 0 ∈ keys (meetTo ins f L ps j)
      · rw [meetStep_no (.inl h)]; exact h
      · rw [meetStep_yes h hi, keys_snoc]; simp
theorem meetTo_ok {n : Nat} {ins : Nat → Bool} {nx : Nat → List Nat} {begin : List Nat} {L : Met} {f : Int} {ps : List Nat} (h : LOk n ins nx begin L) (hp : ∀ x ∈ ps, x < n) (hs : (f = -1 ∧ ∀ x ∈ ps, x ∈ begin) ∨ ∃ j, j < L.length ∧ f = ((L.getD j (0, 0)).1 : Int) ∧ ∀ x ∈ ps, x ∈ nx (L.getD j (0, 0)).1) (k : Nat) (hk : k ≤ ps.length) : LOk n ins nx begin (meetTo ins f L ps k) := by
  induction k with
  | zero => exact h
  | succ k ih =>
    rw [meetTo_succ (by omega)]
    have ih := ih (by omega)
    have hmem : ps.getD k 0 ∈ ps := by rw [List.getD_eq_getElem?_getD, List.getElem?_eq_getElem (by omega)]; exact List.getElem_mem _
    by_cases h1 : ps.getD k 0 ∈ keys (meetTo ins f L ps k) ∨ ins (ps.getD k 0) = false
    · rw [meetStep_no h1]; exact ih
    · have h2 : ins (ps.getD k 0) = true := by
        cases hx : ins (ps.getD k 0) with
        | true => rfl
        | false => exact absurd (.inr hx) h1
      have h3 : ¬ ps.getD k 0 ∈ keys (meetTo ins f L ps k) := fun x => h1 (.inl x)
      rw [meetStep_yes h3 h2]
      refine ih.snoc (hp _ hmem) h3 h2 ?_
      rcases hs with ⟨h4, h5⟩ | ⟨j, hj, h4, h5⟩
      · exact .inl ⟨h4, h5 _ hmem⟩
      · have hg := meetTo_grown ins f L ps k
        exact .inr ⟨j, Nat.lt_of_lt_of_le hj hg.length, by rw [hg.getD hj]; exact ⟨h4, h5 _ hmem⟩⟩
theorem nodup_le : ∀ {n : Nat} {l : List Nat}, l.Nodup → (∀ x ∈ l, x < n) → l.length ≤ n
  | 0, l, _, h2 => by
    cases l with
    | nil => simp
    | cons x l => have := h2 x (by simp); omega
  | n + 1, l, h1, h2 => by
    have h3 := nodup_le (n := n) (l := l.erase n) (h1.erase n) (fun x hx => by
      have h4 := h2 x (List.mem_of_mem_erase hx)
      have h5 : x ≠ n := by
        rintro rfl
        exact (List.Nodup.not_mem_erase h1) hx
      omega)
    have := List.length_erase (l := l) (a := n)
    split at this <;> omega
theorem LOk.length {n : Nat} {ins : Nat → Bool} {nx : Nat → List Nat} {begin : List Nat} {L : Met} (h : LOk n ins nx begin L) : L.length ≤ n := by
  have := nodup_le h.nodup h.lt
  rwa [keys_length] at this
theorem key_at {L : Met} {i : Nat} (hi : i < L.length) : (L.getD i (0, 0)).1 ∈ keys L := by
  rw [List.getD_eq_getElem?_getD, List.getElem?_eq_getElem hi]
  exact List.mem_map.2 ⟨_, List.getElem_mem _, rfl⟩
theorem key_get {L : Met} {x : Nat} (hx : x ∈ keys L) : ∃ i, i < L.length ∧ (L.getD i (0, 0)).1 = x := by
  obtain ⟨q, hq, rfl⟩ := List.mem_map.1 hx
  obtain ⟨i, hi, rfl⟩ := List.getElem_of_mem hq
  exact ⟨i, hi, by rw [List.getD_eq_getElem?_getD, List.getElem?_eq_getElem hi]; rfl⟩
/-- so far gone through: what lies behind is met, and none of it is wanted. -/
structure Through (ins want : Nat → Bool) (nx : Nat → List Nat) (begin : List Nat) (L : Met) (i : Nat) : Prop where
  first : ∀ x ∈ begin, ins x = true → x ∈ keys L
  next : ∀ j, j < i → ∀ x ∈ nx (L.getD j (0, 0)).1, ins x = true → x ∈ keys L
  none : ∀ j, j < i → want (L.getD j (0, 0)).1 = false
theorem Through.step {ins want : Nat → Bool} {nx : Nat → List Nat} {begin : List Nat} {L : Met} {i : Nat} (h : Through ins want nx begin L i) (hi : i < L.length) (hw : want (L.getD i (0, 0)).1 = false) {f : Int} : Through ins want nx begin (meetTo ins f L (nx (L.getD i (0, 0)).1) (nx (L.getD i (0, 0)).1).length) (i + 1) := by
  have hg := meetTo_grown ins f L (nx (L.getD i (0, 0)).1) (nx (L.getD i (0, 0)).1).length
  refine ⟨fun x hx hy => hg.keys (h.first x hx hy), fun j hj x hx hy => ?_, fun j hj => ?_⟩
  · rw [hg.getD (by omega)] at hx
    by_cases hji : j < i
    · exact hg.keys (h.next j hji x hx hy)
    · obtain rfl : j = i := by omega
      obtain ⟨k, hk, rfl⟩ := List.getElem_of_mem hx
      have := meetTo_has (ins := ins) (f := f) (L := L) (Nat.le_refl (nx (L.getD j (0, 0)).1).length) k hk
      rw [List.getD_eq_getElem?_getD, List.getElem?_eq_getElem hk] at this
      exact this hy
  · rw [hg.getD (by omega)]
    by_cases hji : j < i
    · exact h.none j hji
    · obtain rfl : j = i := by omega
      exact hw
/-- WHAT A LOOK THAT FOUND NOTHING HAS MET: all that is reached inside, and none of it is wanted. -/
theorem Through.all {n : Nat} {ins want : Nat → Bool} {nx : Nat → List Nat} {begin : List Nat} {L : Met} (h : Through ins want nx begin L L.length) (_hl : LOk n ins nx begin L) : (∀ x ∈ begin, ins x = true → x ∈ keys L) ∧ (∀ x ∈ keys L, ∀ y ∈ nx x, ins y = true → y ∈ keys L) ∧ ∀ x ∈ keys L, want x = false := by
  refine ⟨h.first, fun x hx y hy hi => ?_, fun x hx => ?_⟩
  · obtain ⟨i, hi', rfl⟩ := key_get hx
    exact h.next i hi' y hy hi
  · obtain ⟨i, hi', rfl⟩ := key_get hx
    exact h.none i hi'
end Go.Proofs.Ytknneajaklcjdaa
