/-
  Plain mathematics of what is reached.
-/
import Derived.Test.YtbcjhkhndahdhaaDoorNexts
namespace Go.Proofs.YtbcjhkhndahdhaaDoor
open Terms Tm

/-- reached from the first state on. -/
inductive RSt (nx : Int → List Int) (first : Int) : Int → Prop where
  | first : RSt nx first first
  | next {x y : Int} : RSt nx first x → y ∈ nx x → RSt nx first y
open Classical in
/-- the states that are reached, rising. -/
noncomputable def reachN (nx : Int → List Int) (first : Int) (N : Nat) : List Int := ((List.range N).filter (fun j : Nat => decide (RSt nx first (j : Int)))).map (fun j : Nat => (j : Int))
theorem reachN_rise (nx : Int → List Int) (first : Int) (N : Nat) : Rise (reachN nx first N) := by
  unfold reachN Rise
  rw [List.pairwise_map]
  refine List.Pairwise.imp (fun {a b} h => ?_) (List.Pairwise.filter _ List.pairwise_lt_range)
  omega
theorem reachN_mem (nx : Int → List Int) (first : Int) (N : Nat) (x : Int) : x ∈ reachN nx first N ↔ (0 ≤ x ∧ x < N) ∧ RSt nx first x := by
  unfold reachN
  simp only [List.mem_map, List.mem_filter, List.mem_range, decide_eq_true_eq]
  constructor
  · rintro ⟨j, ⟨h1, h2⟩, rfl⟩; exact ⟨⟨by omega, by omega⟩, h2⟩
  · rintro ⟨⟨h0, h1⟩, h2⟩; exact ⟨x.toNat, ⟨by omega, by rw [Int.toNat_of_nonneg h0]; exact h2⟩, by omega⟩
/-- states that are reached are states. -/
theorem RSt.in {nx : Int → List Int} {first : Int} {N : Nat} (hf : 0 ≤ first ∧ first < N) (hn : ∀ x y : Int, 0 ≤ x ∧ x < N → y ∈ nx x → 0 ≤ y ∧ y < N) {x : Int} (h : RSt nx first x) : 0 ≤ x ∧ x < N := by
  induction h with
  | first => exact hf
  | next _ hy ih => exact hn _ _ ih hy
/-- a list without a number twice, sorted, rises. -/
theorem sorted_rise {l : List Int} (h : l.Nodup) : Rise (l.mergeSort leB) := by
  have hp : (l.mergeSort leB).Pairwise (fun x y => leB x y = true) := List.pairwise_mergeSort (le := leB) (by intro a b c; simp only [leB, decide_eq_true_eq]; omega) (by intro a b; simp only [leB, Bool.or_eq_true, decide_eq_true_eq]; omega) l
  have hn : (l.mergeSort leB).Nodup := (List.mergeSort_perm l leB).nodup_iff.2 h
  refine (hp.and hn).imp fun {a b} hab => ?_
  have h1 : a ≤ b := by simpa [leB] using hab.1
  have h2 : a ≠ b := hab.2
  omega
/-- what goes through a list that is closed is all that is reached. -/
theorem closed_reach {nx : Int → List Int} {first : Int} {l : List Int} (hf : first ∈ l) (hr : ∀ x ∈ l, RSt nx first x) (hc : ∀ x ∈ l, ∀ y ∈ nx x, y ∈ l) (x : Int) : x ∈ l ↔ RSt nx first x := by
  refine ⟨hr x, fun h => ?_⟩
  induction h with
  | first => exact hf
  | next _ hy ih => exact hc _ ih _ hy
theorem rise_length : ∀ {l : List Int} {lo N : Int}, Rise l → (∀ x ∈ l, lo ≤ x ∧ x < N) → lo ≤ N → (l.length : Int) ≤ N - lo
  | [], lo, N, _, _, h => by simp; omega
  | x :: l, lo, N, h1, h2, _ => by
    obtain ⟨hx, t⟩ := List.pairwise_cons.1 h1
    have h3 := h2 x (by simp)
    have := rise_length (lo := x + 1) (N := N) t (fun y hy => ⟨by have := hx y hy; omega, (h2 y (by simp [hy])).2⟩) (by omega)
    simp only [List.length_cons]
    omega
/-- how long a list of states may be. -/
theorem nodup_length {l : List Int} {N : Nat} (h : l.Nodup) (hi : ∀ x ∈ l, 0 ≤ x ∧ x < N) : l.length ≤ N := by
  have h1 := rise_length (lo := 0) (N := N) (sorted_rise h) (fun x hx => hi x ((List.mergeSort_perm l leB).mem_iff.1 hx)) (by omega)
  rw [List.length_mergeSort] at h1
  omega
end Go.Proofs.YtbcjhkhndahdhaaDoor
