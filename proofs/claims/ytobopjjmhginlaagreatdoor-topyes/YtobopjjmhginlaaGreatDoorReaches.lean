import Derived.Test.YtobopjjmhginlaaGreatDoorNexts
namespace Go.Proofs.YtobopjjmhginlaaGreatDoor
open Terms Tm
set_option maxHeartbeats 6400000
set_option maxRecDepth 20000
theorem sorted_rise {l : List Int} (h : l.Nodup) : Rise (l.mergeSort leB) := by
  have hp : (l.mergeSort leB).Pairwise (fun x y => leB x y = true) := List.pairwise_mergeSort (le := leB) (by intro a b c; simp only [leB, decide_eq_true_eq]; omega) (by intro a b; simp only [leB, Bool.or_eq_true, decide_eq_true_eq]; omega) l
  have hn : (l.mergeSort leB).Nodup := (List.mergeSort_perm l leB).nodup_iff.2 h; refine (hp.and hn).imp fun {a b} hab => ?_
  have h1 : a <= b := by simpa [leB] using hab.1
  have h2 : a ≠ b := hab.2; omega
theorem rise_length : ∀ {l : List Int} {lo N : Int}, Rise l -> (∀ x ∈ l, lo <= x /\ x < N) -> lo <= N -> (l.length : Int) <= N - lo
  | [], lo, N, _, _, h => by simp; omega
  | x :: l, lo, N, h1, h2, _ => by
    obtain ⟨hx, t⟩ := List.pairwise_cons.1 h1; have h3 := h2 x (by simp)
    have := rise_length (lo := x + 1) (N := N) t (fun y hy => ⟨by have := hx y hy; omega, (h2 y (by simp [hy])).2⟩) (by omega)
    simp only [List.length_cons]; omega
theorem nodup_length {l : List Int} {N : Nat} (h : l.Nodup) (hi : ∀ x ∈ l, 0 <= x /\ x < N) : l.length <= N := by
  have h1 := rise_length (lo := 0) (N := N) (sorted_rise h) (fun x hx => hi x ((List.mergeSort_perm l leB).mem_iff.1 hx)) (by omega)
  rw [List.length_mergeSort] at h1; omega
end Go.Proofs.YtobopjjmhginlaaGreatDoor
