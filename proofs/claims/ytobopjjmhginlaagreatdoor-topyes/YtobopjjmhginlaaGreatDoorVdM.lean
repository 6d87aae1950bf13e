import Derived.Test.YtobopjjmhginlaaGreatDoorExGr
import Derived.Test.YtobopjjmhginlaaGreatDoorClaimS
namespace Go.Proofs.YtobopjjmhginlaaGreatDoor
open Go.ChangeShapes Go.WideShapes Go.ChangeAt Go.RowKit Go.Deep
open Terms Tm
set_option maxHeartbeats 6400000
set_option maxRecDepth 20000
structure PRun (m : Mo) (path : List Int) (s : Nat) : Prop where
  lt : s < path.length
  first : path.getD 0 0 = begC m
  step : ∀ i, i < path.length -> path.getD (moAt s path.length (i + 1)) 0 ∈ nextL m (path.getD i 0)
structure PWay (m : Mo) (ps : List (List (Int × Int))) (l : List (Int × Int)) (K : Nat) (x : List Nat) (s : Nat) : Prop where
  lt : s < x.length
  all : ∀ i, i < x.length -> x.getD i 0 < K
  first : x.getD 0 0 < (begL m ps l).length
  step : ∀ i, i < x.length -> x.getD (moAt s x.length (i + 1)) 0 ∈ nxt (exGr m ps l K) (x.getD i 0)
  met : ∀ k, k < (aheadL l).length -> ∃ i, s <= i /\ i < x.length /\ bitB ((xpT m ps l K).getD (x.getD i 0) 0) k = true
section
variable {m : Mo} {ps : List (List (Int × Int))} {l : List (Int × Int)} {K : Nat}
noncomputable def spA (m : Mo) (ps : List (List (Int × Int))) (l : List (Int × Int)) (K i : Nat) : Int × Int := (xpP m ps l K).getD i (0, 0)
theorem spA_mem (h : ExDone m ps l K) {i : Nat} (hi : i < K) : spA m ps l K i ∈ xpP m ps l K := by
  have hl : i < (xpP m ps l K).length := by rw [h.1]; exact hi
  unfold spA; rw [List.getD_eq_getElem?_getD, List.getElem?_eq_getElem hl]
  exact List.getElem_mem _
theorem spA_ok (h : ExDone m ps l K) {i : Nat} (hi : i < K) : spOk m l (spA m ps l K i) := h.2.2.2 _ (spA_mem h hi)
theorem spA_idx {s : Int × Int} (hs : s ∈ xpP m ps l K) : spA m ps l K ((xpP m ps l K).idxOf s) = s := by
  have hi := List.idxOf_lt_length_of_mem hs; unfold spA; rw [List.getD_eq_getElem?_getD, List.getElem?_eq_getElem hi]
  exact List.getElem_idxOf hi
theorem nxt_beh (h : ExDone m ps l K) {i j : Nat} (hi : i < K) (hj : j ∈ nxt (exGr m ps l K) i) : spA m ps l K j ∈ xpBh m ps l (spA m ps l K i) := by
  obtain ⟨r1, r2⟩ := xpN_row h hi; unfold nxt at hj; obtain ⟨z, hz, rfl⟩ := List.mem_map.1 hj; have hz' : z ∈ (xpN m ps l K).getD i [] := hz; obtain ⟨q, hq, e⟩ := List.getElem_of_mem hz'; have hq' : q < (xpBh m ps l ((xpP m ps l K).getD i (0, 0))).length := by rw [<- r1]; exact hq
  obtain ⟨r3, r4⟩ := r2 q hq'
  have e2 : ((xpN m ps l K).getD i []).getD q 0 = z := by
    generalize (xpN m ps l K).getD i [] = row at *; rw [List.getD_eq_getElem?_getD, List.getElem?_eq_getElem hq]
    exact e
  rw [<- e2, r3, Int.toNat_natCast, spA_idx r4]; rw [List.getD_eq_getElem?_getD (l := xpBh m ps l ((xpP m ps l K).getD i (0, 0))), List.getElem?_eq_getElem hq']
  exact List.getElem_mem _
theorem foTo_in {x : List Bool} {c : Int} {y : List Bool} {st : Int} {d : Nat} (hf : folR l x c y (d : Int) = true) : ∀ k, d < k -> (st, (d : Int)) ∈ foTo l x c y st k
  | 0, h => by omega
  | k + 1, h => by
    rw [foTo]
    by_cases e : d = k
    · subst e
      rw [if_pos hf]; exact List.mem_append_right _ (List.mem_singleton.2 rfl)
    · have := foTo_in hf (st := st) k (by omega)
      split
      · exact List.mem_append_left _ this
      · exact this
theorem beh_in {code c y : Int} {d : Nat} (hy : y ∈ nextL m code) (hd : d < 2 ^ (aheadL l).length) (hf : folR l (letL m ps code) c (letL m ps y) (d : Int) = true) : (y, (d : Int)) ∈ behL m ps l code c := by
  obtain ⟨q, hq, rfl⟩ := List.getElem_of_mem hy; have hg : (nextL m code).getD q 0 = (nextL m code)[q] := by rw [List.getD_eq_getElem?_getD, List.getElem?_eq_getElem hq]; rfl
  have key : ∀ i, q < i -> i <= (nextL m code).length -> ((nextL m code)[q], (d : Int)) ∈ behTo m ps l code c i := fun i => by
    induction i with
    | zero => intro h; omega
    | succ i ih =>
      intro h1 h2; rw [behTo, List.mem_append]
      by_cases e : q = i
      · subst e
        refine .inr ?_
        rw [hg]; exact foTo_in hf _ hd
      · exact .inl (ih (by omega) (by omega))
  exact key _ hq (Nat.le_refl _)
theorem beg_in {d : Nat} (hd : d < 2 ^ (aheadL l).length) (hf : tru l (letL m ps (begC m)) (d : Int) 0 ≠ true) : (begC m, (d : Int)) ∈ begL m ps l := by
  have key : ∀ k, d < k -> (begC m, (d : Int)) ∈ begTo m ps l k := fun k => by
    induction k with
    | zero => intro h; omega
    | succ k ih =>
      intro h; rw [begTo]
      by_cases e : d = k
      · subst e
        rw [if_neg hf]; exact List.mem_append_right _ (List.mem_singleton.2 rfl)
      · have := ih (by omega)
        split
        · exact this
        · exact List.mem_append_left _ this
  exact key _ hd
theorem tk_fol (hk : tkcode m ps l = 0) {x y : Int} {c d : Nat} (hx : 0 <= x /\ x < prodTo m.vars m.vars.length) (hy : 0 <= y /\ y < prodTo m.vars m.vars.length) (hc : c < 2 ^ (aheadL l).length) (hd : d < 2 ^ (aheadL l).length) : fcode l (letL m ps x) (c : Int) (letL m ps y) (d : Int) = 0 := by
  unfold fcode; rw [if_neg (by rw [(tk_let hk hx).2, (tk_let hk hy).2]; simp), if_neg (by rw [(tk_tru hk hx hc).1]; simp)]
  exact (tk_tru hk hy hd).1
end
end Go.Proofs.YtobopjjmhginlaaGreatDoor
