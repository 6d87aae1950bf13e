import Derived.Test.YtobopjjmhginlaaGreatDoorPEx0
import Derived.Test.YtobopjjmhginlaaGreatDoorGraphC
namespace Go.Proofs.YtobopjjmhginlaaGreatDoor
open Go.ChangeShapes Go.WideShapes Go.ChangeAt Go.RowKit Go.Deep Go.Maps
open Terms Tm
set_option maxHeartbeats 6400000
set_option maxRecDepth 20000
noncomputable def exGr (m : Mo) (ps : List (List (Int × Int))) (l : List (Int × Int)) (K : Nat) : Gr := ⟨xpP m ps l K, ((begL m ps l).length : Nat), xpN m ps l K, xpT m ps l K, ((aheadL l).length : Nat)⟩
section
variable {m : Mo} {ps : List (List (Int × Int))} {l : List (Int × Int)} {K : Nat}
theorem xpAt_eq (h : ExDone m ps l K) {i : Nat} (hi : i < K) : xpAt m ps l i = (xpP m ps l K).getD i (0, 0) :=
  (exS_at (begL m ps l) (xpBh m ps l) (Nat.le_of_lt hi) (h.2.2.1 i hi)).symm
theorem xpN_get {K : Nat} : ∀ {j : Nat}, j < K -> (xpN m ps l K).getD j [] = plIx (xpP m ps l j) (xpBh m ps l (xpAt m ps l j)) := by
  induction K with
  | zero => intro j h; omega
  | succ K ih =>
    intro j h; rw [xpN, List.getD_eq_getElem?_getD]
    by_cases hj : j < K
    · rw [List.getElem?_append_left (by rw [xpN_len]; exact hj), <- List.getD_eq_getElem?_getD]
      exact ih hj
    · obtain rfl : j = K := by omega
      rw [List.getElem?_append_right (by rw [xpN_len]; exact Nat.le_refl _), xpN_len]
      simp
theorem xpT_get {K : Nat} : ∀ {j : Nat}, j < K -> (xpT m ps l K).getD j 0 = metN l (letL m ps (xpAt m ps l j).1) (xpAt m ps l j).2 := by
  induction K with
  | zero => intro j h; omega
  | succ K ih =>
    intro j h; rw [xpT, List.getD_eq_getElem?_getD]
    by_cases hj : j < K
    · rw [List.getElem?_append_left (by rw [xpT_len]; exact hj), <- List.getD_eq_getElem?_getD]
      exact ih hj
    · obtain rfl : j = K := by omega
      rw [List.getElem?_append_right (by rw [xpT_len]; exact Nat.le_refl _), xpT_len]
      simp
theorem xbeg_nodup (m : Mo) (ps : List (List (Int × Int))) (l : List (Int × Int)) : (begL m ps l).Nodup := by
  have key : ∀ k, (begTo m ps l k).Nodup := fun k => by
    induction k with
    | zero => simp [begTo]
    | succ k ih =>
      rw [begTo]
      split
      · exact ih
      · refine List.nodup_append.2 ⟨ih, by simp, fun a ha b hb e => ?_⟩
        rw [List.mem_singleton] at hb; subst hb; subst e; obtain ⟨_, d, h2, h3, _⟩ := xbg_mem _ ha; simp only at h3
        omega
  exact key _
theorem xpN_row (h : ExDone m ps l K) {i : Nat} (hi : i < K) : ((xpN m ps l K).getD i []).length = (xpBh m ps l ((xpP m ps l K).getD i (0, 0))).length /\ ∀ q, q < (xpBh m ps l ((xpP m ps l K).getD i (0, 0))).length -> ((xpN m ps l K).getD i []).getD q 0 = (((xpP m ps l K).idxOf ((xpBh m ps l ((xpP m ps l K).getD i (0, 0))).getD q (0, 0)) : Nat) : Int) /\ (xpBh m ps l ((xpP m ps l K).getD i (0, 0))).getD q (0, 0) ∈ xpP m ps l K := by
  rw [xpN_get hi, <- xpAt_eq h hi]; refine ⟨plIx_len _ _, fun q hq => ?_⟩
  have hmem : (xpBh m ps l (xpAt m ps l i)).getD q (0, 0) ∈ xpP m ps l (i + 1) := by
    rw [xpP_succ, plTo_iff]; refine .inr ?_
    rw [List.getD_eq_getElem?_getD, List.getElem?_eq_getElem hq]
    exact List.getElem_mem _
  have hpre : xpP m ps l (i + 1) <+: xpP m ps l K := exS_le _ _ hi; refine ⟨?_, hpre.subset hmem⟩
  rw [plIx_at hq, <- xpP_succ, idx_pre hpre hmem]
theorem metN_range (l : List (Int × Int)) (letter : List Bool) (c : Int) : 0 <= metN l letter c /\ metN l letter c < (2 : Int) ^ (aheadL l).length := by
  unfold metN
  split
  · exact metTo_bounds _ _ _
  · exact ⟨by omega, Int.pow_pos (by decide)⟩
theorem exGr_ok (hk : tkcode m ps l = 0) (h : ExDone m ps l K) : GOk (exGr m ps l K) := by
  have h6 := (lcode_zero (tk_zero hk).2).2.2.2.2
  have hbl : (begL m ps l).length <= (xpP m ps l K).length := by
    have h1 := (exS_le (begL m ps l) (xpBh m ps l) (Nat.zero_le K)).length_le
    have h2 : (begL m ps l).length <= (exS (begL m ps l) (xpBh m ps l) 0).length := by
      show _ <= (plTo [] (begL m ps l)).length
      have hnd := plTo_nodup (begL m ps l) [] List.nodup_nil; have hsub : begL m ps l ⊆ plTo [] (begL m ps l) := fun x hx => (plTo_iff _ _ _).2 (.inr hx)
      exact (xbeg_nodup m ps l).length_le_of_subset hsub
    exact Nat.le_trans h2 h1
  refine ⟨⟨by show (xpP m ps l K).length <= _; rw [h.1]; exact h.2.1, by show (xpN m ps l K).length = (xpP m ps l K).length; rw [xpN_len, h.1], by show (xpT m ps l K).length = (xpP m ps l K).length; rw [xpT_len, h.1], by show (0 : Int) <= ((begL m ps l).length : Nat); omega, by show (((begL m ps l).length : Nat) : Int) <= ((xpP m ps l K).length : Nat); omega, by show (0 : Int) <= ((aheadL l).length : Nat); omega, by show (((aheadL l).length : Nat) : Int) <= 6; omega⟩, fun i hi => ?_⟩
  have hiK : i < K := by have : i < (xpP m ps l K).length := hi; rw [h.1] at this; exact this
  refine ⟨?_, fun q hq => ?_⟩
  · unfold GSet top
    show 0 <= (xpT m ps l K).getD i 0 /\ (xpT m ps l K).getD i 0 <= 2 ^ (((aheadL l).length : Nat) : Int).toNat - 1
    rw [xpT_get hiK]; have := metN_range l (letL m ps (xpAt m ps l i).1) (xpAt m ps l i).2; rw [Int.toNat_natCast]; omega
  · obtain ⟨r1, r2⟩ := xpN_row h hiK
    have hq' : q < (xpBh m ps l ((xpP m ps l K).getD i (0, 0))).length := by rw [<- r1]; exact hq
    obtain ⟨r3, r4⟩ := r2 q hq'
    show 0 <= ((xpN m ps l K).getD i []).getD q 0 /\ ((xpN m ps l K).getD i []).getD q 0 < ((xpP m ps l K).length : Nat)
    rw [r3]; have := List.idxOf_lt_length_of_mem r4; omega
theorem exGr_step (h : ExDone m ps l K) {s x : Int × Int} (hs : s ∈ xpP m ps l K) (hx : x ∈ xpBh m ps l s) : x ∈ xpP m ps l K /\ (xpP m ps l K).idxOf x ∈ nxt (exGr m ps l K) ((xpP m ps l K).idxOf s) := by
  have hi := List.idxOf_lt_length_of_mem hs; have hiK : (xpP m ps l K).idxOf s < K := by rw [h.1] at hi; exact hi
  have he : (xpP m ps l K).getD ((xpP m ps l K).idxOf s) (0, 0) = s := by
    rw [List.getD_eq_getElem?_getD, List.getElem?_eq_getElem hi]
    exact List.getElem_idxOf hi
  obtain ⟨r1, r2⟩ := xpN_row h hiK; rw [he] at r1 r2; obtain ⟨q, hq, rfl⟩ := List.getElem_of_mem hx; have hg : (xpBh m ps l s).getD q (0, 0) = (xpBh m ps l s)[q] := by rw [List.getD_eq_getElem?_getD, List.getElem?_eq_getElem hq]; rfl
  obtain ⟨r3, r4⟩ := r2 q hq; rw [hg] at r3 r4; refine ⟨r4, ?_⟩
  unfold nxt; rw [List.mem_map]; refine ⟨((xpN m ps l K).getD ((xpP m ps l K).idxOf s) []).getD q 0, ?_, by rw [r3]; rfl⟩
  show ((xpN m ps l K).getD ((xpP m ps l K).idxOf s) []).getD q 0 ∈ (xpN m ps l K).getD ((xpP m ps l K).idxOf s) []
  generalize (xpN m ps l K).getD ((xpP m ps l K).idxOf s) [] = row at *; rw [List.getD_eq_getElem?_getD, List.getElem?_eq_getElem (by rw [r1]; exact hq)]
  exact List.getElem_mem _
end
theorem SpO.ops {w : World} {base : Nat} {v : Value} {x : List (Int × Int)} (h : SpO w base v x) : OpsV w v x := by
  rcases h.2 with ⟨rfl, h0⟩ | ⟨g, cap, cur, rfl, hb, hg, hnc, hcm, hcs, htake⟩
  · have : x = [] := by simpa using h0
    subst this; exact ⟨none, 0, rfl, ⟨by simp, fun _ => ⟨rfl, rfl⟩⟩, fun h => absurd rfl h⟩
  · refine ⟨_, cap, rfl, ⟨hnc, fun h => by simp at h⟩, fun _ => ⟨g, 0, rfl, (Array.getElem?_eq_some_iff.1 hg).1, fun i hi => ?_⟩⟩
    obtain ⟨f0, f1⟩ := flat_get x i hi; rw [World.ownsRow.cellAt h _ (by omega), World.ownsRow.cellAt h _ (by omega)]
    simpa using ⟨f0, f1⟩
theorem GrX.graph {w : World} {base K : Nat} {m : Mo} {ps : List (List (Int × Int))} {l : List (Int × Int)} {sv nv tv : Value} (h : GrX w base m ps l K sv nv tv) : GraphV w sv nv tv (exGr m ps l K) := by
  obtain ⟨h1, ⟨us, n1, n2, n3⟩, h3⟩ := h; refine ⟨h1.ops, ?_, intsV_of_owns h3⟩
  have n1' : w.ownsRow base 37 1 nv us.length us := by rw [n2]; exact n1
  refine listsV_of_owns n1' ⟨n2, fun i hi => ?_⟩
  obtain ⟨ao, c, e1, e2, _, _⟩ := n3 i hi; have e1' : us.getD i nilG = .slice ao ((xpN m ps l K).getD i []).length c := e1; rw [e1']; exact e2
end Go.Proofs.YtobopjjmhginlaaGreatDoor
