import Derived.Test.YtobopjjmhginlaaGreatDoorTerms
namespace Go.Proofs.YtobopjjmhginlaaGreatDoor
open Go
set_option maxHeartbeats 6400000
set_option maxRecDepth 20000
def plOne (S : List (Int × Int)) (s : Int × Int) : List (Int × Int) := if s ∈ S then S else S ++ [s]
def plTo (S l : List (Int × Int)) : List (Int × Int) := l.foldl plOne S
theorem plOne_pre (S : List (Int × Int)) (s : Int × Int) : S <+: plOne S s := by
  unfold plOne
  split
  · exact List.prefix_refl _
  · exact List.prefix_append _ _
theorem plOne_mem (S : List (Int × Int)) (s : Int × Int) : s ∈ plOne S s := by
  unfold plOne
  split
  · assumption
  · exact List.mem_append_right _ (List.mem_singleton.2 rfl)
theorem plOne_iff {S : List (Int × Int)} {s x : Int × Int} : x ∈ plOne S s ↔ x ∈ S \/ x = s := by
  unfold plOne
  split
  · constructor
    · exact Or.inl
    · rintro (h | rfl) <;> assumption
  · rw [List.mem_append, List.mem_singleton]
theorem plOne_nodup {S : List (Int × Int)} (h : S.Nodup) (s : Int × Int) : (plOne S s).Nodup := by
  unfold plOne
  split
  · exact h
  · next hs =>
    refine List.nodup_append.2 ⟨h, by simp, fun a ha b hb => ?_⟩
    rw [List.mem_singleton] at hb; subst hb; exact fun e => hs (e ▸ ha)
theorem plOne_length (S : List (Int × Int)) (s : Int × Int) : S.length <= (plOne S s).length /\ (plOne S s).length <= S.length + 1 := by
  unfold plOne
  split
  · omega
  · rw [List.length_append, List.length_singleton]
    omega
theorem plTo_nil (S : List (Int × Int)) : plTo S [] = S := rfl
theorem plTo_cons (S : List (Int × Int)) (s : Int × Int) (l : List (Int × Int)) : plTo S (s :: l) = plTo (plOne S s) l := rfl
theorem plTo_snoc (S l : List (Int × Int)) (s : Int × Int) : plTo S (l ++ [s]) = plOne (plTo S l) s := by
  unfold plTo; rw [List.foldl_append]; rfl
theorem plTo_pre (l : List (Int × Int)) : ∀ S, S <+: plTo S l := by
  induction l with
  | nil => exact fun S => List.prefix_refl _
  | cons s l ih => exact fun S => (plOne_pre S s).trans (ih _)
theorem plTo_iff (l : List (Int × Int)) : ∀ (S : List (Int × Int)) (x : Int × Int), x ∈ plTo S l ↔ x ∈ S \/ x ∈ l := by
  induction l with
  | nil => intro S x; simp [plTo_nil]
  | cons s l ih =>
    intro S x; rw [plTo_cons, ih, plOne_iff, List.mem_cons, or_assoc]
theorem plTo_nodup (l : List (Int × Int)) : ∀ S : List (Int × Int), S.Nodup -> (plTo S l).Nodup := by
  induction l with
  | nil => exact fun S h => h
  | cons s l ih => exact fun S h => ih _ (plOne_nodup h s)
theorem plTo_length (l : List (Int × Int)) : ∀ S : List (Int × Int), S.length <= (plTo S l).length /\ (plTo S l).length <= S.length + l.length := by
  induction l with
  | nil => intro S; rw [plTo_nil]; simp
  | cons s l ih =>
    intro S; have h1 := plOne_length S s; have h2 := ih (plOne S s); rw [plTo_cons, List.length_cons]; omega
theorem idx_pre {S T : List (Int × Int)} (h : S <+: T) {s : Int × Int} (hs : s ∈ S) : T.idxOf s = S.idxOf s := by
  obtain ⟨R, rfl⟩ := h; rw [List.idxOf_append, if_pos hs]
theorem plOne_idx {S : List (Int × Int)} {s : Int × Int} (hs : s ∉ S) : (plOne S s).idxOf s = S.length := by
  unfold plOne; rw [if_neg hs, List.idxOf_append, if_neg hs]
  simp
section
variable (beg : List (Int × Int)) (bh : Int × Int -> List (Int × Int))
def exS : Nat -> List (Int × Int)
  | 0 => plTo [] beg
  | k + 1 => plTo (exS k) (bh ((exS k).getD k (0, 0)))
theorem exS_pre (k : Nat) : exS beg bh k <+: exS beg bh (k + 1) := plTo_pre _ _
theorem exS_le {k j : Nat} (h : k <= j) : exS beg bh k <+: exS beg bh j := by
  induction h with
  | refl => exact List.prefix_refl _
  | step _ ih => exact ih.trans (exS_pre beg bh _)
theorem exS_nodup (k : Nat) : (exS beg bh k).Nodup := by
  induction k with
  | zero => exact plTo_nodup _ _ List.nodup_nil
  | succ k ih => exact plTo_nodup _ _ ih
theorem exS_at {k j p : Nat} (h : k <= j) (hp : p < (exS beg bh k).length) : (exS beg bh j).getD p (0, 0) = (exS beg bh k).getD p (0, 0) := by
  obtain ⟨R, hR⟩ := exS_le beg bh h; rw [<- hR, List.getD_eq_getElem?_getD, List.getD_eq_getElem?_getD, List.getElem?_append_left hp]
end
end Go.Proofs.YtobopjjmhginlaaGreatDoor
