import Derived.Test.YtobopjjmhginlaaGreatDoorLogicFollow
namespace Go.Proofs.YtobopjjmhginlaaGreatDoor
open Go.ChangeShapes Go.WideShapes Go.ChangeAt Go.RowKit Go.Deep
open Terms
set_option maxHeartbeats 6400000
set_option maxRecDepth 20000
def askP (l : List (Int × Int)) (p : Nat) : Nat := if (l.getD p (0, 0)).1 = 14 then p + 1 else p
def signTo (l : List (Int × Int)) (g : Nat -> Bool) : Nat -> Int
  | 0 => 0
  | k + 1 => signTo l g k + if g (askP l ((aheadL l).getD k 0).toNat) = true then 2 ^ k else 0
def signN (l : List (Int × Int)) (g : Nat -> Bool) : Int := signTo l g (aheadL l).length
theorem signTo_bounds (l : List (Int × Int)) (g : Nat -> Bool) : ∀ k, 0 <= signTo l g k /\ signTo l g k < 2 ^ k := by
  intro k
  induction k with
  | zero => simp [signTo]
  | succ k ih =>
    have h2 : (0 : Int) < 2 ^ k := Int.pow_pos (by decide)
    rw [signTo, Int.pow_succ]
    split <;> omega
theorem sign_inj {l : List (Int × Int)} {g g' : Nat -> Bool} : ∀ {k : Nat}, signTo l g k = signTo l g' k -> ∀ j, j < k -> g (askP l ((aheadL l).getD j 0).toNat) = g' (askP l ((aheadL l).getD j 0).toNat)
  | 0, _, j, hj => by omega
  | k + 1, h, j, hj => by
    obtain ⟨a0, a1⟩ := signTo_bounds l g k; obtain ⟨b0, b1⟩ := signTo_bounds l g' k; have h2 : (0 : Int) < 2 ^ k := Int.pow_pos (by decide)
    rw [signTo, signTo] at h
    rcases (show j < k \/ j = k by omega) with h3 | h3
    · refine sign_inj (k := k) ?_ j h3
      split at h <;> split at h <;> omega
    · subst h3
      generalize g (askP l ((aheadL l).getD j 0).toNat) = x at h ⊢; generalize g' (askP l ((aheadL l).getD j 0).toNat) = y at h ⊢
      cases x <;> cases y
      · rfl
      · rw [if_neg (by simp), if_pos rfl] at h; omega
      · rw [if_pos rfl, if_neg (by simp)] at h; omega
      · rfl
theorem ahead_pre (l : List (Int × Int)) : ∀ (d n : Nat), ∃ r, aheadTo l (n + d) = aheadTo l n ++ r := by
  intro d
  induction d with
  | zero => exact fun n => ⟨[], by simp⟩
  | succ d ih =>
    intro n; obtain ⟨r, hr⟩ := ih n; refine ⟨r ++ (if lookB (l.getD (n + d) (0, 0)).1 = true then [((n + d : Nat) : Int)] else []), ?_⟩
    rw [show n + (d + 1) = (n + d) + 1 by omega, aheadTo, hr, List.append_assoc]
theorem ahead_spot {l : List (Int × Int)} {p : Nat} (hp : p < l.length) (hb : lookB (l.getD p (0, 0)).1 = true) : (aheadTo l p).length < (aheadL l).length /\ (aheadL l).getD (aheadTo l p).length 0 = (p : Int) := by
  have h1 := aheadTo_lt l hp hb; refine ⟨h1, ?_⟩
  obtain ⟨r, hr⟩ := ahead_pre l (l.length - (p + 1)) (p + 1); rw [show p + 1 + (l.length - (p + 1)) = l.length by omega, aheadTo_yes hb] at hr
  unfold aheadL; rw [hr, List.append_assoc]; simp [List.getD_eq_getElem?_getD]
theorem fol_sign {l : List (Int × Int)} {h g g' : Nat -> Bool} (e : signN l g = signN l g') : Fol l h g ↔ Fol l h g' := by
  have key : ∀ p, p < l.length -> lookB (l.getD p (0, 0)).1 = true -> comeAt l h g p = comeAt l h g' p := by
    intro p hp hb; obtain ⟨h1, h2⟩ := ahead_spot hp hb; have h3 := sign_inj e (aheadTo l p).length h1; rw [h2] at h3; simp only [Int.toNat_natCast] at h3; unfold comeAt comeB; unfold askP at h3; have hk : 14 <= (l.getD p (0, 0)).1 /\ (l.getD p (0, 0)).1 <= 18 := by simpa [lookB] using hb
    by_cases h14 : (l.getD p (0, 0)).1 = 14
    · rw [if_pos h14] at h3
      rw [h14, h3]
      simp
    · rw [if_neg h14] at h3
      rw [h3]; have : (l.getD p (0, 0)).1 = 15 \/ (l.getD p (0, 0)).1 = 16 \/ (l.getD p (0, 0)).1 = 17 \/ (l.getD p (0, 0)).1 = 18 := by omega
      rcases this with h5 | h5 | h5 | h5 <;> rw [h5] <;> simp
  refine ⟨fun H p hp hb => ?_, fun H p hp hb => ?_⟩
  · rw [H p hp hb, key p hp hb]
  · rw [H p hp hb, key p hp hb]
end Go.Proofs.YtobopjjmhginlaaGreatDoor
