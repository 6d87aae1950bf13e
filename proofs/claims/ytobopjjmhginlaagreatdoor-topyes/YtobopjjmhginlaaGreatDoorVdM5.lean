import Derived.Test.YtobopjjmhginlaaGreatDoorVdM4
namespace Go.Proofs.YtobopjjmhginlaaGreatDoor
open Go.ChangeShapes Go.WideShapes Go.ChangeAt Go.RowKit Go.Deep
open Terms Tm
set_option maxHeartbeats 6400000
set_option maxRecDepth 20000
section
variable {σ : Nat -> Nat -> Bool} {v : Int} {a b : Tm} {i : Nat}
theorem hb_glob_iff : hb σ (un 18 v a) i = true ↔ ∀ j, i <= j -> hb σ a j = true := by
  rw [hb_glob, untB_iff]; unfold Unt
  constructor
  · rintro (⟨j, _, h, _⟩ | ⟨_, h⟩)
    · cases h
    · exact h
  · exact fun h => .inr ⟨rfl, h⟩
theorem hb_fin_iff : hb σ (un 17 v a) i = true ↔ ∃ j, i <= j /\ hb σ a j = true := by
  rw [hb_fin, untB_iff]; unfold Unt
  constructor
  · rintro (⟨j, h1, h2, _⟩ | ⟨h, _⟩)
    · exact ⟨j, h1, h2⟩
    · cases h
  · rintro ⟨j, h1, h2⟩
    exact .inl ⟨j, h1, h2, fun _ _ _ => rfl⟩
theorem hb_until_iff : hb σ (bi 15 v a b) i = true ↔ ∃ j, i <= j /\ hb σ b j = true /\ ∀ q, i <= q -> q < j -> hb σ a q = true := by
  rw [hb_until, untB_iff]; unfold Unt
  constructor
  · rintro (h | ⟨h, _⟩)
    · exact h
    · cases h
  · exact fun h => .inl h
theorem hb_rel_iff : hb σ (bi 16 v a b) i = true ↔ (∃ j, i <= j /\ (hb σ a j && hb σ b j) = true /\ ∀ q, i <= q -> q < j -> hb σ b q = true) \/ ∀ q, i <= q -> hb σ b q = true := by
  rw [hb_rel, untB_iff]; unfold Unt
  constructor
  · rintro (h | ⟨_, h⟩)
    · exact .inl h
    · exact .inr h
  · rintro (h | h)
    · exact .inl h
    · exact .inr ⟨rfl, h⟩
theorem not_true (x : Bool) : (!x) = true ↔ ¬ x = true := by cases x <;> simp
theorem hb_not_iff : hb σ (un 10 v a) i = true ↔ ¬ hb σ a i = true := by rw [hb_not, not_true]
theorem glob_dual (v1 v2 v3 v4 : Int) : hb σ (un 18 v1 a) i = hb σ (un 10 v2 (un 17 v3 (un 10 v4 a))) i := bool_eq (by
  rw [hb_glob_iff, hb_not_iff, hb_fin_iff]
  constructor
  · rintro h ⟨j, h1, h2⟩
    rw [hb_not_iff] at h2; exact h2 (h j h1)
  · intro h j hj
    apply Classical.byContradiction
    intro hn
    exact h ⟨j, hj, by rw [hb_not_iff]; exact hn⟩)
theorem rel_dual (v1 v2 v3 v4 v5 : Int) : hb σ (bi 16 v1 a b) i = hb σ (un 10 v2 (bi 15 v3 (un 10 v4 a) (un 10 v5 b))) i := bool_eq (by
  rw [hb_rel_iff, hb_not_iff, hb_until_iff]
  constructor
  · rintro h ⟨j, h1, h2, h3⟩
    rw [hb_not_iff] at h2
    rcases h with ⟨q, q1, q2, q3⟩ | h
    · rw [Bool.and_eq_true] at q2
      by_cases hq : q < j
      · have := h3 q q1 hq
        rw [hb_not_iff] at this; exact this q2.1
      · by_cases hjq : j = q
        · subst hjq; exact h2 q2.2
        · exact h2 (q3 j h1 (by omega))
    · exact h2 (h j h1)
  · intro h
    by_cases hall : ∀ q, i <= q -> hb σ b q = true
    · exact .inr hall
    · refine .inl ?_
      have : ∃ j, i <= j /\ ¬ hb σ b j = true := by
        apply Classical.byContradiction
        intro hn; exact hall fun q hq => Classical.byContradiction fun h2 => hn ⟨q, hq, h2⟩
      obtain ⟨j, hj1, hj2⟩ := this; obtain ⟨f, f1, f2, f3⟩ := least (P := fun q => ¬ hb σ b q = true) i j hj1 hj2
      have hq : ∃ q, i <= q /\ q < f /\ hb σ a q = true := by
        apply Classical.byContradiction
        intro hn; refine h ⟨f, f1, by rw [hb_not_iff]; exact f2, fun q q1 q2 => ?_⟩
        rw [hb_not_iff]; exact fun e => hn ⟨q, q1, q2, e⟩
      obtain ⟨q, q1, q2, q3⟩ := hq; have hbq : ∀ z, i <= z -> z < f -> hb σ b z = true := fun z z1 z2 => Classical.byContradiction fun hz => f3 z z1 z2 hz
      exact ⟨q, q1, by rw [Bool.and_eq_true]; exact ⟨q3, hbq q q1 q2⟩, fun z z1 z2 => hbq z z1 (by omega)⟩)
theorem fin_until (v1 v2 v3 : Int) : hb σ (un 17 v1 a) i = hb σ (bi 15 v2 (leaf 11 v3) a) i := bool_eq (by
  rw [hb_fin_iff, hb_until_iff]
  constructor
  · rintro ⟨j, h1, h2⟩
    exact ⟨j, h1, h2, fun _ _ _ => hb_yes _ _ _⟩
  · rintro ⟨j, h1, h2, _⟩
    exact ⟨j, h1, h2⟩)
theorem glob_now (h : hb σ (un 18 v a) i = true) : hb σ a i = true := hb_glob_iff.1 h i (Nat.le_refl _)
theorem glob_next (v2 : Int) (h : hb σ (un 18 v a) i = true) : hb σ (un 14 v2 a) i = true := by rw [hb_next]; exact hb_glob_iff.1 h (i + 1) (Nat.le_succ _)
theorem now_fin (v : Int) (h : hb σ a i = true) : hb σ (un 17 v a) i = true := hb_fin_iff.2 ⟨i, Nat.le_refl _, h⟩
end
end Go.Proofs.YtobopjjmhginlaaGreatDoor
