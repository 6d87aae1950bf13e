import Derived.Test.YtobopjjmhginlaaGreatDoorTrees
namespace Go.Proofs.YtobopjjmhginlaaGreatDoor.Terms
namespace Tm
set_option maxHeartbeats 6400000
set_option maxRecDepth 20000
def ho (σ : Nat -> Nat -> Bool) : Tm -> Nat -> Prop
  | leaf k v => fun i => if k = 13 then σ i v.toNat = true else k = 11
  | un k _ a => fun i => if k = 10 then ¬ ho σ a i else if k = 14 then ho σ a (i + 1) else if k = 17 then ∃ j, i <= j /\ ho σ a j else ∀ j, i <= j -> ho σ a j
  | bi k _ a b => fun i => if k = 8 then ho σ a i /\ ho σ b i else if k = 9 then ho σ a i \/ ho σ b i else if k = 15 then ∃ j, i <= j /\ ho σ b j /\ ∀ m, i <= m -> m < j -> ho σ a m else ∀ j, i <= j -> ho σ b j \/ ∃ m, i <= m /\ m < j /\ ho σ a m
theorem ho_shift (σ : Nat -> Nat -> Bool) (d : Nat) (t : Tm) : ∀ i, ho (fun j => σ (j + d)) t i ↔ ho σ t (i + d) := by
  induction t with
  | leaf k v => intro i; simp only [ho]
  | un k v a ih =>
    intro i; simp only [ho]
    split
    · rw [ih]
    · split
      · rw [ih, show i + 1 + d = i + d + 1 by omega]
      · split
        · constructor
          · rintro ⟨j, h1, h2⟩; exact ⟨j + d, by omega, (ih j).1 h2⟩
          · rintro ⟨j, h1, h2⟩; exact ⟨j - d, by omega, (ih _).2 (by rwa [show j - d + d = j by omega])⟩
        · constructor
          · intro h j hj; have := (ih _).1 (h (j - d) (by omega)); rwa [show j - d + d = j by omega] at this
          · intro h j hj; exact (ih j).2 (h (j + d) (by omega))
  | bi k v a b iha ihb =>
    intro i; simp only [ho]
    split
    · rw [iha, ihb]
    · split
      · rw [iha, ihb]
      · split
        · constructor
          · rintro ⟨j, h1, h2, h3⟩
            refine ⟨j + d, by omega, (ihb j).1 h2, fun m hm hmj => ?_⟩
            have := (iha _).1 (h3 (m - d) (by omega) (by omega))
            rwa [show m - d + d = m by omega] at this
          · rintro ⟨j, h1, h2, h3⟩
            refine ⟨j - d, by omega, (ihb _).2 (by rwa [show j - d + d = j by omega]), fun m hm hmj => (iha m).2 (h3 (m + d) (by omega) (by omega))⟩
        · constructor
          · intro h j hj
            rcases h (j - d) (by omega) with h1 | ⟨m, h1, h2, h3⟩
            · left; have := (ihb _).1 h1; rwa [show j - d + d = j by omega] at this
            · exact .inr ⟨m + d, by omega, by omega, (iha m).1 h3⟩
          · intro h j hj
            rcases h (j + d) (by omega) with h1 | ⟨m, h1, h2, h3⟩
            · exact .inl ((ihb j).2 h1)
            · exact .inr ⟨m - d, by omega, by omega, (iha _).2 (by rwa [show m - d + d = m by omega])⟩
def Per (σ : Nat -> Nat -> Bool) (s L : Nat) : Prop := ∀ i, s <= i -> σ (i + L) = σ i
theorem ho_per {σ : Nat -> Nat -> Bool} {s L : Nat} (h : Per σ s L) (t : Tm) {i : Nat} (hi : s <= i) : ho σ t (i + L) ↔ ho σ t i := by
  have h1 := ho_shift σ (i + L) t 0; have h2 := ho_shift σ i t 0; rw [Nat.zero_add] at h1 h2; rw [<- h1, <- h2]
  have : (fun j => σ (j + (i + L))) = fun j => σ (j + i) := by
    funext j
    rw [show j + (i + L) = (j + i) + L by omega]
    exact h _ (by omega)
  rw [this]
open Classical in
noncomputable def hb (σ : Nat -> Nat -> Bool) (t : Tm) (i : Nat) : Bool := decide (ho σ t i)
open Classical in
theorem hb_iff {σ : Nat -> Nat -> Bool} {t : Tm} {i : Nat} : hb σ t i = true ↔ ho σ t i := by unfold hb; exact decide_eq_true_iff
theorem bool_eq {x y : Bool} (h : x = true ↔ y = true) : x = y := by cases x <;> cases y <;> simp_all
theorem hb_per {σ : Nat -> Nat -> Bool} {s L : Nat} (h : Per σ s L) (t : Tm) {i : Nat} (hi : s <= i) : hb σ t (i + L) = hb σ t i := bool_eq (by rw [hb_iff, hb_iff]; exact ho_per h t hi)
theorem hb_prop (σ : Nat -> Nat -> Bool) (v : Int) (i : Nat) : hb σ (leaf 13 v) i = σ i v.toNat := bool_eq (by rw [hb_iff]; simp [ho])
theorem hb_yes (σ : Nat -> Nat -> Bool) (v : Int) (i : Nat) : hb σ (leaf 11 v) i = true := by rw [hb_iff]; simp [ho]
theorem hb_no {k : Int} (σ : Nat -> Nat -> Bool) (v : Int) (i : Nat) (h1 : k ≠ 13) (h2 : k ≠ 11) : hb σ (leaf k v) i = false := by
  have : ¬ hb σ (leaf k v) i = true := by rw [hb_iff]; simp [ho, h1, h2]
  simpa using this
theorem hb_not (σ : Nat -> Nat -> Bool) (v : Int) (a : Tm) (i : Nat) : hb σ (un 10 v a) i = !hb σ a i := bool_eq (by rw [hb_iff, Bool.not_eq_true', <- Bool.not_eq_true, hb_iff]; simp [ho])
theorem hb_next (σ : Nat -> Nat -> Bool) (v : Int) (a : Tm) (i : Nat) : hb σ (un 14 v a) i = hb σ a (i + 1) := bool_eq (by rw [hb_iff, hb_iff]; simp [ho])
theorem hb_and (σ : Nat -> Nat -> Bool) (v : Int) (a b : Tm) (i : Nat) : hb σ (bi 8 v a b) i = (hb σ a i && hb σ b i) := bool_eq (by rw [hb_iff, Bool.and_eq_true, hb_iff, hb_iff]; simp [ho])
theorem hb_or (σ : Nat -> Nat -> Bool) (v : Int) (a b : Tm) (i : Nat) : hb σ (bi 9 v a b) i = (hb σ a i || hb σ b i) := bool_eq (by rw [hb_iff, Bool.or_eq_true, hb_iff, hb_iff]; simp [ho])
end Tm
def Unt (u v : Nat -> Bool) (d : Bool) (i : Nat) : Prop := (∃ j, i <= j /\ u j = true /\ ∀ m, i <= m -> m < j -> v m = true) \/ (d = true /\ ∀ m, i <= m -> v m = true)
theorem unt_step (u v : Nat -> Bool) (d : Bool) (i : Nat) : Unt u v d i ↔ u i = true \/ (v i = true /\ Unt u v d (i + 1)) := by
  constructor
  · rintro (⟨j, h1, h2, h3⟩ | ⟨h1, h2⟩)
    · by_cases e : j = i
      · subst e; exact .inl h2
      · exact .inr ⟨h3 i (by omega) (by omega), .inl ⟨j, by omega, h2, fun m hm hmj => h3 m (by omega) hmj⟩⟩
    · exact .inr ⟨h2 i (by omega), .inr ⟨h1, fun m hm => h2 m (by omega)⟩⟩
  · rintro (h | ⟨h1, (⟨j, h2, h3, h4⟩ | ⟨h2, h3⟩)⟩)
    · exact .inl ⟨i, by omega, h, fun m hm hmi => by omega⟩
    · refine .inl ⟨j, by omega, h3, fun m hm hmj => ?_⟩
      by_cases e : m = i
      · subst e; exact h1
      · exact h4 m (by omega) hmj
    · refine .inr ⟨h2, fun m hm => ?_⟩
      by_cases e : m = i
      · subst e; exact h1
      · exact h3 m (by omega)
open Classical in
noncomputable def untB (u v : Nat -> Bool) (d : Bool) (i : Nat) : Bool := decide (Unt u v d i)
open Classical in
theorem untB_iff {u v : Nat -> Bool} {d : Bool} {i : Nat} : untB u v d i = true ↔ Unt u v d i := by unfold untB; exact decide_eq_true_iff
theorem untB_step (u v : Nat -> Bool) (d : Bool) (i : Nat) : untB u v d i = (u i || (v i && untB u v d (i + 1))) := Tm.bool_eq (by rw [untB_iff, unt_step, Bool.or_eq_true, Bool.and_eq_true, untB_iff])
theorem unt_stuck {u v : Nat -> Bool} {d : Bool} {i : Nat} (h : ∀ m, i <= m -> u m = false /\ v m = true) : untB u v d i = d := by
  cases d with
  | true => rw [untB_iff]; exact .inr ⟨rfl, fun m hm => (h m hm).2⟩
  | false =>
    have : ¬ untB u v false i = true := by
      rw [untB_iff]
      rintro (⟨j, h1, h2, _⟩ | ⟨h1, _⟩)
      · rw [(h j h1).1] at h2; cases h2
      · cases h1
    simpa using this
namespace Tm
theorem hb_fin (σ : Nat -> Nat -> Bool) (v : Int) (a : Tm) (i : Nat) : hb σ (un 17 v a) i = untB (hb σ a) (fun _ => true) false i := bool_eq (by
  rw [hb_iff, untB_iff]; simp only [ho, Unt, show ¬ (17 : Int) = 10 by decide, show ¬ (17 : Int) = 14 by decide, if_false, if_true]
  constructor
  · rintro ⟨j, h1, h2⟩; exact .inl ⟨j, h1, hb_iff.2 h2, fun _ _ _ => trivial⟩
  · rintro (⟨j, h1, h2, _⟩ | ⟨h, _⟩)
    · exact ⟨j, h1, hb_iff.1 h2⟩
    · cases h)
theorem hb_glob (σ : Nat -> Nat -> Bool) (v : Int) (a : Tm) (i : Nat) : hb σ (un 18 v a) i = untB (fun _ => false) (hb σ a) true i := bool_eq (by
  rw [hb_iff, untB_iff]; simp only [ho, Unt, show ¬ (18 : Int) = 10 by decide, show ¬ (18 : Int) = 14 by decide, show ¬ (18 : Int) = 17 by decide, if_false]
  constructor
  · intro h; exact .inr ⟨trivial, fun m hm => hb_iff.2 (h m hm)⟩
  · rintro (⟨j, h1, h2, _⟩ | ⟨_, h⟩)
    · cases h2
    · exact fun j hj => hb_iff.1 (h j hj))
theorem hb_until (σ : Nat -> Nat -> Bool) (v : Int) (a b : Tm) (i : Nat) : hb σ (bi 15 v a b) i = untB (hb σ b) (hb σ a) false i := bool_eq (by
  rw [hb_iff, untB_iff]; simp only [ho, Unt, show ¬ (15 : Int) = 8 by decide, show ¬ (15 : Int) = 9 by decide, if_false, if_true]
  constructor
  · rintro ⟨j, h1, h2, h3⟩; exact .inl ⟨j, h1, hb_iff.2 h2, fun m hm hmj => hb_iff.2 (h3 m hm hmj)⟩
  · rintro (⟨j, h1, h2, h3⟩ | ⟨h, _⟩)
    · exact ⟨j, h1, hb_iff.1 h2, fun m hm hmj => hb_iff.1 (h3 m hm hmj)⟩
    · cases h)
theorem least {P : Nat -> Prop} (i : Nat) : ∀ j, i <= j -> P j -> ∃ m, i <= m /\ P m /\ ∀ k, i <= k -> k < m -> ¬ P k := by
  intro j
  induction j using Nat.strongRecOn with
  | ind j ih =>
    intro hj hp
    by_cases h : ∃ k, i <= k /\ k < j /\ P k
    · obtain ⟨k, h1, h2, h3⟩ := h; exact ih k h2 h1 h3
    · exact ⟨j, hj, hp, fun k h1 h2 h3 => h ⟨k, h1, h2, h3⟩⟩
theorem hb_rel (σ : Nat -> Nat -> Bool) (v : Int) (a b : Tm) (i : Nat) : hb σ (bi 16 v a b) i = untB (fun j => hb σ a j && hb σ b j) (hb σ b) true i := bool_eq (by
  rw [hb_iff, untB_iff]; simp only [ho, Unt, show ¬ (16 : Int) = 8 by decide, show ¬ (16 : Int) = 9 by decide, show ¬ (16 : Int) = 15 by decide, if_false, Bool.and_eq_true, true_and]
  constructor
  · intro h
    by_cases hall : ∀ m, i <= m -> ho σ b m
    · exact .inr fun m hm => hb_iff.2 (hall m hm)
    · left
      have ⟨j, hj, hnb⟩ : ∃ j, i <= j /\ ¬ ho σ b j := by
        by_cases hx : ∃ j, i <= j /\ ¬ ho σ b j
        · exact hx
        · exact absurd (fun m hm => Classical.byContradiction fun hn => hx ⟨m, hm, hn⟩) hall
      obtain ⟨m, hm, hnm, hlow⟩ := least (P := fun j => ¬ ho σ b j) i j hj hnb
      rcases h m hm with hb' | ⟨q, h1, h2, h3⟩
      · exact absurd hb' hnm
      · exact ⟨q, h1, ⟨hb_iff.2 h3, hb_iff.2 (Classical.byContradiction fun hn => hlow q h1 h2 hn)⟩, fun z hz hzq => hb_iff.2 (Classical.byContradiction fun hn => hlow z hz (by omega) hn)⟩
  · rintro (⟨j, h1, ⟨h2, h2'⟩, h3⟩ | h) q hq
    · by_cases hl : q < j
      · exact .inl (hb_iff.1 (h3 q hq hl))
      · by_cases he : q = j
        · subst he; exact .inl (hb_iff.1 h2')
        · exact .inr ⟨j, h1, by omega, hb_iff.1 h2⟩
    · exact .inl (hb_iff.1 (h q hq)))
end Tm
end Go.Proofs.YtobopjjmhginlaaGreatDoor.Terms
