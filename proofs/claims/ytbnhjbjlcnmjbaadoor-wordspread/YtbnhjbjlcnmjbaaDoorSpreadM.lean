/-
  Plain mathematics: what spreads over both parts, and what says no more when it is said twice.
-/
import Derived.Test.YtbnhjbjlcnmjbaaDoorWordsDual
namespace Go.Proofs.YtbnhjbjlcnmjbaaDoor
open Terms Tm

theorem hb_GG (σ : Nat → Nat → Bool) (u v w : Int) (a : Tm) (i : Nat) : hb σ (un 18 u (un 18 v a)) i = hb σ (un 18 w a) i := hb_same (by
  rw [ho_un18, ho_un18]
  constructor
  · intro h j hj
    have := h j hj
    rw [ho_un18] at this
    exact this j (Nat.le_refl _)
  · intro h j hj
    rw [ho_un18]
    exact fun k hk => h k (Nat.le_trans hj hk))
theorem hb_FF (σ : Nat → Nat → Bool) (u v w : Int) (a : Tm) (i : Nat) : hb σ (un 17 u (un 17 v a)) i = hb σ (un 17 w a) i := hb_same (by
  rw [ho_un17, ho_un17]
  constructor
  · rintro ⟨j, hj, h⟩
    rw [ho_un17] at h
    obtain ⟨k, hk, h⟩ := h
    exact ⟨k, Nat.le_trans hj hk, h⟩
  · rintro ⟨j, hj, h⟩
    exact ⟨j, hj, by rw [ho_un17]; exact ⟨j, Nat.le_refl _, h⟩⟩)
theorem hb_UU (σ : Nat → Nat → Bool) (u v w : Int) (a b : Tm) (i : Nat) : hb σ (bi 15 u a (bi 15 v a b)) i = hb σ (bi 15 w a b) i := hb_same (by
  rw [ho_bi15, ho_bi15]
  constructor
  · rintro ⟨j, hj, h, hm⟩
    rw [ho_bi15] at h
    obtain ⟨k, hk, h, hn⟩ := h
    refine ⟨k, Nat.le_trans hj hk, h, fun m h1 h2 => ?_⟩
    rcases Nat.lt_or_ge m j with h3 | h3
    · exact hm m h1 h3
    · exact hn m h3 h2
  · rintro ⟨j, hj, h, hm⟩
    exact ⟨i, Nat.le_refl _, by rw [ho_bi15]; exact ⟨j, hj, h, hm⟩, fun m h1 h2 => by omega⟩)
theorem hb_RR (σ : Nat → Nat → Bool) (u v w : Int) (a b : Tm) (i : Nat) : hb σ (bi 16 u a (bi 16 v a b)) i = hb σ (bi 16 w a b) i := hb_same (by
  rw [ho_bi16, ho_bi16]
  constructor
  · intro h j hj
    rcases h j hj with h1 | h1
    · rw [ho_bi16] at h1
      rcases h1 j (Nat.le_refl _) with h2 | ⟨m, h2, h3, _⟩
      · exact .inl h2
      · omega
    · exact .inr h1
  · intro h j hj
    by_cases hx : ∃ m, i ≤ m ∧ m < j ∧ ho σ a m
    · exact .inr hx
    · left
      rw [ho_bi16]
      intro l hl
      rcases h l (Nat.le_trans hj hl) with h1 | ⟨m, h1, h2, h3⟩
      · exact .inl h1
      · refine .inr ⟨m, ?_, h2, h3⟩
        rcases Nat.lt_or_ge m j with h4 | h4
        · exact absurd ⟨m, h1, h4, h3⟩ hx
        · exact h4)
theorem hb_FGF (σ : Nat → Nat → Bool) (u v w x y : Int) (a : Tm) (i : Nat) : hb σ (un 17 u (un 18 v (un 17 w a))) i = hb σ (un 18 x (un 17 y a)) i := hb_same (by
  rw [ho_un17, ho_un18]
  constructor
  · rintro ⟨j, hj, h⟩ k hk
    rw [ho_un18] at h
    have := h (max j k) (by omega)
    rw [ho_un17] at this ⊢
    obtain ⟨m, h1, h2⟩ := this
    exact ⟨m, by omega, h2⟩
  · intro h
    refine ⟨i, Nat.le_refl _, ?_⟩
    rw [ho_un18]
    intro k hk
    have := h k hk
    rw [ho_un17] at this ⊢
    exact this)
theorem hb_GFG (σ : Nat → Nat → Bool) (u v w x y : Int) (a : Tm) (i : Nat) : hb σ (un 18 u (un 17 v (un 18 w a))) i = hb σ (un 17 x (un 18 y a)) i := hb_same (by
  rw [ho_un18, ho_un17]
  constructor
  · intro h
    have := h i (Nat.le_refl _)
    rw [ho_un17] at this
    obtain ⟨j, h1, h2⟩ := this
    rw [ho_un18] at h2
    exact ⟨j, h1, by rw [ho_un18]; exact h2⟩
  · rintro ⟨j, hj, h⟩ k hk
    rw [ho_un18] at h
    rw [ho_un17]
    refine ⟨max j k, by omega, ?_⟩
    rw [ho_un18]
    exact fun m hm => h m (by omega))
theorem hb_Gand (σ : Nat → Nat → Bool) (u v w x y : Int) (a b : Tm) (i : Nat) : hb σ (un 18 u (bi 8 v a b)) i = hb σ (bi 8 w (un 18 x a) (un 18 y b)) i := hb_same (by
  rw [ho_un18, ho_bi8, ho_un18, ho_un18]
  constructor
  · intro h
    exact ⟨fun j hj => ((ho_bi8 _ _ _ _ _).1 (h j hj)).1, fun j hj => ((ho_bi8 _ _ _ _ _).1 (h j hj)).2⟩
  · rintro ⟨h1, h2⟩ j hj
    rw [ho_bi8]
    exact ⟨h1 j hj, h2 j hj⟩)
theorem hb_For (σ : Nat → Nat → Bool) (u v w x y : Int) (a b : Tm) (i : Nat) : hb σ (un 17 u (bi 9 v a b)) i = hb σ (bi 9 w (un 17 x a) (un 17 y b)) i := hb_same (by
  rw [ho_un17, ho_bi9, ho_un17, ho_un17]
  constructor
  · rintro ⟨j, hj, h⟩
    rw [ho_bi9] at h
    exact h.imp (fun h => ⟨j, hj, h⟩) (fun h => ⟨j, hj, h⟩)
  · rintro (⟨j, hj, h⟩ | ⟨j, hj, h⟩)
    · exact ⟨j, hj, (ho_bi9 _ _ _ _ _).2 (.inl h)⟩
    · exact ⟨j, hj, (ho_bi9 _ _ _ _ _).2 (.inr h)⟩)
theorem hb_Uor (σ : Nat → Nat → Bool) (u v w x y : Int) (a b c : Tm) (i : Nat) : hb σ (bi 15 u a (bi 9 v b c)) i = hb σ (bi 9 w (bi 15 x a b) (bi 15 y a c)) i := hb_same (by
  rw [ho_bi15, ho_bi9, ho_bi15, ho_bi15]
  constructor
  · rintro ⟨j, hj, h, hm⟩
    rw [ho_bi9] at h
    exact h.imp (fun h => ⟨j, hj, h, hm⟩) (fun h => ⟨j, hj, h, hm⟩)
  · rintro (⟨j, hj, h, hm⟩ | ⟨j, hj, h, hm⟩)
    · exact ⟨j, hj, (ho_bi9 _ _ _ _ _).2 (.inl h), hm⟩
    · exact ⟨j, hj, (ho_bi9 _ _ _ _ _).2 (.inr h), hm⟩)
theorem hb_Uand (σ : Nat → Nat → Bool) (u v w x y : Int) (a b c : Tm) (i : Nat) : hb σ (bi 15 u (bi 8 v a b) c) i = hb σ (bi 8 w (bi 15 x a c) (bi 15 y b c)) i := hb_same (by
  rw [ho_bi15, ho_bi8, ho_bi15, ho_bi15]
  constructor
  · rintro ⟨j, hj, h, hm⟩
    exact ⟨⟨j, hj, h, fun m h1 h2 => ((ho_bi8 _ _ _ _ _).1 (hm m h1 h2)).1⟩, ⟨j, hj, h, fun m h1 h2 => ((ho_bi8 _ _ _ _ _).1 (hm m h1 h2)).2⟩⟩
  · rintro ⟨⟨j, hj, h, hm⟩, k, hk, g, hn⟩
    rcases Nat.lt_or_ge j k with hjk | hjk
    · exact ⟨j, hj, h, fun m h1 h2 => (ho_bi8 _ _ _ _ _).2 ⟨hm m h1 h2, hn m h1 (by omega)⟩⟩
    · exact ⟨k, hk, g, fun m h1 h2 => (ho_bi8 _ _ _ _ _).2 ⟨hm m h1 (by omega), hn m h1 h2⟩⟩)
theorem hb_Xand (σ : Nat → Nat → Bool) (u v w x y : Int) (a b : Tm) (i : Nat) : hb σ (un 14 u (bi 8 v a b)) i = hb σ (bi 8 w (un 14 x a) (un 14 y b)) i := hb_same (by
  rw [ho_un14, ho_bi8, ho_bi8, ho_un14, ho_un14])
end Go.Proofs.YtbnhjbjlcnmjbaaDoor
