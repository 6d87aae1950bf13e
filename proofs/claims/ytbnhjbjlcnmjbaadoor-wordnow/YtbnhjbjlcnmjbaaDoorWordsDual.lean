/-
  Plain mathematics: laws of what holds at a moment.
-/
import Derived.Test.YtbnhjbjlcnmjbaaDoorWords
namespace Go.Proofs.YtbnhjbjlcnmjbaaDoor
namespace Terms
namespace Tm
theorem ho_un10 (σ : Nat → Nat → Bool) (v : Int) (a : Tm) (i : Nat) : ho σ (un 10 v a) i ↔ ¬ ho σ a i := by simp [ho]
theorem ho_un14 (σ : Nat → Nat → Bool) (v : Int) (a : Tm) (i : Nat) : ho σ (un 14 v a) i ↔ ho σ a (i + 1) := by simp [ho]
theorem ho_un17 (σ : Nat → Nat → Bool) (v : Int) (a : Tm) (i : Nat) : ho σ (un 17 v a) i ↔ ∃ j, i ≤ j ∧ ho σ a j := by simp [ho]
theorem ho_un18 (σ : Nat → Nat → Bool) (v : Int) (a : Tm) (i : Nat) : ho σ (un 18 v a) i ↔ ∀ j, i ≤ j → ho σ a j := by simp [ho]
theorem ho_bi8 (σ : Nat → Nat → Bool) (v : Int) (a b : Tm) (i : Nat) : ho σ (bi 8 v a b) i ↔ ho σ a i ∧ ho σ b i := by simp [ho]
theorem ho_bi9 (σ : Nat → Nat → Bool) (v : Int) (a b : Tm) (i : Nat) : ho σ (bi 9 v a b) i ↔ ho σ a i ∨ ho σ b i := by simp [ho]
theorem ho_bi15 (σ : Nat → Nat → Bool) (v : Int) (a b : Tm) (i : Nat) : ho σ (bi 15 v a b) i ↔ ∃ j, i ≤ j ∧ ho σ b j ∧ ∀ m, i ≤ m → m < j → ho σ a m := by simp [ho]
theorem ho_bi16 (σ : Nat → Nat → Bool) (v : Int) (a b : Tm) (i : Nat) : ho σ (bi 16 v a b) i ↔ ∀ j, i ≤ j → ho σ b j ∨ ∃ m, i ≤ m ∧ m < j ∧ ho σ a m := by simp [ho]
theorem hb_same {σ : Nat → Nat → Bool} {s t : Tm} {i j : Nat} (h : ho σ s i ↔ ho σ t j) : hb σ s i = hb σ t j := bool_eq (by rw [hb_iff, hb_iff]; exact h)
/-- GLOBALLY IS NEVER NOT. -/
theorem hb_dualG (σ : Nat → Nat → Bool) (u v w x : Int) (a : Tm) (i : Nat) : hb σ (un 10 u (un 17 v (un 10 w a))) i = hb σ (un 18 x a) i := hb_same (by
  rw [ho_un10, ho_un17, ho_un18]
  simp only [ho_un10]
  constructor
  · intro h j hj
    exact Classical.byContradiction fun hn => h ⟨j, hj, hn⟩
  · rintro h ⟨j, hj, hn⟩
    exact hn (h j hj))
/-- RELEASE IS THE TURNED UNTIL. -/
theorem hb_dualR (σ : Nat → Nat → Bool) (u v w x y : Int) (a b : Tm) (i : Nat) : hb σ (un 10 u (bi 15 v (un 10 w a) (un 10 x b))) i = hb σ (bi 16 y a b) i := hb_same (by
  rw [ho_un10, ho_bi15, ho_bi16]
  simp only [ho_un10]
  constructor
  · intro h j hj
    refine Classical.byContradiction fun hn => h ?_
    exact ⟨j, hj, fun hb => hn (.inl hb), fun m h1 h2 ha => hn (.inr ⟨m, h1, h2, ha⟩)⟩
  · rintro h ⟨j, hj, hb, ha⟩
    rcases h j hj with h1 | ⟨m, h1, h2, h3⟩
    · exact hb h1
    · exact ha m h1 h2 h3)
theorem hb_orNot (σ : Nat → Nat → Bool) (u v : Int) (a : Tm) (i : Nat) : hb σ (bi 9 u a (un 10 v a)) i = true := by
  rw [hb_or, hb_not]
  cases hb σ a i <;> rfl
end Tm
/-- some of d truths from lo on; all of them. -/
def smN (h : Nat → Bool) (lo : Nat) : Nat → Bool
  | 0 => false
  | d + 1 => smN h lo d || h (lo + d)
def alN (h : Nat → Bool) (lo : Nat) : Nat → Bool
  | 0 => true
  | d + 1 => alN h lo d && h (lo + d)
theorem smN_iff (h : Nat → Bool) (lo : Nat) : ∀ d, smN h lo d = true ↔ ∃ k, lo ≤ k ∧ k < lo + d ∧ h k = true := by
  intro d
  induction d with
  | zero => simp [smN]; intro k h1 h2; omega
  | succ d ih =>
    simp only [smN, Bool.or_eq_true, ih]
    constructor
    · rintro (⟨k, h1, h2, h3⟩ | h3)
      · exact ⟨k, h1, by omega, h3⟩
      · exact ⟨lo + d, by omega, by omega, h3⟩
    · rintro ⟨k, h1, h2, h3⟩
      by_cases e : k = lo + d
      · right; rw [← e]; exact h3
      · left; exact ⟨k, h1, by omega, h3⟩
theorem alN_iff (h : Nat → Bool) (lo : Nat) : ∀ d, alN h lo d = true ↔ ∀ k, lo ≤ k → k < lo + d → h k = true := by
  intro d
  induction d with
  | zero => simp [alN]; intro k h1 h2; omega
  | succ d ih =>
    simp only [alN, Bool.and_eq_true, ih]
    constructor
    · rintro ⟨h1, h2⟩ k h3 h4
      by_cases e : k = lo + d
      · rw [e]; exact h2
      · exact h1 k h3 (by omega)
    · intro h1
      exact ⟨fun k h2 h3 => h1 k h2 (by omega), h1 _ (by omega) (by omega)⟩
end Terms
end Go.Proofs.YtbnhjbjlcnmjbaaDoor
