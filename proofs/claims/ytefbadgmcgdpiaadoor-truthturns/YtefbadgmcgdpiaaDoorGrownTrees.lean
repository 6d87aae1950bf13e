/-
  Terms that are grown are trees of expressions, and what they make is small.
-/
import Derived.Test.YtefbadgmcgdpiaaDoorGrown3
import Derived.Test.YtefbadgmcgdpiaaDoorTrees
namespace Go.Proofs.YtefbadgmcgdpiaaDoor
open Terms

/-- three values from 0 to 8. -/
def EnvS (env : List Int) : Prop := env.length = 3 ∧ ∀ i, i < 3 → 0 ≤ env.getD i 0 ∧ env.getD i 0 ≤ 8
theorem EnvS.ok {env : List Int} (h : EnvS env) : Tm.EnvOk env := fun i hi => by
  have := h.2 i (by rw [h.1] at hi; exact hi)
  omega
def bnd (d : Nat) : Nat := if d = 0 then 8 else if d = 1 then 64 else 4096
theorem bnd_le (d : Nat) : 8 ≤ bnd d ∧ bnd d ≤ 4096 := by
  unfold bnd
  split
  · omega
  · split <;> omega
theorem bnd_up {d : Nat} (h : d + 1 ≤ 2) : bnd d * bnd d ≤ bnd (d + 1) ∧ bnd d + bnd d ≤ bnd (d + 1) := by
  have : d = 0 ∨ d = 1 := by omega
  rcases this with rfl | rfl <;> decide
theorem lid_small {m : Int} (h : m.natAbs ≤ 1000000) : Tm.lid m = some m := by
  unfold Tm.lid
  rw [if_pos (by omega)]
theorem bin_small {k x y : Int} {b c : Nat} (h3 : 3 ≤ k) (h5 : k ≤ 5) (hx : x.natAbs ≤ b) (hy : y.natAbs ≤ b) (h1 : b * b ≤ c) (h2 : b + b ≤ c) : (Tm.bin k x y).natAbs ≤ c := by
  have hk : k = 3 ∨ k = 4 ∨ k = 5 := by omega
  rcases hk with rfl | rfl | rfl
  · show (x + y).natAbs ≤ c; omega
  · show (x - y).natAbs ≤ c; omega
  · show (x * y).natAbs ≤ c
    rw [Int.natAbs_mul]
    exact Nat.le_trans (Nat.mul_le_mul hx hy) h1

/-- a tree that makes a number, small with small values. -/
structure NumTree (d : Nat) (t : List (Int × Int)) (T : Tm) : Prop where
  ops : T.ops = t
  good : T.Good 3
  typed : T.typed = true
  kind : Tm.mkT T.kind = false
  eval : ∀ env, EnvS env → ∃ x, T.eval env = some x ∧ x.natAbs ≤ bnd d
structure TruTree (t : List (Int × Int)) (T : Tm) : Prop where
  ops : T.ops = t
  good : T.Good 3
  typed : T.typed = true
  kind : Tm.mkT T.kind = true
  eval : ∀ env, EnvS env → ∃ x, T.eval env = some x ∧ (x = 0 ∨ x = 1)

theorem NumT.tree {d : Nat} {t : List (Int × Int)} (h : NumT 3 d t) : d ≤ 2 → ∃ T, NumTree d t T := by
  induction h with
  | var d v h0 h1 =>
    intro hd
    refine ⟨.leaf 2 v, rfl, .inr (.inl ⟨rfl, h0, by omega⟩), rfl, rfl, fun env he => ⟨_, rfl, ?_⟩⟩
    have := he.2 v.toNat (by omega)
    have := bnd_le d
    show (env.getD v.toNat 0).natAbs ≤ _
    omega
  | num d v h0 h1 =>
    intro hd
    refine ⟨.leaf 1 v, rfl, .inl ⟨rfl, by omega, by omega⟩, rfl, rfl, fun env he => ⟨_, rfl, ?_⟩⟩
    have := bnd_le d
    show v.natAbs ≤ _
    omega
  | bin d k a b h3 h5 _ _ iha ihb =>
    intro hd
    obtain ⟨A, a1, a2, a3, a4, a5⟩ := iha (by omega)
    obtain ⟨B, b1, b2, b3, b4, b5⟩ := ihb (by omega)
    have hk : k = 3 ∨ k = 4 ∨ k = 5 := by omega
    refine ⟨.bi k 0 A B, by simp [Tm.ops, a1, b1], ⟨h3, by omega, rfl, a2, b2⟩, ?_, ?_, fun env he => ?_⟩
    · have ht : Tm.tkT k = false := by rcases hk with rfl | rfl | rfl <;> rfl
      simp [Tm.typed, a3, b3, a4, b4, ht]
    · rcases hk with rfl | rfl | rfl <;> rfl
    · obtain ⟨x, x1, x2⟩ := a5 env he
      obtain ⟨y, y1, y2⟩ := b5 env he
      have hu := bnd_up hd
      have hs := bin_small h3 h5 x2 y2 hu.1 hu.2
      have := bnd_le (d + 1)
      refine ⟨_, ?_, hs⟩
      simp only [Tm.eval, x1, y1]
      exact lid_small (by omega)

theorem bin_lid {k x y : Int} (h : 6 ≤ k) : ∃ z, Tm.lid (Tm.bin k x y) = some z ∧ (z = 0 ∨ z = 1) := by
  have hb := Tm.bin_truth (x := x) (y := y) h
  exact ⟨_, lid_small (by omega), hb⟩
theorem NumTree.cmp {d e : Nat} {a b : List (Int × Int)} {A B : Tm} {k : Int} (h6 : 6 ≤ k) (h7 : k ≤ 7) (ha : NumTree d a A) (hb : NumTree e b B) : TruTree ((k, 0) :: (a ++ b)) (.bi k 0 A B) := by
  obtain ⟨a1, a2, a3, a4, a5⟩ := ha
  obtain ⟨b1, b2, b3, b4, b5⟩ := hb
  have hk : k = 6 ∨ k = 7 := by omega
  refine ⟨by simp [Tm.ops, a1, b1], ⟨by omega, by omega, rfl, a2, b2⟩, ?_, ?_, fun env he => ?_⟩
  · have ht : Tm.tkT k = false := by rcases hk with rfl | rfl <;> rfl
    simp [Tm.typed, a3, b3, a4, b4, ht]
  · rcases hk with rfl | rfl <;> rfl
  · obtain ⟨x, x1, x2⟩ := a5 env he
    obtain ⟨y, y1, y2⟩ := b5 env he
    simp only [Tm.eval, x1, y1]
    exact bin_lid h6
theorem TruTree.not {a : List (Int × Int)} {A : Tm} (ha : TruTree a A) : TruTree ((10, 0) :: a) (.un 10 0 A) := by
  obtain ⟨a1, a2, a3, a4, a5⟩ := ha
  refine ⟨by simp [Tm.ops, a1], ⟨rfl, rfl, a2⟩, ?_, rfl, fun env he => ?_⟩
  · have ht : Tm.tkT 10 = true := rfl
    simp [Tm.typed, a3, a4, ht]
  · obtain ⟨x, x1, x2⟩ := a5 env he
    exact ⟨1 - x, by simp only [Tm.eval, x1], by omega⟩
theorem TruTree.bin {a b : List (Int × Int)} {A B : Tm} {k : Int} (h8 : 8 ≤ k) (h9 : k ≤ 9) (ha : TruTree a A) (hb : TruTree b B) : TruTree ((k, 0) :: (a ++ b)) (.bi k 0 A B) := by
  obtain ⟨a1, a2, a3, a4, a5⟩ := ha
  obtain ⟨b1, b2, b3, b4, b5⟩ := hb
  have hk : k = 8 ∨ k = 9 := by omega
  refine ⟨by simp [Tm.ops, a1, b1], ⟨by omega, by omega, rfl, a2, b2⟩, ?_, ?_, fun env he => ?_⟩
  · have ht : Tm.tkT k = true := by rcases hk with rfl | rfl <;> rfl
    simp [Tm.typed, a3, b3, a4, b4, ht]
  · rcases hk with rfl | rfl <;> rfl
  · obtain ⟨x, x1, x2⟩ := a5 env he
    obtain ⟨y, y1, y2⟩ := b5 env he
    simp only [Tm.eval, x1, y1]
    exact bin_lid (by omega)
theorem TruT.tree {d : Nat} {t : List (Int × Int)} (h : TruT 3 d t) : ∃ T, TruTree t T := by
  induction h with
  | lit d k h1 h2 =>
    have hk : k = 11 ∨ k = 12 := by omega
    refine ⟨.leaf k 0, rfl, .inr (.inr ⟨hk, rfl⟩), rfl, by rcases hk with rfl | rfl <;> rfl, fun env he => ⟨_, rfl, ?_⟩⟩
    rcases hk with rfl | rfl <;> simp
  | cmp d k a b h6 h7 ha hb =>
    obtain ⟨A, hA⟩ := ha.tree (by omega)
    obtain ⟨B, hB⟩ := hb.tree (by omega)
    exact ⟨_, hA.cmp h6 h7 hB⟩
  | not d a _ iha =>
    obtain ⟨A, hA⟩ := iha
    exact ⟨_, hA.not⟩
  | bin d k a b h8 h9 _ _ iha ihb =>
    obtain ⟨A, hA⟩ := iha
    obtain ⟨B, hB⟩ := ihb
    exact ⟨_, hA.bin h8 h9 hB⟩
end Go.Proofs.YtefbadgmcgdpiaaDoor
