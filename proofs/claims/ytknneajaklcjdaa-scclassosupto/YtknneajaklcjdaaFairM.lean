/-
  Plain mathematics of fair parts.
-/
import Derived.Test.YtknneajaklcjdaaSParts
namespace Go.Proofs.Ytknneajaklcjdaa
open Go.ChangeShapes Go.WideShapes Go.ChangeAt Go.RowKit Go.Deep
open Terms

theorem or_nat0 : ∀ a, a < 64 → ∀ b, b < 64 → bits BinOp.or IntKind.i64 ((a : Nat) : Int) ((b : Nat) : Int) = ((a ||| b : Nat) : Int) := by decide +kernel
/-- the sets of a spot, as a number. -/
def sN (g : Gr) (x : Nat) : Nat := (g.sets.getD x 0).toNat
def mN (g : Gr) : Nat := g.many.toNat
theorem pow64 {m : Nat} (h : m ≤ 6) : 2 ^ m ≤ 64 := Nat.pow_le_pow_right (n := 2) (by decide) h
theorem GOk.sN {g : Gr} (h : GOk g) {x : Nat} (hx : x < g.spots.length) : g.sets.getD x 0 = (sN g x : Int) ∧ Go.Proofs.Ytknneajaklcjdaa.sN g x < 2 ^ mN g := by
  have h1 := (h.row x hx).1
  unfold GSet top at h1
  have h2 : ((2 ^ g.many.toNat : Nat) : Int) = 2 ^ g.many.toNat := by simp
  unfold Go.Proofs.Ytknneajaklcjdaa.sN mN
  omega
theorem GOk.mN {g : Gr} (h : GOk g) : mN g ≤ 6 ∧ g.many = (Go.Proofs.Ytknneajaklcjdaa.mN g : Int) ∧ top g = ((2 ^ Go.Proofs.Ytknneajaklcjdaa.mN g - 1 : Nat) : Int) := by
  have h1 := h.head.many0
  have h2 := h.head.many6
  have h3 : ((2 ^ g.many.toNat : Nat) : Int) = 2 ^ g.many.toNat := by simp
  have h4 : 0 < 2 ^ g.many.toNat := Nat.pow_pos (by decide)
  unfold Go.Proofs.Ytknneajaklcjdaa.mN top
  omega
/-- all sets of a part's first spots. -/
def orTo (s pz : Nat → Nat) (p : Nat) : Nat → Nat
  | 0 => 0
  | k + 1 => if pz k = p then orTo s pz p k ||| s k else orTo s pz p k
theorem orTo_lt {s pz : Nat → Nat} {p m n : Nat} (hs : ∀ x, x < n → s x < 2 ^ m) : ∀ k, k ≤ n → orTo s pz p k < 2 ^ m
  | 0, _ => Nat.pow_pos (by decide)
  | k + 1, hk => by
    have ih := orTo_lt (p := p) (pz := pz) hs k (by omega)
    unfold orTo
    split
    · exact Nat.or_lt_two_pow ih (hs k (by omega))
    · exact ih
theorem orTo_bit {s pz : Nat → Nat} {p i : Nat} : ∀ k, (orTo s pz p k).testBit i = true ↔ ∃ x, x < k ∧ pz x = p ∧ (s x).testBit i = true
  | 0 => by
    unfold orTo
    simp
  | k + 1 => by
    have ih := orTo_bit (s := s) (pz := pz) (p := p) (i := i) k
    unfold orTo
    split
    · rename_i hp
      rw [Nat.testBit_or, Bool.or_eq_true, ih]
      constructor
      · rintro (⟨x, h1, h2⟩ | h)
        · exact ⟨x, by omega, h2⟩
        · exact ⟨k, by omega, hp, h⟩
      · rintro ⟨x, h1, h2, h3⟩
        by_cases e : x = k
        · subst e; exact .inr h3
        · exact .inl ⟨x, by omega, h2, h3⟩
    · rename_i hp
      rw [ih]
      constructor
      · rintro ⟨x, h1, h2⟩; exact ⟨x, by omega, h2⟩
      · rintro ⟨x, h1, h2, h3⟩
        by_cases e : x = k
        · subst e; exact absurd h2 hp
        · exact ⟨x, by omega, h2, h3⟩
theorem full_bits {a m : Nat} (ha : a < 2 ^ m) : a = 2 ^ m - 1 ↔ ∀ i, i < m → a.testBit i = true := by
  constructor
  · rintro rfl i hi
    rw [Nat.testBit_two_pow_sub_one]; simp [hi]
  · intro h
    refine Nat.eq_of_testBit_eq fun i => ?_
    rw [Nat.testBit_two_pow_sub_one]
    by_cases hi : i < m
    · rw [h i hi]; simp [hi]
    · rw [Nat.testBit_lt_two_pow (Nat.lt_of_lt_of_le ha (Nat.pow_le_pow_right (by decide) (by omega)))]; simp [hi]
open Classical in
/-- does a part lead to itself, as far as one has looked? -/
noncomputable def lpB (nx : Nat → List Nat) (pz : Nat → Nat) (k q : Nat) (p : Nat) : Bool := decide ((∃ x, x < k ∧ pz x = p ∧ ∃ y ∈ nx x, pz y = p) ∨ (pz k = p ∧ ∃ j, j < q ∧ j < (nx k).length ∧ pz ((nx k).getD j 0) = p))
theorem lpB_zero (nx : Nat → List Nat) (pz : Nat → Nat) (p : Nat) : lpB nx pz 0 0 p = false := by
  unfold lpB
  exact decide_eq_false fun h => by
    rcases h with ⟨x, hx, _⟩ | ⟨_, j, hj, _⟩ <;> omega
theorem lpB_next (nx : Nat → List Nat) (pz : Nat → Nat) (k p : Nat) : lpB nx pz (k + 1) 0 p = lpB nx pz k (nx k).length p := by
  unfold lpB
  rw [decide_eq_decide]
  constructor
  · rintro (⟨x, hx, h1, y, h2, h3⟩ | ⟨_, j, hj, _⟩)
    · by_cases e : x = k
      · subst e
        obtain ⟨j, hj, rfl⟩ := List.getElem_of_mem h2
        exact .inr ⟨h1, j, hj, hj, by rw [List.getD_eq_getElem?_getD, List.getElem?_eq_getElem hj]; exact h3⟩
      · exact .inl ⟨x, by omega, h1, y, h2, h3⟩
    · omega
  · rintro (⟨x, hx, h⟩ | ⟨h1, j, _, hj, h2⟩)
    · exact .inl ⟨x, by omega, h⟩
    · refine .inl ⟨k, by omega, h1, _, ?_, h2⟩
      rw [List.getD_eq_getElem?_getD, List.getElem?_eq_getElem hj]; exact List.getElem_mem _
theorem lpB_no {nx : Nat → List Nat} {pz : Nat → Nat} {k q p : Nat} (h : pz ((nx k).getD q 0) ≠ pz k) : lpB nx pz k (q + 1) p = lpB nx pz k q p := by
  unfold lpB
  rw [decide_eq_decide]
  constructor
  · rintro (h1 | ⟨h1, j, h2, h3, h4⟩)
    · exact .inl h1
    · by_cases e : j = q
      · subst e; exact absurd (h4.trans h1.symm) h
      · exact .inr ⟨h1, j, by omega, h3, h4⟩
  · rintro (h1 | ⟨h1, j, h2, h3, h4⟩)
    · exact .inl h1
    · exact .inr ⟨h1, j, by omega, h3, h4⟩
theorem lpB_yes {nx : Nat → List Nat} {pz : Nat → Nat} {k q p : Nat} (hq : q < (nx k).length) (h : pz ((nx k).getD q 0) = pz k) : lpB nx pz k (q + 1) p = if p = pz k then true else lpB nx pz k q p := by
  by_cases e : p = pz k
  · rw [if_pos e]
    unfold lpB
    exact decide_eq_true (.inr ⟨e.symm, q, by omega, hq, h.trans e.symm⟩)
  · rw [if_neg e]
    unfold lpB
    rw [decide_eq_decide]
    constructor
    · rintro (h1 | ⟨h1, _⟩)
      · exact .inl h1
      · exact absurd h1.symm e
    · rintro (h1 | ⟨h1, _⟩)
      · exact .inl h1
      · exact absurd h1.symm e
/-- a part, by its number, is fair. -/
def FairP (g : Gr) (pz : Nat → Nat) (p : Nat) : Prop := (∃ x, x < g.spots.length ∧ pz x = p ∧ ∃ y ∈ nxt g x, pz y = p) ∧ ∀ i, i < mN g → ∃ x, x < g.spots.length ∧ pz x = p ∧ (sN g x).testBit i = true
open Classical in
noncomputable def fairB (g : Gr) (pz : Nat → Nat) (x : Nat) : Bool := decide (FairP g pz (pz x))
theorem fairB_is {g : Gr} (hg : GOk g) (pz : Nat → Nat) (x : Nat) : fairB g pz x = (lpB (nxt g) pz g.spots.length 0 (pz x) && decide (orTo (sN g) pz (pz x) g.spots.length = 2 ^ mN g - 1)) := by
  have hlt := orTo_lt (p := pz x) (pz := pz) (fun x hx => (hg.sN hx).2) g.spots.length (Nat.le_refl _)
  unfold fairB lpB
  rw [Bool.eq_iff_iff, Bool.and_eq_true]
  simp only [decide_eq_true_eq]
  rw [full_bits hlt]
  unfold FairP
  constructor
  · rintro ⟨h1, h2⟩
    exact ⟨.inl h1, fun i hi => (orTo_bit _).2 (h2 i hi)⟩
  · rintro ⟨h1 | ⟨_, j, hj, _⟩, h2⟩
    · exact ⟨h1, fun i hi => (orTo_bit _).1 (h2 i hi)⟩
    · omega
end Go.Proofs.Ytknneajaklcjdaa
