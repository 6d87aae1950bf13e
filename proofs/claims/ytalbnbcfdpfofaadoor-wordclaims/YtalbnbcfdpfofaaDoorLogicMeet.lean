/-
  What logic.Meets answers; its contract.
-/
import Derived.Test.YtalbnbcfdpfofaaDoorLogicWait
namespace Go.Proofs.YtalbnbcfdpfofaaDoor
open Go.ChangeShapes Go.WideShapes Go.ChangeAt Go.RowKit Go.Deep
open Terms

/-- does the op at a place wait? -/
def waitAt (l : List (Int × Int)) (h : Nat → Bool) (p : Nat) : Bool := waitB (l.getD p (0, 0)).1 (h p) (h (p + 1)) (h (sec l p))
/-- the bits of those that do not, of the first k. -/
def metTo (l : List (Int × Int)) (h : Nat → Bool) : Nat → Int
  | 0 => 0
  | k + 1 => metTo l h k + if waitAt l h ((aheadL l).getD k 0).toNat = true then 0 else 2 ^ k
theorem metTo_bounds (l : List (Int × Int)) (h : Nat → Bool) : ∀ k, 0 ≤ metTo l h k ∧ metTo l h k < 2 ^ k := by
  intro k
  induction k with
  | zero => simp [metTo]
  | succ k ih =>
    have h2 : (0 : Int) < 2 ^ k := Int.pow_pos (by decide)
    simp only [metTo]
    rw [Int.pow_succ]
    split <;> omega
theorem or_small : ∀ k, k < 6 → ∀ c, c < 2 ^ k → bits BinOp.or IntKind.i64 ((c : Nat) : Int) (2 ^ k) = ((c : Nat) : Int) + 2 ^ k := by decide
theorem or_bit {c : Int} {k : Nat} (hk : k < 6) (h0 : 0 ≤ c) (h1 : c < 2 ^ k) : bits BinOp.or IntKind.i64 c (2 ^ k) = c + 2 ^ k := by
  obtain ⟨m, rfl⟩ : ∃ m : Nat, c = m := ⟨c.toNat, by omega⟩
  refine or_small k hk m ?_
  have e : ((2 ^ k : Nat) : Int) = 2 ^ k := by simp
  omega
theorem pow_small {k : Nat} (hk : k ≤ 6) : (2 : Int) ^ k ≤ 64 := by
  have hcase : k = 0 ∨ k = 1 ∨ k = 2 ∨ k = 3 ∨ k = 4 ∨ k = 5 ∨ k = 6 := by omega
  rcases hcase with rfl | rfl | rfl | rfl | rfl | rfl | rfl <;> decide
/-- what Meets answers. -/
noncomputable def metN (l : List (Int × Int)) (letter : List Bool) (claim : Int) : Int := if tcode l letter claim = 0 then metTo l (tru l letter claim) (aheadL l).length else 0

/-- the place in the list of those that look ahead. -/
theorem place_in {w : World} {b off cap B bH : Nat} {av : Value} {l : List (Int × Int)} {h : Nat → Bool} (hW : WholeAt w (.slice (some ⟨b, off, none⟩) l.length cap) B av l) (hz : endsCode (l.map Prod.fst) = 0) (hr : w.rowIs bH 4 l.length (fun j => .bool (h j))) {p : Nat} (hp : p < l.length) (hk : lookB (l.getD p (0, 0)).1 = true) : PlaceIn w b off l.length cap B bH l h p (l.getD p (0, 0)).1 := by
  obtain ⟨b', off', cap', hv, hbl, hat, hrow, _⟩ := hW
  injection hv with e1 e2 e3
  injection Option.some.inj e1 with e4 e5
  subst e4 e5
  obtain ⟨hne, h60⟩ := ends_ne hz
  rw [List.length_map] at h60
  obtain ⟨h1, h2⟩ := part_in hz hp
  have hk' : 14 ≤ (l.getD p (0, 0)).1 ∧ (l.getD p (0, 0)).1 ≤ 18 := by simpa [lookB] using hk
  have hpn : 1 ≤ pn (l.getD p (0, 0)).1 := by
    unfold pn
    split
    · omega
    · split
      · omega
      · omega
  exact ⟨h60, hp, h1 hpn, fun e => (h2 (by rcases e with e | e <;> rw [e] <;> rfl)).2, (hat p hp).1, hbl, fun j hj => hr.cell hj, hr.lt, fun j hj => hrow.cell hj, hrow.lt⟩

end Go.Proofs.YtalbnbcfdpfofaaDoor
