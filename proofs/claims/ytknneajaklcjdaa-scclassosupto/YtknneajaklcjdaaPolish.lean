/-
  Contracts of package polish's functions: Parts, read, Ends.
-/
import Derived.Test.YtknneajaklcjdaaRows
import Derived.Test.YtknneajaklcjdaaTerms
import Derived.WalkKit
import Derived.WalkSpells
import Derived.WalkLawsBesides
import Derived.Defers
import Derived.Recover
import Derived.Deep.OwnRows
namespace Go.Proofs.Ytknneajaklcjdaa
open Go.RowKit Go.Deep
open Terms

def tab : List Int := [0, 0, 0, 2, 2, 2, 2, 2, 2, 2, 1, 0, 0, 0, 1, 2, 2, 1, 1]
/-- the table polish.partCounts holds what its initialiser lays. -/
def TabAt (w : World) : Prop := ∀ j : Nat, j < 19 → w.cell? ⟨0, j, none⟩ = some (.int .i64 (tab.getD j 0))
theorem TabAt.below {B : Nat} {w w' : World} (h : TabAt w) (hb : Below B w w') (hB : 0 < B) : TabAt w' := fun j hj => (hb.cell (p := ⟨0, j, none⟩) hB).trans (h j hj)

def pe (k : Int) : Int := if okK k = true then 0 else 13
theorem tab_pn {j : Nat} (h0 : 0 < j) (h : j < 19) : tab.getD j 0 = (pn (j : Int) : Int) := by
  have hcase : j = 1 ∨ j = 2 ∨ j = 3 ∨ j = 4 ∨ j = 5 ∨ j = 6 ∨ j = 7 ∨ j = 8 ∨ j = 9 ∨ j = 10 ∨ j = 11 ∨ j = 12 ∨ j = 13 ∨ j = 14 ∨ j = 15 ∨ j = 16 ∨ j = 17 ∨ j = 18 := by omega
  rcases hcase with rfl | rfl | rfl | rfl | rfl | rfl | rfl | rfl | rfl | rfl | rfl | rfl | rfl | rfl | rfl | rfl | rfl | rfl <;> rfl

/-- the kinds of a list of ops, from an address on. -/
def KindsAt (w : World) (b off : Nat) (ks : List Int) : Prop := ∀ i, i < ks.length → w.cell? ⟨b, off + i * 2, none⟩ = some (.int .i64 (ks.getD i 0))
theorem KindsAt.below {B b off : Nat} {ks : List Int} {w w' : World} (h : KindsAt w b off ks) (hb : Below B w w') (hB : b < B) : KindsAt w' b off ks := fun i hi => (hb.cell (p := ⟨b, _, none⟩) hB).trans (h i hi)

theorem ret_int {k : IntKind} {a b : Int} (h : a = b) : Ending.returned (.int k a) = .returned (.int k b) := by rw [h]

/-- What read leaves: it ends there, and the places within it are noted; or it has given up. -/
def ReadPost (B n : Nat) (ks : List Int) (place : Nat) (f : Nat → Value) (w : World) : R → Ending → World → Prop
  | .ok m, e, w' => e = .returned (.int .i64 ((place + m : Nat) : Int)) ∧ Below B w w' ∧ w'.rowIs B 3 n (fun q => if place ≤ q ∧ q < place + m then .int .i64 (endAt ks q) else f q)
  | .no x, e, w' => e = .panicked [{ v := .iface 28 (.int .i64 x), recovered := false }] ∧ Below B w w' ∧ ∃ g, w'.rowIs B 3 n g

theorem row_join {B t n p m m' : Nat} {ks : List Int} {f : Nat → Value} {w : World} (h : w.rowIs B t n (fun q => if p + m ≤ q ∧ q < p + m + m' then .int .i64 (endAt ks q) else if p ≤ q ∧ q < p + m then .int .i64 (endAt ks q) else f q)) :
    w.rowIs B t n (fun q => if p ≤ q ∧ q < p + (m + m') then .int .i64 (endAt ks q) else f q) := h.congr fun i _ => by
  by_cases h1 : p + m ≤ i ∧ i < p + m + m'
  · rw [if_pos h1, if_pos (by omega)]
  · rw [if_neg h1]
    by_cases h2 : p ≤ i ∧ i < p + m
    · rw [if_pos h2, if_pos (by omega)]
    · rw [if_neg h2, if_neg (by omega)]

theorem row_head {B t n p m : Nat} {ks : List Int} {f : Nat → Value} {w : World} (hm : endAt ks p = p + 1 + m) (h : w.rowIs B t n (fun q => if p + 1 ≤ q ∧ q < p + 1 + m then .int .i64 (endAt ks q) else f q)) :
    (w.setCell ⟨B, p, none⟩ (.int .i64 ((p : Int) + 1 + (m : Int)))).rowIs B t n (fun q => if p ≤ q ∧ q < p + (m + 1) then .int .i64 (endAt ks q) else f q) := (h.set p _).congr fun i _ => by
  by_cases h1 : i = p
  · subst h1
    rw [if_pos rfl, if_pos (by omega), hm]
    simp
  · rw [if_neg h1]
    by_cases h2 : p + 1 ≤ i ∧ i < p + 1 + m
    · rw [if_pos h2, if_pos (by omega)]
    · rw [if_neg h2, if_neg (by omega)]

end Go.Proofs.Ytknneajaklcjdaa
