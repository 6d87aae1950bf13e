import Derived.Test.YtobopjjmhginlaaGreatDoorBools
import Derived.Test.YtobopjjmhginlaaGreatDoorIntsOf
import Derived.Deep.RegionHeld3
namespace Go.Proofs.YtobopjjmhginlaaGreatDoor
open Go.ChangeShapes Go.WideShapes Go.ChangeAt Go.RowKit Go.Deep
open Terms
set_option maxHeartbeats 6400000
set_option maxRecDepth 20000
def nilG : Value := .slice none 0 0
def LisU (w : World) (us : List Value) (ls : List (List Int)) : Prop := us.length = ls.length /\ ∀ i, i < ls.length -> IntsV w (us.getD i nilG) (ls.getD i [])
theorem LisU.below {w w' : World} {us : List Value} {ls : List (List Int)} (h : LisU w us ls) (hb : Below w.heap.size w w') : LisU w' us ls := ⟨h.1, fun i hi => (h.2 i hi).below hb⟩
def ListsV (w : World) (v : Value) (ls : List (List Int)) : Prop := ∃ us ao cap, v = .slice ao ls.length cap /\ (ao = none -> cap = 0 /\ ls = []) /\ LisU w us ls /\ (ls ≠ [] -> ∃ b off, ao = some ⟨b, off, none⟩ /\ b < w.heap.size /\ ∀ i, i < ls.length -> w.cell? ⟨b, off + i, none⟩ = some (us.getD i nilG))
theorem ListsV.below {w w' : World} {v : Value} {ls : List (List Int)} (h : ListsV w v ls) (hb : Below w.heap.size w w') : ListsV w' v ls := by
  obtain ⟨us, ao, cap, rfl, h0, hu, h⟩ := h; refine ⟨us, ao, cap, rfl, h0, hu.below hb, fun hne => ?_⟩
  obtain ⟨b, off, rfl, hlt, hat⟩ := h hne; exact ⟨b, off, rfl, Nat.lt_of_lt_of_le hlt hb.size, fun i hi => (hb.cell (p := ⟨b, _, none⟩) hlt).trans (hat i hi)⟩
theorem ListsV.at {w : World} {ao : Option Addr} {cap n : Nat} {ls : List (List Int)} (h : ListsV w (.slice ao n cap) ls) {i : Nat} (hi : i < ls.length) : ∃ b off, ao = some ⟨b, off, none⟩ /\ b < w.heap.size /\ ∃ u, w.cell? ⟨b, off + i, none⟩ = some u /\ IntsV w u (ls.getD i []) := by
  obtain ⟨us, ao', cap', hv, _, hu, h⟩ := h
  injection hv with e1 e2 e3
  subst e1; obtain ⟨b, off, e, hlt, hat⟩ := h (by rintro rfl; simp at hi)
  exact ⟨b, off, e, hlt, _, hat i hi, hu.2 i hi⟩
theorem listsV_of_owns {w : World} {base : Nat} {v : Value} {us : List Value} {ls : List (List Int)} (h : w.ownsRow base 37 1 v us.length us) (hu : LisU w us ls) : ListsV w v ls := by
  have hlen := hu.1
  rcases h.2 with ⟨rfl, h0⟩ | ⟨g, cap, cur, rfl, hb, hg, hnc, hcm, hcs, htake⟩
  · have : ls = [] := List.length_eq_zero_iff.1 (by omega)
    subst this; exact ⟨us, none, 0, rfl, fun _ => ⟨rfl, rfl⟩, hu, fun h => absurd rfl h⟩
  · refine ⟨us, _, cap, by rw [hlen], fun h => by simp at h, hu, fun _ => ⟨g, 0, rfl, (Array.getElem?_eq_some_iff.1 hg).1, fun i hi => ?_⟩⟩
    rw [Nat.zero_add, h.cellAt i (by omega)]
    simp [List.getD_eq_getElem?_getD, show i < us.length by omega]
theorem owns_lowG {w : World} {base : Nat} {e : TypeId} {s n : Nat} {v : Value} {xs : List Value} (h : w.ownsRow base e s v n xs) {p : Addr} (hp : p.block < base) (u : Value) : (w.setCell p u).ownsRow base e s v n xs := by
  obtain ⟨h1, h2⟩ := h; refine ⟨h1, ?_⟩
  rcases h2 with h2 | ⟨g, cap, cur, hv, hg, hh, r⟩
  · exact .inl h2
  · exact .inr ⟨g, cap, cur, hv, hg, (Below.heap_setCell w p u g (by omega)).trans hh, r⟩
end Go.Proofs.YtobopjjmhginlaaGreatDoor
