/-
  Rows of a graph as places.
-/
import Derived.Test.YtknneajaklcjdaaLookW
namespace Go.Proofs.Ytknneajaklcjdaa
open Go.ChangeShapes Go.WideShapes Go.ChangeAt Go.RowKit Go.Deep
open Terms

theorem natsV_of_ints {w : World} {v : Value} {l : List Int} (h : IntsV w v l) (h0 : ∀ i, i < l.length → 0 ≤ l.getD i 0) : NatsV w v (l.map Int.toNat) := by
  obtain ⟨ao, cap, rfl, h⟩ := h
  refine ⟨ao, cap, by simp, fun hne => ?_⟩
  obtain ⟨b, off, rfl, hlt, hat⟩ := h (by rintro rfl; simp at hne)
  refine ⟨b, off, rfl, hlt, fun i hi => ?_⟩
  have hi' : i < l.length := by simpa using hi
  have h1 := h0 i hi'
  rw [hat i hi']
  have : ((l.map Int.toNat).getD i 0 : Int) = l.getD i 0 := by
    simp only [List.getD_eq_getElem?_getD, List.getElem?_map, List.getElem?_eq_getElem hi', Option.map_some, Option.getD_some] at h1 ⊢
    omega
  rw [this]
theorem row_nats {w : World} {g : Gr} (h : GOk g) {uo : Option Addr} {uc i : Nat} (hi : i < g.spots.length) (hu : IntsV w (.slice uo (g.next.getD i []).length uc) (g.next.getD i [])) : NatsV w (.slice uo (nxt g i).length uc) (nxt g i) := by
  rw [nxt_length]
  exact natsV_of_ints hu fun k hk => ((h.row i hi).2 k hk).1
theorem row_later {w w' : World} {b t n : Nat} {f : Nat → Value} (h : w.rowIs b t n f) (hb : Below w.heap.size w w') : w'.rowIs b t n f := h.of_block (hb.block b h.lt)
end Go.Proofs.Ytknneajaklcjdaa
