/-
  Plain mathematics of parts; what the calls answer of a grown graph's parts.
-/
import Derived.Test.YtdmclgbmdhhdiaaKGot
import Derived.Test.YtdmclgbmdhhdiaaSParts
namespace Go.Proofs.Ytdmclgbmdhhdiaa
open Go.ChangeShapes Go.WideShapes Go.ChangeAt Go.RowKit Go.Deep
open Terms

theorem PartIs.le {nx : Nat → List Nat} {x : Nat} {m : Int} (h : PartIs nx x m) : ∃ z : Nat, m = (z : Int) ∧ z ≤ x ∧ Way nx x z ∧ Way nx z x := by
  obtain ⟨z, h1, h2, h3, h4⟩ := h
  exact ⟨z, h1, h4 x .stay .stay, h2, h3⟩
theorem PartIs.iff {nx : Nat → List Nat} {x y : Nat} {m k : Int} (h : PartIs nx x m) (h' : PartIs nx y k) : m = k ↔ Way nx x y ∧ Way nx y x := by
  obtain ⟨z, h1, h2, h3, h4⟩ := h
  obtain ⟨z', g1, g2, g3, g4⟩ := h'
  constructor
  · intro e
    have : z = z' := by omega
    subst this
    exact ⟨h2.trans g3, g2.trans h3⟩
  · rintro ⟨a, b⟩
    have e1 := h4 z' (a.trans g2) (g3.trans b)
    have e2 := g4 z (b.trans h2) (h3.trans a)
    omega
theorem PartsOk.at {g : Gr} {pt : Nat → Int} (h : PartsOk g pt) {x : Nat} (hx : x < g.spots.length) : ∃ z : Nat, pt x = (z : Int) ∧ z ≤ x ∧ z < g.spots.length ∧ pt z = (z : Int) := by
  obtain ⟨z, h1, h2, h3, h4⟩ := (h x hx).le
  have hz : z < g.spots.length := by omega
  exact ⟨z, h1, h2, hz, by rw [← h1]; exact ((h z hz).iff (h x hx)).2 ⟨h4, h3⟩⟩
/-- the box of a grown graph. -/
theorem KGot.box {w : World} {so no bo : Option Addr} {sc nc bc n gi mm : Nat} {g : Gr} (h : KGot w so sc no nc bo bc n gi mm g) {t : TypeId} {W2 : World} (hW : W2 = w.alloc (.cells #[.slice so n sc, .int .i64 (gi : Int), .slice no n nc, .slice bo n bc, .int .i64 (mm : Int)] t)) : ∀ w', Below W2.heap.size W2 w' → KGot w' so sc no nc bo bc n gi mm g ∧ Below w.heap.size w w' ∧ w.heap.size < w'.heap.size ∧ w'.cell? ⟨w.heap.size, 0, none⟩ = some (.slice so n sc) ∧ w'.cell? ⟨w.heap.size, 1, none⟩ = some (.int .i64 (gi : Int)) ∧ w'.cell? ⟨w.heap.size, 2, none⟩ = some (.slice no n nc) ∧ w'.cell? ⟨w.heap.size, 3, none⟩ = some (.slice bo n bc) ∧ w'.cell? ⟨w.heap.size, 4, none⟩ = some (.int .i64 (mm : Int)) := fun w' hb => by
  have hA : Below w.heap.size w W2 := by rw [hW]; exact (Below.refl _ _).alloc (Nat.le_refl _) _
  have hs : w.heap.size < W2.heap.size := by rw [hW]; simp
  have hb2 := hA.trans (hb.mono hA.size)
  have c : ∀ j, w'.cell? ⟨w.heap.size, j, none⟩ = W2.cell? ⟨w.heap.size, j, none⟩ := fun j => hb.cell (p := ⟨w.heap.size, j, none⟩) hs
  refine ⟨h.later hb2, hb2, Nat.lt_of_lt_of_le hs hb.size, (c 0).trans ?_, (c 1).trans ?_, (c 2).trans ?_, (c 3).trans ?_, (c 4).trans ?_⟩ <;> (rw [hW]; simp [go_sem])
end Go.Proofs.Ytdmclgbmdhhdiaa
