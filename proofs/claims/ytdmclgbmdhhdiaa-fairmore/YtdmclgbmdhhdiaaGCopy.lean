/-
  The laws' own copy of a graph.
-/
import Derived.Test.YtdmclgbmdhhdiaaGOpen
namespace Go.Proofs.Ytdmclgbmdhhdiaa
open Go.ChangeShapes Go.WideShapes Go.ChangeAt Go.RowKit Go.Deep
open Terms

set_option maxRecDepth 20000 in
theorem infoSpot : (Try.prog.info? 36).map (fun i => (i.zero, i.size, i.bytes)) = some (some (.agg #[.int .i64 0, .int .i64 0]), 2, 16) := by kernel_rfl
/-- a row that the call owns holds spots. -/
theorem opsV_of_spots {w : World} {base : Nat} {v : Value} {l : List (Int × Int)} (h : w.ownsRow base 36 2 v l.length (flat l)) : OpsV w v l := by
  rcases h.2 with ⟨rfl, h0⟩ | ⟨g, cap, cur, rfl, hb, hg, hnc, hcm, hcs, htake⟩
  · have : l = [] := by simpa using h0
    subst this
    exact ⟨none, 0, rfl, ⟨by simp, fun _ => ⟨rfl, rfl⟩⟩, fun h => absurd rfl h⟩
  · refine ⟨_, cap, rfl, ⟨hnc, fun h => by simp at h⟩, fun _ => ⟨g, 0, rfl, ?_, fun i hi => ?_⟩⟩
    · exact (Array.getElem?_eq_some_iff.1 hg).1
    · obtain ⟨f0, f1⟩ := flat_get l i hi
      rw [h.cellAt _ (by omega), h.cellAt _ (by omega)]
      simpa using ⟨f0, f1⟩

/-- the box of the argument, and the cell of the result behind it. -/
structure GBox (w : World) (s : Nat) (v0 v1 v2 v3 v4 : Value) : Prop where
  c0 : w.cell? ⟨s, 0, none⟩ = some v0
  c1 : w.cell? ⟨s, 1, none⟩ = some v1
  c2 : w.cell? ⟨s, 2, none⟩ = some v2
  c3 : w.cell? ⟨s, 3, none⟩ = some v3
  c4 : w.cell? ⟨s, 4, none⟩ = some v4
  f0 : w.frozen? ⟨s, 0, none⟩ = false
  f2 : w.frozen? ⟨s, 2, none⟩ = false
  f3 : w.frozen? ⟨s, 3, none⟩ = false
  r0 : w.cell? ⟨s + 1, 0, none⟩ = some (.slice none 0 0)
  r1 : w.cell? ⟨s + 1, 1, none⟩ = some (.int .i64 0)
  r2 : w.cell? ⟨s + 1, 2, none⟩ = some (.slice none 0 0)
  r3 : w.cell? ⟨s + 1, 3, none⟩ = some (.slice none 0 0)
  r4 : w.cell? ⟨s + 1, 4, none⟩ = some (.int .i64 0)
  z0 : w.frozen? ⟨s + 1, 0, none⟩ = false
  z1 : w.frozen? ⟨s + 1, 1, none⟩ = false
  z2 : w.frozen? ⟨s + 1, 2, none⟩ = false
  z3 : w.frozen? ⟨s + 1, 3, none⟩ = false
  z4 : w.frozen? ⟨s + 1, 4, none⟩ = false
theorem GBox.below {w w' : World} {s B : Nat} {v0 v1 v2 v3 v4 : Value} (h : GBox w s v0 v1 v2 v3 v4) (hb : Below B w w') (hB : s + 1 < B) : GBox w' s v0 v1 v2 v3 v4 := by
  have c : ∀ j, w'.cell? ⟨s, j, none⟩ = w.cell? ⟨s, j, none⟩ := fun j => hb.cell (p := ⟨s, j, none⟩) (by show s < B; omega)
  have d : ∀ j, w'.cell? ⟨s + 1, j, none⟩ = w.cell? ⟨s + 1, j, none⟩ := fun j => hb.cell (p := ⟨s + 1, j, none⟩) hB
  have f : ∀ j, w'.frozen? ⟨s, j, none⟩ = w.frozen? ⟨s, j, none⟩ := fun j => hb.frozen (p := ⟨s, j, none⟩) (by show s < B; omega)
  have z : ∀ j, w'.frozen? ⟨s + 1, j, none⟩ = w.frozen? ⟨s + 1, j, none⟩ := fun j => hb.frozen (p := ⟨s + 1, j, none⟩) hB
  exact ⟨(c 0).trans h.c0, (c 1).trans h.c1, (c 2).trans h.c2, (c 3).trans h.c3, (c 4).trans h.c4, (f 0).trans h.f0, (f 2).trans h.f2, (f 3).trans h.f3, (d 0).trans h.r0, (d 1).trans h.r1, (d 2).trans h.r2, (d 3).trans h.r3, (d 4).trans h.r4, (z 0).trans h.z0, (z 1).trans h.z1, (z 2).trans h.z2, (z 3).trans h.z3, (z 4).trans h.z4⟩
theorem GBox.set0 {w : World} {s : Nat} {v0 v1 v2 v3 v4 : Value} (h : GBox w s v0 v1 v2 v3 v4) (u : Value) : GBox (w.setCell ⟨s, 0, none⟩ u) s u v1 v2 v3 v4 := by
  constructor <;> simp [go_sem, h.c0, h.c1, h.c2, h.c3, h.c4, h.f0, h.f2, h.f3, h.r0, h.r1, h.r2, h.r3, h.r4, h.z0, h.z1, h.z2, h.z3, h.z4]
theorem GBox.set2 {w : World} {s : Nat} {v0 v1 v2 v3 v4 : Value} (h : GBox w s v0 v1 v2 v3 v4) (u : Value) : GBox (w.setCell ⟨s, 2, none⟩ u) s v0 v1 u v3 v4 := by
  constructor <;> simp [go_sem, h.c0, h.c1, h.c2, h.c3, h.c4, h.f0, h.f2, h.f3, h.r0, h.r1, h.r2, h.r3, h.r4, h.z0, h.z1, h.z2, h.z3, h.z4]
theorem GBox.set3 {w : World} {s : Nat} {v0 v1 v2 v3 v4 : Value} (h : GBox w s v0 v1 v2 v3 v4) (u : Value) : GBox (w.setCell ⟨s, 3, none⟩ u) s v0 v1 v2 u v4 := by
  constructor <;> simp [go_sem, h.c0, h.c1, h.c2, h.c3, h.c4, h.f0, h.f2, h.f3, h.r0, h.r1, h.r2, h.r3, h.r4, h.z0, h.z1, h.z2, h.z3, h.z4]
/-- THE CONTRACT OF graphs: a copy. -/
def GOwn (w : World) (base : Nat) (sv nv bv : Value) (g : Gr) : Prop := w.ownsRow base 36 2 sv g.spots.length (flat g.spots) ∧ ListsOwn w base nv g.next ∧ w.ownsRow base 3 1 bv g.sets.length (ivals g.sets)
theorem GOwn.v {w : World} {base : Nat} {sv nv bv : Value} {g : Gr} (h : GOwn w base sv nv bv g) : GraphV w sv nv bv g := ⟨opsV_of_spots h.1, h.2.1.listsV, intsV_of_owns h.2.2⟩


/-- the world behind the last stores. -/
theorem tower_below {w w3 : World} (hb : Below w.heap.size w w3) (v0 v1 v2 v3 v4 : Value) : Below w.heap.size w ((((((w3.setCell ⟨w.heap.size, 3, none⟩ v3).setCell ⟨w.heap.size + 1, 0, none⟩ v0).setCell ⟨w.heap.size + 1, 1, none⟩ v1).setCell ⟨w.heap.size + 1, 2, none⟩ v2).setCell ⟨w.heap.size + 1, 3, none⟩ v3).setCell ⟨w.heap.size + 1, 4, none⟩ v4) :=
  (((((hb.setCell (by simp) _).setCell (by simp) _).setCell (by simp) _).setCell (by simp) _).setCell (by simp) _).setCell (by simp) _
theorem tower_owns {w3 : World} {s : Nat} {e : TypeId} {k n : Nat} {v : Value} {xs : List Value} (h : w3.ownsRow (s + 2) e k v n xs) (v0 v1 v2 v3 v4 : Value) : ((((((w3.setCell ⟨s, 3, none⟩ v3).setCell ⟨s + 1, 0, none⟩ v0).setCell ⟨s + 1, 1, none⟩ v1).setCell ⟨s + 1, 2, none⟩ v2).setCell ⟨s + 1, 3, none⟩ v3).setCell ⟨s + 1, 4, none⟩ v4).ownsRow (s + 2) e k v n xs :=
  owns_low (owns_low (owns_low (owns_low (owns_low (owns_low h (p := ⟨s, 3, none⟩) (by show s < _; omega) _) (p := ⟨s + 1, 0, none⟩) (by show s + 1 < _; omega) _) (p := ⟨s + 1, 1, none⟩) (by show s + 1 < _; omega) _) (p := ⟨s + 1, 2, none⟩) (by show s + 1 < _; omega) _) (p := ⟨s + 1, 3, none⟩) (by show s + 1 < _; omega) _) (p := ⟨s + 1, 4, none⟩) (by show s + 1 < _; omega) _
theorem tower_lists {w3 : World} {s : Nat} {v : Value} {ls : List (List Int)} (h : ListsOwn w3 (s + 2) v ls) (v0 v1 v2 v3 v4 : Value) : ListsOwn ((((((w3.setCell ⟨s, 3, none⟩ v3).setCell ⟨s + 1, 0, none⟩ v0).setCell ⟨s + 1, 1, none⟩ v1).setCell ⟨s + 1, 2, none⟩ v2).setCell ⟨s + 1, 3, none⟩ v3).setCell ⟨s + 1, 4, none⟩ v4) (s + 2) v ls := by
  obtain ⟨us, h1, h2⟩ := h
  exact ⟨us, tower_owns h1 v0 v1 v2 v3 v4, fun j hj => tower_owns (h2 j hj) v0 v1 v2 v3 v4⟩
theorem tower_cells {w3 : World} {s : Nat} {u0 u1 u2 u3 u4 : Value} (h : GBox w3 s u0 u1 u2 u3 u4) (v0 v1 v2 v3 v4 : Value) : ((((((w3.setCell ⟨s, 3, none⟩ v3).setCell ⟨s + 1, 0, none⟩ v0).setCell ⟨s + 1, 1, none⟩ v1).setCell ⟨s + 1, 2, none⟩ v2).setCell ⟨s + 1, 3, none⟩ v3).setCell ⟨s + 1, 4, none⟩ v4).cell? ⟨s + 1, 0, none⟩ = some v0 ∧ ((((((w3.setCell ⟨s, 3, none⟩ v3).setCell ⟨s + 1, 0, none⟩ v0).setCell ⟨s + 1, 1, none⟩ v1).setCell ⟨s + 1, 2, none⟩ v2).setCell ⟨s + 1, 3, none⟩ v3).setCell ⟨s + 1, 4, none⟩ v4).cell? ⟨s + 1, 1, none⟩ = some v1 ∧ ((((((w3.setCell ⟨s, 3, none⟩ v3).setCell ⟨s + 1, 0, none⟩ v0).setCell ⟨s + 1, 1, none⟩ v1).setCell ⟨s + 1, 2, none⟩ v2).setCell ⟨s + 1, 3, none⟩ v3).setCell ⟨s + 1, 4, none⟩ v4).cell? ⟨s + 1, 2, none⟩ = some v2 ∧ ((((((w3.setCell ⟨s, 3, none⟩ v3).setCell ⟨s + 1, 0, none⟩ v0).setCell ⟨s + 1, 1, none⟩ v1).setCell ⟨s + 1, 2, none⟩ v2).setCell ⟨s + 1, 3, none⟩ v3).setCell ⟨s + 1, 4, none⟩ v4).cell? ⟨s + 1, 3, none⟩ = some v3 ∧ ((((((w3.setCell ⟨s, 3, none⟩ v3).setCell ⟨s + 1, 0, none⟩ v0).setCell ⟨s + 1, 1, none⟩ v1).setCell ⟨s + 1, 2, none⟩ v2).setCell ⟨s + 1, 3, none⟩ v3).setCell ⟨s + 1, 4, none⟩ v4).cell? ⟨s + 1, 4, none⟩ = some v4 := by
  refine ⟨?_, ?_, ?_, ?_, ?_⟩ <;> simp [go_sem, h.r0, h.r1, h.r2, h.r3, h.r4]

end Go.Proofs.Ytdmclgbmdhhdiaa
