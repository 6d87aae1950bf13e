/-
  The parts of a graph are one answer: the code's and the document's.
-/
import Derived.Test.YtknneajaklcjdaaRefParts
namespace Go.Proofs.Ytknneajaklcjdaa
open Go.ChangeShapes Go.WideShapes Go.ChangeAt Go.RowKit Go.Deep
open Terms

open Classical in
/-- the parts, if there are any. -/
noncomputable def ptOf (g : Gr) : Nat → Int := if h : ∃ pt, PartsOk g pt then Classical.choose h else fun _ => 0
theorem ptOf_ok {g : Gr} {pt : Nat → Int} (h : PartsOk g pt) : PartsOk g (ptOf g) := by
  unfold ptOf
  rw [dif_pos ⟨pt, h⟩]
  exact Classical.choose_spec (⟨pt, h⟩ : ∃ pt, PartsOk g pt)
theorem ptOf_is {g : Gr} {pt : Nat → Int} (h : PartsOk g pt) {x : Nat} (hx : x < g.spots.length) : pt x = ptOf g x := (h x hx).one (ptOf_ok h x hx)
theorem ints_row {w : World} {B n : Nat} {pt : Nat → Int} (h : w.rowIs B 3 n (intRow pt)) : IntsV w (.slice (some ⟨B, 0, none⟩) n n) ((List.range n).map pt) := by
  refine ⟨_, n, by rw [List.length_map, List.length_range], fun _ => ⟨B, 0, rfl, h.lt, fun i hi => ?_⟩⟩
  rw [List.length_map, List.length_range] at hi
  rw [Nat.zero_add, h.cell hi]
  simp [intRow, List.getD_eq_getElem?_getD, hi]
theorem ints_parts {w : World} {B : Nat} {g : Gr} {pt : Nat → Int} (h : w.rowIs B 3 g.spots.length (intRow pt)) (hp : PartsOk g pt) : IntsV w (.slice (some ⟨B, 0, none⟩) g.spots.length g.spots.length) ((List.range g.spots.length).map (ptOf g)) := by
  have := ints_row h
  rwa [List.map_congr_left (fun x hx => ptOf_is hp (List.mem_range.1 hx))] at this
theorem parts_both {g : Gr} (hz : GrLe g) (hT : totN (nxt g) g.next.length ≤ 1099511627776) : ∃ (l : List Int) (x : Int), l.length ≤ 140737488355328 ∧ (∀ (so no bo : Option Addr) (sc nc bc : Nat) (w : World), GraphV w (.slice so g.spots.length sc) (.slice no g.next.length nc) (.slice bo g.sets.length bc) g → Calls Try.prog 7 #[.agg #[.slice so g.spots.length sc, .int .i64 g.init, .slice no g.next.length nc, .slice bo g.sets.length bc, .int .i64 g.many]] w fun e w' => ∃ v, e = .returned (.tuple #[v, .int .i64 x]) ∧ Below w.heap.size w w' ∧ Hid (IntsV w' v l)) ∧
    ∀ (so no bo : Option Addr) (sc nc bc : Nat) (w : World), GraphV w (.slice so g.spots.length sc) (.slice no g.next.length nc) (.slice bo g.sets.length bc) g → Calls Try.prog 8 #[.agg #[.slice so g.spots.length sc, .int .i64 g.init, .slice no g.next.length nc, .slice bo g.sets.length bc, .int .i64 g.many]] w fun e w' => ∃ v, e = .returned (.tuple #[v, .int .i64 x]) ∧ Below w.heap.size w w' ∧ Hid (IntsV w' v l) := by
  by_cases hc : gcode g = 0
  · have hn := (gcode_zero hc).head.next
    refine ⟨(List.range g.spots.length).map (ptOf g), 0, by rw [List.length_map, List.length_range]; exact hz.spots, fun so no bo sc nc bc w h => ?_, fun so no bo sc nc bc w h => ?_⟩
    · refine (sparts_ok so no bo sc nc bc g w hz h hc).mono ?_
      rintro e w' ⟨B, rfl, hb, HB⟩
      obtain ⟨pt, _, h2, h3⟩ := HB.out
      exact ⟨_, rfl, hb, ints_parts h2 h3⟩
    · refine (rparts_ok so no bo sc nc bc g w hz h hc (by rw [← hn]; exact hT)).mono ?_
      rintro e w' ⟨B, rfl, hb, HB⟩
      obtain ⟨pt, _, h2, h3⟩ := HB.out
      exact ⟨_, rfl, hb, ints_parts h2 h3⟩
  · refine ⟨[], 9, by simp, fun so no bo sc nc bc w h => ?_, fun so no bo sc nc bc w h => ?_⟩
    · exact (sparts_bad so no bo sc nc bc g w hz h hc).mono fun e w' ⟨h1, h2⟩ => ⟨_, h1, h2, none, 0, rfl, fun h => absurd rfl h⟩
    · exact (rparts_bad so no bo sc nc bc g w hz h hc).mono fun e w' ⟨h1, h2⟩ => ⟨_, h1, h2, none, 0, rfl, fun h => absurd rfl h⟩
end Go.Proofs.Ytknneajaklcjdaa
