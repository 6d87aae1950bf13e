import Derived.Test.YtobopjjmhginlaaGreatDoorPStOf
import Derived.Laws.CopyRow
import Derived.Laws.IdiomCopy
import Derived.DeepKeys4
namespace Go.Proofs.YtobopjjmhginlaaGreatDoor
open Go.ChangeShapes Go.WideShapes Go.ChangeAt Go.RowKit Go.Deep Go.Maps
open Terms Tm
set_option maxHeartbeats 6400000
set_option maxRecDepth 20000
theorem laidOutP : laidOutB Tryz.prog = true := by kernel_rfl
theorem rowLink : (166 : TypeId) < Tryz.prog.types.size := of_decide_eq_true (by kernel_rfl)
theorem keyedLink : Keyed Tryz.prog 166 := Keyed.of_law (deep_law_laid laidOutP (m := 3) (by omega) rowLink (by kernel_rfl) (by rw [Tryz.underlying166]))
theorem sizeTwo : ∃ d, Tryz.prog.types.size = d + 2 := ⟨Tryz.prog.types.size - 2, by have h : 2 <= Tryz.prog.types.size := of_decide_eq_true (by kernel_rfl); omega⟩
theorem keyTypeLink : Tryz.prog.keyType 166 = true := by kernel_rfl
theorem cellsLink : Tryz.prog.cellsOf 166 = 8 := by kernel_rfl
theorem cellsArr6 : Tryz.prog.cellsOf 164 = 6 := by kernel_rfl
theorem cellsB : Tryz.prog.cellsOf 4 = 1 := by kernel_rfl
theorem cellsI : Tryz.prog.cellsOf 3 = 1 := by kernel_rfl
theorem keyLink (y0 y1 y2 y3 y4 y5 : Bool) {c s : Int} (hc : -9223372036854775808 <= c /\ c <= 9223372036854775807) (hs : -9223372036854775808 <= s /\ s <= 9223372036854775807) :
    ∃ kl, keyOf Tryz.prog 166 (.agg #[.bool y0, .bool y1, .bool y2, .bool y3, .bool y4, .bool y5, .int .i64 c, .int .i64 s]) = some kl := by
  obtain ⟨d, hd⟩ := sizeTwo; have hwc : (Lit.int .i64 c).wf = true := WalkArith.wf_i64 (by omega)
  have hws : (Lit.int .i64 s).wf = true := WalkArith.wf_i64 (by omega)
  unfold keyOf; rw [Tryz.underlying166]; simp only [keyTypeLink, Value.formed, Tryz.underlying166, cellsLink, hd]; simp [Program.keyLits, Tryz.underlying166, Tryz.underlying164, Tryz.underlying4, Tryz.underlying3, cellsLink, cellsArr6, cellsB, cellsI, Value.cells, hwc, hws, List.range, List.range.loop]
theorem six_len {x : List Bool} (h : x.length <= 6) : (six x).length = 6 := by simp [six]; omega
theorem six_cases {z : List Bool} (h : z.length = 6) : ∃ y0 y1 y2 y3 y4 y5, z = [y0, y1, y2, y3, y4, y5] := by
  match z, h with
  | [a, b, c, d, e, f], _ => exact ⟨a, b, c, d, e, f, rfl⟩
theorem setRow_grown (w : World) (g : Nat) (cs : Array Value) : w.grownBy (w.setRow g cs) (some g) := by
  refine ⟨rfl, rfl, rfl, by simp [World.setRow], fun k _ hk => ?_⟩
  simp only [World.setRow, Array.getElem?_modify]
  rw [if_neg (fun e => hk (by rw [e]))]
theorem infoBoolSize : (Tryz.prog.info? 4).map (·.size) = some 1 := by kernel_rfl
theorem copy_link (w : World) (g : Nat) (lo : Option Addr) (pn lc : Nat) (x : List Bool) (c s : Int) (t ty : TypeId) (hx : BoolsV w (.slice lo pn lc) x) (hl : x.length = pn) (h6 : pn <= 6) (hg : w.heap[g]? = some (.cells #[.bool false, .bool false, .bool false, .bool false, .bool false, .bool false, .int .i64 c, .int .i64 s] t (0, 0))) :
    ∃ w' y0 y1 y2 y3 y4 y5, (Builtin.copy_ #[90, 90] ty #[.slice (some ⟨g, 0, none⟩) 6 6, .slice lo pn lc]).run Tryz.prog w = .ok (goInt pn) w' /\ six x = [y0, y1, y2, y3, y4, y5] /\ w'.heap[g]? = some (.cells #[.bool y0, .bool y1, .bool y2, .bool y3, .bool y4, .bool y5, .int .i64 c, .int .i64 s] t (0, 0)) /\ w.grownBy w' (some g) := by
  obtain ⟨y0, y1, y2, y3, y4, y5, hy⟩ := six_cases (six_len (x := x) (by omega))
  rcases Nat.eq_zero_or_pos pn with h0 | h0
  · subst h0
    have hx0 : x = [] := List.length_eq_zero_iff.1 hl; subst hx0; have e : [y0, y1, y2, y3, y4, y5] = [false, false, false, false, false, false] := by rw [<- hy]; rfl
    simp only [List.cons.injEq, and_true] at e; obtain ⟨rfl, rfl, rfl, rfl, rfl, rfl⟩ := e; exact ⟨w, _, _, _, _, _, _, run_copy_none w _ _ _ 4 _ _ _ _ _ _ Tryz.underlying90 infoBoolSize (by simp), hy, hg, ⟨rfl, rfl, rfl, Nat.le_refl _, fun _ _ _ => rfl⟩⟩
  · obtain ⟨ao, cap, e1, hx⟩ := hx
    injection e1 with e1 e2 e3
    subst e1; obtain ⟨b, off, rfl, hb, hat⟩ := hx (by intro e; rw [e] at hl; simp at hl; omega)
    have hrun := run_copy_row (P := Tryz.prog) w 90 90 ty 4 g 0 6 6 ⟨b, off, none⟩ pn lc _ t (x.map Value.bool) Tryz.underlying90 infoBoolSize hg (by rw [List.length_map, hl]; exact (Nat.min_eq_left h6).symm)
      (fun j v hv => by
        rw [List.getElem?_map] at hv
        cases hxj : x[j]? with
        | none => rw [hxj] at hv; simp at hv
        | some u =>
          rw [hxj] at hv; have hj : j < x.length := (List.getElem?_eq_some_iff.1 hxj).1
          have := hat j hj; rw [add_plain, this]; rw [List.getD_eq_getElem?_getD, hxj]
          simpa using hv) (by simp; omega) (fun v hv => by
        simp only [List.mem_map] at hv; obtain ⟨u, _, rfl⟩ := hv
        rfl)
    rw [List.length_map, hl] at hrun; refine ⟨_, y0, y1, y2, y3, y4, y5, hrun, hy, ?_, setRow_grown _ _ _⟩
    rw [setRow_heap w g _ _ t (0, 0) hg]
    congr 2
    have e6 : (six x).map Value.bool = [.bool y0, .bool y1, .bool y2, .bool y3, .bool y4, .bool y5] := by rw [hy]; rfl
    have e7 : x.map Value.bool ++ List.drop pn [Value.bool false, .bool false, .bool false, .bool false, .bool false, .bool false, .int .i64 c, .int .i64 s] = (six x).map Value.bool ++ [.int .i64 c, .int .i64 s] := by
      unfold six; rw [List.map_append, List.map_replicate, List.append_assoc, hl]
      congr 1
      have : pn = 1 \/ pn = 2 \/ pn = 3 \/ pn = 4 \/ pn = 5 \/ pn = 6 := by omega
      rcases this with rfl | rfl | rfl | rfl | rfl | rfl <;> rfl
    simp only [List.take_zero, List.nil_append, Nat.zero_add]; rw [e7, e6]; rfl
end Go.Proofs.YtobopjjmhginlaaGreatDoor
