/-
  A list of truths that came in, and the laws' own copy of one.
-/
import Derived.Test.YtoeagklgfaoejaaDoorBools
import Derived.Test.YtoeagklgfaoejaaDoorRow
import Derived.Lib.SmallJoins
namespace Go.Proofs.YtoeagklgfaoejaaDoor
open Go.ChangeShapes Go.WideShapes Go.ChangeAt Go.RowKit Go.Deep
open Terms

/-- a slice of truths as it came in. -/
def BoolsW (w : World) (v : Value) (l : List Bool) : Prop := ∃ ao cap, v = .slice ao l.length cap ∧ (ao = none → cap = 0 ∧ l = []) ∧ (l ≠ [] → ∃ b off, ao = some ⟨b, off, none⟩ ∧ b < w.heap.size ∧ BoolsAt w b off l)
theorem BoolsW.v {w : World} {v : Value} {l : List Bool} (h : BoolsW w v l) : BoolsV w v l := by
  obtain ⟨ao, cap, h1, _, h2⟩ := h
  exact ⟨ao, cap, h1, h2⟩
theorem BoolsW.below {w w' : World} {v : Value} {l : List Bool} (h : BoolsW w v l) (hb : Below w.heap.size w w') : BoolsW w' v l := by
  obtain ⟨ao, cap, h1, h0, h⟩ := h
  refine ⟨ao, cap, h1, h0, fun hne => ?_⟩
  obtain ⟨b, off, e, hlt, hat⟩ := h hne
  exact ⟨b, off, e, Nat.lt_of_lt_of_le hlt hb.size, fun i hi => (hb.cell (p := ⟨b, _, none⟩) hlt).trans (hat i hi)⟩
theorem bvals_one (l : List Bool) : ∀ u ∈ bvals l, u.oneCell' = true := by
  intro u hu
  simp only [bvals, List.mem_map] at hu
  obtain ⟨p, _, rfl⟩ := hu
  rfl
theorem bytesBool : Tryd.prog.bytesOf 4 = 1 := by kernel_rfl
theorem cellsBool : Tryd.prog.cellsOf 4 = 1 := by kernel_rfl
def boolOf : Value → Bool
  | .bool b => b
  | _ => false
/-- A LIST OF TRUTHS THAT CAME IN. -/
theorem open_bools {H : Type} {enc : TypeId × Value → H} {W : World} {base : Nat} {v : Value} {d : DataW H} {p : List MemPlace} {ts : List TypeId} {ds : List (DataW H)} {j : Nat}
    (hv : Value.okWide Tryd.prog W .any base 39 v) (h : DataW.Trod enc Tryd.prog W 0 (fun _ => true) true 39 v d p)
    (hsz : (DataW.weightsEach Tryd.prog ts ds).all (· ≤ reachBytes) = true) (ht : ts[j]? = some 39) (hd : ds[j]? = some d) : ∃ l, BoolsW W v l ∧ l.length ≤ 140737488355328 := by
  obtain ⟨a0, len0, cap0, rfl⟩ := okWide_slice Tryd.underlying39 hv
  obtain ⟨fuel, hf⟩ := h
  rcases open_slice1 Tryd.underlying39 cellsBool hf with ⟨hcs, hx⟩ | ⟨a, len, cap, m, n, V, D, Pl, hcs, _, hl, hm, hmm, hx, hcell⟩
  · simp [Value.cells] at hcs
    obtain ⟨rfl, rfl, rfl⟩ := hcs
    exact ⟨[], ⟨none, 0, rfl, fun _ => ⟨rfl, rfl⟩, fun h => absurd rfl h⟩, by simp⟩
  · simp [Value.cells] at hcs
    obtain ⟨rfl, rfl, rfl⟩ := hcs
    simp at hmm
    subst hmm
    have hd2 := hd
    rw [(Prod.mk.inj hx).1] at hd2
    have hs := sized_slice hsz ht hd2 Tryd.underlying39
    rw [bytesBool] at hs
    simp only [List.length_map, List.length_range, reachBytes] at hs
    refine ⟨(List.range len0).map fun i => boolOf (V i), ⟨some a, m, by simp, fun h => by simp at h, fun hne => ?_⟩, by simp; omega⟩
    have hpos : 0 < len0 := by
      rcases Nat.eq_zero_or_pos len0 with h0 | h0
      · subst h0; simp at hne
      · exact h0
    obtain ⟨b, off, spot⟩ := a
    have hspot : spot = none := by simpa [Addr.add] using World.cell?_spot (hcell 0 (by omega)).1
    subst hspot
    refine ⟨b, off, rfl, ?_, fun i hi => ?_⟩
    · have := World.block_lt_of_cell? W _ (hcell 0 (by omega)).1
      simpa [Addr.add] using this
    · simp only [List.length_map, List.length_range] at hi
      obtain ⟨c0, t0⟩ := hcell i (by omega)
      rw [add_plain] at c0
      obtain ⟨x0, e0, _⟩ := DataW.trod_bool Tryd.underlying4 t0
      simp at e0
      rw [c0, show ((List.range len0).map fun i => boolOf (V i)).getD i false = boolOf (V i) by simp [List.getD_eq_getElem?_getD, hi], e0]
      rfl
end Go.Proofs.YtoeagklgfaoejaaDoor
