/-
  A list of numbers that came in (where no model is at hand).
-/
import Derived.Test.YtmoobfkhjfcjbaaDoorRow
import Derived.Test.YtmoobfkhjfcjbaaDoorIntsOf
import Derived.Deep.Slices
namespace Go.Proofs.YtmoobfkhjfcjbaaDoor
open Go.ChangeShapes Go.WideShapes Go.ChangeAt Go.RowKit Go.Deep
open Terms

theorem bytesIntE : Tryd.prog.bytesOf 3 = 8 := by kernel_rfl
theorem IntsW.belowE {w w' : World} {v : Value} {l : List Int} (h : IntsW w v l) (hb : Below w.heap.size w w') : IntsW w' v l := by
  obtain ⟨ao, cap, h1, h0, h⟩ := h
  refine ⟨ao, cap, h1, h0, fun hne => ?_⟩
  obtain ⟨b, off, e, hlt, hat⟩ := h hne
  exact ⟨b, off, e, Nat.lt_of_lt_of_le hlt hb.size, fun i hi => (hb.cell (p := ⟨b, _, none⟩) hlt).trans (hat i hi)⟩
/-- A LIST OF NUMBERS THAT CAME IN. -/
theorem open_intsE {H : Type} {enc : TypeId × Value → H} {W : World} {base : Nat} {v : Value} {d : DataW H} {p : List MemPlace} {ts : List TypeId} {ds : List (DataW H)} {j : Nat}
    (hv : Value.okWide Tryd.prog W .any base 23 v) (h : DataW.Trod enc Tryd.prog W 0 (fun _ => true) true 23 v d p)
    (hsz : (DataW.weightsEach Tryd.prog ts ds).all (· ≤ reachBytes) = true) (ht : ts[j]? = some 23) (hd : ds[j]? = some d) : ∃ l, IntsW W v l ∧ l.length * 8 ≤ 140737488355328 := by
  obtain ⟨a0, len0, cap0, rfl⟩ := okWide_slice Tryd.underlying23 hv
  obtain ⟨fuel, hf⟩ := h
  rcases open_slice1 Tryd.underlying23 cellsInt hf with ⟨hcs, hx⟩ | ⟨a, len, cap, m, n, V, D, Pl, hcs, _, hl, hm, hmm, hx, hcell⟩
  · simp [Value.cells] at hcs
    obtain ⟨rfl, rfl, rfl⟩ := hcs
    exact ⟨[], ⟨none, 0, rfl, fun _ => ⟨rfl, rfl⟩, fun h => absurd rfl h⟩, by simp⟩
  · simp [Value.cells] at hcs
    obtain ⟨rfl, rfl, rfl⟩ := hcs
    simp at hmm
    subst hmm
    have hd2 : ds[j]? = some (.slice ((List.range len0).map D) ((List.range (m - len0)).map fun j => D (len0 + j))) := by rw [hd, (Prod.mk.inj hx).1]
    have hs := sized_slice hsz ht hd2 Tryd.underlying23
    rw [bytesIntE] at hs
    simp only [List.length_map, List.length_range, reachBytes] at hs
    refine ⟨(List.range len0).map fun i => intOf (V i), ⟨some a, m, by simp, fun h => by simp at h, fun hne => ?_⟩, by simp; omega⟩
    have hpos : 0 < len0 := by
      rcases Nat.eq_zero_or_pos len0 with h0 | h0
      · subst h0; simp at hne
      · exact h0
    obtain ⟨b, off, spot⟩ := a
    have hspot : spot = none := by simpa [Addr.add] using World.cell?_spot (hcell 0 (by omega)).1
    subst hspot
    refine ⟨b, off, rfl, ?_, fun i hi => ?_⟩
    · have := World.block_lt_of_cell? W _ (hcell 0 (by omega)).1
      simpa [Addr.add] using this
    · simp only [List.length_map, List.length_range] at hi
      obtain ⟨c0, t0⟩ := hcell i (by omega)
      rw [add_plain] at c0
      obtain ⟨x0, e0, _, _⟩ := DataW.trod_int Tryd.underlying3 t0
      simp at e0
      rw [c0]
      simp [List.getD_eq_getElem?_getD, hi, e0, intOf]
end Go.Proofs.YtmoobfkhjfcjbaaDoor
