/-
  Raw graphs that came in.
-/
import Derived.Test.YtdmclgbmdhhdiaaGOpen
import Derived.Test.YtdmclgbmdhhdiaaPickedP
namespace Go.Proofs.Ytdmclgbmdhhdiaa
open Go.ChangeShapes Go.WideShapes Go.ChangeAt Go.RowKit Go.Deep Go.Joins
open Terms

/-- a list of raw numbers that came in. -/
structure IntsR (w : World) (v : Value) (l : List Int) : Prop where
  v : IntsV w v l
  size : l.length * 8 ≤ 140737488355328
  range : ∀ i, i < l.length → I64 (l.getD i 0)
theorem IntsR.below {w w' : World} {v : Value} {l : List Int} (h : IntsR w v l) (hb : Below w.heap.size w w') : IntsR w' v l := ⟨h.v.below hb, h.size, h.range⟩
/-- lists of such. -/
def ListsR (w : World) (v : Value) (ls : List (List Int)) : Prop := ∃ (us : List Value) (ao : Option Addr) (cap : Nat), v = .slice ao ls.length cap ∧ us.length = ls.length ∧ (∀ i, i < ls.length → IntsR w (us.getD i nilV) (ls.getD i [])) ∧ (ls ≠ [] → ∃ b off, ao = some ⟨b, off, none⟩ ∧ b < w.heap.size ∧ ∀ i, i < ls.length → w.cell? ⟨b, off + i, none⟩ = some (us.getD i nilV))
theorem ListsR.below {w w' : World} {v : Value} {ls : List (List Int)} (h : ListsR w v ls) (hb : Below w.heap.size w w') : ListsR w' v ls := by
  obtain ⟨us, ao, cap, h1, h3, h4, h5⟩ := h
  refine ⟨us, ao, cap, h1, h3, fun i hi => (h4 i hi).below hb, fun hne => ?_⟩
  obtain ⟨b, off, e, hlt, hat⟩ := h5 hne
  exact ⟨b, off, e, Nat.lt_of_lt_of_le hlt hb.size, fun i hi => (hb.cell (p := ⟨b, _, none⟩) hlt).trans (hat i hi)⟩
theorem ListsR.at {w : World} {ao : Option Addr} {cap n : Nat} {ls : List (List Int)} (h : ListsR w (.slice ao n cap) ls) {i : Nat} (hi : i < ls.length) : ∃ b off, ao = some ⟨b, off, none⟩ ∧ b < w.heap.size ∧ ∃ uo uc, w.cell? ⟨b, off + i, none⟩ = some (.slice uo (ls.getD i []).length uc) ∧ IntsR w (.slice uo (ls.getD i []).length uc) (ls.getD i []) := by
  obtain ⟨us, ao', cap', hv, _, h4, h⟩ := h
  injection hv with e1 e2 e3
  subst e1
  obtain ⟨b, off, e, hlt, hat⟩ := h (by rintro rfl; simp at hi)
  have h5 := h4 i hi
  have h6 := hat i hi
  obtain ⟨uo, uc, hu, _⟩ := h5.v
  rw [hu] at h5 h6
  exact ⟨b, off, e, hlt, uo, uc, h6, h5⟩
section
variable {H : Type} {enc : TypeId × Value → H} {W : World}
set_option maxRecDepth 20000 in
theorem open_ints_r {fuel : Nat} {v : Value} {d : DataW H} {p : List MemPlace} (hf : DataW.trod enc Try.prog W 0 (fun _ => true) true fuel 23 [v] = some (d, p)) (hw : LightW 23 d) : ∃ l, IntsR W v l := by
  rcases open_slice1 Try.underlying23 cellsInt hf with ⟨hcs, hx⟩ | ⟨a, len, cap, m, n, V, D, Pl, hcs, _, hl, hm, hmm, hx, hcell⟩
  · simp at hcs
    subst hcs
    exact ⟨[], ⟨none, 0, rfl, fun h => absurd rfl h⟩, by simp, fun i hi => by simp at hi⟩
  · simp at hcs
    subst hcs
    simp at hmm
    subst hmm
    rw [(Prod.mk.inj hx).1] at hw
    have hs := (hw.slice Try.underlying23).1
    rw [bytesInt] at hs
    simp only [List.length_map, List.length_range, reachBytes] at hs
    have each : ∀ i, i < len → ∃ x0, W.cell? (a.add i) = some (.int .i64 x0) ∧ V i = .int .i64 x0 ∧ I64 x0 := by
      intro i hi
      obtain ⟨c0, t0⟩ := hcell i (by omega)
      obtain ⟨x0, e0, _, w0⟩ := DataW.trod_int Try.underlying3 t0
      simp at e0
      exact ⟨x0, by rw [c0, e0], e0, by simpa [I64, Lit.wf, IntKind.min, IntKind.max, IntKind.signed, IntKind.bits] using w0⟩
    refine ⟨(List.range len).map fun i => intOf (V i), ⟨some a, m, by simp, fun hne => ?_⟩, by simp; omega, fun i hi => ?_⟩
    · have hpos : 0 < len := by
        rcases Nat.eq_zero_or_pos len with h0 | h0
        · subst h0; simp at hne
        · exact h0
      obtain ⟨b, off, spot⟩ := a
      have hspot : spot = none := by simpa [Addr.add] using World.cell?_spot (hcell 0 (by omega)).1
      subst hspot
      refine ⟨b, off, rfl, ?_, fun i hi => ?_⟩
      · have := World.block_lt_of_cell? W _ (hcell 0 (by omega)).1
        simpa [Addr.add] using this
      · simp only [List.length_map, List.length_range] at hi
        obtain ⟨x0, c0, e0, _⟩ := each i hi
        rw [add_plain] at c0
        rw [c0, range_getD _ _ hi, e0]
        rfl
    · simp only [List.length_map, List.length_range] at hi
      obtain ⟨x0, _, e0, h0⟩ := each i hi
      rw [range_getD _ _ hi, e0]
      exact h0
set_option maxRecDepth 20000 in
theorem open_lists_r {fuel : Nat} {v : Value} {d : DataW H} {p : List MemPlace} (hf : DataW.trod enc Try.prog W 0 (fun _ => true) true fuel 22 [v] = some (d, p)) (hw : LightW 22 d) : ∃ ls, ListsR W v ls ∧ ls.length * 24 ≤ 140737488355328 := by
  rcases open_slice1 Try.underlying22 cellsInts hf with ⟨hcs, hx⟩ | ⟨a, len, cap, m, n, V, D, Pl, hcs, _, hl, hm, hmm, hx, hcell⟩
  · simp at hcs
    subst hcs
    exact ⟨[], ⟨[], none, 0, rfl, rfl, fun i hi => by simp at hi, fun h => absurd rfl h⟩, by simp⟩
  · simp at hcs
    subst hcs
    simp at hmm
    subst hmm
    rw [(Prod.mk.inj hx).1] at hw
    obtain ⟨hs, hel⟩ := hw.slice Try.underlying22
    rw [bytesInts] at hs
    simp only [List.length_map, List.length_range, reachBytes] at hs
    obtain ⟨f, hff⟩ := choose_lt (n := len) (p := fun i (l : List Int) => IntsR W (V i) l) (fun i hi => by
      obtain ⟨c0, t0⟩ := hcell i (by omega)
      exact open_ints_r t0 (hel (D i) (by simp only [List.mem_map, List.mem_range]; exact ⟨i, hi, rfl⟩)))
    refine ⟨(List.range len).map f, ⟨(List.range len).map V, some a, m, by simp, by simp, fun i hi => ?_, fun hne => ?_⟩, by simp; omega⟩
    · simp only [List.length_map, List.length_range] at hi
      rw [range_getD _ _ hi, range_getD _ _ hi]
      exact hff i hi
    · have hpos : 0 < len := by
        rcases Nat.eq_zero_or_pos len with h0 | h0
        · subst h0; simp at hne
        · exact h0
      obtain ⟨b, off, spot⟩ := a
      have hspot : spot = none := by simpa [Addr.add] using World.cell?_spot (hcell 0 (by omega)).1
      subst hspot
      refine ⟨b, off, rfl, ?_, fun i hi => ?_⟩
      · have := World.block_lt_of_cell? W _ (hcell 0 (by omega)).1
        simpa [Addr.add] using this
      · simp only [List.length_map, List.length_range] at hi
        have c0 := (hcell i (by omega)).1
        rw [add_plain] at c0
        rw [range_getD _ _ hi]
        exact c0



set_option maxRecDepth 20000 in
theorem cellsWires : Try.prog.cellsOf 25 = 4 := by kernel_rfl
set_option maxRecDepth 20000 in
/-- A RAW GRAPH THAT CAME IN. -/
theorem open_wires {base : Nat} {v : Value} {d : DataW H} {p : List MemPlace} {ts : List TypeId} {ds : List (DataW H)} {j : Nat}
    (hv : Value.okWide Try.prog W .any base 25 v) (h : DataW.Trod enc Try.prog W 0 (fun _ => true) true 25 v d p)
    (hsz : (DataW.weightsEach Try.prog ts ds).all (· ≤ reachBytes) = true) (ht : ts[j]? = some 25) (hd : ds[j]? = some d) : ∃ nv bv ls bs wi wm, v = .agg #[nv, bv, .int .i64 wi, .int .i64 wm] ∧ ListsR W nv ls ∧ ls.length * 24 ≤ 140737488355328 ∧ IntsR W bv bs ∧ I64 wi ∧ I64 wm := by
  obtain ⟨v0, v1, v2, v3, y0, y1, y2, y3, n, rfl, rfl, _, h0, h1, h2, h3⟩ := open_agg4 Try.underlying25 (by kernel_rfl) cellsWires hv h
  have hw : LightW 25 (.agg [y0.1, y1.1, y2.1, y3.1]) := fun n hn => by
    have := List.all_eq_true.1 hsz _ (DataW.weights_mem_each ht hd n hn)
    simpa using this
  have w0 : LightW 22 y0.1 := fun n hn => hw n (by simp [DataW.weights, Try.underlying25, DataW.weightsEach, hn])
  have w1 : LightW 23 y1.1 := fun n hn => hw n (by simp [DataW.weights, Try.underlying25, DataW.weightsEach, hn])
  obtain ⟨ls, l1, l2⟩ := open_lists_r h0 w0
  obtain ⟨bs, b1⟩ := open_ints_r h1 w1
  obtain ⟨x2, e2, _, f2⟩ := DataW.trod_int Try.underlying3 h2
  obtain ⟨x3, e3, _, f3⟩ := DataW.trod_int Try.underlying3 h3
  simp at e2 e3
  exact ⟨v0, v1, ls, bs, x2, x3, by rw [e2, e3], l1, l2, b1, by simpa [I64, Lit.wf, IntKind.min, IntKind.max, IntKind.signed, IntKind.bits] using f2, by simpa [I64, Lit.wf, IntKind.min, IntKind.max, IntKind.signed, IntKind.bits] using f3⟩
end
end Go.Proofs.Ytdmclgbmdhhdiaa
