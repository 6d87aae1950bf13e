/-
  A graph that came in.
-/
import Derived.Test.YtknneajaklcjdaaGraphM
import Derived.Test.YtknneajaklcjdaaRowP
import Derived.Lib.SmallJoins
namespace Go.Proofs.Ytknneajaklcjdaa
open Go.ChangeShapes Go.WideShapes Go.ChangeAt Go.RowKit Go.Deep Go.Joins
open Terms

set_option maxRecDepth 20000 in
theorem bytesInt : Try.prog.bytesOf 3 = 8 := by kernel_rfl
set_option maxRecDepth 20000 in
theorem cellsInts : Try.prog.cellsOf 24 = 1 := by kernel_rfl
set_option maxRecDepth 20000 in
theorem cellsLists : Try.prog.cellsOf 23 = 1 := by kernel_rfl
set_option maxRecDepth 20000 in
theorem bytesInts : Try.prog.bytesOf 24 = 24 := by kernel_rfl
set_option maxRecDepth 20000 in
theorem cellsSpot : Try.prog.cellsOf 60 = 2 := by kernel_rfl
set_option maxRecDepth 20000 in
theorem bytesSpot : Try.prog.bytesOf 60 = 16 := by kernel_rfl
set_option maxRecDepth 20000 in
theorem cellsGraph : Try.prog.cellsOf 26 = 5 := by kernel_rfl
theorem array5 {α : Type} {cs : Array α} (h : cs.size = 5) : ∃ c0 c1 c2 c3 c4, cs = #[c0, c1, c2, c3, c4] := by
  obtain ⟨l⟩ := cs
  match l, h with
  | [c0, c1, c2, c3, c4], _ => exact ⟨c0, c1, c2, c3, c4, rfl⟩

section
variable {H : Type} {enc : TypeId × Value → H} {W : World}
/-- nothing in it is too great. -/
def LightW (t : TypeId) (d : DataW H) : Prop := ∀ n ∈ d.weights Try.prog t, n ≤ reachBytes
set_option maxRecDepth 20000 in
theorem mem_weights {P : Program} {e : TypeId} {x : DataW H} {n : Nat} (hn : n ∈ x.weights P e) : ∀ {l : List (DataW H)}, x ∈ l → n ∈ DataW.weightsAll P e l
  | y :: l, hx => by
    simp only [DataW.weightsAll, List.mem_append]
    rcases List.mem_cons.1 hx with rfl | hx
    · exact .inl hn
    · exact .inr (mem_weights hn hx)
set_option maxRecDepth 20000 in
theorem LightW.slice {t e : TypeId} {elems spare : List (DataW H)} (hu : Try.prog.underlying t = some (.slice e)) (h : LightW t (.slice elems spare)) : (elems.length + spare.length) * Try.prog.bytesOf e ≤ reachBytes ∧ ∀ x ∈ elems, LightW e x := by
  refine ⟨h _ (by simp [DataW.weights, hu]), fun x hx n hn => h n ?_⟩
  simp only [DataW.weights, hu, List.mem_cons, List.mem_append]
  exact .inr (.inl (mem_weights hn hx))
set_option maxRecDepth 20000 in
theorem LightW.agg2 {t : TypeId} {f0 f1 : Field} {x0 x1 : DataW H} (hu : Try.prog.underlying t = some (.struct #[f0, f1])) (h : LightW t (.agg [x0, x1])) : LightW f0.type x0 ∧ LightW f1.type x1 := by
  refine ⟨fun n hn => h n ?_, fun n hn => h n ?_⟩
  · simp [DataW.weights, hu, DataW.weightsEach, hn]
  · simp [DataW.weights, hu, DataW.weightsEach, hn]
set_option maxRecDepth 20000 in
theorem range_getD {α : Type} (f : Nat → α) (d : α) {n i : Nat} (hi : i < n) : ((List.range n).map f).getD i d = f i := by simp [List.getD_eq_getElem?_getD, hi]

set_option maxRecDepth 20000 in
theorem open_ints_c {fuel : Nat} {v : Value} {d : DataW H} {p : List MemPlace} (hf : DataW.trod enc Try.prog W 0 (fun _ => true) true fuel 24 [v] = some (d, p)) (hw : LightW 24 d) : ∃ l, IntsW W v l ∧ l.length * 8 ≤ 140737488355328 := by
  rcases open_slice1 Try.underlying24 cellsInt hf with ⟨hcs, hx⟩ | ⟨a, len, cap, m, n, V, D, Pl, hcs, _, hl, hm, hmm, hx, hcell⟩
  · simp at hcs
    subst hcs
    exact ⟨[], ⟨none, 0, rfl, fun _ => ⟨rfl, rfl⟩, fun h => absurd rfl h⟩, by simp⟩
  · simp at hcs
    subst hcs
    simp at hmm
    subst hmm
    rw [(Prod.mk.inj hx).1] at hw
    have hs := (hw.slice Try.underlying24).1
    rw [bytesInt] at hs
    simp only [List.length_map, List.length_range, reachBytes] at hs
    refine ⟨(List.range len).map fun i => intOf (V i), ⟨some a, m, by simp, fun h => by simp at h, fun hne => ?_⟩, by simp; omega⟩
    have hpos : 0 < len := by
      rcases Nat.eq_zero_or_pos len with h0 | h0
      · subst h0; simp at hne
      · exact h0
    obtain ⟨b, off, spot⟩ := a
    have hspot : spot = none := by simpa [Addr.add] using World.cell?_spot (hcell 0 (by omega)).1
    subst hspot
    refine ⟨b, off, rfl, ?_, fun i hi => ?_⟩
    · have := World.block_lt_of_cell? W _ (hcell 0 (by omega)).1
      simpa [Addr.add] using this
    · simp only [List.length_map, List.length_range] at hi
      obtain ⟨c0, t0⟩ := hcell i (by omega)
      rw [add_plain] at c0
      obtain ⟨x0, e0, _, _⟩ := DataW.trod_int Try.underlying3 t0
      simp at e0
      rw [c0, range_getD _ _ hi, e0]
      rfl

set_option maxRecDepth 20000 in
theorem open_lists_c {fuel : Nat} {v : Value} {d : DataW H} {p : List MemPlace} (hf : DataW.trod enc Try.prog W 0 (fun _ => true) true fuel 23 [v] = some (d, p)) (hw : LightW 23 d) : ∃ ls, ListsW W v ls ∧ ls.length * 24 ≤ 140737488355328 ∧ ∀ i, i < ls.length → (ls.getD i []).length * 8 ≤ 140737488355328 := by
  rcases open_slice1 Try.underlying23 cellsInts hf with ⟨hcs, hx⟩ | ⟨a, len, cap, m, n, V, D, Pl, hcs, _, hl, hm, hmm, hx, hcell⟩
  · simp at hcs
    subst hcs
    exact ⟨[], ⟨[], none, 0, rfl, fun _ => ⟨rfl, rfl⟩, rfl, fun i hi => by simp at hi, fun h => absurd rfl h⟩, by simp, fun i hi => by simp at hi⟩
  · simp at hcs
    subst hcs
    simp at hmm
    subst hmm
    rw [(Prod.mk.inj hx).1] at hw
    obtain ⟨hs, hel⟩ := hw.slice Try.underlying23
    rw [bytesInts] at hs
    simp only [List.length_map, List.length_range, reachBytes] at hs
    obtain ⟨f, hff⟩ := choose_lt (n := len) (p := fun i (l : List Int) => IntsW W (V i) l ∧ l.length * 8 ≤ 140737488355328) (fun i hi => by
      obtain ⟨c0, t0⟩ := hcell i (by omega)
      exact open_ints_c t0 (hel (D i) (by simp only [List.mem_map, List.mem_range]; exact ⟨i, hi, rfl⟩)))
    refine ⟨(List.range len).map f, ⟨(List.range len).map V, some a, m, by simp, fun h => by simp at h, by simp, fun i hi => ?_, fun hne => ?_⟩, by simp; omega, fun i hi => ?_⟩
    · simp only [List.length_map, List.length_range] at hi
      rw [range_getD _ _ hi, range_getD _ _ hi]
      exact (hff i hi).1
    · have hpos : 0 < len := by
        rcases Nat.eq_zero_or_pos len with h0 | h0
        · subst h0; simp at hne
        · exact h0
      obtain ⟨b, off, spot⟩ := a
      have hspot : spot = none := by simpa [Addr.add] using World.cell?_spot (hcell 0 (by omega)).1
      subst hspot
      refine ⟨b, off, rfl, ?_, fun i hi => ?_⟩
      · have := World.block_lt_of_cell? W _ (hcell 0 (by omega)).1
        simpa [Addr.add] using this
      · simp only [List.length_map, List.length_range] at hi
        have c0 := (hcell i (by omega)).1
        rw [add_plain] at c0
        rw [range_getD _ _ hi]
        exact c0
    · simp only [List.length_map, List.length_range] at hi
      rw [range_getD _ _ hi]
      exact (hff i hi).2


set_option maxRecDepth 20000 in
theorem open_spots_c {fuel : Nat} {v : Value} {d : DataW H} {p : List MemPlace} (hf : DataW.trod enc Try.prog W 0 (fun _ => true) true fuel 22 [v] = some (d, p)) (hw : LightW 22 d) : ∃ l, OpsV W v l ∧ l.length * 16 ≤ 140737488355328 := by
  rcases open_slice_pairs Try.underlying22 Try.underlying60 cellsSpot rfl rfl cellsInt cellsInt hf with ⟨hcs, hx⟩ | ⟨a, len, cap, m, n, V0, V1, D0, D1, P0, P1, hcs, _, hl, hm, hmm, hx, hcell⟩
  · simp at hcs
    subst hcs
    exact ⟨[], ⟨none, 0, rfl, ⟨by simp, fun _ => ⟨rfl, rfl⟩⟩, fun h => absurd rfl h⟩, by simp⟩
  · simp at hcs
    subst hcs
    simp at hmm
    subst hmm
    rw [(Prod.mk.inj hx).1] at hw
    have hs := (hw.slice Try.underlying22).1
    rw [bytesSpot] at hs
    simp only [List.length_map, List.length_range, reachBytes] at hs
    refine ⟨(List.range len).map fun i => (intOf (V0 i), intOf (V1 i)), ⟨some a, m, by simp, ⟨by simp; omega, fun h => by simp at h⟩, fun hne => ?_⟩, by simp; omega⟩
    have hpos : 0 < len := by
      rcases Nat.eq_zero_or_pos len with h0 | h0
      · subst h0; simp at hne
      · exact h0
    obtain ⟨b, off, spot⟩ := a
    have hspot : spot = none := by simpa [Addr.add] using World.cell?_spot (hcell 0 (by omega)).1
    subst hspot
    refine ⟨b, off, rfl, ?_, fun i hi => ?_⟩
    · have := World.block_lt_of_cell? W _ (hcell 0 (by omega)).1
      simpa [Addr.add] using this
    · simp only [List.length_map, List.length_range] at hi
      obtain ⟨c0, c1, t0, t1⟩ := hcell i (by omega)
      rw [add_plain] at c0 c1
      obtain ⟨x0, e0, _, _⟩ := DataW.trod_int Try.underlying3 t0
      obtain ⟨x1, e1, _, _⟩ := DataW.trod_int Try.underlying3 t1
      simp at e0 e1
      rw [e0] at c0
      rw [e1] at c1
      rw [show off + (i * 2 + 1) = off + i * 2 + 1 by omega] at c1
      rw [c0, c1]
      simp [List.getD_eq_getElem?_getD, hi, e0, e1, intOf]

/-- the sizes of a graph's lists. -/
structure GrSz (g : Gr) : Prop where
  spots : g.spots.length * 16 ≤ 140737488355328
  next : LisSz g.next
  sets : g.sets.length * 8 ≤ 140737488355328

set_option maxRecDepth 20000 in
/-- A GRAPH THAT CAME IN. -/
theorem open_graph {base : Nat} {v : Value} {d : DataW H} {p : List MemPlace} {ts : List TypeId} {ds : List (DataW H)} {j : Nat}
    (hv : Value.okWide Try.prog W .any base 26 v) (h : DataW.Trod enc Try.prog W 0 (fun _ => true) true 26 v d p)
    (hsz : (DataW.weightsEach Try.prog ts ds).all (· ≤ reachBytes) = true) (ht : ts[j]? = some 26) (hd : ds[j]? = some d) : ∃ sv nv bv g, v = .agg #[sv, .int .i64 g.init, nv, bv, .int .i64 g.many] ∧ GraphW W sv nv bv g ∧ GrSz g := by
  obtain ⟨cs, rfl, hs⟩ := okWide_struct Try.underlying26 hv
  obtain ⟨c0, c1, c2, c3, c4, rfl⟩ := array5 (hs.trans cellsGraph)
  obtain ⟨fuel, hf⟩ := h
  obtain ⟨xs, n, _, hx, hl, hlen, hg⟩ := DataW.trod_struct Try.underlying26 hf
  match xs, hlen with
  | [y0, y1, y2, y3, y4], _ =>
    have g0 : DataW.trod enc Try.prog W 0 (fun _ => true) true n 22 [c0] = some y0 := by simpa [Value.cells, show Try.prog.cellsOf 22 = 1 by kernel_rfl] using hg 0 _ rfl
    have g1 : DataW.trod enc Try.prog W 0 (fun _ => true) true n 3 [c1] = some y1 := by simpa [Value.cells, cellsInt] using hg 1 _ rfl
    have g2 : DataW.trod enc Try.prog W 0 (fun _ => true) true n 23 [c2] = some y2 := by simpa [Value.cells, cellsLists] using hg 2 _ rfl
    have g3 : DataW.trod enc Try.prog W 0 (fun _ => true) true n 24 [c3] = some y3 := by simpa [Value.cells, cellsInts] using hg 3 _ rfl
    have g4 : DataW.trod enc Try.prog W 0 (fun _ => true) true n 3 [c4] = some y4 := by simpa [Value.cells, cellsInt] using hg 4 _ rfl
    have hd' : d = .agg [y0.1, y1.1, y2.1, y3.1, y4.1] := by simpa using congrArg Prod.fst hx
    have hw : LightW 26 (.agg [y0.1, y1.1, y2.1, y3.1, y4.1]) := fun n hn => by
      have := List.all_eq_true.1 hsz _ (DataW.weights_mem_each ht (by rw [hd, hd']) n hn)
      simpa using this
    have w0 : LightW 22 y0.1 := fun n hn => hw n (by simp [DataW.weights, Try.underlying26, DataW.weightsEach, hn])
    have w2 : LightW 23 y2.1 := fun n hn => hw n (by simp [DataW.weights, Try.underlying26, DataW.weightsEach, hn])
    have w3 : LightW 24 y3.1 := fun n hn => hw n (by simp [DataW.weights, Try.underlying26, DataW.weightsEach, hn])
    obtain ⟨ss, s1, s2⟩ := open_spots_c g0 w0
    obtain ⟨ls, l1, l2, l3⟩ := open_lists_c g2 w2
    obtain ⟨bs, b1, b2⟩ := open_ints_c g3 w3
    obtain ⟨x1, e1, _, _⟩ := DataW.trod_int Try.underlying3 g1
    obtain ⟨x4, e4, _, _⟩ := DataW.trod_int Try.underlying3 g4
    simp at e1 e4
    exact ⟨c0, c2, c3, ⟨ss, x1, ls, bs, x4⟩, by rw [e1, e4], ⟨s1, l1, b1⟩, ⟨s2, ⟨l2, l3⟩, b2⟩⟩
end
end Go.Proofs.Ytknneajaklcjdaa
