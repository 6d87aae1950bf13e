/-
  A graph that came in, and how many entries its lists have in all: no more than its bulk.
-/
import Derived.Test.YtknneajaklcjdaaGOpen
import Derived.Test.YtknneajaklcjdaaRefTurn
namespace Go.Proofs.Ytknneajaklcjdaa
open Go.ChangeShapes Go.WideShapes Go.ChangeAt Go.RowKit Go.Deep Go.Joins
open Terms

section
variable {H : Type} {enc : TypeId × Value → H} {W : World}
theorem bulk_one (d : DataW H) : 1 ≤ Rows.uptoBulk d := by
  cases d with
  | lit l => cases l <;> simp [Rows.uptoBulk]
  | nil => simp [Rows.uptoBulk]
  | ptr d => simp [Rows.uptoBulk]
  | slice elems spare => simp [Rows.uptoBulk]
  | agg parts => simp [Rows.uptoBulk]
  | iface t d => simp [Rows.uptoBulk]
  | map entries => simp [Rows.uptoBulk]
  | held h => simp [Rows.uptoBulk]
theorem bulk_app (l r : List (DataW H)) : Rows.uptoBulkAll (l ++ r) = Rows.uptoBulkAll l + Rows.uptoBulkAll r := by
  induction l with
  | nil => simp [Rows.uptoBulkAll]
  | cons x l ih => simp only [List.cons_append, Rows.uptoBulkAll, ih]; omega
theorem bulk_len (l : List (DataW H)) : l.length ≤ Rows.uptoBulkAll l := by
  induction l with
  | nil => simp [Rows.uptoBulkAll]
  | cons x r ih => have := bulk_one x; simp only [Rows.uptoBulkAll, List.length_cons]; omega
theorem tot_bulk {nx : Nat → List Nat} {D : Nat → DataW H} : ∀ {n : Nat}, (∀ i, i < n → (nx i).length ≤ Rows.uptoBulk (D i)) → totN nx n ≤ Rows.uptoBulkAll ((List.range n).map D)
  | 0, _ => by simp [totN]
  | n + 1, h => by
    rw [List.range_succ, List.map_append, bulk_app]
    have h1 := tot_bulk (nx := nx) (D := D) (n := n) (fun i hi => h i (by omega))
    have h2 := h n (by omega)
    show totN nx n + _ ≤ _
    simp only [List.map_cons, List.map_nil, Rows.uptoBulkAll]
    omega
set_option maxRecDepth 20000 in
theorem open_ints_cB {fuel : Nat} {v : Value} {d : DataW H} {p : List MemPlace} (hf : DataW.trod enc Try.prog W 0 (fun _ => true) true fuel 24 [v] = some (d, p)) (hw : LightW 24 d) : ∃ l, IntsW W v l ∧ l.length * 8 ≤ 140737488355328 ∧ l.length ≤ Rows.uptoBulk d := by
  rcases open_slice1 Try.underlying24 cellsInt hf with ⟨hcs, hx⟩ | ⟨a, len, cap, m, n, V, D, Pl, hcs, _, hl, hm, hmm, hx, hcell⟩
  · simp at hcs
    subst hcs
    exact ⟨[], ⟨none, 0, rfl, fun _ => ⟨rfl, rfl⟩, fun h => absurd rfl h⟩, by simp, by simp⟩
  · simp at hcs
    subst hcs
    simp at hmm
    subst hmm
    rw [(Prod.mk.inj hx).1] at hw
    have hs := (hw.slice Try.underlying24).1
    rw [bytesInt] at hs
    simp only [List.length_map, List.length_range, reachBytes] at hs
    refine ⟨(List.range len).map fun i => intOf (V i), ⟨some a, m, by simp, fun h => by simp at h, fun hne => ?_⟩, by simp; omega, ?_⟩
    rotate_left
    · rw [(Prod.mk.inj hx).1]
      have h9 := bulk_len ((List.range len).map D)
      simp only [List.length_map, List.length_range] at h9 ⊢
      simp only [Rows.uptoBulk]
      omega
    have hpos : 0 < len := by
      rcases Nat.eq_zero_or_pos len with h0 | h0
      · subst h0; simp at hne
      · exact h0
    obtain ⟨b, off, spot⟩ := a
    have hspot : spot = none := by simpa [Addr.add] using World.cell?_spot (hcell 0 (by omega)).1
    subst hspot
    refine ⟨b, off, rfl, ?_, fun i hi => ?_⟩
    · have := World.block_lt_of_cell? W _ (hcell 0 (by omega)).1
      simpa [Addr.add] using this
    · simp only [List.length_map, List.length_range] at hi
      obtain ⟨c0, t0⟩ := hcell i (by omega)
      rw [add_plain] at c0
      obtain ⟨x0, e0, _, _⟩ := DataW.trod_int Try.underlying3 t0
      simp at e0
      rw [c0, range_getD _ _ hi, e0]
      rfl

set_option maxRecDepth 20000 in
theorem open_lists_cB {fuel : Nat} {v : Value} {d : DataW H} {p : List MemPlace} (hf : DataW.trod enc Try.prog W 0 (fun _ => true) true fuel 23 [v] = some (d, p)) (hw : LightW 23 d) : ∃ ls, ListsW W v ls ∧ ls.length * 24 ≤ 140737488355328 ∧ (∀ i, i < ls.length → (ls.getD i []).length * 8 ≤ 140737488355328) ∧ ∀ nx : Nat → List Nat, (∀ i, i < ls.length → (nx i).length = (ls.getD i []).length) → totN nx ls.length ≤ Rows.uptoBulk d := by
  rcases open_slice1 Try.underlying23 cellsInts hf with ⟨hcs, hx⟩ | ⟨a, len, cap, m, n, V, D, Pl, hcs, _, hl, hm, hmm, hx, hcell⟩
  · simp at hcs
    subst hcs
    exact ⟨[], ⟨[], none, 0, rfl, fun _ => ⟨rfl, rfl⟩, rfl, fun i hi => by simp at hi, fun h => absurd rfl h⟩, by simp, (fun i hi => by simp at hi), fun nx _ => Nat.zero_le _⟩
  · simp at hcs
    subst hcs
    simp at hmm
    subst hmm
    rw [(Prod.mk.inj hx).1] at hw
    obtain ⟨hs, hel⟩ := hw.slice Try.underlying23
    rw [bytesInts] at hs
    simp only [List.length_map, List.length_range, reachBytes] at hs
    obtain ⟨f, hff⟩ := choose_lt (n := len) (p := fun i (l : List Int) => IntsW W (V i) l ∧ l.length * 8 ≤ 140737488355328 ∧ l.length ≤ Rows.uptoBulk (D i)) (fun i hi => by
      obtain ⟨c0, t0⟩ := hcell i (by omega)
      exact open_ints_cB t0 (hel (D i) (by simp only [List.mem_map, List.mem_range]; exact ⟨i, hi, rfl⟩)))
    refine ⟨(List.range len).map f, ⟨(List.range len).map V, some a, m, by simp, fun h => by simp at h, by simp, fun i hi => ?_, fun hne => ?_⟩, by simp; omega, fun i hi => ?_, fun nx hnx => ?_⟩
    · simp only [List.length_map, List.length_range] at hi
      rw [range_getD _ _ hi, range_getD _ _ hi]
      exact (hff i hi).1
    · have hpos : 0 < len := by
        rcases Nat.eq_zero_or_pos len with h0 | h0
        · subst h0; simp at hne
        · exact h0
      obtain ⟨b, off, spot⟩ := a
      have hspot : spot = none := by simpa [Addr.add] using World.cell?_spot (hcell 0 (by omega)).1
      subst hspot
      refine ⟨b, off, rfl, ?_, fun i hi => ?_⟩
      · have := World.block_lt_of_cell? W _ (hcell 0 (by omega)).1
        simpa [Addr.add] using this
      · simp only [List.length_map, List.length_range] at hi
        have c0 := (hcell i (by omega)).1
        rw [add_plain] at c0
        rw [range_getD _ _ hi]
        exact c0
    · simp only [List.length_map, List.length_range] at hi
      rw [range_getD _ _ hi]
      exact (hff i hi).2.1
    · simp only [List.length_map, List.length_range] at hnx ⊢
      have h9 := tot_bulk (nx := nx) (D := D) (n := len) (fun i hi => by
        rw [hnx i hi, range_getD _ _ hi]
        exact (hff i hi).2.2)
      rw [(Prod.mk.inj hx).1]
      simp only [Rows.uptoBulk]
      omega

set_option maxRecDepth 20000 in
/-- A GRAPH THAT CAME IN. -/
theorem open_graphB {base : Nat} {v : Value} {d : DataW H} {p : List MemPlace} {ts : List TypeId} {ds : List (DataW H)} {j : Nat}
    (hv : Value.okWide Try.prog W .any base 26 v) (h : DataW.Trod enc Try.prog W 0 (fun _ => true) true 26 v d p)
    (hsz : (DataW.weightsEach Try.prog ts ds).all (· ≤ reachBytes) = true) (ht : ts[j]? = some 26) (hd : ds[j]? = some d) : ∃ sv nv bv g, v = .agg #[sv, .int .i64 g.init, nv, bv, .int .i64 g.many] ∧ GraphW W sv nv bv g ∧ GrSz g ∧ totN (nxt g) g.next.length ≤ Rows.uptoBulk d := by
  obtain ⟨cs, rfl, hs⟩ := okWide_struct Try.underlying26 hv
  obtain ⟨c0, c1, c2, c3, c4, rfl⟩ := array5 (hs.trans cellsGraph)
  obtain ⟨fuel, hf⟩ := h
  obtain ⟨xs, n, _, hx, hl, hlen, hg⟩ := DataW.trod_struct Try.underlying26 hf
  match xs, hlen with
  | [y0, y1, y2, y3, y4], _ =>
    have g0 : DataW.trod enc Try.prog W 0 (fun _ => true) true n 22 [c0] = some y0 := by simpa [Value.cells, show Try.prog.cellsOf 22 = 1 by kernel_rfl] using hg 0 _ rfl
    have g1 : DataW.trod enc Try.prog W 0 (fun _ => true) true n 3 [c1] = some y1 := by simpa [Value.cells, cellsInt] using hg 1 _ rfl
    have g2 : DataW.trod enc Try.prog W 0 (fun _ => true) true n 23 [c2] = some y2 := by simpa [Value.cells, cellsLists] using hg 2 _ rfl
    have g3 : DataW.trod enc Try.prog W 0 (fun _ => true) true n 24 [c3] = some y3 := by simpa [Value.cells, cellsInts] using hg 3 _ rfl
    have g4 : DataW.trod enc Try.prog W 0 (fun _ => true) true n 3 [c4] = some y4 := by simpa [Value.cells, cellsInt] using hg 4 _ rfl
    have hd' : d = .agg [y0.1, y1.1, y2.1, y3.1, y4.1] := by simpa using congrArg Prod.fst hx
    have hw : LightW 26 (.agg [y0.1, y1.1, y2.1, y3.1, y4.1]) := fun n hn => by
      have := List.all_eq_true.1 hsz _ (DataW.weights_mem_each ht (by rw [hd, hd']) n hn)
      simpa using this
    have w0 : LightW 22 y0.1 := fun n hn => hw n (by simp [DataW.weights, Try.underlying26, DataW.weightsEach, hn])
    have w2 : LightW 23 y2.1 := fun n hn => hw n (by simp [DataW.weights, Try.underlying26, DataW.weightsEach, hn])
    have w3 : LightW 24 y3.1 := fun n hn => hw n (by simp [DataW.weights, Try.underlying26, DataW.weightsEach, hn])
    obtain ⟨ss, s1, s2⟩ := open_spots_c g0 w0
    obtain ⟨ls, l1, l2, l3, l4⟩ := open_lists_cB g2 w2
    obtain ⟨bs, b1, b2⟩ := open_ints_c g3 w3
    obtain ⟨x1, e1, _, _⟩ := DataW.trod_int Try.underlying3 g1
    obtain ⟨x4, e4, _, _⟩ := DataW.trod_int Try.underlying3 g4
    simp at e1 e4
    refine ⟨c0, c2, c3, ⟨ss, x1, ls, bs, x4⟩, by rw [e1, e4], ⟨s1, l1, b1⟩, ⟨s2, ⟨l2, l3⟩, b2⟩, ?_⟩
    have h9 := l4 (nxt ⟨ss, x1, ls, bs, x4⟩) (fun i _ => nxt_length _ _)
    rw [hd']
    simp only [Rows.uptoBulk, Rows.uptoBulkAll]
    show totN _ ls.length ≤ _
    omega
end
end Go.Proofs.Ytknneajaklcjdaa
