/-
  A store that came in; the store's own copies.
-/
import Derived.Test.YtncfkpfbjenpjaaUMem
namespace Go.Proofs.Ytncfkpfbjenpjaa
open Go.ChangeShapes Go.WideShapes Go.ChangeAt Go.RowKit Go.Deep Go.Joins

theorem array2 {α : Type} {cs : Array α} (h : cs.size = 2) : ∃ c0 c1, cs = #[c0, c1] := by
  obtain ⟨l⟩ := cs
  match l, h with
  | [c0, c1], _ => exact ⟨c0, c1, rfl⟩
theorem choose_lt {α : Type} [Inhabited α] {n : Nat} {p : Nat → α → Prop} (h : ∀ i, i < n → ∃ x, p i x) : ∃ f : Nat → α, ∀ i, i < n → p i (f i) := by
  classical
  exact ⟨fun i => if hi : i < n then (h i hi).choose else default, fun i hi => by simp only [hi, dif_pos]; exact (h i hi).choose_spec⟩
/-- no list is too long for a machine. -/
structure StSz (lo : List Int) (rs : List (List Int)) : Prop where
  loose : lo.length * 8 ≤ 140737488355328
  runs : rs.length * 24 ≤ 140737488355328
  each : ∀ i, i < rs.length → (rs.getD i []).length * 8 ≤ 140737488355328
section
variable {H : Type} {enc : TypeId × Value → H} {W : World}
set_option maxRecDepth 20000 in
theorem open_lists_c {fuel : Nat} {v : Value} {d : DataW H} {p : List MemPlace} (hf : DataW.trod enc Try.prog W 0 (fun _ => true) true fuel 23 [v] = some (d, p)) (hw : LightW 23 d) : ∃ ls, LisV W v ls ∧ ls.length * 24 ≤ 140737488355328 ∧ ∀ i, i < ls.length → (ls.getD i []).length * 8 ≤ 140737488355328 := by
  rcases open_slice1 Try.underlying23 cellsInts hf with ⟨hcs, hx⟩ | ⟨a, len, cap, m, n, V, D, Pl, hcs, _, hl, hm, hmm, hx, hcell⟩
  · simp at hcs
    subst hcs
    exact ⟨[], LisV.nil W, by simp, fun i hi => by simp at hi⟩
  · simp at hcs
    subst hcs
    simp at hmm
    subst hmm
    rw [(Prod.mk.inj hx).1] at hw
    obtain ⟨hs, hel⟩ := hw.slice Try.underlying23
    rw [bytesInts] at hs
    simp only [List.length_map, List.length_range, reachBytes] at hs
    obtain ⟨f, hff⟩ := choose_lt (n := len) (p := fun i (l : List Int) => IntsV W (V i) l ∧ l.length * 8 ≤ 140737488355328) (fun i hi => by
      obtain ⟨c0, t0⟩ := hcell i (by omega)
      exact open_ints_c t0 (hel (D i) (by simp only [List.mem_map, List.mem_range]; exact ⟨i, hi, rfl⟩)))
    refine ⟨(List.range len).map f, ⟨(List.range len).map V, some a, m, by simp, ⟨by simp; omega, fun h => by simp at h⟩, by simp, fun i hi => ?_, fun hne => ?_⟩, by simp; omega, fun i hi => ?_⟩
    · simp only [List.length_map, List.length_range] at hi
      rw [range_getD _ _ hi, range_getD _ _ hi]
      exact (hff i hi).1
    · have hpos : 0 < len := by
        rcases Nat.eq_zero_or_pos len with h0 | h0
        · subst h0; simp at hne
        · exact h0
      obtain ⟨b, off, spot⟩ := a
      have hspot : spot = none := by simpa [Addr.add] using World.cell?_spot (hcell 0 (by omega)).1
      subst hspot
      refine ⟨b, off, rfl, ?_, fun i hi => ?_⟩
      · have := World.block_lt_of_cell? W _ (hcell 0 (by omega)).1
        simpa [Addr.add] using this
      · simp only [List.length_map, List.length_range] at hi
        have c0 := (hcell i (by omega)).1
        rw [add_plain] at c0
        rw [range_getD _ _ hi]
        exact c0
    · simp only [List.length_map, List.length_range] at hi
      rw [range_getD _ _ hi]
      exact (hff i hi).2
set_option maxRecDepth 20000 in
theorem open_store {base : Nat} {v : Value} {d : DataW H} {p : List MemPlace} {ts : List TypeId} {ds : List (DataW H)} {j : Nat}
    (hv : Value.okWide Try.prog W .any base 25 v) (h : DataW.Trod enc Try.prog W 0 (fun _ => true) true 25 v d p)
    (hsz : (DataW.weightsEach Try.prog ts ds).all (· ≤ reachBytes) = true) (ht : ts[j]? = some 25) (hd : ds[j]? = some d) : ∃ lv rv lo rs, v = .agg #[lv, rv] ∧ IntsV W lv lo ∧ LisV W rv rs ∧ StSz lo rs := by
  obtain ⟨cs, rfl, hs⟩ := okWide_struct Try.underlying25 hv
  obtain ⟨c0, c1, rfl⟩ := array2 (hs.trans cellsStore)
  obtain ⟨fuel, hf⟩ := h
  obtain ⟨xs, n, _, hx, hl, hlen, hg⟩ := DataW.trod_struct Try.underlying25 hf
  match xs, hlen with
  | [y0, y1], _ =>
    have g0 : DataW.trod enc Try.prog W 0 (fun _ => true) true n 22 [c0] = some y0 := by simpa [Value.cells, cellsInts] using hg 0 _ rfl
    have g1 : DataW.trod enc Try.prog W 0 (fun _ => true) true n 23 [c1] = some y1 := by simpa [Value.cells, cellsInts, cellsLists] using hg 1 _ rfl
    have hd' : d = .agg [y0.1, y1.1] := by simpa using congrArg Prod.fst hx
    have hw : LightW 25 (.agg [y0.1, y1.1]) := by have := light_of hsz ht hd; rwa [hd'] at this
    have w0 : LightW 22 y0.1 := fun n hn => hw n (by simp [DataW.weights, Try.underlying25, DataW.weightsEach, hn])
    have w1 : LightW 23 y1.1 := fun n hn => hw n (by simp [DataW.weights, Try.underlying25, DataW.weightsEach, hn])
    obtain ⟨lo, h1, h2⟩ := open_ints_c g0 w0
    obtain ⟨rs, h3, h4, h5⟩ := open_lists_c g1 w1
    exact ⟨c0, c1, lo, rs, rfl, h1, h3, ⟨h2, h4, h5⟩⟩
end

set_option maxRecDepth 20000 in
/-- THE CONTRACT OF copied. -/
theorem copied_any (v : Value) (l : List Int) (w : World) (hl : l.length * 8 ≤ 140737488355328) (hV : IntsV w v l) :
    Calls Try.prog 19 #[v] w fun e w' => ∃ ao cap, e = .returned (.slice ao l.length cap) ∧ Below w.heap.size w w' ∧ Hid (w'.ownsRow w.heap.size 3 1 (.slice ao l.length cap) l.length (ivals l)) := by
  have hV' := hV
  obtain ⟨ao, cap, rfl, ⟨_, h0⟩, h⟩ := hV
  obtain ⟨i0, hi, hz0, hz1, hz2⟩ := info_parts infoInt
  cases ao with
  | none =>
    obtain ⟨rfl, rfl⟩ := h0 rfl
    simp only [List.length_nil]
    clear hV' h
    go_enter Try.func19, Try.ntmps19
    go_wp2_with (at_builtin; refine wpList_append_own_none rfl _ _ 22 rfl w.heap.size 3 i0 1 Try.underlying22 hi _ _ _ rfl (World.ownsRow_nil _ _ _ _) rfl ?_)
    go_ret
    exact ⟨none, 0, rfl, Below.refl _ _, World.ownsRow_nil _ _ _ _⟩
  | some a =>
    have hcells := hV'.cells
    clear h h0 hV'
    go_enter Try.func19, Try.ntmps19
    go_wp2_with (at_builtin; refine wpList_append_own _ rfl _ _ 22 rfl w.heap.size 3 i0 (.int .i64 0) 1 8 Try.underlying22 hi hz0 hz1 hz2 rfl (by decide) _ _ _ rfl (World.ownsRow_nil _ _ _ _) a l.length cap (ivals l) rfl ?c0 hcells (ivals_one l) ?c3 ?c4 ?c5 ?_)
    case c0 => simp [ivals]
    case c3 => unfold maxLen; omega
    case c4 => omega
    case c5 => exact Nat.le_refl _
    intro v' w4 hown' hgrow _
    have hb : Below w.heap.size w w4 := (Below.refl _ _).grown hgrow (Nat.le_refl _) (fun q hq => by simp [Value.ownBlock] at hq)
    obtain ⟨a4, c4, rfl⟩ := owns_slice hown'
    have HO : Hid (w4.ownsRow w.heap.size 3 1 (.slice a4 l.length c4) l.length (ivals l)) := hown'
    clear hgrow hcells hown'
    go_wp2
    go_ret
    exact ⟨a4, c4, rfl, hb, HO⟩
end Go.Proofs.Ytncfkpfbjenpjaa
