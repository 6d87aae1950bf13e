/-
  Words that came in, and the laws' own copy of one.
-/
import Derived.Test.YtoeagklgfaoejaaDoorLetters
import Derived.Test.YtoeagklgfaoejaaDoorBoolsOf
import Derived.Test.YtoeagklgfaoejaaDoorWordM
import Derived.Deep.RegionHeld3
namespace Go.Proofs.YtoeagklgfaoejaaDoor
open Go.ChangeShapes Go.WideShapes Go.ChangeAt Go.RowKit Go.Deep Go.Joins
open Terms

/-- letters as they came in. -/
def LettersW (w : World) (v : Value) (ls : List (List Bool)) : Prop := ∃ (us : List Value) (ao : Option Addr) (cap : Nat), v = .slice ao ls.length cap ∧ (ao = none → cap = 0 ∧ ls = []) ∧ us.length = ls.length ∧ (∀ i, i < ls.length → BoolsW w (us.getD i nilV) (ls.getD i [])) ∧ (ls ≠ [] → ∃ b off, ao = some ⟨b, off, none⟩ ∧ b < w.heap.size ∧ ∀ i, i < ls.length → w.cell? ⟨b, off + i, none⟩ = some (us.getD i nilV))
theorem LettersW.v {w : World} {v : Value} {ls : List (List Bool)} (h : LettersW w v ls) : LettersV w v ls := by
  obtain ⟨us, ao, cap, h1, h2, h3, h4, h5⟩ := h
  exact ⟨us, ao, cap, h1, h2, ⟨h3, fun i hi => (h4 i hi).v⟩, h5⟩
theorem LettersW.below {w w' : World} {v : Value} {ls : List (List Bool)} (h : LettersW w v ls) (hb : Below w.heap.size w w') : LettersW w' v ls := by
  obtain ⟨us, ao, cap, h1, h2, h3, h4, h5⟩ := h
  refine ⟨us, ao, cap, h1, h2, h3, fun i hi => (h4 i hi).below hb, fun hne => ?_⟩
  obtain ⟨b, off, e, hlt, hat⟩ := h5 hne
  exact ⟨b, off, e, Nat.lt_of_lt_of_le hlt hb.size, fun i hi => (hb.cell (p := ⟨b, _, none⟩) hlt).trans (hat i hi)⟩
theorem LettersW.at {w : World} {ao : Option Addr} {cap n : Nat} {ls : List (List Bool)} (h : LettersW w (.slice ao n cap) ls) {i : Nat} (hi : i < ls.length) : ∃ b off, ao = some ⟨b, off, none⟩ ∧ b < w.heap.size ∧ ∃ u, w.cell? ⟨b, off + i, none⟩ = some u ∧ BoolsW w u (ls.getD i []) := by
  obtain ⟨us, ao', cap', hv, _, _, h4, h⟩ := h
  injection hv with e1 e2 e3
  subst e1
  obtain ⟨b, off, e, hlt, hat⟩ := h (by rintro rfl; simp at hi)
  exact ⟨b, off, e, hlt, _, hat i hi, h4 i hi⟩

/-- letters in memory of the call's own. -/
def LettersOwn (w : World) (base : Nat) (v : Value) (ls : List (List Bool)) : Prop :=
  ∃ us : List Value, w.ownsRow base 39 1 v ls.length us ∧ ∀ j, j < ls.length → w.ownsRow base 4 1 (us.getD j nilV) (ls.getD j []).length (bvals (ls.getD j []))
theorem LettersOwn.nil (w : World) (base : Nat) : LettersOwn w base (.slice none 0 0) [] := ⟨[], World.ownsRow_nil _ _ _ _, fun j hj => by simp at hj⟩
theorem LettersOwn.later {w w' : World} {base B : Nat} {v : Value} {ls : List (List Bool)} (h : LettersOwn w base v ls) (hb : Below B w w') (hB : w.heap.size ≤ B) : LettersOwn w' base v ls := by
  obtain ⟨us, h1, h2⟩ := h
  exact ⟨us, owns_later h1 hb hB, fun j hj => owns_later (h2 j hj) hb hB⟩
theorem LettersOwn.snoc {w wa w' : World} {base : Nat} {v v' u : Value} {ts : List (List Bool)} {t : List Bool} {us : List Value}
    (hus : w.ownsRow base 39 1 v ts.length us) (hts : ∀ j, j < ts.length → w.ownsRow base 4 1 (us.getD j nilV) (ts.getD j []).length (bvals (ts.getD j [])))
    (hu : w.ownsRow base 4 1 u t.length (bvals t)) (ha : ∃ o, wa = w.alloc o) (hg : wa.grownBy w' v.ownBlock) (ho : w'.ownsRow base 39 1 v' (ts.length + 1) (us ++ [u])) : LettersOwn w' base v' (ts ++ [t]) := by
  obtain ⟨o, rfl⟩ := ha
  have hl : us.length = ts.length := by simpa using hus.1
  refine ⟨us ++ [u], by simpa using ho, fun j hj => ?_⟩
  by_cases hlt : j < ts.length
  · have h1 := (hts j hlt).alloc o
    have := h1.kept hg (owns_apart (by decide) h1 (hus.alloc o))
    simpa [List.getD_eq_getElem?_getD, List.getElem?_append_left (show j < us.length by omega), List.getElem?_append_left hlt] using this
  · have hj' : j = ts.length := by simp at hj; omega
    subst hj'
    have h1 := hu.alloc o
    have := h1.kept hg (owns_apart (by decide) h1 (hus.alloc o))
    simpa [List.getD_eq_getElem?_getD, ← hl] using this
theorem LettersOwn.lettersV {w : World} {base : Nat} {v : Value} {ls : List (List Bool)} (h : LettersOwn w base v ls) : LettersV w v ls := by
  obtain ⟨us, h1, h2⟩ := h
  have hl : us.length = ls.length := by simpa using h1.1
  exact lettersV_of_owns (us := us) (by rw [hl]; exact h1) ⟨hl, fun i hi => boolsV_of_owns (h2 i hi)⟩

theorem owns_low {w : World} {base : Nat} {e : TypeId} {s n : Nat} {v : Value} {xs : List Value} (h : w.ownsRow base e s v n xs) {p : Addr} (hp : p.block < base) (u : Value) : (w.setCell p u).ownsRow base e s v n xs := by
  obtain ⟨h1, h2⟩ := h
  refine ⟨h1, ?_⟩
  rcases h2 with h2 | ⟨g, cap, cur, hv, hg, hh, r⟩
  · exact .inl h2
  · exact .inr ⟨g, cap, cur, hv, hg, (Below.heap_setCell w p u g (by omega)).trans hh, r⟩
theorem LettersOwn.low {w : World} {base : Nat} {v : Value} {ls : List (List Bool)} (h : LettersOwn w base v ls) {p : Addr} (hp : p.block < base) (u : Value) : LettersOwn (w.setCell p u) base v ls := by
  obtain ⟨us, h1, h2⟩ := h
  exact ⟨us, owns_low h1 hp u, fun j hj => owns_low (h2 j hj) hp u⟩
theorem LettersOwn.mono {w : World} {base base' : Nat} {v : Value} {ls : List (List Bool)} (h : LettersOwn w base v ls) (hb : base' ≤ base) : LettersOwn w base' v ls := by
  obtain ⟨us, h1, h2⟩ := h
  exact ⟨us, owns_mono h1 hb, fun j hj => owns_mono (h2 j hj) hb⟩

set_option maxRecDepth 20000 in
theorem cellsBools : Tryd.prog.cellsOf 39 = 1 := by kernel_rfl
set_option maxRecDepth 20000 in
theorem cellsLets : Tryd.prog.cellsOf 26 = 1 := by kernel_rfl
set_option maxRecDepth 20000 in
theorem cellsWord : Tryd.prog.cellsOf 28 = 2 := by kernel_rfl
set_option maxRecDepth 20000 in
theorem bytesBools : Tryd.prog.bytesOf 39 = 24 := by kernel_rfl

section
variable {H : Type} {enc : TypeId × Value → H} {W : World}
/-- nothing in it is too great. -/
def LightW (t : TypeId) (d : DataW H) : Prop := ∀ n ∈ d.weights Tryd.prog t, n ≤ reachBytes
set_option maxRecDepth 20000 in
theorem mem_weights {P : Program} {e : TypeId} {x : DataW H} {n : Nat} (hn : n ∈ x.weights P e) : ∀ {l : List (DataW H)}, x ∈ l → n ∈ DataW.weightsAll P e l
  | y :: l, hx => by
    simp only [DataW.weightsAll, List.mem_append]
    rcases List.mem_cons.1 hx with rfl | hx
    · exact .inl hn
    · exact .inr (mem_weights hn hx)
set_option maxRecDepth 20000 in
theorem LightW.slice {t e : TypeId} {elems spare : List (DataW H)} (hu : Tryd.prog.underlying t = some (.slice e)) (h : LightW t (.slice elems spare)) : (elems.length + spare.length) * Tryd.prog.bytesOf e ≤ reachBytes ∧ ∀ x ∈ elems, LightW e x := by
  refine ⟨h _ (by simp [DataW.weights, hu]), fun x hx n hn => h n ?_⟩
  simp only [DataW.weights, hu, List.mem_cons, List.mem_append]
  exact .inr (.inl (mem_weights hn hx))
set_option maxRecDepth 20000 in
theorem LightW.agg2 {t : TypeId} {f0 f1 : Field} {x0 x1 : DataW H} (hu : Tryd.prog.underlying t = some (.struct #[f0, f1])) (h : LightW t (.agg [x0, x1])) : LightW f0.type x0 ∧ LightW f1.type x1 := by
  refine ⟨fun n hn => h n ?_, fun n hn => h n ?_⟩
  · simp [DataW.weights, hu, DataW.weightsEach, hn]
  · simp [DataW.weights, hu, DataW.weightsEach, hn]
set_option maxRecDepth 20000 in
theorem range_getD {α : Type} (f : Nat → α) (d : α) {n i : Nat} (hi : i < n) : ((List.range n).map f).getD i d = f i := by simp [List.getD_eq_getElem?_getD, hi]

set_option maxRecDepth 20000 in
theorem open_bools_c {fuel : Nat} {v : Value} {d : DataW H} {p : List MemPlace} (hf : DataW.trod enc Tryd.prog W 0 (fun _ => true) true fuel 39 [v] = some (d, p)) (hw : LightW 39 d) : ∃ l, BoolsW W v l ∧ l.length ≤ 140737488355328 := by
  rcases open_slice1 Tryd.underlying39 cellsBool hf with ⟨hcs, hx⟩ | ⟨a, len, cap, m, n, V, D, Pl, hcs, _, hl, hm, hmm, hx, hcell⟩
  · simp at hcs
    subst hcs
    exact ⟨[], ⟨none, 0, rfl, fun _ => ⟨rfl, rfl⟩, fun h => absurd rfl h⟩, by simp⟩
  · simp at hcs
    subst hcs
    simp at hmm
    subst hmm
    rw [(Prod.mk.inj hx).1] at hw
    have hs := (hw.slice Tryd.underlying39).1
    rw [bytesBool] at hs
    simp only [List.length_map, List.length_range, reachBytes] at hs
    refine ⟨(List.range len).map fun i => boolOf (V i), ⟨some a, m, by simp, fun h => by simp at h, fun hne => ?_⟩, by simp; omega⟩
    have hpos : 0 < len := by
      rcases Nat.eq_zero_or_pos len with h0 | h0
      · subst h0; simp at hne
      · exact h0
    obtain ⟨b, off, spot⟩ := a
    have hspot : spot = none := by simpa [Addr.add] using World.cell?_spot (hcell 0 (by omega)).1
    subst hspot
    refine ⟨b, off, rfl, ?_, fun i hi => ?_⟩
    · have := World.block_lt_of_cell? W _ (hcell 0 (by omega)).1
      simpa [Addr.add] using this
    · simp only [List.length_map, List.length_range] at hi
      obtain ⟨c0, t0⟩ := hcell i (by omega)
      rw [add_plain] at c0
      obtain ⟨x0, e0, _⟩ := DataW.trod_bool Tryd.underlying4 t0
      simp at e0
      rw [c0, range_getD _ _ hi, e0]
      rfl

set_option maxRecDepth 20000 in
theorem open_letters_c {fuel : Nat} {v : Value} {d : DataW H} {p : List MemPlace} (hf : DataW.trod enc Tryd.prog W 0 (fun _ => true) true fuel 26 [v] = some (d, p)) (hw : LightW 26 d) : ∃ ls, LettersW W v ls ∧ ls.length * 24 ≤ 140737488355328 ∧ ∀ i, i < ls.length → (ls.getD i []).length ≤ 140737488355328 := by
  rcases open_slice1 Tryd.underlying26 cellsBools hf with ⟨hcs, hx⟩ | ⟨a, len, cap, m, n, V, D, Pl, hcs, _, hl, hm, hmm, hx, hcell⟩
  · simp at hcs
    subst hcs
    exact ⟨[], ⟨[], none, 0, rfl, fun _ => ⟨rfl, rfl⟩, rfl, fun i hi => by simp at hi, fun h => absurd rfl h⟩, by simp, fun i hi => by simp at hi⟩
  · simp at hcs
    subst hcs
    simp at hmm
    subst hmm
    rw [(Prod.mk.inj hx).1] at hw
    obtain ⟨hs, hel⟩ := hw.slice Tryd.underlying26
    rw [bytesBools] at hs
    simp only [List.length_map, List.length_range, reachBytes] at hs
    obtain ⟨f, hff⟩ := choose_lt (n := len) (p := fun i (l : List Bool) => BoolsW W (V i) l ∧ l.length ≤ 140737488355328) (fun i hi => by
      obtain ⟨c0, t0⟩ := hcell i (by omega)
      exact open_bools_c t0 (hel (D i) (by simp only [List.mem_map, List.mem_range]; exact ⟨i, hi, rfl⟩)))
    refine ⟨(List.range len).map f, ⟨(List.range len).map V, some a, m, by simp, fun h => by simp at h, by simp, fun i hi => ?_, fun hne => ?_⟩, by simp; omega, fun i hi => ?_⟩
    · simp only [List.length_map, List.length_range] at hi
      rw [range_getD _ _ hi, range_getD _ _ hi]
      exact (hff i hi).1
    · have hpos : 0 < len := by
        rcases Nat.eq_zero_or_pos len with h0 | h0
        · subst h0; simp at hne
        · exact h0
      obtain ⟨b, off, spot⟩ := a
      have hspot : spot = none := by simpa [Addr.add] using World.cell?_spot (hcell 0 (by omega)).1
      subst hspot
      refine ⟨b, off, rfl, ?_, fun i hi => ?_⟩
      · have := World.block_lt_of_cell? W _ (hcell 0 (by omega)).1
        simpa [Addr.add] using this
      · simp only [List.length_map, List.length_range] at hi
        have c0 := (hcell i (by omega)).1
        rw [add_plain] at c0
        rw [range_getD _ _ hi]
        exact c0
    · simp only [List.length_map, List.length_range] at hi
      rw [range_getD _ _ hi]
      exact (hff i hi).2

/-- no list in it is too long. -/
def LetSz (ls : List (List Bool)) : Prop := ls.length * 24 ≤ 140737488355328 ∧ ∀ i, i < ls.length → (ls.getD i []).length ≤ 140737488355328
set_option maxRecDepth 20000 in
/-- A WORD THAT CAME IN. -/
theorem open_word {base : Nat} {v : Value} {d : DataW H} {p : List MemPlace} {ts : List TypeId} {ds : List (DataW H)} {j : Nat}
    (hv : Value.okWide Tryd.prog W .any base 28 v) (h : DataW.Trod enc Tryd.prog W 0 (fun _ => true) true 28 v d p)
    (hsz : (DataW.weightsEach Tryd.prog ts ds).all (· ≤ reachBytes) = true) (ht : ts[j]? = some 28) (hd : ds[j]? = some d) : ∃ sv lv ss ll, v = .agg #[sv, lv] ∧ LettersW W sv ss ∧ LettersW W lv ll ∧ LetSz ss ∧ LetSz ll := by
  obtain ⟨va, vr, y0, y1, n, rfl, rfl, _, h0, h1⟩ := open_agg2 Tryd.underlying28 (by kernel_rfl) cellsWord hv h
  have hw : LightW 28 (.agg [y0.1, y1.1]) := fun n hn => by
    have := List.all_eq_true.1 hsz _ (DataW.weights_mem_each ht hd n hn)
    simpa using this
  obtain ⟨w0, w1⟩ := hw.agg2 Tryd.underlying28
  obtain ⟨l, h2, h3⟩ := open_letters_c h0 w0
  obtain ⟨r, h4, h5⟩ := open_letters_c h1 w1
  exact ⟨va, vr, l, r, rfl, h2, h4, h3, h5⟩
end

theorem LetSz.le {ls : List (List Bool)} (h : LetSz ls) : ls.length ≤ 140737488355328 := by have := h.1; omega
end Go.Proofs.YtoeagklgfaoejaaDoor
