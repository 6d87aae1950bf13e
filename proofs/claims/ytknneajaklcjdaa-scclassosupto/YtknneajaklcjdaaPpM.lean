/-
  Plain mathematics: the parts of a graph, told spot by spot by what it reaches and what reaches it; the graph turned about.
-/
import Derived.Test.YtknneajaklcjdaaTarjanM
namespace Go.Proofs.Ytknneajaklcjdaa
open Terms

theorem PartIs.one {nx : Nat → List Nat} {x : Nat} {m k : Int} (h : PartIs nx x m) (h' : PartIs nx x k) : m = k := by
  obtain ⟨z, h1, h2, h3, h4⟩ := h
  obtain ⟨z', g1, g2, g3, g4⟩ := h'
  have e1 := h4 z' g2 g3
  have e2 := g4 z h2 h3
  omega
/-- so many spots were asked: each is told, or shares its part with none of them. -/
def Prt (nx : Nat → List Nat) (n i : Nat) (pt : Nat → Int) : Prop := ∀ x, x < n → (PartIs nx x (pt x) ∧ 0 ≤ pt x ∧ pt x < (i : Int)) ∨ (pt x = -1 ∧ ∀ z, z < i → ¬ (Way nx x z ∧ Way nx z x))
theorem Prt.start (nx : Nat → List Nat) (n : Nat) : Prt nx n 0 (fun _ => -1) := fun _ _ => .inr ⟨rfl, fun z hz => by omega⟩
/-- a spot that was told already. -/
theorem Prt.skip {nx : Nat → List Nat} {n i : Nat} {pt : Nat → Int} (h : Prt nx n i pt) (hi : i < n) (hp : 0 ≤ pt i) : Prt nx n (i + 1) pt := fun x hx => by
  rcases h x hx with ⟨h1, h2, h3⟩ | ⟨h1, h2⟩
  · exact .inl ⟨h1, h2, by omega⟩
  · refine .inr ⟨h1, fun z hz hw => ?_⟩
    by_cases hzi : z < i
    · exact h2 z hzi hw
    · obtain rfl : z = i := by omega
      rcases h z hi with ⟨⟨q, e1, e2, e3, _⟩, _, e5⟩ | ⟨e1, _⟩
      · exact h2 q (by omega) ⟨hw.1.trans e2, e3.trans hw.2⟩
      · omega
/-- a spot that was not told: its part. -/
theorem Prt.fill {nx : Nat → List Nat} {n i : Nat} {pt pt' : Nat → Int} (h : Prt nx n i pt) (hi : i < n) (hp : pt i < 0) (h1 : ∀ x, x < n → Way nx i x ∧ Way nx x i → pt' x = (i : Int)) (h2 : ∀ x, x < n → ¬ (Way nx i x ∧ Way nx x i) → pt' x = pt x) : Prt nx n (i + 1) pt' := fun x hx => by
  have hno : ∀ z, z < i → ¬ (Way nx i z ∧ Way nx z i) := by
    rcases h i hi with ⟨_, e, _⟩ | ⟨_, e⟩
    · omega
    · exact e
  by_cases hw : Way nx i x ∧ Way nx x i
  · rw [h1 x hx hw]
    refine .inl ⟨⟨i, rfl, hw.2, hw.1, fun y g1 g2 => ?_⟩, by omega, by omega⟩
    exact Classical.byContradiction fun hlt => hno y (by omega) ⟨hw.1.trans g1, g2.trans hw.2⟩
  · rw [h2 x hx hw]
    rcases h x hx with ⟨e1, e2, e3⟩ | ⟨e1, e2⟩
    · exact .inl ⟨e1, e2, by omega⟩
    · refine .inr ⟨e1, fun z hz hq => ?_⟩
      by_cases hzi : z < i
      · exact e2 z hzi hq
      · obtain rfl : z = i := by omega
        exact hw ⟨hq.2, hq.1⟩
theorem Prt.done {nx : Nat → List Nat} {n : Nat} {pt : Nat → Int} (h : Prt nx n n pt) {x : Nat} (hx : x < n) : PartIs nx x (pt x) := by
  rcases h x hx with ⟨e, _⟩ | ⟨_, e⟩
  · exact e
  · exact absurd ⟨Way.stay, Way.stay⟩ (e x hx)

/-- the entries that a row's beginning brings. -/
def turnA (l : List Nat) (i j : Nat) : List Nat := (l.filter (fun t => decide (t = j))).map fun _ => i
/-- the graph turned about, by so many rows. -/
def turnN (nx : Nat → List Nat) : Nat → Nat → List Nat
  | 0, _ => []
  | i + 1, j => turnN nx i j ++ turnA (nx i) i j
/-- and so many of the next row. -/
def turnQ (nx : Nat → List Nat) (i q j : Nat) : List Nat := turnN nx i j ++ turnA ((nx i).take q) i j
theorem turnQ_zero (nx : Nat → List Nat) (i j : Nat) : turnQ nx i 0 j = turnN nx i j := by simp [turnQ, turnA]
theorem turnQ_full {nx : Nat → List Nat} {i q : Nat} (h : (nx i).length ≤ q) (j : Nat) : turnQ nx i q j = turnN nx (i + 1) j := by
  unfold turnQ
  rw [List.take_of_length_le h]
  rfl
theorem turnQ_succ {nx : Nat → List Nat} {i q : Nat} (h : q < (nx i).length) (j : Nat) : turnQ nx i (q + 1) j = if j = (nx i).getD q 0 then turnQ nx i q j ++ [i] else turnQ nx i q j := by
  have ht : (nx i).take (q + 1) = (nx i).take q ++ [(nx i).getD q 0] := by
    rw [List.take_add_one, List.getElem?_eq_getElem h, List.getD_eq_getElem?_getD, List.getElem?_eq_getElem h]
    rfl
  unfold turnQ turnA
  rw [ht, List.filter_append, List.map_append]
  by_cases e : j = (nx i).getD q 0
  · rw [if_pos e, ← e]
    simp
  · rw [if_neg e]
    have e' : decide ((nx i).getD q 0 = j) = false := decide_eq_false fun h => e h.symm
    rw [List.filter_cons_of_neg (by rw [e']; simp)]
    simp
theorem turnN_mem {nx : Nat → List Nat} {k j : Nat} : ∀ {n : Nat}, k ∈ turnN nx n j ↔ k < n ∧ j ∈ nx k
  | 0 => by simp [turnN]
  | n + 1 => by
    unfold turnN turnA
    rw [List.mem_append, turnN_mem, List.mem_map]
    constructor
    · rintro (⟨h1, h2⟩ | ⟨t, h1, rfl⟩)
      · exact ⟨by omega, h2⟩
      · obtain ⟨h3, h4⟩ := List.mem_filter.1 h1
        have h5 := of_decide_eq_true h4
        subst h5
        exact ⟨by omega, h3⟩
    · rintro ⟨h1, h2⟩
      by_cases e : k < n
      · exact .inl ⟨e, h2⟩
      · obtain rfl : k = n := by omega
        exact .inr ⟨j, List.mem_filter.2 ⟨h2, decide_eq_true rfl⟩, rfl⟩
/-- WAYS IN THE GRAPH TURNED ABOUT. -/
theorem turn_way {nx : Nat → List Nat} {n : Nat} {x y : Nat} : Way (turnN nx n) x y → Way nx y x := fun h => by
  induction h with
  | stay => exact .stay
  | step _ hk ih => exact (Way.one (turnN_mem.1 hk).2).trans ih
theorem turn_back {nx : Nat → List Nat} {n : Nat} (hn : ∀ i, i < n → ∀ k ∈ nx i, k < n) {x y : Nat} (hy : y < n) (h : Way nx y x) : Way (turnN nx n) x y := by
  induction h with
  | stay => exact .stay
  | step h1 hk ih => exact (Way.one (turnN_mem.2 ⟨h1.lt hn hy, hk⟩)).trans ih
theorem turn_iff {nx : Nat → List Nat} {n : Nat} (hn : ∀ i, i < n → ∀ k ∈ nx i, k < n) {x y : Nat} (hy : y < n) : Way (turnN nx n) x y ↔ Way nx y x := ⟨turn_way, turn_back hn hy⟩
theorem turnN_lt {nx : Nat → List Nat} {n : Nat} : ∀ i, i < n → ∀ k ∈ turnN nx n i, k < n := fun _ _ _ hk => (turnN_mem.1 hk).1
theorem turnA_short : ∀ {l : List Nat}, l.Nodup → ∀ i j, (turnA l i j).length ≤ 1
  | [], _, _, _ => by simp [turnA]
  | a :: l, h, i, j => by
    obtain ⟨h1, h2⟩ := List.nodup_cons.1 h
    unfold turnA
    by_cases e : a = j
    · subst e
      have h8 : l.filter (fun t => decide (t = a)) = [] := List.filter_eq_nil_iff.2 fun t ht hd => h1 (by
        have h9 : t = a := by simpa using hd
        rw [← h9]
        exact ht)
      rw [List.filter_cons_of_pos (by simp), h8]
      simp
    · rw [List.filter_cons_of_neg (by simp [e])]
      exact turnA_short h2 i j
theorem turnN_short {nx : Nat → List Nat} : ∀ {n : Nat}, (∀ i, i < n → (nx i).Nodup) → ∀ j, (turnN nx n j).length ≤ n
  | 0, _, _ => by simp [turnN]
  | n + 1, h, j => by
    unfold turnN
    rw [List.length_append]
    have h1 := turnN_short (n := n) (fun i hi => h i (by omega)) j
    have h2 := turnA_short (h n (by omega)) n j
    omega
end Go.Proofs.Ytknneajaklcjdaa
