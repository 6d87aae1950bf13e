/-
  Plain mathematics of graphs: which may be, and what is reached.
-/
import Derived.Test.YtknneajaklcjdaaGraphM
namespace Go.Proofs.Ytknneajaklcjdaa
open Terms

/-- the numbers of a graph that may be. -/
structure GHead (g : Gr) : Prop where
  n : g.spots.length ≤ 20000
  next : g.next.length = g.spots.length
  sets : g.sets.length = g.spots.length
  init0 : 0 ≤ g.init
  init1 : g.init ≤ g.spots.length
  many0 : 0 ≤ g.many
  many6 : g.many ≤ 6
/-- all sets, as bits. -/
def top (g : Gr) : Int := 2 ^ g.many.toNat - 1
def GSet (g : Gr) (i : Nat) : Prop := 0 ≤ g.sets.getD i 0 ∧ g.sets.getD i 0 ≤ top g
def GNext (g : Gr) (i : Nat) (k : Nat) : Prop := 0 ≤ (g.next.getD i []).getD k 0 ∧ (g.next.getD i []).getD k 0 < g.spots.length
def GRow (g : Gr) (i : Nat) : Prop := GSet g i ∧ ∀ k, k < (g.next.getD i []).length → GNext g i k
/-- A GRAPH THAT MAY BE. -/
structure GOk (g : Gr) : Prop where
  head : GHead g
  row : ∀ i, i < g.spots.length → GRow g i
open Classical in
noncomputable def gcode (g : Gr) : Int := if GOk g then 0 else 9
theorem gcode_head {g : Gr} (h : ¬ GHead g) : gcode g = 9 := if_neg fun x => h x.head
theorem gcode_row {g : Gr} {i : Nat} (hi : i < g.spots.length) (h : ¬ GRow g i) : gcode g = 9 := if_neg fun x => h (x.row i hi)
theorem gcode_ok {g : Gr} (h : GHead g) (hr : ∀ i, i < g.spots.length → GRow g i) : gcode g = 0 := if_pos ⟨h, hr⟩
theorem gcode_zero {g : Gr} (h : gcode g = 0) : GOk g := by
  unfold gcode at h
  split at h
  · assumption
  · simp at h
theorem gcode_nine {g : Gr} (h : ¬ gcode g = 0) : gcode g = 9 := by
  unfold gcode at h ⊢
  split
  · rename_i hh; rw [if_pos hh] at h; simp at h
  · rfl

/-- where a spot leads. -/
def nxt (g : Gr) (i : Nat) : List Nat := (g.next.getD i []).map Int.toNat
theorem nxt_lt {g : Gr} (h : GOk g) {i k : Nat} (hi : i < g.spots.length) (hk : k ∈ nxt g i) : k < g.spots.length := by
  unfold nxt at hk
  obtain ⟨x, hx, rfl⟩ := List.mem_map.1 hk
  obtain ⟨j, hj, rfl⟩ := List.getElem_of_mem hx
  have := (h.row i hi).2 j hj
  unfold GNext at this
  rw [List.getD_eq_getElem?_getD, List.getElem?_eq_getElem hj] at this
  simp only [Option.getD_some] at this
  omega
theorem nxt_at {g : Gr} (h : GOk g) {i j : Nat} (hi : i < g.spots.length) (hj : j < (g.next.getD i []).length) : ∃ k : Nat, (g.next.getD i []).getD j 0 = (k : Int) ∧ k < g.spots.length ∧ k ∈ nxt g i ∧ (nxt g i).getD j 0 = k := by
  have := (h.row i hi).2 j hj
  unfold GNext at this
  refine ⟨((g.next.getD i []).getD j 0).toNat, by omega, by omega, ?_, ?_⟩
  · unfold nxt
    refine List.mem_map.2 ⟨(g.next.getD i [])[j], List.getElem_mem _, ?_⟩
    rw [List.getD_eq_getElem?_getD (l := g.next.getD i []) (i := j), List.getElem?_eq_getElem hj]; rfl
  · unfold nxt
    rw [List.getD_eq_getElem?_getD, List.getElem?_map, List.getD_eq_getElem?_getD (l := g.next.getD i []) (i := j), List.getElem?_eq_getElem hj]; rfl
theorem nxt_length (g : Gr) (i : Nat) : (nxt g i).length = (g.next.getD i []).length := by simp [nxt]
theorem nxt_mem {g : Gr} {i k : Nat} (hk : k ∈ nxt g i) : ∃ j, j < (g.next.getD i []).length ∧ (nxt g i).getD j 0 = k := by
  obtain ⟨j, hj, rfl⟩ := List.getElem_of_mem hk
  exact ⟨j, by rw [← nxt_length]; exact hj, by rw [List.getD_eq_getElem?_getD, List.getElem?_eq_getElem hj]; rfl⟩

/-- A WAY, perhaps of no step. -/
inductive Way (nx : Nat → List Nat) (i : Nat) : Nat → Prop where
  | stay : Way nx i i
  | step {j k : Nat} : Way nx i j → k ∈ nx j → Way nx i k
theorem Way.trans {nx : Nat → List Nat} {i j k : Nat} (h1 : Way nx i j) (h2 : Way nx j k) : Way nx i k := by
  induction h2 with
  | stay => exact h1
  | step _ hk ih => exact ih.step hk
theorem Way.one {nx : Nat → List Nat} {i j : Nat} (h : j ∈ nx i) : Way nx i j := Way.stay.step h
theorem Way.lt {nx : Nat → List Nat} {n i j : Nat} (hn : ∀ i, i < n → ∀ k ∈ nx i, k < n) (hi : i < n) (h : Way nx i j) : j < n := by
  induction h with
  | stay => exact hi
  | step _ hk ih => exact hn _ ih _ hk
theorem Way.closed {nx : Nat → List Nat} {S : Nat → Prop} (hS : ∀ i, S i → ∀ k ∈ nx i, S k) {i j : Nat} (hi : S i) (h : Way nx i j) : S j := by
  induction h with
  | stay => exact hi
  | step _ hk ih => exact hS _ ih _ hk
/-- the first step of a way. -/
theorem Way.first {nx : Nat → List Nat} {i j : Nat} (h : Way nx i j) : i = j ∨ ∃ k ∈ nx i, Way nx k j := by
  induction h with
  | stay => exact .inl rfl
  | step h1 hk ih =>
    rcases ih with rfl | ⟨m, hm, hw⟩
    · exact .inr ⟨_, hk, .stay⟩
    · exact .inr ⟨m, hm, hw.step hk⟩
end Go.Proofs.Ytknneajaklcjdaa
