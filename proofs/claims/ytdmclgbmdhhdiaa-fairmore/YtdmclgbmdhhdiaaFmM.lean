/-
  A graph with one more step, and more sets at a spot: it may be as well; where there was a lasso there is one; how it lies.
-/
import Derived.Test.YtdmclgbmdhhdiaaKGraphX
import Derived.Test.YtdmclgbmdhhdiaaSFair
import Derived.Test.YtdmclgbmdhhdiaaRingW
import Derived.Test.YtdmclgbmdhhdiaaPlM
namespace Go.Proofs.Ytdmclgbmdhhdiaa
open Go.ChangeShapes Go.WideShapes Go.ChangeAt Go.RowKit Go.Deep
open Terms

/-- one more step, and more sets. -/
def moreG (g : Gr) (x : Nat) (y s : Int) : Gr := { g with next := g.next.set x (g.next.getD x [] ++ [y]), sets := g.sets.set x s }
theorem gok_more {g : Gr} (h : GOk g) {x : Nat} (hx : x < g.spots.length) {y s : Int} (hy : 0 ≤ y ∧ y < g.spots.length) (hs : 0 ≤ s ∧ s ≤ top g) : GOk (moreG g x y s) := by
  have h1 := gok_put h hx (l := g.next.getD x [] ++ [y]) (fun z hz => by
    rcases List.mem_append.1 hz with hz | hz
    · obtain ⟨j, hj, rfl⟩ := List.getElem_of_mem hz
      have := (h.row x hx).2 j hj
      unfold GNext at this
      rw [show (g.next.getD x []).getD j 0 = (g.next.getD x [])[j] by rw [List.getD_eq_getElem?_getD (l := g.next.getD x []), List.getElem?_eq_getElem hj]; rfl] at this
      exact this
    · obtain rfl : z = y := by simpa using hz
      exact hy)
  have hH := h1.head
  refine ⟨⟨hH.n, hH.next, by show (g.sets.set x s).length = _; rw [List.length_set]; exact h.head.sets, hH.init0, hH.init1, hH.many0, hH.many6⟩, fun i hi => ⟨?_, (h1.row i hi).2⟩⟩
  show 0 ≤ (g.sets.set x s).getD i 0 ∧ (g.sets.set x s).getD i 0 ≤ top g
  rw [getD_put (by rw [h.head.sets]; exact hx)]
  by_cases e : i = x
  · rw [if_pos e]; exact hs
  · rw [if_neg e]; exact (h.row i hi).1
theorem more_nxt {g : Gr} (h : GOk g) {x : Nat} (hx : x < g.spots.length) {y s : Int} {i k : Nat} (hk : k ∈ nxt g i) : k ∈ nxt (moreG g x y s) i := by
  show k ∈ ((g.next.set x (g.next.getD x [] ++ [y])).getD i []).map Int.toNat
  rw [getD_put (by rw [h.head.next]; exact hx)]
  by_cases e : i = x
  · rw [if_pos e, List.map_append]
    refine List.mem_append_left _ ?_
    rw [← e]; exact hk
  · rw [if_neg e]; exact hk
theorem way_more {nx ny : Nat → List Nat} (h : ∀ i, ∀ k ∈ nx i, k ∈ ny i) {i j : Nat} (hw : Way nx i j) : Way ny i j := by
  induction hw with
  | stay => exact .stay
  | step _ hk ih => exact .step ih (h _ _ hk)
open Classical in
theorem fairC_iff (g : Gr) : fairC g = 0 ↔ ∃ k, k < g.spots.length ∧ ReachX g k ∧ FairX g k := by
  constructor
  · intro h
    refine Classical.byContradiction fun hno => ?_
    have := (fair_none (g := g) (fun j hj hx => hno ⟨j, hj, hx⟩)).2
    rw [this] at h
    cases h
  · rintro ⟨k, hk, hx⟩
    unfold fairC
    rw [if_pos]
    unfold fairR
    rw [List.find?_isSome]
    exact ⟨k, List.mem_range.2 hk, decide_eq_true hx⟩
theorem fairC_or (g : Gr) : fairC g = 0 ∨ fairC g = 11 := by
  unfold fairC
  split
  · exact .inl rfl
  · exact .inr rfl
theorem fair_more {g : Gr} (h : GOk g) {x : Nat} (hx : x < g.spots.length) {y s : Int} (hs : ∀ i, (sN g x).testBit i = true → s.toNat.testBit i = true) (hf : fairC g = 0) : fairC (moreG g x y s) = 0 := by
  obtain ⟨k, hk, ⟨f, hf0, hfw⟩, ⟨a, b, ha, hb, hab⟩, hsets⟩ := (fairC_iff g).1 hf
  have hn : ∀ i, ∀ k ∈ nxt g i, k ∈ nxt (moreG g x y s) i := fun i k hk => more_nxt h hx hk
  have hm : ∀ {p q : Nat}, Mut g p q → Mut (moreG g x y s) p q := fun hpq => ⟨way_more hn hpq.1, way_more hn hpq.2⟩
  refine (fairC_iff _).2 ⟨k, hk, ⟨f, hf0, way_more hn hfw⟩, ⟨a, b, hm ha, hm hb, hn _ _ hab⟩, fun i hi => ?_⟩
  obtain ⟨c, hc, hbit⟩ := hsets i hi
  refine ⟨c, hm hc, ?_⟩
  show ((g.sets.set x s).getD c 0).toNat.testBit i = true
  rw [getD_put (by rw [h.head.sets]; exact hx)]
  by_cases e : c = x
  · rw [if_pos e]; rw [e] at hbit; exact hs i hbit
  · rw [if_neg e]; exact hbit
/-- A SET IS PUT in the place of another. -/
theorem KRows.putB {w : World} {base : Nat} {sv nv : Value} {us : List Value} {g : Gr} {k bb bc i : Nat} {s : Int} (h : KRows w base sv nv (.slice (some ⟨bb, 0, none⟩) k bc) us g k) :
    KRows (w.setCell ⟨bb, i, none⟩ (.int .i64 s)) base sv nv (.slice (some ⟨bb, 0, none⟩) k bc) us { g with sets := g.sets.set i s } k := by
  obtain ⟨hst, hg⟩ := h.sets.stored i (.int .i64 s)
  have ne2 : 36 ≠ 3 := by decide
  have ne3 : 23 ≠ 3 := by decide
  refine ⟨h.ks, h.kn, by show (g.sets.set i s).length = k; rw [List.length_set]; exact h.kb, h.spots.kept hg (owns_apart ne2 h.spots h.sets), h.next.kept hg (owns_apart ne3 h.next h.sets), fun j hj => (h.each j hj).kept hg (h.apart j hj), ?_, h.apart⟩
  rw [show ivals (g.sets.set i s) = (ivals g.sets).set i (.int .i64 s) by simp [ivals, List.map_set]]
  exact hst
theorem kown_got {w : World} {base : Nat} {so no bo : Option Addr} {sc nc bc n gi mm : Nat} {g : Gr} (h : KOwn w base so sc no nc bo bc n gi mm g) (hn : n = g.spots.length) : GraphV w (.slice so g.spots.length sc) (.slice no g.next.length nc) (.slice bo g.sets.length bc) g ∧ GrLe g ∧ gcode g = 0 ∧ g.next.length = n ∧ g.sets.length = n := by
  obtain ⟨us, hr⟩ := h.rows
  have h1 := h.ok.head.next
  have h2 := h.ok.head.sets
  have hs := h.small
  refine ⟨by rw [h1, h2, ← hn]; exact hr.v, ⟨by omega, by omega, by omega, fun i hi => by have := h.len i (by omega); omega⟩, gcode_ok h.ok.head h.ok.row, by omega, by omega⟩
end Go.Proofs.Ytdmclgbmdhhdiaa
