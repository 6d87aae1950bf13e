/-
  What the loops of ReachedAll hold.
-/
import Derived.Test.YtcbepalgphdgiaaKGot
namespace Go.Proofs.Ytcbepalgphdgiaa
open Go.ChangeShapes Go.WideShapes Go.ChangeAt Go.RowKit Go.Deep
open Terms

theorem BoolsV.num {w : World} {bo : Option Addr} {bn bc : Nat} {l : List Bool} (h : BoolsV w (.slice bo bn bc) l) {i : Nat} (hi : i < l.length) : ∃ b off, bo = some ⟨b, off, none⟩ ∧ b < w.heap.size ∧ w.cell? ⟨b, off + i, none⟩ = some (.bool (l.getD i false)) := by
  obtain ⟨ao, cap, e, hr⟩ := h
  obtain ⟨b, off, ea, hb, hc⟩ := hr (fun h => by rw [h] at hi; simp at hi)
  injection e with e1 e2 e3
  exact ⟨b, off, e1.trans ea, hb, hc i hi⟩
open Classical in
/-- is a place reached from the first k, or, as far as q, from the place k? -/
noncomputable def raB (nx : Nat → List Nat) (k q j : Nat) : Bool := decide ((∃ f, f < k ∧ Way nx f j) ∨ (j < q ∧ Way nx k j))
theorem raB_zero (nx : Nat → List Nat) (j : Nat) : raB nx 0 0 j = false := by
  classical
  unfold raB
  exact decide_eq_false fun h => by
    rcases h with ⟨f, hf, _⟩ | ⟨h, _⟩ <;> omega
theorem raB_next {nx : Nat → List Nat} {k n j : Nat} (hj : j < n) : raB nx (k + 1) 0 j = raB nx k n j := by
  unfold raB
  rw [decide_eq_decide]
  constructor
  · rintro (⟨f, hf, hw⟩ | ⟨h, _⟩)
    · by_cases hfk : f < k
      · exact .inl ⟨f, hfk, hw⟩
      · obtain rfl : f = k := by omega
        exact .inr ⟨hj, hw⟩
    · omega
  · rintro (⟨f, hf, hw⟩ | ⟨_, hw⟩)
    · exact .inl ⟨f, by omega, hw⟩
    · exact .inl ⟨k, by omega, hw⟩
theorem raB_ne {nx : Nat → List Nat} {k q j : Nat} (hj : j ≠ q) : raB nx k (q + 1) j = raB nx k q j := by
  unfold raB
  rw [decide_eq_decide]
  constructor
  · rintro (h | ⟨h, hw⟩)
    · exact .inl h
    · exact .inr ⟨by omega, hw⟩
  · rintro (h | ⟨h, hw⟩)
    · exact .inl h
    · exact .inr ⟨by omega, hw⟩
theorem raB_eq {nx : Nat → List Nat} {k q n : Nat} (hq : q < n) : raB nx k (q + 1) q = (raB nx k q q || (reachB nx [k] n).getD q false) := by
  classical
  rw [reachB_at hq]
  unfold raB
  rw [Bool.eq_iff_iff]
  simp
theorem raB_all {nx : Nat → List Nat} {gi j n : Nat} (hj : j < n) : raB nx gi 0 j = (reachB nx (List.range gi) n).getD j false := by
  classical
  rw [reachB_at hj]
  unfold raB
  rw [decide_eq_decide]
  constructor
  · rintro (⟨f, hf, hw⟩ | ⟨h, _⟩)
    · exact ⟨f, List.mem_range.2 hf, hw⟩
    · omega
  · rintro ⟨f, hf, hw⟩
    exact .inl ⟨f, List.mem_range.1 hf, hw⟩
/-- the row of what is wanted, under way. -/
def RaSt (w2 wr : World) (n : Nat) (nx : Nat → List Nat) (k q : Nat) : Prop := Below w2.heap.size w2 wr ∧ wr.rowIs w2.heap.size 4 n (fun j => .bool (raB nx k q j))
theorem RaSt.later {w2 wr w' : World} {n : Nat} {nx : Nat → List Nat} {k q : Nat} (h : RaSt w2 wr n nx k q) (hb : Below wr.heap.size wr w') : RaSt w2 w' n nx k q :=
  ⟨h.1.trans (hb.mono (Nat.le_of_lt h.2.lt)), row_later h.2 hb⟩
theorem RaSt.put {w2 wr : World} {n : Nat} {nx : Nat → List Nat} {k q : Nat} (h : RaSt w2 wr n nx k q) (hq : q < n) (b : Bool) (hb : b = (raB nx k q q || (reachB nx [k] n).getD q false)) : RaSt w2 (wr.setCell ⟨w2.heap.size, q, none⟩ (.bool b)) n nx k (q + 1) := by
  refine ⟨h.1.setCell (Nat.le_refl _) _, (h.2.set q (.bool b)).congr fun j _ => ?_⟩
  by_cases hj : j = q
  · subst hj; rw [raB_eq hq, ← hb]; simp
  · rw [raB_ne hj]; simp [hj]
theorem RaSt.next {w2 wr : World} {n : Nat} {nx : Nat → List Nat} {k : Nat} (h : RaSt w2 wr n nx k n) : RaSt w2 wr n nx (k + 1) 0 := ⟨h.1, h.2.congr fun j hj => by rw [raB_next hj]⟩
theorem raSt_zero (w2 : World) (n : Nat) (nx : Nat → List Nat) : RaSt w2 (w2.alloc (.cells (madeCells #[.bool false] n) 4)) n nx 0 0 :=
  ⟨(Below.refl _ _).alloc (Nat.le_refl _) _, (World.rowIs_made w2 (.bool false) n 4).congr fun j _ => by rw [raB_zero]⟩
end Go.Proofs.Ytcbepalgphdgiaa
