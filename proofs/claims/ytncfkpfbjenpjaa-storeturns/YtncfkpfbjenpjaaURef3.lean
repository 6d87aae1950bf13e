/-
  The document's StoreFault.
-/
import Derived.Test.YtncfkpfbjenpjaaURef2
namespace Go.Proofs.Ytncfkpfbjenpjaa
open Go.ChangeShapes Go.WideShapes Go.ChangeAt Go.RowKit Go.Deep

theorem rise_adj : ∀ {l : List Int}, (∀ j, j + 1 < l.length → l.getD j 0 < l.getD (j + 1) 0) → l.Pairwise (· < ·)
  | [], _ => List.Pairwise.nil
  | [x], _ => by simp
  | x :: y :: l, h => by
    have ih : (y :: l).Pairwise (· < ·) := rise_adj fun j hj => by have := h (j + 1) (by simp at hj ⊢; omega); simpa using this
    have h0 : x < y := by have := h 0 (by simp); simpa using this
    refine List.pairwise_cons.2 ⟨fun z hz => ?_, ih⟩
    rcases List.mem_cons.1 hz with rfl | hz
    · exact h0
    · have := List.rel_of_pairwise_cons ih hz; omega
theorem adj_rise {l : List Int} (h : l.Pairwise (· < ·)) {j : Nat} (hj : j + 1 < l.length) : l.getD j 0 < l.getD (j + 1) 0 := by
  rw [getD_get (by omega), getD_get hj]
  exact List.pairwise_iff_getElem.1 h j (j + 1) (by omega) hj (by omega)
/-- the first lists may be. -/
def RunsTo (lo : List Int) (rs : List (List Int)) (k : Nat) : Prop := lo.length < 8 ∧ lo.length + (rs.take k).flatten.length ≤ 20000 ∧ ∀ j, j < k → rs.getD j [] ≠ [] ∧ (rs.getD j []).Pairwise (· < ·)
theorem RunsTo.start {lo : List Int} {rs : List (List Int)} (h : lo.length < 8) : RunsTo lo rs 0 := ⟨h, by simp; omega, fun j hj => by omega⟩
theorem RunsTo.next {lo : List Int} {rs : List (List Int)} {k : Nat} (h : RunsTo lo rs k) (h1 : lo.length + (rs.take (k + 1)).flatten.length ≤ 20000) (h2 : rs.getD k [] ≠ []) (h3 : (rs.getD k []).Pairwise (· < ·)) : RunsTo lo rs (k + 1) := by
  refine ⟨h.1, h1, fun j hj => ?_⟩
  rcases Nat.lt_or_eq_of_le (Nat.le_of_lt_succ hj) with h4 | rfl
  · exact h.2.2 j h4
  · exact ⟨h2, h3⟩
theorem mem_getD {α : Type} {l : List α} {x : α} (d : α) (h : x ∈ l) : ∃ j, j < l.length ∧ l.getD j d = x := by
  obtain ⟨j, hj, e⟩ := List.mem_iff_getElem.1 h
  exact ⟨j, hj, by rw [getD_get hj]; exact e⟩
theorem RunsTo.done {lo : List Int} {rs : List (List Int)} (h : RunsTo lo rs rs.length) : SizeOk lo rs ∧ ∀ r ∈ rs, r.Pairwise (· < ·) := by
  obtain ⟨h1, h2, h3⟩ := h
  rw [List.take_length] at h2
  refine ⟨⟨h1, fun r hr => ?_, h2⟩, fun r hr => ?_⟩
  · obtain ⟨j, hj, e⟩ := mem_getD [] hr
    rw [← e]; exact (h3 j hj).1
  · obtain ⟨j, hj, e⟩ := mem_getD [] hr
    rw [← e]; exact (h3 j hj).2
theorem May.runs {lo : List Int} {rs : List (List Int)} (h : May lo rs) {k : Nat} (hk : k < rs.length) : lo.length + (rs.take (k + 1)).flatten.length ≤ 20000 ∧ rs.getD k [] ≠ [] ∧ (rs.getD k []).Pairwise (· < ·) := by
  have e : rs.flatten.length = (rs.take (k + 1)).flatten.length + (rs.drop (k + 1)).flatten.length := by rw [← List.length_append, ← List.flatten_append, List.take_append_drop]
  have := h.size.many
  exact ⟨by omega, h.size.full _ (getD_mem hk []), h.rise _ (getD_mem hk [])⟩
/-- the first keys, as they rise, may be. -/
def KeysTo (U : List Int) (k : Nat) : Prop := ∀ j, j < k → (0 ≤ U.getD j 0 ∧ U.getD j 0 ≤ 2147483647) ∧ (0 < j → U.getD (j - 1) 0 ≠ U.getD j 0)
theorem KeysTo.next {U : List Int} {k : Nat} (h : KeysTo U k) (h1 : 0 ≤ U.getD k 0) (h2 : U.getD k 0 ≤ 2147483647) (h3 : 0 < k → U.getD (k - 1) 0 ≠ U.getD k 0) : KeysTo U (k + 1) := fun j hj => by
  rcases Nat.lt_or_eq_of_le (Nat.le_of_lt_succ hj) with h4 | rfl
  · exact h j h4
  · exact ⟨⟨h1, h2⟩, h3⟩
theorem sorted_at {l : List Int} (h : l.Pairwise (· ≤ ·)) {j : Nat} (hj : j + 1 < l.length) : l.getD j 0 ≤ l.getD (j + 1) 0 := by
  rw [getD_get (by omega), getD_get hj]
  exact List.pairwise_iff_getElem.1 h j (j + 1) (by omega) hj (by omega)
theorem KeysTo.done {lo : List Int} {rs : List (List Int)} (hs : SizeOk lo rs) (hr : ∀ r ∈ rs, r.Pairwise (· < ·)) (h : KeysTo (up (keysL lo rs)) (up (keysL lo rs)).length) : May lo rs := by
  have hrise : (up (keysL lo rs)).Pairwise (· < ·) := rise_adj fun j hj => by
    have h1 := sorted_at (up_sorted (keysL lo rs)) hj
    have h2 := (h (j + 1) hj).2 (by omega)
    rw [Nat.add_sub_cancel] at h2
    omega
  refine ⟨hs, hr, fun x hx => ?_, (up_perm _).nodup_iff.1 (rise_nodup hrise)⟩
  obtain ⟨j, hj, e⟩ := mem_getD 0 ((up_perm (keysL lo rs)).mem_iff.2 hx)
  rw [← e]
  exact (h j hj).1
theorem May.keys {lo : List Int} {rs : List (List Int)} (h : May lo rs) {k : Nat} (hk : k < (up (keysL lo rs)).length) : (0 ≤ (up (keysL lo rs)).getD k 0 ∧ (up (keysL lo rs)).getD k 0 ≤ 2147483647) ∧ (0 < k → (up (keysL lo rs)).getD (k - 1) 0 ≠ (up (keysL lo rs)).getD k 0) := by
  refine ⟨h.range _ ((up_perm _).mem_iff.1 (getD_mem hk 0)), fun h0 => ?_⟩
  have hr : (up (keysL lo rs)).Pairwise (· < ·) := rise_of (up_sorted _) ((up_perm _).nodup_iff.2 h.nodup)
  have := adj_rise hr (j := k - 1) (by omega)
  rw [Nat.sub_add_cancel h0] at this
  omega

end Go.Proofs.Ytncfkpfbjenpjaa
