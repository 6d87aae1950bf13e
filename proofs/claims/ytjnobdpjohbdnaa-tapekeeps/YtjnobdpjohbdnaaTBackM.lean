/-
  What was written is read. Plain mathematics.
-/
import Derived.Test.YtjnobdpjohbdnaaTTaped
namespace Go.Proofs.Ytjnobdpjohbdnaa
open Go.ChangeShapes Go.WideShapes Go.ChangeAt Go.RowKit Go.Deep

theorem bodyB_append (l m : List Int) : bodyB (l ++ m) = bodyB l ++ bodyB m := by simp [bodyB]
theorem wrC_parts {l : List Int} (h : wrC l = 0) : l.length ≤ 4000 ∧ l.any outB = false := by
  unfold wrC at h
  split at h
  · omega
  · refine ⟨by omega, ?_⟩
    cases ha : l.any outB
    · rfl
    · rw [ha] at h; simp at h
theorem nums_rec {l : List Int} (h : wrC l = 0) (rest : List UInt8) : four (recB l ++ rest) 0 = l.length ∧ numsAt (recB l ++ rest) l.length = l := by
  obtain ⟨h4, ha⟩ := wrC_parts h
  have e0 : recB l ++ rest = [] ++ (word4 l.length ++ (bodyB l ++ word4 (sumL (headB l.length l)) ++ rest)) := by simp [recB, headB, List.append_assoc]
  refine ⟨?_, ?_⟩
  · rw [e0]
    exact four_word4 (by omega) [] _
  · apply List.ext_getElem?
    intro i
    by_cases hi : i < l.length
    · have hr := outB_get ha hi
      have e1 : l = l.take i ++ l.getD i 0 :: l.drop (i + 1) := by
        have : l.getD i 0 = l[i] := by simp [List.getD_eq_getElem?_getD, hi]
        rw [this, List.getElem_cons_drop, List.take_append_drop]
      have e2 : bodyB l = bodyB (l.take i) ++ (word4 (l.getD i 0).toNat ++ bodyB (l.drop (i + 1))) := by
        conv => lhs; rw [e1]
        rw [bodyB_append]
        rfl
      have e3 : recB l ++ rest = (word4 l.length ++ bodyB (l.take i)) ++ (word4 (l.getD i 0).toNat ++ (bodyB (l.drop (i + 1)) ++ word4 (sumL (headB l.length l)) ++ rest)) := by
        rw [recB, headB, e2]
        simp only [List.append_assoc]
      have hp : (word4 l.length ++ bodyB (l.take i)).length = 4 + 4 * i := by rw [List.length_append, word4_length, bodyB_length, List.length_take]; omega
      have hf := four_word4 (x := (l.getD i 0).toNat) (by omega) (word4 l.length ++ bodyB (l.take i)) (bodyB (l.drop (i + 1)) ++ word4 (sumL (headB l.length l)) ++ rest)
      rw [← e3, hp] at hf
      have : (numsAt (recB l ++ rest) l.length)[i]? = some ((four (recB l ++ rest) (4 + 4 * i) : Nat) : Int) := by simp [numsAt, hi]
      rw [this, hf]
      rw [List.getElem?_eq_getElem hi]
      congr 1
      have : l.getD i 0 = l[i] := by simp [List.getD_eq_getElem?_getD, hi]
      rw [← this]
      omega
    · rw [List.getElem?_eq_none (by rw [numsAt_length]; omega), List.getElem?_eq_none (by omega)]
theorem recAt_rec {l : List Int} (h : wrC l = 0) (rest : List UInt8) : recAt (recB l ++ rest) = some l := by
  obtain ⟨h1, h2⟩ := nums_rec h rest
  obtain ⟨h4, _⟩ := wrC_parts h
  have hl : (recB l ++ rest).length = 4 * l.length + 8 + rest.length := by rw [List.length_append, recB_length]
  have := (rec_iff (d := recB l ++ rest) (by omega) (by rw [h1]; omega)).1 (by rw [h1, h2]; exact ⟨h, by rw [List.drop_zero, List.take_append_of_le_length (by rw [recB_length]; omega), List.take_of_length_le (by rw [recB_length]; omega)]⟩)
  rw [this, h1, h2]
theorem bysN_append (a b : List (List Int)) : bysN (a ++ b) = bysN a ++ bysN b := by simp [bysN]
/-- the first steps read the first records, whatever comes behind. -/
theorem run_bys {rs : List (List Int)} (hr : ∀ l ∈ rs, wrC l = 0) (rest : List UInt8) : ∀ k, k ≤ rs.length → run k (bysN rs ++ rest) = (rs.take k, (bysN (rs.take k)).length)
  | 0, _ => by simp [run, bysN]
  | k + 1, hk => by
    have ih := run_bys hr rest k (by omega)
    have hlt : k < rs.length := by omega
    have e1 : rs = rs.take k ++ rs[k] :: rs.drop (k + 1) := by rw [List.getElem_cons_drop, List.take_append_drop]
    have e2 : bysN rs ++ rest = bysN (rs.take k) ++ (recB rs[k] ++ (bysN (rs.drop (k + 1)) ++ rest)) := by
      conv => lhs; rw [e1]
      rw [bysN_append, show bysN (rs[k] :: rs.drop (k + 1)) = recB rs[k] ++ bysN (rs.drop (k + 1)) from rfl, List.append_assoc, List.append_assoc]
    have h : recAt ((bysN rs ++ rest).drop (run k (bysN rs ++ rest)).2) = some rs[k] := by
      rw [ih]
      show recAt ((bysN rs ++ rest).drop (bysN (rs.take k)).length) = _
      rw [e2, List.drop_left]
      exact recAt_rec (hr _ (List.getElem_mem hlt)) _
    rw [run_go h, ih]
    have e3 : rs.take (k + 1) = rs.take k ++ [rs[k]] := by rw [List.take_add_one]; simp [hlt]
    rw [e3, bysN_snoc, List.length_append, recB_length]
theorem read_back {rs : List (List Int)} (hr : ∀ l ∈ rs, wrC l = 0) : readL (bysN rs) = (rs, (bysN rs).length) := by
  have h := run_bys hr [] rs.length (Nat.le_refl _)
  rw [List.append_nil, List.take_of_length_le (Nat.le_refl _)] at h
  have hs : recAt ((bysN rs).drop (run rs.length (bysN rs)).2) = none := by
    rw [h]
    show recAt ((bysN rs).drop (bysN rs).length) = none
    rw [List.drop_length]
    exact recAt_short (by decide)
  rw [read_stop (k := rs.length) (by have := run_records (bysN rs) rs.length; rw [h] at this ⊢; exact this) hs, h]
theorem bysN_ge : ∀ (rs : List (List Int)), 8 * rs.length ≤ (bysN rs).length
  | [] => by simp
  | l :: rs => by
    have ih := bysN_ge rs
    have e : bysN (l :: rs) = recB l ++ bysN rs := rfl
    rw [e, List.length_append, recB_length, List.length_cons]
    omega
end Go.Proofs.Ytjnobdpjohbdnaa
