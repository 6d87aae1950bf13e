/-
  The document's numbersUp: numbers, one by one put where they belong.
-/
import Derived.Test.YtncfkpfbjenpjaaURef
namespace Go.Proofs.Ytncfkpfbjenpjaa
open Go.ChangeShapes Go.WideShapes Go.ChangeAt Go.RowKit Go.Deep

/-- x at place k of P. -/
def insL (P : List Int) (x : Int) (k : Nat) : List Int := P.take k ++ x :: P.drop k
theorem insL_length {P : List Int} {x : Int} {k : Nat} (h : k ≤ P.length) : (insL P x k).length = P.length + 1 := by
  simp [insL]; omega
theorem insL_perm (P : List Int) (x : Int) (k : Nat) : (insL P x k).Perm (x :: P) := by
  unfold insL
  refine List.perm_middle.trans ?_
  rw [List.take_append_drop]
theorem insL_at {P : List Int} {x : Int} {k : Nat} (h : k ≤ P.length) : (insL P x k).getD k 0 = x := by
  rw [insL, getD_app, if_neg (by simp; omega)]
  simp [Nat.min_eq_left h]
theorem insL_ahead {P : List Int} {x : Int} {k : Nat} (h : k < P.length) : (insL P x (k + 1)).getD k 0 = P.getD k 0 := by
  rw [insL, getD_app, if_pos (by simp; omega), getD_take _ (by omega)]
theorem insL_end (P : List Int) (x : Int) : insL P x P.length = P ++ [x] := by simp [insL]
theorem insL_swap {P : List Int} {x : Int} {k : Nat} (h : k < P.length) : ((ivals (insL P x (k + 1))).set (k + 1) (.int .i64 (P.getD k 0))).set k (.int .i64 x) = ivals (insL P x k) := by
  have e1 : insL P x (k + 1) = P.take k ++ P.getD k 0 :: x :: P.drop (k + 1) := by rw [insL, take_get h 0]; simp
  have e2 : insL P x k = P.take k ++ x :: P.getD k 0 :: P.drop (k + 1) := by rw [insL, drop_get h 0]
  have hl : (ivals (P.take k)).length = k := by rw [ivals_length, List.length_take]; omega
  rw [e1, e2, ivals_append, ivals_append, List.set_append_right _ _ (by omega), List.set_append_right _ _ (by omega), hl]
  simp [ivals]
theorem insL_done {P : List Int} {x : Int} {k : Nat} (hk : k ≤ P.length) (hs : P.Pairwise (· ≤ ·)) (h1 : ∀ y ∈ P.drop k, x < y) (h2 : k = 0 ∨ ¬ x < P.getD (k - 1) 0) : (insL P x k).Pairwise (· ≤ ·) := by
  have hp : P.take k ++ P.drop k = P := List.take_append_drop k P
  have hs' := hs
  rw [← hp] at hs'
  obtain ⟨s1, s2, s3⟩ := List.pairwise_append.1 hs'
  have hle : ∀ y ∈ P.take k, y ≤ x := by
    intro y hy
    rcases h2 with h2 | h2
    · subst h2; simp at hy
    · rcases Nat.eq_zero_or_pos k with h0 | h0
      · subst h0; simp at hy
      · have ek : P.take k = P.take (k - 1) ++ [P.getD (k - 1) 0] := by rw [← take_get (by omega) 0]; congr 1; omega
        rw [ek] at hy s1
        generalize P.getD (k - 1) 0 = z at *
        rcases List.mem_append.1 hy with hy | hy
        · have := (List.pairwise_append.1 s1).2.2 y hy z (by simp); omega
        · simp at hy; omega
  refine List.pairwise_append.2 ⟨s1, List.pairwise_cons.2 ⟨fun y hy => Int.le_of_lt (h1 y hy), s2⟩, fun a ha b hb => ?_⟩
  rcases List.mem_cons.1 hb with rfl | hb
  · exact hle a ha
  · exact s3 a ha b hb
theorem up_snoc {l : List Int} {i : Nat} (hi : i < l.length) {k : Nat} (hk : k ≤ i) (h1 : ∀ y ∈ (up (l.take i)).drop k, l.getD i 0 < y) (h2 : k = 0 ∨ ¬ l.getD i 0 < (up (l.take i)).getD (k - 1) 0) : insL (up (l.take i)) (l.getD i 0) k = up (l.take (i + 1)) := by
  have hl : (up (l.take i)).length = i := by rw [up_length, List.length_take]; omega
  refine up_is (insL_done (by omega) (up_sorted _) h1 h2) ((insL_perm _ _ _).trans ?_)
  rw [take_get hi 0]
  refine ((up_perm (l.take i)).cons _).trans ?_
  exact (List.perm_append_comm (l₁ := [l.getD i 0]) (l₂ := l.take i))

theorem own_cell {w : World} {base g n cap : Nat} {l : List Int} (h : w.ownsRow base 3 1 (.slice (some ⟨g, 0, none⟩) n cap) n (ivals l)) (hl : l.length = n) {j : Nat} (hj : j < n) : w.cell? ⟨g, j, none⟩ = some (.int .i64 (l.getD j 0)) := by
  rw [h.cellAt j (by omega)]
  simp [ivals, List.getD_eq_getElem?_getD, show j < l.length by omega]
end Go.Proofs.Ytncfkpfbjenpjaa
