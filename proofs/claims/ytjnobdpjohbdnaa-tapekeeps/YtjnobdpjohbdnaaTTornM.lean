/-
  A torn tape. Plain mathematics.
-/
import Derived.Test.YtjnobdpjohbdnaaTBackM
namespace Go.Proofs.Ytjnobdpjohbdnaa
open Go.ChangeShapes Go.WideShapes Go.ChangeAt Go.RowKit Go.Deep

theorem run_grows (D : List UInt8) : ∀ k, recAt (D.drop (run k D).2) = none ∨ 8 * (k + 1) ≤ (run (k + 1) D).2
  | 0 => by
    cases h : recAt (D.drop (run 0 D).2) with
    | none => exact .inl rfl
    | some l => exact .inr (by rw [run_go h]; show 8 * 1 ≤ 0 + (4 * l.length + 8); omega)
  | k + 1 => by
    cases h : recAt (D.drop (run (k + 1) D).2) with
    | none => exact .inl rfl
    | some l =>
      refine .inr ?_
      rcases run_grows D k with h0 | h0
      · have e : run (k + 1) D = run k D := run_stay h0 1
        rw [e, h0] at h
        cases h
      · rw [run_go h]
        show 8 * (k + 1 + 1) ≤ (run (k + 1) D).2 + (4 * l.length + 8)
        omega
theorem read_end (D : List UInt8) : recAt (D.drop (readL D).2) = none := by
  rcases run_grows D D.length with h | h
  · exact h
  · have := run_le D (D.length + 1)
    omega
theorem run_all (D : List UInt8) {k : Nat} (hk : D.length ≤ k) : run k D = readL D := by
  have := run_stay (read_end D) (k - D.length)
  rw [show D.length + (k - D.length) = k by omega] at this
  exact this
theorem run_shift {l : List Int} (hl : wrC l = 0) (D : List UInt8) : ∀ k, run (k + 1) (recB l ++ D) = (l :: (run k D).1, 4 * l.length + 8 + (run k D).2)
  | 0 => by
    have h : recAt ((recB l ++ D).drop (run 0 (recB l ++ D)).2) = some l := by show recAt ((recB l ++ D).drop 0) = some l; rw [List.drop_zero]; exact recAt_rec hl D
    rw [run_go h]
    show ([] ++ [l], 0 + (4 * l.length + 8)) = _
    simp [run]
  | k + 1 => by
    have ih := run_shift hl D k
    have e : (recB l ++ D).drop (run (k + 1) (recB l ++ D)).2 = D.drop (run k D).2 := by
      rw [ih]
      show (recB l ++ D).drop (4 * l.length + 8 + (run k D).2) = _
      rw [← recB_length l, ← List.drop_drop, List.drop_left]
    cases h : recAt (D.drop (run k D).2) with
    | none =>
      have h2 : run (k + 1 + 1) (recB l ++ D) = run (k + 1) (recB l ++ D) := run_stay (by rw [e]; exact h) 1
      have h3 : run (k + 1) D = run k D := run_stay h 1
      rw [h2, ih, h3]
    | some x =>
      rw [run_go (by rw [e]; exact h), run_go h, ih]
      simp [Nat.add_assoc]
theorem read_cons {l : List Int} (hl : wrC l = 0) (D : List UInt8) : readL (recB l ++ D) = (l :: (readL D).1, 4 * l.length + 8 + (readL D).2) := by
  have hlen : (recB l ++ D).length = 4 * l.length + 7 + D.length + 1 := by rw [List.length_append, recB_length]; omega
  show run (recB l ++ D).length (recB l ++ D) = _
  rw [hlen, run_shift hl, run_all D (by omega)]
theorem read_short {l : List Int} (hl : wrC l = 0) {c : Nat} (hc : c < 4 * l.length + 8) : readL ((recB l).take c) = ([], 0) := by
  obtain ⟨h1, _⟩ := nums_rec hl []
  rw [List.append_nil] at h1
  have hlen : ((recB l).take c).length = c := by rw [List.length_take, recB_length]; omega
  have hn : recAt ((recB l).take c) = none := by
    by_cases h4 : c < 4
    · exact recAt_short (by omega)
    · have hf : four ((recB l).take c) 0 = four (recB l) 0 := by
        unfold four
        have g : ∀ i, i < c → ((recB l).take c).getD i 0 = (recB l).getD i 0 := fun i hi => by simp [List.getD_eq_getElem?_getD, hi]
        rw [g 0 (by omega), g (0 + 1) (by omega), g (0 + 2) (by omega), g (0 + 3) (by omega)]
      exact recAt_big (by omega) (by rw [hf, h1]; omega)
  exact read_stop (k := 0) (Nat.zero_le _) (by show recAt (((recB l).take c).drop 0) = none; rw [List.drop_zero]; exact hn)
/-- OF A TORN TAPE JUST THE WHOLE RECORDS. -/
theorem read_torn : ∀ (rs : List (List Int)), (∀ l ∈ rs, wrC l = 0) → ∀ c, c ≤ (bysN rs).length → ∃ j, j ≤ rs.length ∧ (readL ((bysN rs).take c)).1 = rs.take j ∧ (j = rs.length ↔ c = (bysN rs).length)
  | [], _, c, hc => ⟨0, Nat.le_refl _, by
      have : c = 0 := by simpa [bysN] using hc
      subst this
      rfl, by simp [bysN] at hc ⊢; exact hc⟩
  | l :: rs, hr, c, hc => by
    have e : bysN (l :: rs) = recB l ++ bysN rs := rfl
    have hl := hr l (by simp)
    have hll := recB_length l
    by_cases h : c < 4 * l.length + 8
    · refine ⟨0, Nat.zero_le _, ?_, ?_⟩
      · rw [e, List.take_append_of_le_length (by omega), read_short hl h]
        rfl
      · rw [e, List.length_append, List.length_cons]
        omega
    · obtain ⟨j, h1, h2, h3⟩ := read_torn rs (fun x hx => hr x (by simp [hx])) (c - (4 * l.length + 8)) (by rw [e, List.length_append] at hc; omega)
      refine ⟨j + 1, by simp; omega, ?_, ?_⟩
      · rw [e, List.take_append, List.take_of_length_le (by omega), hll, read_cons hl, h2]
        rfl
      · rw [e, List.length_append, List.length_cons, hll]
        omega
/-- what is read are the bytes of the records. -/
theorem run_take (D : List UInt8) : ∀ k, D.take (run k D).2 = bysN (run k D).1 ∧ ∀ l ∈ (run k D).1, wrC l = 0
  | 0 => ⟨by simp [run, bysN], fun l hl => by simp [run] at hl⟩
  | k + 1 => by
    obtain ⟨h1, h2⟩ := run_take D k
    cases h : recAt (D.drop (run k D).2) with
    | none =>
      have e : run (k + 1) D = run k D := run_stay h 1
      rw [e]
      exact ⟨h1, h2⟩
    | some l =>
      obtain ⟨g1, _, g3, g4, _⟩ := recAt_some h
      rw [run_go h]
      refine ⟨?_, fun x hx => ?_⟩
      · show D.take ((run k D).2 + (4 * l.length + 8)) = bysN ((run k D).1 ++ [l])
        rw [List.take_add, h1, bysN_snoc, g4]
      · rcases List.mem_append.1 hx with hx | hx
        · exact h2 x hx
        · rw [List.mem_singleton.1 hx]; exact g1
theorem read_again (D : List UInt8) : readL (D.take (readL D).2) = readL D := by
  obtain ⟨h1, h2⟩ := run_take D D.length
  show readL (D.take (run D.length D).2) = run D.length D
  rw [h1, read_back h2, ← h1, List.length_take, Nat.min_eq_left (run_le D D.length)]
/-- records that stand first are read first. -/
theorem read_first {rs : List (List Int)} (hr : ∀ l ∈ rs, wrC l = 0) (rest : List UInt8) : ∃ more, (readL (bysN rs ++ rest)).1 = rs ++ more ∧ (bysN rs).length ≤ (readL (bysN rs ++ rest)).2 := by
  induction rs with
  | nil => exact ⟨(readL rest).1, by simp [bysN], by simp [bysN]⟩
  | cons l rs ih =>
    obtain ⟨more, h1, h2⟩ := ih (fun x hx => hr x (by simp [hx]))
    have e : bysN (l :: rs) ++ rest = recB l ++ (bysN rs ++ rest) := by rw [show bysN (l :: rs) = recB l ++ bysN rs from rfl, List.append_assoc]
    have e2 : bysN (l :: rs) = recB l ++ bysN rs := rfl
    rw [e, read_cons (hr l (by simp)), e2]
    refine ⟨more, by simp [h1], ?_⟩
    rw [List.length_append, recB_length]
    show 4 * l.length + 8 + (bysN rs).length ≤ 4 * l.length + 8 + (readL (bysN rs ++ rest)).2
    omega
end Go.Proofs.Ytjnobdpjohbdnaa
