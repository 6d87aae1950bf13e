/-
  What is read: records at the beginning of bytes, one behind the other. Plain mathematics.
-/
import Derived.Test.YtjnobdpjohbdnaaTWAt
namespace Go.Proofs.Ytjnobdpjohbdnaa
open Go.ChangeShapes Go.WideShapes Go.ChangeAt Go.RowKit Go.Deep

theorem u8_ext {a b : UInt8} (h : a.toNat = b.toNat) : a = b := UInt8.toNat.inj h
theorem word4_inj {x y : Nat} (hx : x < 4294967296) (hy : y < 4294967296) (h : word4 x = word4 y) : x = y := by
  simp only [word4, List.cons.injEq, and_true] at h
  obtain ⟨h0, h1, h2, h3⟩ := h
  have g0 := congrArg UInt8.toNat h0
  have g1 := congrArg UInt8.toNat h1
  have g2 := congrArg UInt8.toNat h2
  have g3 := congrArg UInt8.toNat h3
  simp only [UInt8.toNat_ofNat'] at g0 g1 g2 g3
  omega
theorem getD_take_drop {d : List UInt8} {i : Nat} (h : i + 4 ≤ d.length) : (d.drop i).take 4 = [d.getD i 0, d.getD (i + 1) 0, d.getD (i + 2) 0, d.getD (i + 3) 0] := by
  apply List.ext_getElem?
  intro j
  rw [List.getElem?_take]
  by_cases hj : j < 4
  · rw [if_pos hj, List.getElem?_drop]
    have hc : j = 0 ∨ j = 1 ∨ j = 2 ∨ j = 3 := by omega
    rcases hc with rfl | rfl | rfl | rfl <;> simp [List.getD_eq_getElem?_getD, show i < d.length by omega, show i + 1 < d.length by omega, show i + 2 < d.length by omega, show i + 3 < d.length by omega]
  · rw [if_neg hj, List.getElem?_eq_none (by simp; omega)]
theorem word4_four {d : List UInt8} {i : Nat} (h : i + 4 ≤ d.length) : word4 (four d i) = (d.drop i).take 4 := by
  rw [getD_take_drop h]
  have h0 := UInt8.toNat_lt (d.getD i 0)
  have h1 := UInt8.toNat_lt (d.getD (i + 1) 0)
  have h2 := UInt8.toNat_lt (d.getD (i + 2) 0)
  have h3 := UInt8.toNat_lt (d.getD (i + 3) 0)
  unfold word4 four
  congr 1
  · exact u8_ext (by rw [UInt8.toNat_ofNat']; omega)
  · congr 1
    · exact u8_ext (by rw [UInt8.toNat_ofNat']; omega)
    · congr 1
      · exact u8_ext (by rw [UInt8.toNat_ofNat']; omega)
      · congr 1
        exact u8_ext (by rw [UInt8.toNat_ofNat']; omega)
theorem four_word4 {x : Nat} (hx : x < 4294967296) (p : List UInt8) (q : List UInt8) : four (p ++ (word4 x ++ q)) p.length = x := by
  refine word4_inj (four_lt _ _) hx ?_
  rw [word4_four (by simp [word4_length]), List.drop_left, List.take_append_of_le_length (by rw [word4_length]; omega), List.take_of_length_le (by rw [word4_length]; omega)]

/-- the numbers of a record that so many bytes tell. -/
def numsAt (d : List UInt8) (n : Nat) : List Int := (List.range n).map fun i => (four d (4 + 4 * i) : Int)
theorem numsAt_length (d : List UInt8) (n : Nat) : (numsAt d n).length = n := by simp [numsAt]
theorem numsAt_get (d : List UInt8) {n i : Nat} (h : i < n) : (numsAt d n).getD i 0 = (four d (4 + 4 * i) : Int) := by simp [numsAt, List.getD_eq_getElem?_getD, h]
theorem numsAt_take (d : List UInt8) {n i : Nat} (h : i ≤ n) : (numsAt d n).take i = numsAt d i := by
  unfold numsAt
  rw [← List.map_take, List.take_range, Nat.min_eq_left h]
theorem numsAt_succ (d : List UInt8) (n : Nat) : numsAt d (n + 1) = numsAt d n ++ [(four d (4 + 4 * n) : Int)] := by
  unfold numsAt
  rw [List.range_succ, List.map_append]
  rfl
theorem bodyB_nums {d : List UInt8} : ∀ {n : Nat}, 4 * n + 4 ≤ d.length → bodyB (numsAt d n) = (d.drop 4).take (4 * n)
  | 0, _ => by simp [numsAt, bodyB]
  | n + 1, h => by
    rw [numsAt_succ]
    have e : bodyB (numsAt d n ++ [(four d (4 + 4 * n) : Int)]) = bodyB (numsAt d n) ++ word4 (four d (4 + 4 * n)) := by simp [bodyB]
    rw [e, bodyB_nums (by omega), word4_four (by omega), show 4 * (n + 1) = 4 * n + 4 by omega, List.take_add]
    congr 1
    rw [List.drop_drop]
theorem headB_nums {d : List UInt8} {n : Nat} (hn : n = four d 0) (h : 4 * n + 4 ≤ d.length) : headB n (numsAt d n) = d.take (4 * n + 4) := by
  rw [headB, bodyB_nums h, hn, word4_four (by omega), List.drop_zero, ← hn, show 4 * n + 4 = 4 + 4 * n by omega, List.take_add]

/-- the record at the beginning of bytes. -/
def recAt (d : List UInt8) : Option (List Int) :=
  if d.length < 4 then none else if 4000 < four d 0 ∨ d.length < 4 * four d 0 + 8 then none
  else if four d (4 * four d 0 + 4) ≠ sumL (d.take (4 * four d 0 + 4)) then none
  else if (numsAt d (four d 0)).any outB = true then none else some (numsAt d (four d 0))
/-- as the document tells it: writing what it says makes just these bytes. -/
theorem rec_iff {d : List UInt8} (h1 : ¬ d.length < 4) (h2 : ¬ (4000 < four d 0 ∨ d.length < 4 * four d 0 + 8)) :
    (wrC (numsAt d (four d 0)) = 0 ∧ recB (numsAt d (four d 0)) = (d.drop 0).take (4 * four d 0 + 8)) ↔ recAt d = some (numsAt d (four d 0)) := by
  obtain ⟨n, hn⟩ : ∃ n, n = four d 0 := ⟨_, rfl⟩
  rw [← hn] at h2 ⊢
  have hh := headB_nums hn (show 4 * n + 4 ≤ d.length by omega)
  have hrec : recB (numsAt d n) = d.take (4 * n + 4) ++ word4 (sumL (d.take (4 * n + 4))) := by rw [recB, numsAt_length, hh]
  have htk : d.take (4 * n + 8) = d.take (4 * n + 4) ++ word4 (four d (4 * n + 4)) := by
    rw [word4_four (by omega), show 4 * n + 8 = 4 * n + 4 + 4 by omega, List.take_add]
  rw [List.drop_zero, hrec, htk]
  unfold recAt
  rw [if_neg h1, ← hn, if_neg h2]
  have hlen : (numsAt d n).length ≤ 4000 := by rw [numsAt_length]; omega
  constructor
  · rintro ⟨hw, he⟩
    have := word4_inj (by have := sumL_lt (d.take (4 * n + 4)); omega) (four_lt _ _) (List.append_cancel_left he)
    rw [if_neg (by rw [this]; simp)]
    cases ha : (numsAt d n).any outB
    · simp
    · rw [wrC_out hlen ha] at hw; simp at hw
  · intro h
    by_cases hs : four d (4 * n + 4) = sumL (d.take (4 * n + 4))
    · rw [if_neg (by simp [hs])] at h
      cases ha : (numsAt d n).any outB
      · exact ⟨wrC_ok hlen ha, by rw [hs]⟩
      · rw [ha] at h; simp at h
    · rw [if_pos hs] at h; simp at h
theorem recAt_some {d : List UInt8} {l : List Int} (h : recAt d = some l) : wrC l = 0 ∧ l.length = four d 0 ∧ 4 * l.length + 8 ≤ d.length ∧ recB l = d.take (4 * l.length + 8) ∧ l = numsAt d (four d 0) := by
  have h1 : ¬ d.length < 4 := by intro h1; rw [recAt, if_pos h1] at h; cases h
  have h2 : ¬ (4000 < four d 0 ∨ d.length < 4 * four d 0 + 8) := by intro h2; rw [recAt, if_neg h1, if_pos h2] at h; cases h
  have hl : l = numsAt d (four d 0) := by
    have h' := h
    unfold recAt at h'
    rw [if_neg h1, if_neg h2] at h'
    split at h'
    · cases h'
    · split at h'
      · cases h'
      · exact (Option.some.inj h').symm
  have := (rec_iff h1 h2).2 (by rw [h, hl])
  rw [← hl] at this
  have hlen : l.length = four d 0 := by rw [hl, numsAt_length]
  exact ⟨this.1, hlen, by omega, by rw [this.2, List.drop_zero, hlen], hl⟩

/-- what is read in so many steps. -/
def run : Nat → List UInt8 → List (List Int) × Nat
  | 0, _ => ([], 0)
  | k + 1, d => match recAt (d.drop (run k d).2) with
    | none => run k d
    | some l => ((run k d).1 ++ [l], (run k d).2 + (4 * l.length + 8))
theorem run_le (d : List UInt8) : ∀ k, (run k d).2 ≤ d.length
  | 0 => Nat.zero_le _
  | k + 1 => by
    have ih := run_le d k
    show (match recAt (d.drop (run k d).2) with | none => run k d | some l => ((run k d).1 ++ [l], (run k d).2 + (4 * l.length + 8))).2 ≤ _
    cases h : recAt (d.drop (run k d).2) with
    | none => exact ih
    | some l =>
      have := (recAt_some h).2.2.1
      rw [List.length_drop] at this
      show (run k d).2 + (4 * l.length + 8) ≤ d.length
      omega
theorem run_go {d : List UInt8} {k : Nat} {l : List Int} (h : recAt (d.drop (run k d).2) = some l) : run (k + 1) d = ((run k d).1 ++ [l], (run k d).2 + (4 * l.length + 8)) := by
  show (match recAt (d.drop (run k d).2) with | none => run k d | some l => ((run k d).1 ++ [l], (run k d).2 + (4 * l.length + 8))) = _
  rw [h]
theorem run_stay {d : List UInt8} {k : Nat} (h : recAt (d.drop (run k d).2) = none) : ∀ j, run (k + j) d = run k d
  | 0 => rfl
  | j + 1 => by
    show (match recAt (d.drop (run (k + j) d).2) with | none => run (k + j) d | some l => ((run (k + j) d).1 ++ [l], (run (k + j) d).2 + (4 * l.length + 8))) = _
    rw [run_stay h j, h]
/-- ALL THAT IS READ. -/
def readL (d : List UInt8) : List (List Int) × Nat := run d.length d
theorem read_stop {d : List UInt8} {k : Nat} (hk : 8 * k ≤ (run k d).2) (h : recAt (d.drop (run k d).2) = none) : readL d = run k d := by
  have := run_le d k
  have e := run_stay h (d.length - k)
  rw [show k + (d.length - k) = d.length by omega] at e
  exact e
theorem run_records (d : List UInt8) : ∀ k, 8 * (run k d).1.length ≤ (run k d).2
  | 0 => Nat.le_refl _
  | k + 1 => by
    have ih := run_records d k
    show 8 * (match recAt (d.drop (run k d).2) with | none => run k d | some l => ((run k d).1 ++ [l], (run k d).2 + (4 * l.length + 8))).1.length ≤ (match recAt (d.drop (run k d).2) with | none => run k d | some l => ((run k d).1 ++ [l], (run k d).2 + (4 * l.length + 8))).2
    cases h : recAt (d.drop (run k d).2) with
    | none => exact ih
    | some l => show 8 * ((run k d).1 ++ [l]).length ≤ (run k d).2 + (4 * l.length + 8); rw [List.length_append, List.length_singleton]; omega
end Go.Proofs.Ytjnobdpjohbdnaa
