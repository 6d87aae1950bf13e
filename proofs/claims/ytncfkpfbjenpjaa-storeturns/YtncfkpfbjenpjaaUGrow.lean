/-
  Stores that grew by keys that rise.
-/
import Derived.Test.YtncfkpfbjenpjaaUStock
namespace Go.Proofs.Ytncfkpfbjenpjaa
open Go.ChangeShapes Go.WideShapes Go.ChangeAt Go.RowKit Go.Deep

theorem newBox (w : World) (t : TypeId) : Bw (w.alloc (.cells #[.slice none 0 0, .slice none 0 0] t)) w.heap.size (.slice none 0 0) (.slice none 0 0) := Bw.new w _ _ _
theorem Bw.put {w : World} {b : Nat} {y0 y1 : Value} (h : Bw w b y0 y1) (u v : Value) : Bc ((w.setCell ⟨b, 0, none⟩ u).setCell ⟨b, 1, none⟩ v) b u v := by
  obtain ⟨⟨hlt, c0, c1⟩, f0, f1⟩ := h
  exact ⟨by simpa using hlt, by simp [go_sem, c0], by simp [go_sem, c1]⟩
theorem Bw.intsN {w : World} {b B : Nat} {n0 c0 n1 c1 : Nat} {a0 a1 : Option Addr} (h : Bw w b (.slice a0 n0 c0) (.slice a1 n1 c1)) {x : Value} {l : List Int} (hx : IntsN w B x l) (u v : Value) : IntsN ((w.setCell ⟨b, 0, none⟩ u).setCell ⟨b, 1, none⟩ v) B x l := by
  obtain ⟨⟨hlt, d0, d1⟩, f0, f1⟩ := h
  have d1' : (w.setCell ⟨b, 0, none⟩ u).cell? ⟨b, 1, none⟩ = w.cell? ⟨b, 1, none⟩ := by simp [go_sem]
  exact (hx.setBox d0 _).setBox (d1'.trans d1) _
theorem Bw.lisX {w : World} {b B : Nat} {n0 c0 n1 c1 : Nat} {a0 a1 : Option Addr} (h : Bw w b (.slice a0 n0 c0) (.slice a1 n1 c1)) (hB : b < B) {x : Value} {l : List (List Int)} (hx : LisX w B x l) (u v : Value) : LisX ((w.setCell ⟨b, 0, none⟩ u).setCell ⟨b, 1, none⟩ v) B x l := by
  obtain ⟨⟨hlt, d0, d1⟩, f0, f1⟩ := h
  have d1' : (w.setCell ⟨b, 0, none⟩ u).cell? ⟨b, 1, none⟩ = w.cell? ⟨b, 1, none⟩ := by simp [go_sem]
  exact (hx.setBox (p := ⟨b, 0, none⟩) hB d0 _).setBox (p := ⟨b, 1, none⟩) hB (d1'.trans d1) _

/-- so many keys that rise, from a first one on. -/
def risK (f : Int) (q : Nat) : List Int := (List.range q).map fun (i : Nat) => f + (i : Int)
theorem risK_len (f : Int) (q : Nat) : (risK f q).length = q := by simp [risK]
theorem risK_succ (f : Int) (q : Nat) : risK f (q + 1) = risK f q ++ [f + (q : Int)] := by simp [risK, List.range_succ]
theorem risK_mem {f : Int} {q : Nat} {x : Int} (h : x ∈ risK f q) : f ≤ x ∧ x < f + (q : Int) := by
  simp only [risK, List.mem_map, List.mem_range] at h
  obtain ⟨i, hi, rfl⟩ := h
  omega
theorem risK_at {f : Int} {q i : Nat} (h : i < q) : (risK f q).getD i 0 = f + (i : Int) := by
  simp [risK, List.getD_eq_getElem?_getD, h]
theorem risK_up (f : Int) (q : Nat) : (risK f q).Pairwise (· ≤ ·) := by
  induction q with
  | zero => simp [risK]
  | succ q ih =>
    rw [risK_succ, List.pairwise_append]
    refine ⟨ih, by simp, fun a ha b hb => ?_⟩
    have := risK_mem ha
    simp only [List.mem_singleton] at hb
    omega
/-- a store that grew by them. -/
structure Gro (f : Int) (q : Nat) (lo : List Int) (rs : List (List Int)) : Prop where
  stk : Stk lo rs (risK f q)
  sizes : rs.map List.length = iterZ (q / 8)
theorem Gro.nil (f : Int) : Gro f 0 [] [] := ⟨Stk.nil, rfl⟩
theorem Gro.add {f : Int} {q : Nat} {lo : List Int} {rs : List (List Int)} (h : Gro f q lo rs) (h0 : 0 ≤ f) (h1 : f < 1000) (hq : q < 200) :
    addC lo rs (f + (q : Int)) = ((addS lo rs (f + (q : Int))).1, (addS lo rs (f + (q : Int))).2, true, 0) ∧ Gro f (q + 1) (addS lo rs (f + (q : Int))).1 (addS lo rs (f + (q : Int))).2 := by
  have hn : f + (q : Int) ∉ risK f q := fun hm => by have := risK_mem hm; omega
  have hl := risK_len f q
  refine ⟨by rw [addC_is h.stk (by omega) (by omega) (by omega), if_neg hn], by rw [risK_succ]; exact h.stk.add (by omega) (by omega) hn (by omega), ?_⟩
  have hlow := h.stk.low
  rw [hl] at hlow
  unfold addS
  split
  · rename_i h8
    rw [h.sizes]
    congr 1
    omega
  · rename_i h8
    rw [runsAdd_sizes (by simp; omega), h.sizes, show (q + 1) / 8 = q / 8 + 1 by omega]
    rfl
theorem Gro.runs {f : Int} {q : Nat} {lo : List Int} {rs : List (List Int)} (h : Gro f q lo rs) (hq : q < 200) : rs.length = onesN 8 (q / 8) := by
  have := congrArg List.length h.sizes
  rw [List.length_map] at this
  rw [this, iterZ_ones _ (by omega)]
theorem Gro.all {f : Int} {q : Nat} {lo : List Int} {rs : List (List Int)} (h : Gro f q lo rs) : allL lo rs = risK f q := by
  rw [allL_ok h.stk.may]
  exact (up_is (risK_up f q) h.stk.keys.symm).symm
theorem ones_zero : ∀ n, onesN n 0 = 0
  | 0 => rfl
  | n + 1 => by simp [onesN]
/-- how the ones are counted. -/
def OnesAt (k i o : Nat) : Prop := ∃ n, n ≤ 8 ∧ i < 2 ^ n ∧ o + onesN n i = onesN 8 (k / 8)
theorem OnesAt.start {k : Nat} (h : k < 200) : OnesAt k (k / 8) 0 := ⟨8, Nat.le_refl _, by omega, by omega⟩
theorem OnesAt.step {k i o : Nat} (h : OnesAt k i o) (hi : 0 < i) : OnesAt k (i / 2) (o + i % 2) := by
  obtain ⟨n, h1, h2, h3⟩ := h
  cases n with
  | zero => simp at h2; omega
  | succ n =>
    refine ⟨n, by omega, by rw [Nat.pow_succ] at h2; omega, ?_⟩
    rw [onesN, if_neg (by omega)] at h3
    omega
theorem OnesAt.done {k o : Nat} (h : OnesAt k 0 o) : o = onesN 8 (k / 8) := by
  obtain ⟨n, _, _, h3⟩ := h
  rw [ones_zero] at h3
  omega
end Go.Proofs.Ytncfkpfbjenpjaa
