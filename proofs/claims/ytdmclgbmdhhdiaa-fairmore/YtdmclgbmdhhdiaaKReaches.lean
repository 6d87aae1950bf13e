/-
  The contract of the keeping laws' own reaches.
-/
import Derived.Test.YtdmclgbmdhhdiaaRefReach
import Derived.Deep.QuietTactic
import Derived.BigQuiet
namespace Go.Proofs.Ytdmclgbmdhhdiaa
open Go.ChangeShapes Go.WideShapes Go.ChangeAt Go.RowKit Go.Deep
open Terms

/-- what was met so far from a place. -/
structure TM (n : Nat) (nx : Nat → List Nat) (fr : Nat) (R : List Nat) : Prop where
  nodup : R.Nodup
  fst : fr ∈ R
  lt : ∀ x ∈ R, x < n
  way : ∀ x ∈ R, Way nx fr x
theorem TM.length {n : Nat} {nx : Nat → List Nat} {fr : Nat} {R : List Nat} (h : TM n nx fr R) : R.length ≤ n := nodup_le h.nodup h.lt
theorem nat_mem {l : List Nat} {i : Nat} (hi : i < l.length) : l.getD i 0 ∈ l := by rw [List.getD_eq_getElem?_getD, List.getElem?_eq_getElem hi]; exact List.getElem_mem _
theorem TM.snoc {n : Nat} {nx : Nat → List Nat} {fr : Nat} {R : List Nat} {y : Nat} (h : TM n nx fr R) (hy : ¬ y ∈ R) (hn : y < n) (hw : Way nx fr y) : TM n nx fr (R ++ [y]) := by
  refine ⟨?_, List.mem_append.2 (.inl h.fst), fun x hx => ?_, fun x hx => ?_⟩
  · rw [List.nodup_append]
    refine ⟨h.nodup, by simp, fun a ha b hb => ?_⟩
    rw [List.mem_singleton] at hb
    subst hb
    exact fun e => hy (e ▸ ha)
  · rcases List.mem_append.1 hx with hx | hx
    · exact h.lt x hx
    · rw [List.mem_singleton] at hx; subst hx; exact hn
  · rcases List.mem_append.1 hx with hx | hx
    · exact h.way x hx
    · rw [List.mem_singleton] at hx; subst hx; exact hw
/-- so far gone through. -/
def TClosed (nx : Nat → List Nat) (R : List Nat) (i : Nat) : Prop := ∀ j, j < i → ∀ y ∈ nx (R.getD j 0), y ∈ R
theorem TClosed.snoc {nx : Nat → List Nat} {R : List Nat} {i y : Nat} (h : TClosed nx R i) (hi : i ≤ R.length) : TClosed nx (R ++ [y]) i := fun j hj z hz => by
  rw [getD_snoc_old R y 0 (by omega)] at hz
  exact List.mem_append.2 (.inl (h j hj z hz))
theorem TM.all {n : Nat} {nx : Nat → List Nat} {fr : Nat} {R : List Nat} (h : TM n nx fr R) (hc : TClosed nx R R.length) (x : Nat) : x ∈ R ↔ Way nx fr x := by
  refine ⟨h.way x, fun hw => Way.closed (S := fun y => y ∈ R) (fun y hy k hk => ?_) h.fst hw⟩
  obtain ⟨j, hj, rfl⟩ := List.getElem_of_mem hy
  exact hc j hj k (by rw [List.getD_eq_getElem?_getD, List.getElem?_eq_getElem hj]; exact hk)
/-- how it lies. -/
structure TW (W0 wr : World) (s n : Nat) (nx : Nat → List Nat) (fr : Nat) (R : List Nat) (v : Value) : Prop where
  below : Below s W0 wr
  row : wr.rowIs s 4 n (fun j => .bool (decide (j ∈ R)))
  own : wr.ownsRow (s + 1) 3 1 v R.length (nvals R)
  ne : v ≠ .slice none 0 0
  tm : TM n nx fr R
theorem TW.later {W0 wr w' : World} {s n : Nat} {nx : Nat → List Nat} {fr : Nat} {R : List Nat} {v : Value} (h : TW W0 wr s n nx fr R v) (hb : Below wr.heap.size wr w') : TW W0 w' s n nx fr R v :=
  ⟨h.below.trans (hb.mono (Nat.le_of_lt h.row.lt)), row_later h.row hb, owns_later h.own hb (Nat.le_refl _), h.ne, h.tm⟩
theorem TW.form {W0 wr : World} {s n : Nat} {nx : Nat → List Nat} {fr : Nat} {R : List Nat} {v : Value} (h : TW W0 wr s n nx fr R v) : ∃ g cap, v = .slice (some ⟨g, 0, none⟩) R.length cap := by
  rcases h.own.2 with ⟨e, _⟩ | ⟨g, cap, cur, rfl, _⟩
  · exact absurd e h.ne
  · exact ⟨g, cap, rfl⟩
theorem TW.put {W0 wr w2 : World} {s n : Nat} {nx : Nat → List Nat} {fr : Nat} {R : List Nat} {v v' : Value} {y : Nat} {o : Obj} (h : TW W0 wr s n nx fr R v) (hy : ¬ y ∈ R) (hn : y < n) (hw : Way nx fr y)
    (hg : ((wr.setCell ⟨s, y, none⟩ (.bool true)).alloc o).grownBy w2 v.ownBlock) (ho : w2.ownsRow (s + 1) 3 1 v' (R.length + 1) (nvals R ++ [.int .i64 (y : Int)])) (hne : v' ≠ .slice none 0 0) : TW W0 w2 s n nx fr (R ++ [y]) v' := by
  have hrow : (wr.setCell ⟨s, y, none⟩ (.bool true)).rowIs s 4 n (fun j => .bool (decide (j ∈ R ++ [y]))) := (h.row.set y (.bool true)).congr fun j _ => by
    by_cases hj : j = y
    · subst hj; simp
    · rw [if_neg hj]; simp [hj]
  have hlt := h.own.lt
  have hsz : s < (wr.setCell ⟨s, y, none⟩ (.bool true)).heap.size := hrow.lt
  have hb1 : Below s W0 (wr.setCell ⟨s, y, none⟩ (.bool true)) := h.below.setCell (Nat.le_refl _) _
  have hblk : w2.heap[s]? = (wr.setCell ⟨s, y, none⟩ (.bool true)).heap[s]? := (hg.block s (by simp at hsz ⊢; omega) (fun e => by have := (hlt s e.symm).1; omega)).trans (((Below.refl _ _).alloc (Nat.le_refl _) o).block s hsz)
  refine ⟨?_, hrow.of_block hblk, ?_, hne, h.tm.snoc hy hn hw⟩
  · exact (hb1.alloc (Nat.le_of_lt hsz) o).grown hg (by simp; simp at hsz; omega) (fun k hk => by have := (hlt k hk).1; omega)
  · rw [List.length_append, nvals, List.map_append]; exact ho

end Go.Proofs.Ytdmclgbmdhhdiaa
