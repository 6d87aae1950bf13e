/-
  How the graph turned about lies while it is made: a row of slices that grow, each in memory of its own.
-/
import Derived.Test.YtknneajaklcjdaaPpM
import Derived.Test.YtknneajaklcjdaaRefReach
namespace Go.Proofs.Ytknneajaklcjdaa
open Go.ChangeShapes Go.WideShapes Go.ChangeAt Go.RowKit Go.Deep
open Terms

theorem owns_block {w w' : World} {T : Nat} {e : TypeId} {s n : Nat} {v : Value} {xs : List Value} (h : w.ownsRow T e s v n xs) (hb : ∀ g, v.ownBlock = some g → w'.heap[g]? = w.heap[g]?) : w'.ownsRow T e s v n xs := by
  refine ⟨h.1, ?_⟩
  rcases h.2 with h2 | ⟨g, cap, cur, hv, hg, hh, r⟩
  · exact .inl h2
  · exact .inr ⟨g, cap, cur, hv, hg, (hb g (by rw [hv]; rfl)).trans hh, r⟩
/-- an own row of ints is no row of slices. -/
theorem owns_far {w : World} {T nb m n : Nat} {f : Nat → Value} {v : Value} {xs : List Value} (h : w.ownsRow T 3 1 v m xs) (hr : w.rowIs nb 24 n f) : v.ownBlock ≠ some nb := fun he => by
  rcases h.2 with ⟨rfl, _⟩ | ⟨g, cap, cur, rfl, hg, hh, r⟩
  · cases he
  · obtain rfl : g = nb := Option.some.inj he
    obtain ⟨c, hb, _⟩ := hr
    rw [hh] at hb
    injection Option.some.inj hb with _ h2 _
    exact absurd h2 (by decide)
/-- the lists under way: a row in block nb, a slice for each spot. -/
structure TurnW (w : World) (T nb n : Nat) (us : Nat → Value) (L : Nat → List Nat) : Prop where
  base : T ≤ nb
  row : w.rowIs nb 24 n us
  each : ∀ j, j < n → w.ownsRow T 3 1 (us j) (L j).length (nvals (L j))
  apart : ∀ j k, j < n → k < n → j ≠ k → (us j).ownBlock = none ∨ (us j).ownBlock ≠ (us k).ownBlock
theorem TurnW.later {w w' : World} {T nb n : Nat} {us : Nat → Value} {L : Nat → List Nat} (h : TurnW w T nb n us L) (hb : Below w.heap.size w w') : TurnW w' T nb n us L :=
  ⟨h.base, row_later h.row hb, fun j hj => owns_later (h.each j hj) hb (Nat.le_refl _), h.apart⟩
theorem TurnW.start {w : World} {T nb n : Nat} (hT : T ≤ nb) (hr : w.rowIs nb 24 n (fun _ => .slice none 0 0)) : TurnW w T nb n (fun _ => .slice none 0 0) (fun _ => []) :=
  ⟨hT, hr, fun _ _ => World.ownsRow_nil _ _ _ _, fun _ _ _ _ _ => .inl rfl⟩
/-- ONE MORE ENTRY of a list. -/
theorem TurnW.push {w w1 w2 : World} {T nb n : Nat} {us : Nat → Value} {L : Nat → List Nat} (h : TurnW w T nb n us L) (hb : Below w.heap.size w w1) {t i g cap : Nat} (ht : t < n)
    (hown : w2.ownsRow T 3 1 (.slice (some ⟨g, 0, none⟩) ((L t).length + 1) cap) ((L t).length + 1) (nvals (L t) ++ [.int .i64 (i : Int)])) (hgr : w1.grownBy w2 (us t).ownBlock) (hor : (us t).ownBlock = some g ∨ g = w1.heap.size) :
    TurnW (w2.setCell ⟨nb, t, none⟩ (.slice (some ⟨g, 0, none⟩) ((L t).length + 1) cap)) T nb n (fun j => if j = t then .slice (some ⟨g, 0, none⟩) ((L t).length + 1) cap else us j) (fun j => if j = t then L t ++ [i] else L j) := by
  have h1 := h.later hb
  have hfar := owns_far (h1.each t ht) h1.row
  have hr2 : w2.rowIs nb 24 n us := h1.row.of_block (hgr.block nb h1.row.lt (fun e => hfar e.symm))
  have hg := owns_far hown hr2
  have hset : ∀ {v : Value} {m : Nat} {xs : List Value}, w2.ownsRow T 3 1 v m xs → (w2.setCell ⟨nb, t, none⟩ (.slice (some ⟨g, 0, none⟩) ((L t).length + 1) cap)).ownsRow T 3 1 v m xs := fun ho =>
    owns_block ho fun z hz => blk_setCell_other _ _ _ _ (fun e => owns_far ho hr2 (by rw [hz]; exact congrArg some e))
  have hnew : ∀ k, k < n → k ≠ t → (us k).ownBlock ≠ some g := fun k hk hkt he => by
    rcases hor with e | e
    · rcases h.apart t k ht hk (Ne.symm hkt) with q | q
      · rw [q] at e; cases e
      · exact q (by rw [e, he])
    · have := ((h1.each k hk).lt g he).2
      omega
  refine ⟨h.base, (hr2.set t _), fun j hj => ?_, fun j k hj hk hjk => ?_⟩
  · by_cases e : j = t
    · rw [if_pos e, if_pos e]
      refine hset ?_
      rw [List.length_append, show nvals (L t ++ [i]) = nvals (L t) ++ [.int .i64 (i : Int)] by simp [nvals]]
      exact hown
    · rw [if_neg e, if_neg e]
      exact hset ((h1.each j hj).kept hgr (h.apart j t hj ht e))
  · by_cases e : j = t
    · rw [if_pos e, if_neg (fun q => hjk (e.trans q.symm))]
      exact .inr fun q => hnew k hk (fun e2 => hjk (e.trans e2.symm)) q.symm
    · rw [if_neg e]
      by_cases e2 : k = t
      · rw [if_pos e2]
        exact .inr (hnew j hj e)
      · rw [if_neg e2]
        exact h.apart j k hj hk hjk
/-- as reachedFrom wants it. -/
theorem TurnW.rows {w : World} {T nb n : Nat} {us : Nat → Value} {L : Nat → List Nat} (h : TurnW w T nb n us L) {p : Nat} (hp : p < n) : ∃ uo uc, w.cell? ⟨nb, p, none⟩ = some (.slice uo (L p).length uc) ∧ NatsV w (.slice uo (L p).length uc) (L p) := by
  have hc := h.row.cell hp
  have he := h.each p hp
  rcases he.2 with ⟨hv, h0⟩ | ⟨g, cap, cur, hv, hg, hh, hn, _, hs, htk⟩
  · rw [hv] at hc
    have hl : L p = [] := List.length_eq_zero_iff.1 h0
    rw [hl]
    exact ⟨none, 0, hc, none, 0, rfl, fun hne => absurd rfl hne⟩
  · rw [hv] at hc
    refine ⟨_, _, hc, some ⟨g, 0, none⟩, cap, rfl, fun _ => ⟨g, 0, rfl, ?_, fun i hi => ?_⟩⟩
    · exact (he.lt g (by rw [hv]; rfl)).2
    · have h9 : (cur.toList.take ((L p).length * 1))[i]? = some (.int .i64 ((L p).getD i 0 : Int)) := by
        rw [htk]
        simp [nvals, List.getD_eq_getElem?_getD, List.getElem?_eq_getElem hi]
      rw [List.getElem?_take_of_lt (by omega), Array.getElem?_toList] at h9
      simp [World.cell?, hh, h9]
end Go.Proofs.Ytknneajaklcjdaa
