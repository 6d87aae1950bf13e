/-
  The contract of step.Reach.
-/
import Derived.Test.YtbcjhkhndahdhaaDoorStepNext
import Derived.Test.YtbcjhkhndahdhaaDoorReaches
import Derived.Test.YtbcjhkhndahdhaaDoorMFirst
import Derived.Test.YtbcjhkhndahdhaaDoorPairs
import Derived.Maps.OwnSet
namespace Go.Proofs.YtbcjhkhndahdhaaDoor
open Go.ChangeShapes Go.WideShapes Go.ChangeAt Go.RowKit Go.Deep Go.Maps
open Terms Tm

/-- the first state's code. -/
def firstC (m : Mo) : Int := codeTo m.vars (initsL m.vars) m.vars.length
set_option maxRecDepth 20000 in
theorem firstC_in {m : Mo} (h : mcode m = 0) : 0 ≤ firstC m ∧ firstC m < prodTo m.vars m.vars.length := code_bounds (mcode_vars h) (Nat.le_refl _) (fun i hi => inits_in (mcode_vars h) i hi)
/-- the states that are reached. -/
noncomputable def reachL (m : Mo) : List Int := if mcode m = 0 then reachN (nextL m) (firstC m) (prodTo m.vars m.vars.length).toNat else []
set_option maxRecDepth 20000 in
theorem nextL_in {m : Mo} (hm : mcode m = 0) {x : Int} (hx : 0 ≤ x ∧ x < prodTo m.vars m.vars.length) {y : Int} (hy : y ∈ nextL m x) : 0 ≤ y ∧ y < prodTo m.vars m.vars.length := by
  have h1 := ((upL_spec _).2 y).1 hy
  unfold rawL at h1
  split at h1
  · simp at h1; subst h1; exact hx
  · obtain ⟨j, _, e⟩ := (rawTo_mem (Nat.le_refl _) y).1 h1
    exact ruleDo_state (mcode_vars hm) e
/-- the states that were met, by their codes. -/
def MetIs (w : World) (b : Nat) (l : List Int) : Prop := ∃ D : DataW Unit, w.ownsMap Tryd.prog 3 (plainElem Tryd.prog 3) b l.length D ∧ ∀ x : Int, 0 ≤ x ∧ x ≤ 5000 → Maps.has D (.int .i64 x) = decide (x ∈ l)
set_option maxRecDepth 20000 in
theorem keyS (x : Int) (h : 0 ≤ x ∧ x ≤ 5000) : keyOf Tryd.prog 3 (.int .i64 x) = some (.int .i64 x) := keyOf_int_mk Tryd.underlying3 (WalkArith.wf_i64 (by omega))
set_option maxRecDepth 20000 in
theorem MetIs.put {w w' : World} {b : Nat} {l : List Int} {D : DataW Unit} {x : Int} {d : DataW Unit} (hD : w.ownsMap Tryd.prog 3 (plainElem Tryd.prog 3) b l.length D) (h : ∀ y : Int, 0 ≤ y ∧ y ≤ 5000 → Maps.has D (.int .i64 y) = decide (y ∈ l)) (h' : w'.ownsMap Tryd.prog 3 (plainElem Tryd.prog 3) b (l.length + 1) (D.put (.int .i64 x) d)) : MetIs w' b (l ++ [x]) := by
  refine ⟨_, by simpa using h', fun y hy => ?_⟩
  by_cases hyx : y = x
  · subst hyx
    rw [has_put_same hD.isMap (by simp [WideAt.IsKeyLit])]
    simp
  · rw [has_put_other (by simpa using hyx), h y hy]
    simp [hyx]

set_option maxRecDepth 20000 in
theorem MetIs.below {w w' : World} {b : Nat} {l : List Int} (h : MetIs w b l) (hb : Below w.heap.size w w') : MetIs w' b l := by
  obtain ⟨D, h1, h2⟩ := h
  exact ⟨D, h1.kept (row := none) ⟨hb.os, hb.tape, hb.output, hb.size, fun i hi _ => hb.block i hi⟩ (by simp), h2⟩
set_option maxRecDepth 20000 in
theorem undrewB {a b : World} (h : Below a.drew.heap.size a.drew b) : Below a.heap.size a b := ⟨h.os, h.tape, h.output, h.size, h.block⟩
/-- the list of states that were met, and the map, as the search goes on. -/
structure Met (nx : Int → List Int) (first : Int) (N b : Nat) (w1 wr : World) (v : Value) (R : List Int) (p : Nat) : Prop where
  nodup : R.Nodup
  fst : first ∈ R
  all : ∀ x ∈ R, (0 ≤ x ∧ x < N) ∧ RSt nx first x
  closed : ∀ i, i < p → ∀ y ∈ nx (R.getD i 0), y ∈ R
  own : wr.ownsRow (b + 1) 3 1 v R.length (ivals R)
  ne : v ≠ .slice none 0 0
  met : MetIs wr b R
  bel : Below w1.heap.size w1 wr
set_option maxRecDepth 20000 in
theorem Met.below {nx : Int → List Int} {first : Int} {N b : Nat} {w1 wr w' : World} {v : Value} {R : List Int} {p : Nat} (h : Met nx first N b w1 wr v R p) (hb : Below wr.heap.size wr w') : Met nx first N b w1 w' v R p :=
  ⟨h.nodup, h.fst, h.all, h.closed, owns_later h.own hb (Nat.le_refl _), h.ne, h.met.below hb, h.bel.trans (hb.mono h.bel.size)⟩
set_option maxRecDepth 20000 in
theorem Met.length {nx : Int → List Int} {first : Int} {N b : Nat} {w1 wr : World} {v : Value} {R : List Int} {p : Nat} (h : Met nx first N b w1 wr v R p) : R.length ≤ N := nodup_length h.nodup fun x hx => (h.all x hx).1
set_option maxRecDepth 20000 in
theorem Met.form {nx : Int → List Int} {first : Int} {N b : Nat} {w1 wr : World} {v : Value} {R : List Int} {p : Nat} (h : Met nx first N b w1 wr v R p) : ∃ g cap, v = .slice (some ⟨g, 0, none⟩) R.length cap ∧ b + 1 ≤ g ∧ g < wr.heap.size := OwnI.form ⟨h.own, h.ne⟩
/-- so far gone through. -/
def MetTo (nx : Int → List Int) (first : Int) (N b : Nat) (w1 wr : World) (v : Value) (p : Nat) : Prop := ∃ R, p ≤ R.length ∧ Met nx first N b w1 wr v R p
/-- and so far through the next states of the one at hand. -/
def MetAt (nx : Int → List Int) (first : Int) (N b : Nat) (w1 wr : World) (v : Value) (p : Nat) (x : Int) (nl : List Int) (q : Nat) : Prop := ∃ R, p < R.length ∧ R.getD p 0 = x ∧ (∀ j, j < q → nl.getD j 0 ∈ R) ∧ Met nx first N b w1 wr v R p
end Go.Proofs.YtbcjhkhndahdhaaDoor
