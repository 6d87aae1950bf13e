/-
  Rows of terms in memory of the call's own; the parts of a term.
-/
import Derived.Test.YtnicbkkkecfdpaaGreatDoorMem
namespace Go.Proofs.YtnicbkkkecfdpaaGreatDoor
open Go.ChangeShapes Go.WideShapes Go.ChangeAt Go.RowKit Go.Deep
open Terms

/-- a row of slices of ops, each in memory of the call's own. -/
def TermsOwn (w : World) (base : Nat) (v : Value) (ts : List (List (Int × Int))) : Prop :=
  ∃ us : List Value, w.ownsRow base 27 1 v ts.length us ∧ ∀ j, j < ts.length → w.ownsRow base 92 2 (us.getD j .nilIface) (ts.getD j []).length (flat (ts.getD j []))
set_option maxRecDepth 20000 in
theorem TermsOwn.nil (w : World) (base : Nat) : TermsOwn w base (.slice none 0 0) [] := ⟨[], World.ownsRow_nil _ _ _ _, fun j hj => by simp at hj⟩
set_option maxRecDepth 20000 in
theorem TermsOwn.drew {w : World} {base : Nat} {v : Value} {ts : List (List (Int × Int))} (h : TermsOwn w base v ts) : TermsOwn w.drew base v ts := h

set_option maxRecDepth 20000 in
theorem TermsOwn.later {w w' : World} {base B : Nat} {v : Value} {ts : List (List (Int × Int))} (h : TermsOwn w base v ts) (hb : Below B w w') (hB : w.heap.size ≤ B) : TermsOwn w' base v ts := by
  obtain ⟨us, h1, h2⟩ := h
  exact ⟨us, owns_later h1 hb hB, fun j hj => owns_later (h2 j hj) hb hB⟩
set_option maxRecDepth 20000 in
/-- one term more is appended. -/
theorem TermsOwn.snoc {w wa w' : World} {base : Nat} {v v' u : Value} {ts : List (List (Int × Int))} {t : List (Int × Int)} {us : List Value}
    (hus : w.ownsRow base 27 1 v ts.length us) (hts : ∀ j, j < ts.length → w.ownsRow base 92 2 (us.getD j .nilIface) (ts.getD j []).length (flat (ts.getD j [])))
    (hu : w.ownsRow base 92 2 u t.length (flat t)) (ha : ∃ o, wa = w.alloc o) (hg : wa.grownBy w' v.ownBlock) (ho : w'.ownsRow base 27 1 v' (ts.length + 1) (us ++ [u])) : TermsOwn w' base v' (ts ++ [t]) := by
  obtain ⟨o, rfl⟩ := ha
  have hl : us.length = ts.length := by simpa using hus.1
  refine ⟨us ++ [u], by simpa using ho, fun j hj => ?_⟩
  by_cases hlt : j < ts.length
  · have h1 := (hts j hlt).alloc o
    have := h1.kept hg (owns_apart (by decide) h1 (hus.alloc o))
    simpa [List.getD_eq_getElem?_getD, List.getElem?_append_left (show j < us.length by omega), List.getElem?_append_left hlt] using this
  · have hj' : j = ts.length := by simp at hj; omega
    subst hj'
    have h1 := hu.alloc o
    have := h1.kept hg (owns_apart (by decide) h1 (hus.alloc o))
    simpa [List.getD_eq_getElem?_getD, ← hl] using this

/-- the parts of the first op of a list of ops. -/
def splitTo (l : List (Int × Int)) (i : Nat) : List (List (Int × Int)) := (List.range i).map fun j => seg l (pos (l.map Prod.fst) j) (pos (l.map Prod.fst) (j + 1))
def splitL (l : List (Int × Int)) : List (List (Int × Int)) := if endsCode (l.map Prod.fst) = 0 then splitTo l (pn ((l.map Prod.fst).getD 0 0)) else []
set_option maxRecDepth 20000 in
theorem splitTo_len (l : List (Int × Int)) (i : Nat) : (splitTo l i).length = i := by simp [splitTo]
set_option maxRecDepth 20000 in
theorem splitTo_snoc (l : List (Int × Int)) (i : Nat) : splitTo l (i + 1) = splitTo l i ++ [seg l (pos (l.map Prod.fst) i) (pos (l.map Prod.fst) (i + 1))] := by simp [splitTo, List.range_succ]

set_option maxRecDepth 20000 in
theorem OpsAt.seg {w : World} {b off : Nat} {l : List (Int × Int)} (h : OpsAt w b off l) {a c : Nat} (hc : c ≤ l.length) : OpsAt w b (off + a * 2) (seg l a c) := by
  intro i hi
  rw [seg_length hc] at hi
  have := h (a + i) (by omega)
  rw [seg_get _ hi, show off + a * 2 + i * 2 = off + (a + i) * 2 by omega]
  exact this

set_option maxRecDepth 20000 in
theorem infoOps : (Tryz.prog.info? 27).map (fun i => (i.zero, i.size, i.bytes)) = some (some (.slice none 0 0), 1, 24) := by kernel_rfl

set_option maxRecDepth 20000 in
theorem TermsOwn.termsV {w : World} {base : Nat} {v : Value} {ts : List (List (Int × Int))} (h : TermsOwn w base v ts) : TermsV w v ts := by
  obtain ⟨us, h1, h2⟩ := h
  have hl : us.length = ts.length := by simpa using h1.1
  rcases h1.2 with ⟨rfl, h0⟩ | ⟨g, cap, cur, rfl, hbg, hg, _⟩
  · exact ⟨none, 0, by rw [h0], fun h => absurd (List.length_eq_zero_iff.1 h0) h⟩
  · refine ⟨_, cap, rfl, fun _ => ⟨g, 0, rfl, (Array.getElem?_eq_some_iff.1 hg).1, fun i hi => ⟨us.getD i .nilIface, ?_, opsV_of_owns (h2 i hi)⟩⟩⟩
    rw [Nat.zero_add, h1.cellAt i (by omega)]
    simp [List.getD_eq_getElem?_getD, show i < us.length by omega]
end Go.Proofs.YtnicbkkkecfdpaaGreatDoor
