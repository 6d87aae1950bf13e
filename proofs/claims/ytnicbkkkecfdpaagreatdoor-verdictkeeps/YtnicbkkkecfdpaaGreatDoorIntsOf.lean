/-
  The contract of the laws' own ints: a copy.
-/
import Derived.Test.YtnicbkkkecfdpaaGreatDoorMem
namespace Go.Proofs.YtnicbkkkecfdpaaGreatDoor
open Go.ChangeShapes Go.WideShapes Go.ChangeAt Go.RowKit Go.Deep
open Terms

/-- a slice of numbers as it came in. -/
def IntsW (w : World) (v : Value) (l : List Int) : Prop := ∃ ao cap, v = .slice ao l.length cap ∧ (ao = none → cap = 0 ∧ l = []) ∧ (l ≠ [] → ∃ b off, ao = some ⟨b, off, none⟩ ∧ b < w.heap.size ∧ IntsAt w b off l)
set_option maxRecDepth 20000 in
theorem IntsW.v {w : World} {v : Value} {l : List Int} (h : IntsW w v l) : IntsV w v l := by
  obtain ⟨ao, cap, h1, _, h2⟩ := h
  exact ⟨ao, cap, h1, h2⟩
def ivals (l : List Int) : List Value := l.map fun x => .int .i64 x
set_option maxRecDepth 20000 in
theorem ivals_one (l : List Int) : ∀ u ∈ ivals l, u.oneCell' = true := by
  intro u hu
  simp only [ivals, List.mem_map] at hu
  obtain ⟨p, _, rfl⟩ := hu
  rfl
set_option maxRecDepth 20000 in
theorem intsV_of_owns {w : World} {base : Nat} {v : Value} {l : List Int} (h : w.ownsRow base 3 1 v l.length (ivals l)) : IntsV w v l := by
  rcases h.2 with ⟨rfl, h0⟩ | ⟨g, cap, cur, rfl, hb, hg, hnc, hcm, hcs, htake⟩
  · have : l = [] := by simpa using h0
    subst this
    exact ⟨none, 0, rfl, fun h => absurd rfl h⟩
  · refine ⟨_, cap, rfl, fun _ => ⟨g, 0, rfl, (Array.getElem?_eq_some_iff.1 hg).1, fun i hi => ?_⟩⟩
    rw [Nat.zero_add, h.cellAt i (by omega)]
    simp [ivals, List.getD_eq_getElem?_getD, hi]
set_option maxRecDepth 20000 in
/-- THE CONTRACT OF ints: a copy in new memory. -/
theorem ints_any (v : Value) (l : List Int) (w : World) (hl : l.length * 8 ≤ 140737488355328) (hV : IntsW w v l) :
    Calls Tryz.prog 6 #[v] w fun e w' => ∃ v', e = .returned v' ∧ Below w.heap.size w w' ∧ w'.ownsRow w.heap.size 3 1 v' l.length (ivals l) := by
  obtain ⟨ao, cap, rfl, h0, h⟩ := hV
  obtain ⟨i0, hi, hz0, hz1, hz2⟩ := info_parts infoInt
  cases ao with
  | none =>
    obtain ⟨rfl, rfl⟩ := h0 rfl
    simp only [List.length_nil]
    go_enter Tryz.func6, Tryz.ntmps6
    go_wp2_with (at_builtin; refine wpList_append_own_none rfl _ _ 30 rfl w.heap.size 3 i0 1 Tryz.underlying30 hi _ _ _ rfl (World.ownsRow_nil _ _ _ _) rfl ?_)
    go_ret
    exact ⟨_, rfl, Below.refl _ _, World.ownsRow_nil _ _ _ _⟩
  | some a =>
    have hcells : ∀ j u, (ivals l)[j]? = some u → w.cell? (a.add j) = some u := by
      intro j u hj
      have hlt : j < l.length := by have := (List.getElem?_eq_some_iff.1 hj).1; simpa [ivals] using this
      obtain ⟨b, off, e, _, hat⟩ := h (by intro h; subst h; simp at hlt)
      obtain rfl := Option.some.inj e
      rw [Go.WideShapes.add_plain, hat j hlt]
      simp [ivals, hlt] at hj
      simp [List.getD_eq_getElem?_getD, hlt, hj]
    clear h h0
    go_enter Tryz.func6, Tryz.ntmps6
    go_wp2_with (at_builtin; refine wpList_append_own _ rfl _ _ 30 rfl w.heap.size 3 i0 (.int .i64 0) 1 8 Tryz.underlying30 hi hz0 hz1 hz2 rfl (by decide) _ _ _ rfl (World.ownsRow_nil _ _ _ _) a l.length cap (ivals l) rfl ?c0 hcells (ivals_one l) ?c3 ?c4 ?c5 ?_)
    case c0 => simp [ivals]
    case c3 => unfold maxLen; omega
    case c4 => omega
    case c5 => exact Nat.le_refl _
    intro v' w4 hown' hgrow _
    have hb : Below w.heap.size w w4 := (Below.refl _ _).grown hgrow (Nat.le_refl _) (fun q hq => by simp [Value.ownBlock] at hq)
    clear hgrow hcells
    go_wp2
    go_ret
    exact ⟨_, rfl, hb, by simpa using hown'⟩

end Go.Proofs.YtnicbkkkecfdpaaGreatDoor
