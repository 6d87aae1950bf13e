/-
  The library's slices.Clone at lists of numbers: its contract at this program.
-/
import Derived.Ground.Names2Prog
import Derived.Shelf.Slices.Clone
import Derived.Lib.OwnBridge
import Derived.Laws.OwnMore
import Derived.Test.YtnicbkkkecfdpaaDoorValRes
namespace Go.Proofs.YtnicbkkkecfdpaaDoor
open Go.Shelf Go.RowKit Go.Lib
def laysClone_ren : Go.Shelf.Ren := ⟨fun | 15 => 50 | n => n, fun | 22 => 26 | 3 => 3 | 4 => 4 | n => n, fun | n => n⟩
theorem laysClone : Go.Proofs.Lays2.n15 Tryd.prog laysClone_ren := {
  mixed := by kernel_rfl
  f15 := Tryd.func50.trans (congrArg some (by kernel_rfl))
  t3 := Tryd.underlying3
  a3 := Tryd.isAgg3
  z3 := Tryd.sizeOf3
  v3 := Tryd.zeroValue3
  t4 := Tryd.underlying4
  a4 := Tryd.isAgg4
  z4 := Tryd.sizeOf4
  v4 := Tryd.zeroValue4
  t22 := Tryd.underlying26
  a22 := Tryd.isAgg26
  z22 := Tryd.sizeOf26
  v22 := Tryd.zeroValue26
  i3 := by kernel_rfl }
/-- a copy of numbers that lie in a block of their own. -/
theorem clone_any (B : Nat) (l : List Int) (w : World) (hl : l.length ≤ 10000) (hr : w.rowIs B 3 l.length (fun j => .int .i64 (l.getD j 0))) :
    Calls Tryd.prog 50 #[.slice (some ⟨B, 0, none⟩) l.length l.length] w fun e w' => ∃ g cap, e = .returned (.slice (some ⟨g, 0, none⟩) l.length cap) ∧ w.heap.size ≤ g ∧ Below w.heap.size w w' ∧ w'.ownsRow w.heap.size 3 1 (.slice (some ⟨g, 0, none⟩) l.length cap) l.length (ivals l) := by
  have h : Calls Tryd.prog 50 #[.slice (some ⟨B, 0, none⟩) l.length l.length] w fun e w' => ∃ v', e = .returned v' ∧ w'.ownsRow w.heap.size 3 1 v' l.length ((l.take l.length).map (Value.int .i64)) ∧ v' ≠ .slice none 0 0 ∧ Below w.heap.size w w' :=
    Any.slices_Clone_int laysClone B 0 l.length l.length l w (Nat.le_refl _) (by omega) (fun j hj => by rw [Nat.zero_add]; exact hr.cell hj)
  refine h.mono fun e w' ⟨v', he, ho, hn, hb⟩ => ?_
  rw [List.take_length] at ho
  obtain ⟨g, cap, rfl, hg, _⟩ := Lib.holds_of_ownsRow ho hn
  exact ⟨g, cap, he, hg, hb, ho⟩
end Go.Proofs.YtnicbkkkecfdpaaDoor
