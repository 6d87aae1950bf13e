import Derived.Ground.Names2Prog
import Derived.Shelf.Slices.Clone
import Derived.Lib.OwnBridge
import Derived.Laws.OwnMore
import Derived.Test.YtobopjjmhginlaaGreatDoorValRes
namespace Go.Proofs.YtobopjjmhginlaaGreatDoor
open Go.Shelf Go.RowKit Go.Lib
set_option maxHeartbeats 6400000
set_option maxRecDepth 20000
def laysClone_ren : Go.Shelf.Ren := ⟨fun | 15 => 122 | n => n, fun | 22 => 37 | 3 => 3 | 4 => 4 | n => n, fun | n => n⟩
theorem laysClone : Go.Proofs.Lays2.n15 Tryz.prog laysClone_ren := {
  mixed := by kernel_rfl
  f15 := Tryz.func122.trans (congrArg some (by kernel_rfl))
  t3 := Tryz.underlying3
  a3 := Tryz.isAgg3
  z3 := Tryz.sizeOf3
  v3 := Tryz.zeroValue3
  t4 := Tryz.underlying4
  a4 := Tryz.isAgg4
  z4 := Tryz.sizeOf4
  v4 := Tryz.zeroValue4
  t22 := Tryz.underlying37
  a22 := Tryz.isAgg37
  z22 := Tryz.sizeOf37
  v22 := Tryz.zeroValue37
  i3 := by kernel_rfl }
theorem clone_any (B : Nat) (l : List Int) (w : World) (hl : l.length <= 10000) (hr : w.rowIs B 3 l.length (fun j => .int .i64 (l.getD j 0))) :
    Calls Tryz.prog 122 #[.slice (some ⟨B, 0, none⟩) l.length l.length] w fun e w' => ∃ g cap, e = .returned (.slice (some ⟨g, 0, none⟩) l.length cap) /\ w.heap.size <= g /\ Below w.heap.size w w' /\ w'.ownsRow w.heap.size 3 1 (.slice (some ⟨g, 0, none⟩) l.length cap) l.length (ivals l) := by
  have h : Calls Tryz.prog 122 #[.slice (some ⟨B, 0, none⟩) l.length l.length] w fun e w' => ∃ v', e = .returned v' /\ w'.ownsRow w.heap.size 3 1 v' l.length ((l.take l.length).map (Value.int .i64)) /\ v' ≠ .slice none 0 0 /\ Below w.heap.size w w' :=
    Any.slices_Clone_int laysClone B 0 l.length l.length l w (Nat.le_refl _) (by omega) (fun j hj => by rw [Nat.zero_add]; exact hr.cell hj)
  refine h.mono fun e w' ⟨v', he, ho, hn, hb⟩ => ?_
  rw [List.take_length] at ho; obtain ⟨g, cap, rfl, hg, _⟩ := Lib.holds_of_ownsRow ho hn; exact ⟨g, cap, he, hg, hb, ho⟩
end Go.Proofs.YtobopjjmhginlaaGreatDoor
