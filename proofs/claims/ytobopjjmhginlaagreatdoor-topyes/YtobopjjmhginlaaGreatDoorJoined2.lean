import Derived.Test.YtobopjjmhginlaaGreatDoorJoined
import Derived.Test.YtobopjjmhginlaaGreatDoorModelMem
namespace Go.Proofs.YtobopjjmhginlaaGreatDoor
open Go.ChangeShapes Go.WideShapes Go.ChangeAt Go.RowKit Go.Deep
open Terms
set_option maxHeartbeats 6400000
set_option maxRecDepth 20000
theorem joined1 (kind : Int) (g : Nat) (lv : Value) (l : List (Int × Int)) (w : World) (hc : w.cell? ⟨g, 0, none⟩ = some lv) (hl : l.length <= 60) (hne : l ≠ []) (hV : OpsV w lv l) :
    Calls Tryz.prog 15 #[.int .i64 kind, .slice (some ⟨g, 0, none⟩) 1 1] w fun e w' => ∃ a c, e = .returned (.slice a ((kind, 0) :: l).length c) /\ Below w.heap.size w w' /\ OpsV w' (.slice a ((kind, 0) :: l).length c) ((kind, 0) :: l) := by
  have hT : TermsV w (.slice (some ⟨g, 0, none⟩) 1 1) [l] := ⟨_, 1, rfl, fun _ => ⟨g, 0, rfl, World.block_lt_of_cell? w ⟨g, 0, none⟩ hc, fun i hi => by
    obtain rfl : i = 0 := by simp at hi; exact hi
    exact ⟨lv, hc, hV⟩⟩⟩
  refine (joined_any kind _ [l] w (by simp) (fun i hi => ?_) (fun i hi => ?_) hT).mono fun e w' ⟨v', he, hb, ho⟩ => ?_
  · have : i = 0 \/ i = 1 := by simp at hi; omega
    rcases this with rfl | rfl <;> simp <;> omega
  · obtain rfl : i = 0 := by simp at hi; exact hi
    exact hne
  · have h2 : [l].flatten = l := by simp
    rw [h2] at ho; obtain ⟨a, c, rfl⟩ := owns_slice ho; exact ⟨a, c, he, hb, opsV_of_owns ho⟩
theorem joined2 (kind : Int) (g : Nat) (lv mv : Value) (l m : List (Int × Int)) (w : World) (hc : w.cell? ⟨g, 0, none⟩ = some lv) (hd : w.cell? ⟨g, 1, none⟩ = some mv) (hl : l.length <= 60) (hm : m.length <= 60) (hne : l ≠ []) (hne2 : m ≠ []) (hV : OpsV w lv l) (hM : OpsV w mv m) :
    Calls Tryz.prog 15 #[.int .i64 kind, .slice (some ⟨g, 0, none⟩) 2 2] w fun e w' => ∃ a c, e = .returned (.slice a ((kind, 0) :: (l ++ m)).length c) /\ Below w.heap.size w w' /\ OpsV w' (.slice a ((kind, 0) :: (l ++ m)).length c) ((kind, 0) :: (l ++ m)) := by
  have hT : TermsV w (.slice (some ⟨g, 0, none⟩) 2 2) [l, m] := ⟨_, 2, rfl, fun _ => ⟨g, 0, rfl, World.block_lt_of_cell? w ⟨g, 0, none⟩ hc, fun i hi => by
    have : i = 0 \/ i = 1 := by simp at hi; omega
    rcases this with rfl | rfl
    · exact ⟨lv, hc, hV⟩
    · exact ⟨mv, hd, hM⟩⟩⟩
  refine (joined_any kind _ [l, m] w (by simp) (fun i hi => ?_) (fun i hi => ?_) hT).mono fun e w' ⟨v', he, hb, ho⟩ => ?_
  · have : i = 0 \/ i = 1 \/ i = 2 := by simp at hi; omega
    rcases this with rfl | rfl | rfl <;> simp <;> omega
  · have : i = 0 \/ i = 1 := by simp at hi; omega
    rcases this with rfl | rfl
    · exact hne
    · exact hne2
  · have h2 : [l, m].flatten = l ++ m := by simp
    rw [h2] at ho; obtain ⟨a, c, rfl⟩ := owns_slice ho; exact ⟨a, c, he, hb, opsV_of_owns ho⟩
end Go.Proofs.YtobopjjmhginlaaGreatDoor
