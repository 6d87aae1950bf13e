import Derived.Test.YtobopjjmhginlaaGreatDoorLogicRead
namespace Go.Proofs.YtobopjjmhginlaaGreatDoor
open Go.ChangeShapes Go.WideShapes Go.ChangeAt Go.RowKit Go.Deep
open Terms
set_option maxHeartbeats 6400000
set_option maxRecDepth 20000
theorem lahead_own (v : Value) (l : List (Int × Int)) (props : Int) (w : World) (hB : 0 < w.heap.size) (hT : TabAt w) (hV : OpsV w v l) (hc : lcode props l = 0) :
    Calls Tryz.prog 40 #[v, .int .i64 props] w fun e w' => ∃ ao ac, e = .returned (.tuple #[.slice ao (aheadL l).length ac, .int .i64 0]) /\ Below w.heap.size w w' /\ Hid (w'.ownsRow w.heap.size 3 1 (.slice ao (aheadL l).length ac) (aheadL l).length (ivals (aheadL l))) := by
  have hrd : Calls Tryz.prog 58 #[v, .int .i64 props] w fun e w' => Below w.heap.size w w' /\ ∃ ao an ac bo bn bc co cc, e = .returned (.tuple #[.agg #[.slice ao an ac, .slice bo bn bc, .slice co (aheadL l).length cc], .int .i64 0]) /\ Hid (w'.ownsRow w.heap.size 3 1 (.slice co (aheadL l).length cc) (aheadL l).length (ivals (aheadL l))) := by
    refine (lread_any v l props w hB hT hV).mono fun e w' ⟨h1, h2, h3⟩ => ⟨h1, ?_⟩
    obtain ⟨B, av, _, he, _, ho⟩ := h3 hc; obtain ⟨aa, ac, rfl⟩ := owns_slice ho; obtain ⟨ao, cap, rfl, _⟩ := hV; exact ⟨_, _, _, _, _, _, _, _, he, ho⟩
  obtain ⟨ao, cap, rfl, _⟩ := hV; generalize (aheadL l).length = an at *; clear hT hc
  go_enter Tryz.func40, Tryz.ntmps40
  go_wp2_with (go_at_call 58; refine hrd.mono ?_; rintro e w1 ⟨hb1, ao, bn, ac, bo, bm, bc, co, cc, rfl, HI⟩)
  go_ret2
  exact ⟨_, _, rfl, by first | exact hb1 | exact hb1.alloc hb1.size _, by first | exact HI.out | exact HI.out.alloc _⟩
end Go.Proofs.YtobopjjmhginlaaGreatDoor
