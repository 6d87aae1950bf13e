import Derived.Test.YtobopjjmhginlaaGreatDoorPBeh
namespace Go.Proofs.YtobopjjmhginlaaGreatDoor
open Go.ChangeShapes Go.WideShapes Go.ChangeAt Go.RowKit Go.Deep Go.Maps
open Terms Tm
set_option maxHeartbeats 6400000
set_option maxRecDepth 20000
variable {Pz : Nat -> Prop}
theorem SvOk.made {w0 w w' : World} {n : Nat} {va vr pv fv : Value} {m : Mo} {ps : List (List (Int × Int))} {l : List (Int × Int)} {ho : Option Addr} {hc : Nat} (hb : Below w0.heap.size w0 w) (hb2 : Below w.heap.size w w') (hn : w.heap.size <= n) (hs : SurvAt w' (n + 2) va vr pv fv (.slice ho (aheadL l).length hc) n (n + 1))
    (ho' : w'.ownsRow w.heap.size 3 1 (.slice ho (aheadL l).length hc) (aheadL l).length (ivals (aheadL l))) (h1 : w'.heap[n]? = some (.map #[] 0)) (h2 : w'.heap[n + 1]? = some (.map #[] 0)) : SvOk (fun _ => True) w0 w' (n + 2) n (n + 1) 0 va vr pv fv m ps l ho hc := by
  have := hb.size; exact ⟨hs, hb.trans (hb2.mono hb.size), by omega, by omega, by omega, intsV_of_owns ho', RowTy.owns ho', fun _ _ => trivial, fun _ _ => trivial, ⟨_, MapIs.new _ h1, fun kl v h => by simp at h⟩, ⟨_, MapIs.new _ h2, fun kl v h => by simp at h⟩⟩
end Go.Proofs.YtobopjjmhginlaaGreatDoor
