import Derived.Test.YtobopjjmhginlaaGreatDoorGraphC
namespace Go.Proofs.YtobopjjmhginlaaGreatDoor
open Terms
set_option maxHeartbeats 6400000
set_option maxRecDepth 20000
def upd (st : Nat -> Nat) (i v : Nat) : Nat -> Nat := fun j => if j = i then v else st j
theorem upd_same (st : Nat -> Nat) (i v : Nat) : upd st i v i = v := if_pos rfl
theorem upd_other {st : Nat -> Nat} {i v j : Nat} (h : j ≠ i) : upd st i v j = st j := if_neg h
end Go.Proofs.YtobopjjmhginlaaGreatDoor
