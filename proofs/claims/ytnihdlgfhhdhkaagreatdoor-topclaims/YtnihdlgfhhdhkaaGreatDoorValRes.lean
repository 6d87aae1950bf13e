import Derived.Test.YtnihdlgfhhdhkaaGreatDoorCodeRes
namespace Go.Proofs.YtnihdlgfhhdhkaaGreatDoor
open Go.ChangeShapes Go.WideShapes Go.ChangeAt Go.RowKit Go.Deep
open Terms Tm
set_option maxHeartbeats 6400000
set_option maxRecDepth 20000
noncomputable def zAk (m:Mo) (code:Int):Int:=if mcode m=0 then (if 0 <= code/\code < zAC m.vars m.vars.length then 0 else 9) else mcode m
theorem zLg {m:Mo} {code:Int} (h:mcode m≠0):zAk m code=mcode m:=by unfold zAk;rw [if_neg h]
theorem zIl {m:Mo} {code:Int} (h:mcode m=0) (h2:¬ (0 <= code/\code < zAC m.vars m.vars.length)):zAk m code=9:=by unfold zAk;rw [if_pos h,if_neg h2]
theorem zBT {m:Mo} {code:Int} (h:mcode m=0) (h2:0 <= code/\code < zAC m.vars m.vars.length):zAk m code=0:=by unfold zAk;rw [if_pos h,if_pos h2]
theorem zCx {w:World} {B n:Nat} {f:Nat->Int} (h:w.rowIs B 3 n (fun j=>.int .i64 (f j))):zAI w (.slice (some ⟨B,0,none⟩) n n) ((List.range n).map f):=by
 refine ⟨some ⟨B,0,none⟩,n,by simp,fun _=>⟨B,0,rfl,h.lt,fun i hi=>?_⟩⟩
 simp only [List.length_map,List.length_range] at hi;rw [Nat.zero_add,h.cell hi];simp [List.getD_eq_getElem?_getD,hi]
noncomputable def zFg (m:Mo) (code:Int):List Int:=if zAk m code=0 then zAt m.vars code else []
