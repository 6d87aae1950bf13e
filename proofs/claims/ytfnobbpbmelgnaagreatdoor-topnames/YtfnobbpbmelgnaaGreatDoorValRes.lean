import Derived.Test.YtfnobbpbmelgnaaGreatDoorCodeRes
namespace Go.Proofs.YtfnobbpbmelgnaaGreatDoor
open Go.ChangeShapes Go.WideShapes Go.ChangeAt Go.RowKit Go.Deep
open Terms Tm
set_option maxHeartbeats 6400000
set_option maxRecDepth 20000
noncomputable def wcode (m:Mo) (code:Int):Int:=if mcode m=0 then (if 0 <= code/\code < prodTo m.vars m.vars.length then 0 else 9) else mcode m
theorem wcode_bad {m:Mo} {code:Int} (h:mcode m≠0):wcode m code=mcode m:=by unfold wcode;rw [if_neg h]
theorem wcode_no {m:Mo} {code:Int} (h:mcode m=0) (h2:¬ (0 <= code/\code < prodTo m.vars m.vars.length)):wcode m code=9:=by unfold wcode;rw [if_pos h,if_neg h2]
theorem wcode_yes {m:Mo} {code:Int} (h:mcode m=0) (h2:0 <= code/\code < prodTo m.vars m.vars.length):wcode m code=0:=by unfold wcode;rw [if_pos h,if_pos h2]
theorem intsV_of_row {w:World} {B n:Nat} {f:Nat->Int} (h:w.rowIs B 3 n (fun j=>.int .i64 (f j))):IntsV w (.slice (some ⟨B,0,none⟩) n n) ((List.range n).map f):=by
 refine ⟨some ⟨B,0,none⟩,n,by simp,fun _=>⟨B,0,rfl,h.lt,fun i hi=>?_⟩⟩
 simp only [List.length_map,List.length_range] at hi;rw [Nat.zero_add,h.cell hi];simp [List.getD_eq_getElem?_getD,hi]
noncomputable def wvals (m:Mo) (code:Int):List Int:=if wcode m code=0 then valsL m.vars code else []
