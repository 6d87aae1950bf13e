import Derived.Test.YtehfhemidmfffaaGreatDoorMem
namespace Go.Proofs.YtehfhemidmfffaaGreatDoor
open Go.ChangeShapes Go.WideShapes Go.ChangeAt Go.RowKit Go.Deep
open Terms
set_option maxHeartbeats 6400000
set_option maxRecDepth 20000
def AB(l:List Int):List Value:=l.map fun x=>.int .i64 x
theorem Lp(l:List Int):∀u∈AB l,u.oneCell'=true:=by
 intro u hu;simp only[AB,List.mem_map]at hu;obtain⟨p,_,rfl⟩:=hu;rfl
theorem D8{w:World}{base:Nat}{v:Value}{l:List Int}(h:w.ownsRow base 3 1 v l.length (AB l)):IntsV w v l:=by
 rcases h.2 with⟨rfl,h0⟩|⟨g,cap,cur,rfl,hb,hg,hnc,hcm,hcs,htake⟩
 .have:l=[]:=by simpa using h0
  subst this;exact⟨none,0,rfl,fun h=>absurd rfl h⟩
 .refine ⟨_,cap,rfl,fun _=>⟨g,0,rfl,(Array.getElem?_eq_some_iff.1 hg).1,fun i hi=>?_⟩⟩;rw[Nat.zero_add,h.cellAt i (by omega)];simp[AB,List.getD_eq_getElem?_getD,hi]
