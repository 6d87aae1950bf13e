import Derived.Test.YtnihdlgfhhdhkaaGreatDoorMem
namespace Go.Proofs.YtnihdlgfhhdhkaaGreatDoor
open Go.ChangeShapes Go.WideShapes Go.ChangeAt Go.RowKit Go.Deep
open Terms
set_option maxHeartbeats 6400000
set_option maxRecDepth 20000
def zGa (w:World) (v:Value) (l:List Int):Prop:=∃ ao cap,v=.slice ao l.length cap/\(ao=none->cap=0/\l=[])/\(l≠[]->∃ b off,ao=some ⟨b,off,none⟩/\b < w.heap.size/\zBJ w b off l)
theorem zGa.v {w:World} {v:Value} {l:List Int} (h:zGa w v l):zAI w v l:=by
 obtain ⟨ao,cap,h1,_,h2⟩:=h;exact ⟨ao,cap,h1,h2⟩
def zAE (l:List Int):List Value:=l.map fun x=>.int .i64 x
theorem zE7 (l:List Int):∀ u∈zAE l,u.oneCell'=true:=by
 intro u hu;simp only [zAE,List.mem_map] at hu;obtain ⟨p,_,rfl⟩:=hu;rfl
theorem zA4 {w:World} {base:Nat} {v:Value} {l:List Int} (h:w.ownsRow base 3 1 v l.length (zAE l)):zAI w v l:=by
 rcases h.2 with ⟨rfl,h0⟩ | ⟨g,cap,cur,rfl,hb,hg,hnc,hcm,hcs,htake⟩
 ·have:l=[]:=by simpa using h0
  subst this;exact ⟨none,0,rfl,fun h=>absurd rfl h⟩
 ·refine ⟨_,cap,rfl,fun _=>⟨g,0,rfl,(Array.getElem?_eq_some_iff.1 hg).1,fun i hi=>?_⟩⟩
  rw [Nat.zero_add,h.cellAt i (by omega)]
  simp [zAE,List.getD_eq_getElem?_getD,hi]
