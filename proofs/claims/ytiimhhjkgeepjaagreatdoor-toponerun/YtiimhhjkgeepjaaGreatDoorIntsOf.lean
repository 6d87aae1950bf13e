import Derived.Test.YtiimhhjkgeepjaaGreatDoorMem
namespace Go.Proofs.YtiimhhjkgeepjaaGreatDoor
open Go.ChangeShapes Go.WideShapes Go.ChangeAt Go.RowKit Go.Deep
open Terms
set_option maxHeartbeats 6400000
set_option maxRecDepth 20000
def zHw (w:World) (v:Value) (l:List Int):Prop:=∃ ao cap,v=.slice ao l.length cap/\(ao=none->cap=0/\l=[])/\(l≠[]->∃ b off,ao=some ⟨b,off,none⟩/\b < w.heap.size/\zBp w b off l)
theorem zHw.v {w:World} {v:Value} {l:List Int} (h:zHw w v l):zAD w v l:=by
 obtain ⟨ao,cap,h1,_,h2⟩:=h;exact ⟨ao,cap,h1,h2⟩
def zAL (l:List Int):List Value:=l.map fun x=>.int .i64 x
theorem zPo (l:List Int):∀ u∈zAL l,u.oneCell'=true:=by
 intro u hu;simp only [zAL,List.mem_map] at hu;obtain ⟨p,_,rfl⟩:=hu;rfl
theorem zBH {w:World} {base:Nat} {v:Value} {l:List Int} (h:w.ownsRow base 3 1 v l.length (zAL l)):zAD w v l:=by
 rcases h.2 with ⟨rfl,h0⟩ | ⟨g,cap,cur,rfl,hb,hg,hnc,hcm,hcs,htake⟩
 ·have:l=[]:=by simpa using h0
  subst this;exact ⟨none,0,rfl,fun h=>absurd rfl h⟩
 ·refine ⟨_,cap,rfl,fun _=>⟨g,0,rfl,(Array.getElem?_eq_some_iff.1 hg).1,fun i hi=>?_⟩⟩
  rw [Nat.zero_add,h.cellAt i (by omega)]
  simp [zAL,List.getD_eq_getElem?_getD,hi]
