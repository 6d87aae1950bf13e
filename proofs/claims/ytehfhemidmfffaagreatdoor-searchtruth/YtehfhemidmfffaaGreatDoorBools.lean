import Derived.Test.YtehfhemidmfffaaGreatDoorMem
namespace Go.Proofs.YtehfhemidmfffaaGreatDoor
open Go.ChangeShapes Go.WideShapes Go.ChangeAt Go.RowKit Go.Deep
open Terms
set_option maxHeartbeats 6400000
set_option maxRecDepth 20000
theorem Gp:(Tryz.prog.info? 4).map (fun i=>(i.zero,i.size,i.bytes))=some (some (.bool false),1,1):=by kernel_rfl
def OU(w:World)(b off:Nat)(l:List Bool):Prop:=∀i,i<l.length->w.cell? ⟨b,off+i,none⟩=some (.bool (l.getD i false))
def BoolsV(w:World)(v:Value)(l:List Bool):Prop:=∃ao cap,v=.slice ao l.length cap/\(l≠[]->∃b off,ao=some ⟨b,off,none⟩/\b<w.heap.size/\OU w b off l)
theorem BoolsV.below{w w':World}{v:Value}{l:List Bool}(h:BoolsV w v l)(hb:Below w.heap.size w w'):BoolsV w' v l:=by
 obtain⟨ao,cap,rfl,h⟩:=h;refine⟨ao,cap,rfl,fun hne=>?_⟩;obtain⟨b,off,rfl,hlt,hat⟩:=h hne;exact⟨b,off,rfl,Nat.lt_of_lt_of_le hlt hb.size,fun i hi=>(hb.cell (p:=⟨b,_,none⟩) hlt).trans (hat i hi)⟩
theorem Ic{w:World}{B:Nat}{l:List Bool}(h:w.rowIs B 4 l.length (fun j=>.bool (l.getD j false))):BoolsV w (.slice (some ⟨B,0,none⟩) l.length l.length) l:=
 ⟨some ⟨B,0,none⟩,l.length,rfl,fun _=>⟨B,0,rfl,h.lt,fun i hi=>by rw[Nat.zero_add,h.cell hi]⟩⟩
